/- 8 texts of the proof: view.split: what is known, and the way up, each in new memory. cmp.Or at error numbers. view.Of. slices.SortFunc at places is the library's, by its own laws. slices.SortFunc by tree.byName, on a slice of the call's own: a permutation, in order. move.with: a place put in by its node. orangerylaw.small; the fields of values that are no variables. slices.Equal at places. -/
import Derived.Maps.AppendAt
import Derived.Deep.RegionHeld3
import Derived.Deep.DeepCutAuto
import Derived.Shelf.SlSortCmp.NoneTotal
import Derived.Shelf.SlGeneric
import Derived.Ground.SlsfProg
import Derived.Test.YtijjiccgpobjmaeGreatProg
import Derived.Shelf.SlSortCmp.WholeK
import Derived.Laws.StructEq
import Derived.Test.YtijjiccgpobjmaeGreatP06
import Derived.Test.YtijjiccgpobjmaeGreatP04
/- view.split: what is known, and the way up, each in new memory. -/
namespace Go.Proofs.YtijjiccgpobjmaeGreat
open Go.ChangeShapes Go.WideShapes Go.ChangeAt Go.RowKit
open Orangery (Pl rootsOk knB abB wyB viewK viewW)

/-- two slices of places of the call's own, in rows apart -/
def Two (W : World) (base : Nat) (v u : Value) (K V : List Pl) : Prop :=
  OwnE encPl 3 47 W base v K ∧ OwnE encPl 3 47 W base u V ∧ (v.ownBlock = none ∨ v.ownBlock ≠ u.ownBlock)

theorem Two.swap {W : World} {base : Nat} {v u : Value} {K V : List Pl} (h : Two W base v u K V) : Two W base u v V K := by
  obtain ⟨h1, h2, h3⟩ := h
  refine ⟨h2, h1, ?_⟩
  rcases h3 with h3 | h3
  · rw [h3]
    cases u.ownBlock with
    | none => exact Or.inl rfl
    | some g => exact Or.inr (by simp)
  · exact Or.inr (fun e => h3 e.symm)
theorem Two.nil (W : World) (base : Nat) : Two W base (.slice none 0 0) (.slice none 0 0) [] [] := ⟨OwnE.nil _ _, OwnE.nil _ _, Or.inl rfl⟩
theorem Two.keep {W W' : World} {base : Nat} {v u : Value} {K V : List Pl} (h : Two W base v u K V) (hb : Below W.heap.size W W') : Two W' base v u K V := ⟨h.1.keep hb, h.2.1.keep hb, h.2.2⟩
theorem Two.other {W : World} {base : Nat} {v u : Value} {K V : List Pl} (h : Two W base v u K V) (g : Nat) (hg : g < base) (j : Nat) (x : Value) : Two (W.setCell ⟨g, j, none⟩ x) base v u K V := ⟨h.1.other g hg j x, h.2.1.other g hg j x, h.2.2⟩
theorem Two.mono {W : World} {base base' : Nat} {v u : Value} {K V : List Pl} (h : Two W base v u K V) (hb : base' ≤ base) : Two W base' v u K V := ⟨h.1.mono hb, h.2.1.mono hb, h.2.2⟩
theorem Two.others {base : Nat} {v u : Value} {K V : List Pl} (g : Nat) (hg : g < base) (us : List Value) (o : Nat) (W : World) (h : Two W base v u K V) : Two (W.setCells g o us) base v u K V := ⟨OwnE.others g hg us o W h.1, OwnE.others g hg us o W h.2.1, h.2.2⟩
/-- behind an append to the one -/
theorem Two.grew {W W' : World} {base : Nat} {v u v' : Value} {K K' V : List Pl} (h : Two W base v u K V) (hown : OwnE encPl 3 47 W' base v' K') (hg : W.grownBy W' v.ownBlock) (hat : v'.ownBlock = v.ownBlock ∨ v'.ownBlock = some W.heap.size) : Two W' base v' u K' V := by
  have hs := h.swap
  obtain ⟨h1, h2, h3⟩ := h
  refine ⟨hown, World.ownsRow.kept h2 hg hs.2.2, ?_⟩
  rcases hat with e | e
  · rw [e]; exact h3
  · right
    rw [e]
    intro e2
    have := (World.ownsRow.lt h2 W.heap.size e2.symm).2
    omega

theorem sizeParts : (Tryz.prog.info? 106).map (·.size) = some 2 := by kernel_rfl

set_option maxHeartbeats 2000000 in
set_option maxRecDepth 100000 in
theorem split_any (w : World) (a a' : Option Addr) (c c' : Nat) (l : List Pl) (R : List Int) (hl : l.length ≤ 1000) (hR : R.length ≤ 1000) (h : SlP w a l) (h' : SlI w a' R) :
    Calls Tryz.prog 73 #[.agg #[.slice a l.length c], .slice a' R.length c'] w
      fun e w' => ∃ v u, e = .returned (.agg #[v, u]) ∧ Two w' w.heap.size v u (viewK l R) (viewW l R) ∧ Below w.heap.size w w' := by
  obtain ⟨i0, hi, hz0, hz1, hz2⟩ := info_parts infoPlace
  obtain ⟨W0, hW, hT, hQ, hO, hS, hB, hsz⟩ := laid4 w [Value.slice a l.length c] 37 [Value.slice a' R.length c'] 23 [Value.slice none 0 0, Value.slice none 0 0] 106 [Value.slice none 0 0, Value.slice none 0 0] 106
  have t0 := hT.at 0 rfl
  go_enter Tryz.func73, Tryz.ntmps73
  go_wp2
  clear hW t0
  have HP : Hid (SlP w a l) := h
  have HI : Hid (SlI w a' R) := h'
  have HS : Hid (Blk W0 (w.heap.size + 1 + 1 + 1) [Value.slice none 0 0, Value.slice none 0 0]) := hS
  have HO : Hid (Blk W0 (w.heap.size + 1 + 1) [Value.slice none 0 0, Value.slice none 0 0]) := hO
  have HB : Hid (Below w.heap.size w W0) := hB
  have HT : Hid (Blk W0 w.heap.size [Value.slice a l.length c]) := hT
  have HQ : Hid (Blk W0 (w.heap.size + 1) [Value.slice a' R.length c']) := hQ
  have hl' : l.length ≤ maxLen := by unfold maxLen; omega
  have hR' : R.length ≤ maxLen := by unfold maxLen; omega
  clear h h' hS hO hB hT hQ
  go_loopw [15] (fun i W => ∃ (k : Nat) (v u : Value), k ≤ l.length ∧ i = .int .i64 k ∧ Blk W (w.heap.size + 1 + 1 + 1) [v, u] ∧ Two W (w.heap.size + 4) v u ((l.take k).filter fun p => knB l R p.1) ((l.take k).filter fun p => wyB l R p.1) ∧ Below (w.heap.size + 3) W0 W) (fun i _ => l.length - (intOf i).toNat)
  case atStart => exact ⟨0, _, _, Nat.zero_le _, rfl, HS.out, Two.nil _ _, Below.refl _ _⟩
  case round =>
    obtain ⟨k, v, u, hk, rfl, hblk, htwo, hb⟩ := hrel
    have hge : w.heap.size + 4 ≤ wr.heap.size := by have := hb.size; omega
    have HBw : Hid (Below w.heap.size w wr) := HB.out.trans (hb.mono (by omega))
    by_cases hlt : k < l.length
    · have hPW : SlP wr a l := HP.out.below HBw.out
      have hIW : SlI wr a' R := HI.out.below HBw.out
      rcases hPW with h9 | ⟨b, off, rfl, hbl, hp⟩
      · exact absurd hlt (by simp [h9])
      obtain ⟨g0, g1, g2⟩ := hp k hlt
      have HK1 : Hid ((l.take (k + 1)).filter (fun p => knB l R p.1) = (l.take k).filter (fun p => knB l R p.1) ++ if knB l R l[k].1 = true then [l[k]] else []) := Orangery.viewK_take l R k hlt
      have HW1 : Hid ((l.take (k + 1)).filter (fun p => wyB l R p.1) = (l.take k).filter (fun p => wyB l R p.1) ++ if wyB l R l[k].1 = true then [l[k]] else []) := Orangery.viewW_take l R k hlt
      have hkl : ((l.take k).filter fun p => knB l R p.1).length ≤ 1000 := Nat.le_trans (List.length_filter_le _ _) (by simp; omega)
      have hwl : ((l.take k).filter fun p => wyB l R p.1).length ≤ 1000 := Nat.le_trans (List.length_filter_le _ _) (by simp; omega)
      generalize l[k] = q at *
      obtain ⟨q0, q1, q2⟩ := q
      simp only at g0 g1 g2 HK1 HW1
      generalize (l.take k).filter (fun p => knB l R p.1) = K at *
      generalize (l.take k).filter (fun p => wyB l R p.1) = V at *
      obtain ⟨W1, hW1, hN, hBn, hS1⟩ := laid1 wr [Value.int IntKind.i64 q0, Value.int IntKind.i64 q1, Value.int IntKind.i64 q2] 47
      have n0 := hN.at 0 rfl
      have HP1 : Hid (SlP W1 (some ⟨b, off, none⟩) l) := (HP.out.below HBw.out).below hBn
      have HI1 : Hid (SlI W1 a' R) := hIW.below hBn
      have HT1 : Hid (Blk W1 w.heap.size [Value.slice (some ⟨b, off, none⟩) l.length c]) := (HT.out.below hb (by omega)).keep hBn
      have HQ1 : Hid (Blk W1 (w.heap.size + 1) [Value.slice a' R.length c']) := (HQ.out.below hb (by omega)).keep hBn
      have HN1 : Hid (Blk W1 wr.heap.size [Value.int IntKind.i64 q0, Value.int IntKind.i64 q1, Value.int IntKind.i64 q2]) := hN
      have HX1 : Hid (Blk W1 (w.heap.size + 1 + 1 + 1) [v, u]) := hblk.keep hBn
      have HT2 : Hid (Two W1 (w.heap.size + 4) v u K V) := htwo.keep hBn
      have HB1 : Hid (Below (w.heap.size + 3) W0 W1) := hb.trans (hBn.mono (by omega))
      clear hp hIW hN hblk htwo hb hBn HBw
      go_wp2_with fail
      clear hW1 g0 g1 g2 n0
      refine (vsplit1_any W1 q0 (w.heap.size + 1) w.heap.size (some ⟨b, off, none⟩) a' c c' l R hl' hR' HP1.out HI1.out (HT1.out.lt) (HT1.out.at 0 rfl) (HQ1.out.at 0 rfl)).mono ?_
      rintro e w2 ⟨rfl, hb2⟩
      have hsz2 : w.heap.size + 5 ≤ w2.heap.size := by have := hb2.size; omega
      have hlt2 : wr.heap.size < w2.heap.size := by have := hb2.size; omega
      cases hkn : knB l R q0
      · have HKE : Hid ((l.take (k + 1)).filter (fun p => knB l R p.1) = K) := by show _ = _; rw [HK1.out, hkn]; simp
        have n0 := (HN1.out.keep hb2).at 0 rfl
        have HN2 : Hid (Blk w2 wr.heap.size [Value.int IntKind.i64 q0, Value.int IntKind.i64 q1, Value.int IntKind.i64 q2]) := HN1.out.keep hb2
        have HX2 : Hid (Blk w2 (w.heap.size + 1 + 1 + 1) [v, u]) := HX1.out.keep hb2
        have HT3 : Hid (Two w2 (w.heap.size + 4) v u K V) := HT2.out.keep hb2
        have HB2 : Hid (Below (w.heap.size + 3) W0 w2) := HB1.out.trans (hb2.mono (by omega))
        have HC2 : Hid (Calls Tryz.prog 99 #[.int .i64 q0, .pointer (some ⟨w.heap.size + 1, 0, none⟩), .pointer (some ⟨w.heap.size, 0, none⟩)] w2 fun e w' => e = .returned (.bool (abB l R q0)) ∧ Below w2.heap.size w2 w') :=
          vsplit2_any w2 q0 (w.heap.size + 1) w.heap.size (some ⟨b, off, none⟩) a' c c' l R hl' hR' (HP1.out.below hb2) (HI1.out.below hb2) (HT1.out.keep hb2).lt ((HT1.out.keep hb2).at 0 rfl) ((HQ1.out.keep hb2).at 0 rfl)
        have HWE : Hid (wyB l R q0 = abB l R q0) := by show _ = _; rw [Orangery.wy_ab, hkn]; rfl
        clear HK1 HN1 HX1 HT2 HB1 hb2 HP1 HI1 HT1 HQ1 hkn
        go_wp2_with fail
        refine HC2.out.mono ?_
        rintro e w3 ⟨rfl, hb3⟩
        have hsz3 : w.heap.size + 5 ≤ w3.heap.size := by have := hb3.size; omega
        have hlt3 : wr.heap.size < w3.heap.size := by have := hb3.size; omega
        clear HC2 n0
        have hN3 := HN2.out.keep hb3
        have hX3 := HX2.out.keep hb3
        have HT4 : Hid (Two w3 (w.heap.size + 4) v u K V) := HT3.out.keep hb3
        have HB3 : Hid (Below (w.heap.size + 3) W0 w3) := HB2.out.trans (hb3.mono (by omega))
        clear HN2 HX2 HT3 HB2 hb3
        cases hab : abB l R q0
        · have HVE : Hid ((l.take (k + 1)).filter (fun p => wyB l R p.1) = V) := by show _ = _; rw [HW1.out, HWE.out, hab]; simp
          clear hab HWE
          go_wp2
          go_roundw
          case rel => exact ⟨k + 1, v, u, hlt, by go_num, hX3, by rw [HKE.out, HVE.out]; exact HT4.out, HB3.out⟩
          case measure => simp [intOf]; omega
        · have HVE : Hid ((l.take (k + 1)).filter (fun p => wyB l R p.1) = V ++ [(q0, q1, q2)]) := by show _ = _; rw [HW1.out, HWE.out, hab]; simp
          clear hab HWE
          obtain ⟨WW, hWW, hZ, hBz, hSz⟩ := laid1 w3 [Value.int IntKind.i64 q0, Value.int IntKind.i64 q1, Value.int IntKind.i64 q2] 47
          have m0 := hN3.at 0 rfl
          have m1 := hN3.at 1 rfl
          have m2 := hN3.at 2 rfl
          have x1 := hX3.at 1 rfl
          have HTZ : Hid (Two WW (w.heap.size + 4) v u K V) := HT4.out.keep hBz
          have hown : WW.ownsRow (w.heap.size + 4) 47 3 u V.length (V.flatMap encPl) := HTZ.out.2.1
          have HXZ : Hid (Blk WW (w.heap.size + 1 + 1 + 1) [v, u]) := hX3.keep hBz
          have HBZ : Hid (Below (w.heap.size + 3) W0 WW) := HB3.out.trans (hBz.mono (by omega))
          have HZ : Hid (Blk WW w3.heap.size [Value.int IntKind.i64 q0, Value.int IntKind.i64 q1, Value.int IntKind.i64 q2]) := hZ
          clear hN3 hX3 HT4 HB3 hBz hZ
          go_wp2_with (at_builtin; refine wpList_append_own_at _ rfl _ _ 24 rfl (w.heap.size + 4) 47 i0 _ 3 24 Tryz.underlying24 hi hz0 hz1 hz2 rfl (by decide) _ _ _ rfl hown ⟨w3.heap.size, 0, none⟩ 1 1 [.int .i64 q0, .int .i64 q1, .int .i64 q2] rfl rfl ?c1 ?c2 ?c3 ?c4 ?c5 ?_)
          case c1 => intro j y hj; rw [Addr.add_mid, Nat.zero_add]; exact HZ.out.at j hj
          case c2 => exact encPl_one (q0, q1, q2)
          case c3 => unfold maxLen; omega
          case c4 => omega
          case c5 => omega
          intro u' w4 hown' hgrow _ hat
          rw [← hSz] at hat
          have hlo : ∀ g, u.ownBlock = some g → w.heap.size + 4 ≤ g := fun g hg => (World.ownsRow.lt hown g hg).1
          have hO' : OwnE encPl 3 47 w4 (w.heap.size + 4) u' (V ++ [(q0, q1, q2)]) := by simpa [OwnE, encPl] using hown'
          obtain ⟨a4, c4, rfl, _⟩ := hO'.val
          rw [List.length_append, List.length_singleton] at hO' hat
          have HTW : Hid (Two w4 (w.heap.size + 4) v (.slice a4 (V.length + 1) c4) K (V ++ [(q0, q1, q2)])) := (HTZ.out.swap.grew hO' hgrow hat).swap
          have hX4 := HXZ.out.grown hgrow (fun e => by have := hlo _ e.symm; omega)
          have HB4 : Hid (Below (w.heap.size + 3) W0 w4) := HBZ.out.grown hgrow (by omega) (fun g hg => by have := hlo g hg; omega)
          have y1 := hX4.at 1 rfl
          have yf := hX4.frz
          have HX4 : Hid (Blk w4 (w.heap.size + 1 + 1 + 1) [v, u]) := hX4
          clear hown hown' hgrow hat hO' hlo hSz HTZ HXZ HBZ HZ hX4 hWW m0 m1 m2 x1
          go_wp2
          go_roundw
          case rel => exact ⟨k + 1, v, _, hlt, by go_num, HX4.out.set 1 (by simp) (.slice a4 (V.length + 1) c4), by rw [HKE.out, HVE.out]; exact HTW.out.other _ (by omega) _ _, HB4.out.setCell (by show _ ≤ w.heap.size + 1 + 1 + 1; omega) _⟩
          case measure => simp [intOf]; omega
      · have HKE : Hid ((l.take (k + 1)).filter (fun p => knB l R p.1) = K ++ [(q0, q1, q2)]) := by show _ = _; rw [HK1.out, hkn]; simp
        have HVE : Hid ((l.take (k + 1)).filter (fun p => wyB l R p.1) = V) := by show _ = _; rw [HW1.out, Orangery.wy_ab, hkn]; simp
        have hN3 := HN1.out.keep hb2
        have hX3 := HX1.out.keep hb2
        have HT4 : Hid (Two w2 (w.heap.size + 4) v u K V) := HT2.out.keep hb2
        have HB3 : Hid (Below (w.heap.size + 3) W0 w2) := HB1.out.trans (hb2.mono (by omega))
        clear HK1 HN1 HX1 HT2 HB1 hb2 HP1 HI1 HT1 HQ1 hkn HW1
        obtain ⟨WW, hWW, hZ, hBz, hSz⟩ := laid1 w2 [Value.int IntKind.i64 q0, Value.int IntKind.i64 q1, Value.int IntKind.i64 q2] 47
        have m0 := hN3.at 0 rfl
        have m1 := hN3.at 1 rfl
        have m2 := hN3.at 2 rfl
        have x1 := hX3.at 0 rfl
        have HTZ : Hid (Two WW (w.heap.size + 4) v u K V) := HT4.out.keep hBz
        have hown : WW.ownsRow (w.heap.size + 4) 47 3 v K.length (K.flatMap encPl) := HTZ.out.1
        have HXZ : Hid (Blk WW (w.heap.size + 1 + 1 + 1) [v, u]) := hX3.keep hBz
        have HBZ : Hid (Below (w.heap.size + 3) W0 WW) := HB3.out.trans (hBz.mono (by omega))
        have HZ : Hid (Blk WW w2.heap.size [Value.int IntKind.i64 q0, Value.int IntKind.i64 q1, Value.int IntKind.i64 q2]) := hZ
        clear hN3 hX3 HT4 HB3 hBz hZ
        go_wp2_with (at_builtin; refine wpList_append_own_at _ rfl _ _ 24 rfl (w.heap.size + 4) 47 i0 _ 3 24 Tryz.underlying24 hi hz0 hz1 hz2 rfl (by decide) _ _ _ rfl hown ⟨w2.heap.size, 0, none⟩ 1 1 [.int .i64 q0, .int .i64 q1, .int .i64 q2] rfl rfl ?c1 ?c2 ?c3 ?c4 ?c5 ?_)
        case c1 => intro j y hj; rw [Addr.add_mid, Nat.zero_add]; exact HZ.out.at j hj
        case c2 => exact encPl_one (q0, q1, q2)
        case c3 => unfold maxLen; omega
        case c4 => omega
        case c5 => omega
        intro v' w4 hown' hgrow _ hat
        rw [← hSz] at hat
        have hlo : ∀ g, v.ownBlock = some g → w.heap.size + 4 ≤ g := fun g hg => (World.ownsRow.lt hown g hg).1
        have hO' : OwnE encPl 3 47 w4 (w.heap.size + 4) v' (K ++ [(q0, q1, q2)]) := by simpa [OwnE, encPl] using hown'
        obtain ⟨a4, c4, rfl, _⟩ := hO'.val
        rw [List.length_append, List.length_singleton] at hO' hat
        have HTW : Hid (Two w4 (w.heap.size + 4) (.slice a4 (K.length + 1) c4) u (K ++ [(q0, q1, q2)]) V) := HTZ.out.grew hO' hgrow hat
        have hX4 := HXZ.out.grown hgrow (fun e => by have := hlo _ e.symm; omega)
        have HB4 : Hid (Below (w.heap.size + 3) W0 w4) := HBZ.out.grown hgrow (by omega) (fun g hg => by have := hlo g hg; omega)
        have y1 := hX4.at 0 rfl
        have yf := hX4.frz
        have HX4 : Hid (Blk w4 (w.heap.size + 1 + 1 + 1) [v, u]) := hX4
        clear hown hown' hgrow hat hO' hlo hSz HTZ HXZ HBZ HZ hX4 hWW m0 m1 m2 x1
        go_wp2
        go_roundw
        case rel => exact ⟨k + 1, _, u, hlt, by go_num, HX4.out.set 0 (by simp) (.slice a4 (K.length + 1) c4), by rw [HKE.out, HVE.out]; exact HTW.out.other _ (by omega) _ _, HB4.out.setCell (by show _ ≤ w.heap.size + 1 + 1 + 1; omega) _⟩
        case measure => simp [intOf]; omega
    · have hkl : k = l.length := by omega
      subst hkl
      rw [List.take_of_length_le (Nat.le_refl _)] at htwo
      have htwo : Two wr (w.heap.size + 4) v u (viewK l R) (viewW l R) := htwo
      obtain ⟨a5, c5, rfl, _⟩ := htwo.1.val
      obtain ⟨a6, c6, rfl, _⟩ := htwo.2.1.val
      have HTW : Hid (Two wr (w.heap.size + 4) (.slice a5 (viewK l R).length c5) (.slice a6 (viewW l R).length c6) (viewK l R) (viewW l R)) := htwo
      have hO2 := HO.out.below hb (by omega)
      have HX2 : Hid (Blk (wr.setCells (w.heap.size + 1 + 1) 0 [.slice a5 (viewK l R).length c5, .slice a6 (viewW l R).length c6]) (w.heap.size + 1 + 1) [.slice a5 (viewK l R).length c5, .slice a6 (viewW l R).length c6]) := hO2.sets [.slice a5 (viewK l R).length c5, .slice a6 (viewW l R).length c6] rfl
      have x0 := hblk.at 0 rfl
      have x1 := hblk.at 1 rfl
      have y0 := hO2.at 0 rfl
      have y1 := hO2.at 1 rfl
      have yf := hO2.frz
      clear htwo hO2 hblk hb
      go_wp2
      refine ret_cell (vs := [.slice a5 (viewK l R).length c5, .slice a6 (viewW l R).length c6]) Tryz.results73 rfl (HX2.out.load Tryz.underlying106 rfl sizeParts) ⟨_, _, rfl, ?_, ?_⟩
      · exact ((HTW.out.other _ (by omega) _ _).other _ (by omega) _ _).mono (by omega)
      · exact below_sets HBw.out _ (by omega) [.slice a5 (viewK l R).length c5, .slice a6 (viewW l R).length c6] 0
end Go.Proofs.YtijjiccgpobjmaeGreat

/- cmp.Or at error numbers. -/
namespace Go.Proofs.YtijjiccgpobjmaeGreat
open Go.ChangeShapes Go.WideShapes Go.ChangeAt Go.RowKit
open Orangery (orI)

set_option maxHeartbeats 400000 in
theorem orE_any (w : World) (b c : Nat) (x y : Int) (h0 : w.cell? ⟨b, 0, none⟩ = some (.int .i64 x)) (h1 : w.cell? ⟨b, 1, none⟩ = some (.int .i64 y)) :
    Calls Tryz.prog 26 #[.slice (some ⟨b, 0, none⟩) 2 c] w fun e w' => e = .returned (.int .i64 (orI x y)) ∧ w' = w := by
  go_enter Tryz.func26, Tryz.ntmps26
  go_wp2
  go_loop [8] (fun i => ∃ k : Nat, k ≤ 2 ∧ i = .int .i64 k ∧ (1 ≤ k → x = 0) ∧ (2 ≤ k → y = 0)) (fun i => 2 - (intOf i).toNat)
  case atStart => exact ⟨0, by omega, rfl, by omega, by omega⟩
  case round =>
    obtain ⟨k, hk, rfl, hx, hy⟩ := hrel
    have hc : k = 0 ∨ k = 1 ∨ k = 2 := by omega
    rcases hc with rfl | rfl | rfl
    · clear hx hy
      by_cases hx : x = 0
      · have hx' : (x != 0) = false := by simp [hx]
        have HX : Hid (x = 0) := hx
        clear hx
        go_wp2
        go_round
        case rel => exact ⟨1, by omega, by go_num, fun _ => HX.out, by omega⟩
        case measure => simp [intOf]
      · have hx' : (x != 0) = true := by simp [hx]
        have HX : Hid (x ≠ 0) := hx
        clear hx
        go_wp2
        go_ret
        exact ⟨ret_int (by rw [orI, if_pos HX.out]), rfl⟩
    · have HX : Hid (x = 0) := hx (by omega)
      clear hx hy
      by_cases hy : y = 0
      · have hy' : (y != 0) = false := by simp [hy]
        have HY : Hid (y = 0) := hy
        clear hy
        go_wp2
        go_round
        case rel => exact ⟨2, by omega, by go_num, fun _ => HX.out, fun _ => HY.out⟩
        case measure => simp [intOf]
      · have hy' : (y != 0) = true := by simp [hy]
        clear hy
        go_wp2
        go_ret
        exact ⟨ret_int (by rw [orI, if_neg (by simp [HX.out])]), rfl⟩
    · have HX : Hid (x = 0) := hx (by omega)
      have HY : Hid (y = 0) := hy (by omega)
      clear hx hy
      go_wp2
      go_ret
      exact ⟨ret_int (by rw [orI, if_neg (by simp [HX.out]), HY.out]), rfl⟩

end Go.Proofs.YtijjiccgpobjmaeGreat

/- view.Of. -/
namespace Go.Proofs.YtijjiccgpobjmaeGreat
open Go.ChangeShapes Go.WideShapes Go.ChangeAt Go.RowKit
open Orangery (Pl rootsOk check orI ofE ofR ofK ofW viewK viewW)

/-- a view's value -/
abbrev viV (r k v : Value) : Value := .agg #[r, k, v]

/-- an address in new memory -/
def Fresh (B : Nat) (a : Option Addr) : Prop := ∀ b off, a = some ⟨b, off, none⟩ → B ≤ b
theorem Fresh.none {B : Nat} : Fresh B none := fun _ _ e => by simp at e

/-- what a call leaves that answers a view and an error; its roots may lie where those lay that were handed in -/
def Views (w : World) (a' : Option Addr) (R : List Int) (K V : List Pl) (E : Int) (e : Ending) (w' : World) : Prop :=
  ∃ aR aK aV cR cK cV, e = .returned (.tuple #[viV (.slice aR R.length cR) (.slice aK K.length cK) (.slice aV V.length cV), .int .i64 E]) ∧ ((aK = none → cK = 0) ∧ (aV = none → cV = 0)) ∧ (Fresh w.heap.size aK ∧ Fresh w.heap.size aV ∧ (aR = a' ∨ Fresh w.heap.size aR)) ∧ SlI w' aR R ∧ SlP w' aK K ∧ SlP w' aV V ∧ Below w.heap.size w w'

theorem sizeView : (Tryz.prog.info? 26).map (·.size) = some 3 := by kernel_rfl

theorem OwnE.reads {W : World} {base : Nat} {a : Option Addr} {n c : Nat} {K : List Pl} (h : OwnE encPl 3 47 W base (.slice a n c) K) : SlP W a K ∧ (a = none → c = 0) ∧ Fresh base a := by
  have h1 := own_pls h
  rcases h1 with ⟨h2, rfl⟩ | ⟨g, cap, e, hb, hg, _, _, hp, _⟩
  · simp at h2
    obtain ⟨rfl, _, rfl⟩ := h2
    exact ⟨Or.inl rfl, fun _ => rfl, Fresh.none⟩
  · simp at e
    obtain ⟨rfl, _, _⟩ := e
    exact ⟨Or.inr ⟨g, 0, rfl, hg, hp.1⟩, fun hn => by simp at hn, fun b off e => by simp at e; omega⟩
theorem OwnI.fresh {W : World} {base : Nat} {a : Option Addr} {n c : Nat} {l : List Int} (h : OwnI W base (.slice a n c) l) : Fresh base a := by
  rcases h.2 with ⟨h2, _⟩ | ⟨g, cap, cur, e, hb, _⟩
  · simp at h2
    obtain ⟨rfl, _⟩ := h2
    exact Fresh.none
  · simp at e
    obtain ⟨rfl, _⟩ := e
    exact fun b off e => by simp at e; omega
theorem Fresh.mono {B B' : Nat} {a : Option Addr} (h : Fresh B a) (hb : B' ≤ B) : Fresh B' a := fun b off e => Nat.le_trans hb (h b off e)

set_option maxHeartbeats 2000000 in
set_option maxRecDepth 100000 in
theorem of_any (w : World) (a a' : Option Addr) (c c' : Nat) (l : List Pl) (R : List Int) (hl : l.length ≤ maxLen) (hR : R.length ≤ maxLen) (h : SlP w a l) (h' : SlI w a' R) :
    Calls Tryz.prog 37 #[.agg #[.slice a l.length c], .slice a' R.length c'] w (Views w a' (ofR l R) (ofK l R) (ofW l R) (ofE l R)) := by
  obtain ⟨W0, hW, hT, hV, hB, hS⟩ := laid2 w [Value.slice a l.length c] 37 [Value.slice none 0 0, Value.slice none 0 0, Value.slice none 0 0] 26
  have t0 := hT.at 0 rfl
  have HP : Hid (SlP w a l) := h
  have HI : Hid (SlI w a' R) := h'
  clear h h'
  go_enter Tryz.func37, Tryz.ntmps37
  go_wp2_with fail
  clear hW
  refine (check_any W0 a c l hl (HP.out.below hB)).mono ?_
  rintro e w1 ⟨rfl, hb1⟩
  go_wp2_with fail
  have hb1w : Below w.heap.size w w1 := hB.trans (hb1.mono hB.size)
  refine (vroots_any w1 a' c' R hR (HI.out.below hb1w)).mono ?_
  rintro e w1 ⟨rfl, rfl⟩
  go_wp2_with fail
  obtain ⟨W2, hW2, hN2, hB2, hS2⟩ := laid1 w1 [Value.int IntKind.i64 (check l), Value.int IntKind.i64 (rootsOk R)] 33
  rw [hW2]
  clear hW2
  refine (orE_any W2 w1.heap.size 2 (check l) (rootsOk R) (hN2.at 0 rfl) (hN2.at 1 rfl)).mono ?_
  rintro e w2 ⟨rfl, rfl⟩
  have hT2 := (hT.keep hb1).keep hB2
  have hV2 := (hV.keep hb1).keep hB2
  have HB2 : Hid (Below w.heap.size w w2) := hb1w.trans (hB2.mono hb1w.size)
  have HE : Hid (ofE l R = orI (check l) (rootsOk R)) := rfl
  clear hT hV hB hb1 hb1w hN2 hB2 t0
  by_cases hz : orI (check l) (rootsOk R) = 0
  · obtain ⟨hck, hro⟩ := Orangery.ofE_zero (l := l) (R := R) hz
    have hl2 : l.length ≤ 1000 := by have := Orangery.check_len l hck; omega
    have hR2 : R.length ≤ 1000 := by have := Orangery.rootsOk_len hro; omega
    obtain ⟨e1, e2, e3⟩ := Orangery.of_ok (l := l) (R := R) hz
    have HZ : Hid (ofE l R = 0) := hz
    have HV : Hid (ofR l R = R ∧ ofK l R = viewK l R ∧ ofW l R = viewW l R) := ⟨e1, e2, e3⟩
    rw [hz]
    clear hz hck hro HE e1 e2 e3
    have t0 := hT2.at 0 rfl
    go_wp2_with fail
    refine (split_any w2 a a' c c' l R hl2 hR2 (HP.out.below HB2.out) (HI.out.below HB2.out)).mono ?_
    rintro e w3 ⟨v, u, rfl, htwo, hb3⟩
    clear t0 hT2
    obtain ⟨a5, c5, rfl, _⟩ := htwo.1.val
    obtain ⟨a6, c6, rfl, _⟩ := htwo.2.1.val
    obtain ⟨W4, hW4, hX, hB4, hS4⟩ := laid1 w3 [Value.slice a5 (viewK l R).length c5, Value.slice a6 (viewW l R).length c6] 106
    have hV4 := (hV2.keep hb3).keep hB4
    have HT4 : Hid (Two W4 w2.heap.size (.slice a5 (viewK l R).length c5) (.slice a6 (viewW l R).length c6) (viewK l R) (viewW l R)) := htwo.keep hB4
    have HB4 : Hid (Below w.heap.size w W4) := (HB2.out.trans (hb3.mono HB2.out.size)).trans (hB4.mono (Nat.le_trans HB2.out.size hb3.size))
    have x0 := hX.at 0 rfl
    have x1 := hX.at 1 rfl
    have hlt4 : w2.heap.size ≤ w3.heap.size := hb3.size
    have hV2lt : w.heap.size + 1 < w2.heap.size := hV2.lt
    clear htwo hb3 hV2 hB4
    go_upto_region 5 with fail
    clear hW4
    have HI4 : Hid (SlI W4.drew a' R) := HI.out.below (HB4.out.drew)
    have y0 := hV4.at 0 rfl
    have y1 := hV4.at 1 rfl
    have y2 := hV4.at 2 rfl
    have yf := hV4.frz
    have ne1 : ¬ w.heap.size + 1 = w3.heap.size := by have := hV2lt; omega
    have ne2 : ¬ w3.heap.size = w.heap.size + 1 := by have := hV2lt; omega
    go_region_held3 (fun w' => w'.cell? ⟨w3.heap.size, 0, none⟩ = some (.slice a5 (viewK l R).length c5) ∧ w'.cell? ⟨w3.heap.size, 1, none⟩ = some (.slice a6 (viewW l R).length c6)) (go_keep)
      (first | (go_at_call 74; refine (cloneInts_any _ a' c' R hR2 ?_).mono ?_; exact HI4.out; rintro e w5 ⟨v5, rfl, hO5, hb5⟩; obtain ⟨a7, c7, rfl, hI7⟩ := hO5.val; have hb5' : Below W4.heap.size W4 w5 := ((Below.refl _ W4).drew).trans hb5; have hX5 := hX.keep hb5'; have x50 := hX5.at 0 rfl; have x51 := hX5.at 1 rfl; have hV5 := hV4.keep hb5'; have y50 := hV5.at 0 rfl; have y51 := hV5.at 1 rfl; have y52 := hV5.at 2 rfl; have yf5 := hV5.frz))
    go_wp2
    have HVf := hV5.sets [Value.slice a7 R.length c7, Value.slice a5 (viewK l R).length c5, Value.slice a6 (viewW l R).length c6] rfl
    have hTf := Two.others (w.heap.size + 1) hV2lt [Value.slice a7 R.length c7, Value.slice a5 (viewK l R).length c5, Value.slice a6 (viewW l R).length c6] 0 _ (HT4.out.keep hb5')
    have hOf := OwnI.others (w.heap.size + 1) (by have h1 : w3.heap.size < W4.heap.size := hX.lt; show w.heap.size + 1 < W4.heap.size; omega) [Value.slice a7 R.length c7, Value.slice a5 (viewK l R).length c5, Value.slice a6 (viewW l R).length c6] 0 _ hO5
    have hBf : Below w.heap.size w w5 := HB4.out.trans (hb5'.mono HB4.out.size)
    refine ret_cell_tmp Tryz.results37 rfl rfl (HVf.load Tryz.underlying26 rfl sizeView) ?_
    obtain ⟨e1, e2, e3⟩ := HV.out
    unfold Views
    rw [e1, e2, e3, HZ.out]
    exact ⟨a7, a5, a6, c7, c5, c6, rfl, ⟨hTf.1.reads.2.1, hTf.2.1.reads.2.1⟩, ⟨hTf.1.reads.2.2.mono HB2.out.size, hTf.2.1.reads.2.2.mono HB2.out.size, Or.inr (hOf.fresh.mono HB4.out.size)⟩, hOf.reads, hTf.1.reads.1, hTf.2.1.reads.1, below_sets hBf (w.heap.size + 1) (by omega) [Value.slice a7 R.length c7, Value.slice a5 (viewK l R).length c5, Value.slice a6 (viewW l R).length c6] 0⟩
  · have hz' : (orI (check l) (rootsOk R) != 0) = true := by simpa using hz
    obtain ⟨e1, e2, e3⟩ := Orangery.of_bad (l := l) (R := R) hz
    have HV : Hid (ofR l R = [] ∧ ofK l R = [] ∧ ofW l R = []) := ⟨e1, e2, e3⟩
    have HVf : Hid (Blk (w2.setCells (w.heap.size + 1) 0 [Value.slice none 0 0, Value.slice none 0 0, Value.slice none 0 0]) (w.heap.size + 1) [Value.slice none 0 0, Value.slice none 0 0, Value.slice none 0 0]) := hV2.sets _ rfl
    have y0 := hV2.at 0 rfl
    have y1 := hV2.at 1 rfl
    have y2 := hV2.at 2 rfl
    have yf := hV2.frz
    generalize orI (check l) (rootsOk R) = E at *
    clear hz e1 e2 e3 hT2 hV2
    go_wp2
    refine ret_cell_tmp Tryz.results37 rfl rfl (HVf.out.load Tryz.underlying26 rfl sizeView) ?_
    obtain ⟨e1, e2, e3⟩ := HV.out
    unfold Views
    rw [e1, e2, e3, HE.out]
    exact ⟨none, none, none, 0, 0, 0, rfl, ⟨fun _ => rfl, fun _ => rfl⟩, ⟨Fresh.none, Fresh.none, Or.inr Fresh.none⟩, Or.inl rfl, Or.inl rfl, Or.inl rfl, below_sets HB2.out (w.heap.size + 1) (by omega) [Value.slice none 0 0, Value.slice none 0 0, Value.slice none 0 0] 0⟩
end Go.Proofs.YtijjiccgpobjmaeGreat

/- slices.SortFunc at places is the library's, by its own laws. -/
namespace Go.Proofs
open Go.Shelf
def Tryz.sortPl_ren : Go.Shelf.Ren := ⟨fun | 6 => 61 | 15 => 87 | 14 => 86 | 28 => 122 | 29 => 123 | 20 => 114 | 21 => 115 | 22 => 116 | 23 => 117 | 24 => 118 | 25 => 119 | 26 => 120 | 27 => 121 | 46 => 133 | 47 => 134 | 48 => 135 | 49 => 136 | 50 => 137 | 57 => 142 | n => n, fun | 22 => 24 | 24 => 47 | 25 => 94 | 3 => 3 | 39 => 119 | 0 => 0 | 53 => 151 | 55 => 153 | 4 => 4 | 46 => 144 | 45 => 143 | 50 => 148 | 5 => 5 | 9 => 9 | 66 => 162 | 70 => 166 | 76 => 169 | 77 => 170 | n => n, fun | n => n⟩
theorem Tryz.sortPl : Go.Proofs.SlLaysF0.n6 Tryz.prog Tryz.sortPl_ren := {
  mixed := by kernel_rfl
  f6 := ⟨Tryz.f61.name, by decide, Tryz.func61.trans (congrArg some (by kernel_rfl))⟩
  f14 := ⟨Tryz.f86.name, by decide, Tryz.func86.trans (congrArg some (by kernel_rfl))⟩
  f15 := Tryz.func87.trans (congrArg some (by kernel_rfl))
  f20 := ⟨Tryz.f114.name, by decide, Tryz.func114.trans (congrArg some (by kernel_rfl))⟩
  f21 := ⟨Tryz.f115.name, by decide, Tryz.func115.trans (congrArg some (by kernel_rfl))⟩
  f22 := ⟨Tryz.f116.name, by decide, Tryz.func116.trans (congrArg some (by kernel_rfl))⟩
  f23 := ⟨Tryz.f117.name, by decide, Tryz.func117.trans (congrArg some (by kernel_rfl))⟩
  f24 := ⟨Tryz.f118.name, by decide, Tryz.func118.trans (congrArg some (by kernel_rfl))⟩
  f25 := ⟨Tryz.f119.name, by decide, Tryz.func119.trans (congrArg some (by kernel_rfl))⟩
  f26 := ⟨Tryz.f120.name, by decide, Tryz.func120.trans (congrArg some (by kernel_rfl))⟩
  f27 := ⟨Tryz.f121.name, by decide, Tryz.func121.trans (congrArg some (by kernel_rfl))⟩
  f28 := Tryz.func122.trans (congrArg some (by kernel_rfl))
  f29 := Tryz.func123.trans (congrArg some (by kernel_rfl))
  f46 := ⟨Tryz.f133.name, by decide, Tryz.func133.trans (congrArg some (by kernel_rfl))⟩
  f47 := Tryz.func134.trans (congrArg some (by kernel_rfl))
  f48 := Tryz.func135.trans (congrArg some (by kernel_rfl))
  f49 := ⟨Tryz.f136.name, by decide, Tryz.func136.trans (congrArg some (by kernel_rfl))⟩
  f50 := ⟨Tryz.f137.name, by decide, Tryz.func137.trans (congrArg some (by kernel_rfl))⟩
  f57 := ⟨Tryz.f142.name, by decide, Tryz.func142.trans (congrArg some (by kernel_rfl))⟩
  t0 := Tryz.underlying0
  a0 := Tryz.isAgg0
  z0 := Tryz.sizeOf0
  v0 := Tryz.zeroValue0
  t3 := Tryz.underlying3
  a3 := Tryz.isAgg3
  z3 := Tryz.sizeOf3
  v3 := Tryz.zeroValue3
  t4 := Tryz.underlying4
  a4 := Tryz.isAgg4
  z4 := Tryz.sizeOf4
  v4 := Tryz.zeroValue4
  t5 := Tryz.underlying5
  a5 := Tryz.isAgg5
  z5 := Tryz.sizeOf5
  v5 := Tryz.zeroValue5
  t9 := Tryz.underlying9
  a9 := Tryz.isAgg9
  z9 := Tryz.sizeOf9
  v9 := Tryz.zeroValue9
  t22 := Tryz.underlying24
  a22 := Tryz.isAgg24
  z22 := Tryz.sizeOf24
  v22 := Tryz.zeroValue24
  t25 := Tryz.underlying94
  a25 := Tryz.isAgg94
  z25 := Tryz.sizeOf94
  v25 := Tryz.zeroValue94
  t39 := Tryz.underlying119
  a39 := Tryz.isAgg119
  z39 := Tryz.sizeOf119
  v39 := Tryz.zeroValue119
  t45 := Tryz.underlying143
  a45 := Tryz.isAgg143
  z45 := Tryz.sizeOf143
  v45 := Tryz.zeroValue143
  t46 := Tryz.underlying144
  a46 := Tryz.isAgg144
  z46 := Tryz.sizeOf144
  v46 := Tryz.zeroValue144
  t50 := Tryz.underlying148
  a50 := Tryz.isAgg148
  z50 := Tryz.sizeOf148
  v50 := Tryz.zeroValue148
  t53 := Tryz.underlying151
  a53 := Tryz.isAgg151
  z53 := Tryz.sizeOf151
  v53 := Tryz.zeroValue151
  t55 := Tryz.underlying153
  a55 := Tryz.isAgg153
  z55 := Tryz.sizeOf153
  v55 := Tryz.zeroValue153
  t66 := Tryz.underlying162
  a66 := Tryz.isAgg162
  z66 := Tryz.sizeOf162
  v66 := Tryz.zeroValue162
  t70 := Tryz.underlying166
  a70 := Tryz.isAgg166
  z70 := Tryz.sizeOf166
  v70 := Tryz.zeroValue166
  t76 := Tryz.underlying169
  a76 := Tryz.isAgg169
  z76 := Tryz.sizeOf169
  v76 := Tryz.zeroValue169
  t77 := Tryz.underlying170
  a77 := Tryz.isAgg170
  z77 := Tryz.sizeOf170
  v77 := Tryz.zeroValue170 }
end Go.Proofs

/- slices.SortFunc by tree.byName, on a slice of the call's own: a permutation, in order. -/
namespace Go.Proofs.YtijjiccgpobjmaeGreat
open Go.ChangeShapes Go.WideShapes Go.ChangeAt Go.RowKit
open Orangery (Pl byN leP ltP)

theorem swo_irrefl (x : Pl) : Go.Proofs.ltOf byN x x = false := by
  have : ¬ byN x x < 0 := by rw [Orangery.byN_lt]; unfold ltP; omega
  simpa [Go.Proofs.ltOf] using this
theorem swo_trans (x y z : Pl) (h1 : Go.Proofs.ltOf byN x y = true) (h2 : Go.Proofs.ltOf byN y z = true) : Go.Proofs.ltOf byN x z = true := by
  simp only [Go.Proofs.ltOf, decide_eq_true_eq, Orangery.byN_lt] at *
  unfold ltP at *
  omega
theorem swo_ntrans (x y z : Pl) (h1 : Go.Proofs.ltOf byN x y = false) (h2 : Go.Proofs.ltOf byN y z = false) : Go.Proofs.ltOf byN x z = false := by
  simp only [Go.Proofs.ltOf, decide_eq_false_iff_not, Orangery.byN_lt] at *
  unfold ltP at *
  omega
theorem swoByN : Go.Sort.SWO (Go.Proofs.ltOf byN) := ⟨swo_irrefl, swo_trans, swo_ntrans⟩

theorem holdsK_of {w : World} {g : Nat} {l : List Pl} (h : HoldsP w g l) : Go.Sort.HoldsK encPl 3 w g 0 l.toArray := by
  intro j hj
  rw [Go.Sort.size_flatK] at hj
  have hj' : j < l.length * 3 := by simpa using hj
  have hi : j / 3 < l.length := by omega
  rw [Go.Sort.get_flatK _ _ _ _ (by simpa using hj')]
  refine ⟨?_, by have := h.2 j hj'; simpa using this⟩
  have hc := h.1 (j / 3) hi
  have e : l.toArray[j / 3]! = l[j / 3] := by simp [hi]
  rw [e]
  have hm : j % 3 = 0 ∨ j % 3 = 1 ∨ j % 3 = 2 := by omega
  rcases hm with hm | hm | hm
  · rw [hm, show 0 + j = 0 + j / 3 * 3 by omega, hc.1]; rfl
  · rw [hm, show 0 + j = 0 + j / 3 * 3 + 1 by omega, hc.2.1]; rfl
  · rw [hm, show 0 + j = 0 + j / 3 * 3 + 2 by omega, hc.2.2]; rfl

theorem holdsP_of {w : World} {g : Nat} {d : Array Pl} (h : Go.Sort.HoldsK encPl 3 w g 0 d) : HoldsP w g d.toList := by
  refine ⟨fun i hi => ?_, fun i hi => ?_⟩
  · have hi' : i < d.size := by simpa using hi
    have h0 := (h.cell (i := i) (c := 0) hi' (by omega)).1
    have h1 := (h.cell (i := i) (c := 1) hi' (by omega)).1
    have h2 := (h.cell (i := i) (c := 2) hi' (by omega)).1
    have e : d[i]! = d.toList[i] := by simp [hi']
    rw [e] at h0 h1 h2
    exact ⟨h0, h1, h2⟩
  · have := (h i (by simpa using hi)).2
    simpa using this

theorem below_sortWorldK {B : Nat} {w : World} (g off n : Nat) (d : Array Pl) (os : Array Obj) (hB : B ≤ w.heap.size) (hg : B ≤ g) : Below B w (Go.Proofs.sortWorldK encPl 3 w g off n d os) := by
  refine ⟨rfl, rfl, rfl, ?_, fun k hk => ?_⟩
  · exact Go.Proofs.size_sortWorldK_c encPl 3 w g off n d os
  · show ((w.heap.modify g _) ++ os)[k]? = _
    rw [Array.getElem?_append_left (by simp; omega), Array.getElem?_modify]
    have : ¬ g = k := by omega
    simp [this]

theorem grown_sortWorldK {w : World} (g off n : Nat) (d : Array Pl) (os : Array Obj) : w.grownBy (Go.Proofs.sortWorldK encPl 3 w g off n d os) (some g) := by
  refine ⟨rfl, rfl, rfl, Go.Proofs.size_sortWorldK_c encPl 3 w g off n d os, fun k hk hne => ?_⟩
  show ((w.heap.modify g _) ++ os)[k]? = _
  rw [Array.getElem?_append_left (by simp; omega), Array.getElem?_modify]
  have : ¬ g = k := fun e => hne (by rw [e])
  simp [this]

theorem RowAt.sorted {w : World} {r cap : Nat} (h : RowAt w r cap) (g off n : Nat) (d : Array Pl) (os : Array Obj) : RowAt (Go.Proofs.sortWorldK encPl 3 w g off n d os) r cap := by
  obtain ⟨cur, h1, h2⟩ := h
  have hr : r < w.heap.size := blk_lt h1
  have e : (Go.Proofs.sortWorldK encPl 3 w g off n d os).heap[r]? = (Go.Sort.putRow id w g off (Go.Sort.flatK encPl 3 d)).heap[r]? := by
    show ((Go.Sort.putRow id w g off (Go.Sort.flatK encPl 3 d)).heap ++ os)[r]? = _
    rw [Array.getElem?_append_left]
    show r < (w.heap.modify g _).size
    simp
    exact hr
  have e2 : (Go.Sort.putRow id w g off (Go.Sort.flatK encPl 3 d)).heap[r]? = if g = r then some (.cells (Go.Sort.putCells id off (Go.Sort.flatK encPl 3 d) cur) 47 (0, 0)) else w.heap[r]? := by
    show (w.heap.modify g _)[r]? = _
    rw [Array.getElem?_modify, h1]
    by_cases hg : g = r
    · rw [if_pos hg, if_pos hg]; rfl
    · rw [if_neg hg, if_neg hg]
  rw [e2] at e
  by_cases hg : g = r
  · rw [if_pos hg] at e
    exact ⟨_, e, by simp [Go.Sort.putCells, h2]⟩
  · rw [if_neg hg] at e
    exact ⟨cur, e.trans h1, h2⟩

theorem perm_sorted {f : Pl → Pl → Int} {l : List Pl} {d' : Array Pl} (hp : Go.Sort.PermIn 0 l.toArray.size l.toArray d') (hs : Go.Sort.SortedIn (Go.Proofs.ltOf f) 0 l.toArray.size d') :
    d'.size = l.length ∧ d'.toList.Perm l ∧ d'.toList.Pairwise fun p q => ¬ f q p < 0 := by
  obtain ⟨h1, _, h3⟩ := hp
  have e1 : d'.extract 0 l.toArray.size = d' := by rw [← h1]; exact Array.extract_size
  rw [e1, Array.extract_size] at h3
  refine ⟨by simpa using h1, by simpa using h3, ?_⟩
  rw [List.pairwise_iff_getElem]
  intro i j hi hj hij
  have hi' : i < d'.size := by simpa using hi
  have hj' : j < d'.size := by simpa using hj
  have := hs i j (Nat.zero_le _) hij (by omega)
  rw [getElem!_pos d' j hj', getElem!_pos d' i hi'] at this
  simpa [Go.Proofs.ltOf] using this

set_option maxHeartbeats 1000000 in
/-- slices.SortFunc at places, by whatever order -/
theorem sort_gen (k : Nat) (f : Pl → Pl → Int) (hf : Go.Sort.SWO (Go.Proofs.ltOf f)) (eg : ∀ args w, (callFunc k args).run Tryz.prog w = .ok (.enter k args) w)
    (hk : ∀ w p q, Calls Tryz.prog k #[plV p, plV q] w fun e w' => e = .returned (.int .i64 (f p q)) ∧ ∃ n os, w' = Go.Sort.grow (w.drewN n) os)
    (w : World) (base : Nat) (sv : Value) (l : List Pl) (hl : l.length ≤ 1000) (hbase : base ≤ w.heap.size) (h : OwnS w base sv l) :
    Calls Tryz.prog 61 #[sv, .func (.func k) #[] #[]] w
      fun e w' => e = .returned (.tuple #[]) ∧ ∃ l', l'.Perm l ∧ (l'.Pairwise fun p q => ¬ f q p < 0) ∧ OwnS w' base sv l' ∧ Below base w w' ∧ w.grownBy w' sv.ownBlock := by
  rcases h with ⟨rfl, rfl⟩ | ⟨g, cap, rfl, hgb, hgl, hcap, hcm, hH, hrow⟩
  · have hn := Go.Proofs.AnyF.slices_SortFunc_none Tryz.sortPl none 0 (.func (.func k) #[] #[]) w
    change Calls Tryz.prog 61 _ _ _ at hn
    refine hn.mono ?_
    rintro e w' ⟨rfl, rfl⟩
    exact ⟨rfl, [], List.Perm.refl _, List.Pairwise.nil, Or.inl ⟨rfl, rfl⟩, Below.refl _ _, ⟨rfl, rfl, rfl, Nat.le_refl _, fun _ _ _ => rfl⟩⟩
  · have hK := holdsK_of hH
    have hn := Go.Proofs.AnyQ.slices_SortFunc Tryz.sortPl 3 Tryz.isAgg47 Tryz.sizeOf47 encPl (fun _ => rfl) (fun x v hv => by simp [encPl] at hv; rcases hv with rfl | rfl | rfl <;> rfl) f hf k #[] g 0 cap l.toArray w eg (fun _ _ _ _ x y => hk _ x y) hK hgl (by simp; omega)
    change Calls Tryz.prog 61 _ _ _ at hn
    have hsz : l.toArray.size = l.length := by simp
    rw [hsz] at hn
    refine hn.mono ?_
    rintro e w' ⟨rfl, d', n, os, hp, hs, rfl⟩
    rw [← hsz] at hp hs
    obtain ⟨e1, e2, e3⟩ := perm_sorted hp hs
    refine ⟨rfl, d'.toList, e2, e3, ?_, below_sortWorldK g 0 n d' os hbase hgb, grown_sortWorldK g 0 n d' os⟩
    refine Or.inr ⟨g, cap, by simp [e1], hgb, Nat.lt_of_lt_of_le hgl (Go.Proofs.size_sortWorldK_c encPl 3 w g 0 n d' os), by simp [e1]; exact hcap, hcm, ?_, hrow.sorted g 0 n d' os⟩
    exact holdsP_of (Go.Proofs.holdsK_sortWorldK_c encPl 3 w g 0 l.toArray d' n os hK hgl (by simp [e1]))

end Go.Proofs.YtijjiccgpobjmaeGreat

/- move.with: a place put in by its node. -/
namespace Go.Proofs.YtijjiccgpobjmaeGreat
open Go.ChangeShapes Go.WideShapes Go.ChangeAt Go.RowKit
open Orangery (Pl Mv Stp outL inL cmpI byNode)

def cmpN (p q : Pl) : Int := cmpI p.1 q.1
theorem cmpN_lt (p q : Pl) : cmpN p q < 0 ↔ p.1 < q.1 := by
  unfold cmpN cmpI
  by_cases h1 : p.1 < q.1
  · simp [h1]
  · by_cases h2 : q.1 < p.1 <;> simp [h1, h2]
theorem swoNode : Go.Sort.SWO (Go.Proofs.ltOf cmpN) := by
  refine ⟨fun x => ?_, fun x y z h1 h2 => ?_, fun x y z h1 h2 => ?_⟩
  · have : ¬ cmpN x x < 0 := by rw [cmpN_lt]; omega
    simpa [Go.Proofs.ltOf] using this
  · simp only [Go.Proofs.ltOf, decide_eq_true_eq, cmpN_lt] at *
    omega
  · simp only [Go.Proofs.ltOf, decide_eq_false_iff_not, cmpN_lt] at *
    omega

theorem sort_node (w : World) (base : Nat) (sv : Value) (l : List Pl) (hl : l.length ≤ 1000) (hbase : base ≤ w.heap.size) (h : OwnS w base sv l) :
    Calls Tryz.prog 61 #[sv, .func (.func 90) #[] #[]] w
      fun e w' => e = .returned (.tuple #[]) ∧ ∃ l', l'.Perm l ∧ (l'.Pairwise fun p q => p.1 ≤ q.1) ∧ OwnS w' base sv l' ∧ Below base w w' ∧ w.grownBy w' sv.ownBlock := by
  refine (sort_gen 90 cmpN swoNode (Go.Proofs.enters_of Tryz.func90 (by kernel_rfl) rfl) (fun w p q => with1_any w p q) w base sv l hl hbase h).mono ?_
  rintro e w' ⟨he, l', h1, h2, h3, h4, h5⟩
  exact ⟨he, l', h1, h2.imp (fun {p q} hh => by rw [cmpN_lt] at hh; omega), h3, h4, h5⟩

/-- an own slice, behind the writing of a block of another type -/
theorem OwnS.apart {w : World} {base : Nat} {v : Value} {l : List Pl} (h : OwnS w base v l) {b : Nat} {cs : Array Value} {t : TypeId} {fr : Nat × Nat} (hb : w.heap[b]? = some (.cells cs t fr)) (ht : t ≠ 47) :
    some b ≠ v.ownBlock ∧ ∀ j u, OwnS (w.setCell ⟨b, j, none⟩ u) base v l := by
  rcases h with ⟨rfl, rfl⟩ | ⟨g, cap, rfl, h1, hl, h2, h3, ⟨hp, hf⟩, hr⟩
  · exact ⟨by simp [Value.ownBlock], fun j u => Or.inl ⟨rfl, rfl⟩⟩
  · have hne : ¬ b = g := by
      rintro rfl
      obtain ⟨cur, hc, _⟩ := hr
      rw [hb] at hc
      simp at hc
      exact ht hc.2.1
    refine ⟨by simp [Value.ownBlock, hne], fun j u => ?_⟩
    refine Or.inr ⟨g, cap, rfl, h1, by simpa using hl, h2, h3, ⟨fun i hi => ?_, fun i hi => ?_⟩, hr.set _ _ _⟩
    · rw [World.cell?_setCell_other _ _ _ _ (by simp <;> omega), World.cell?_setCell_other _ _ _ _ (by simp <;> omega), World.cell?_setCell_other _ _ _ _ (by simp <;> omega)]
      exact hp i hi
    · simp only [World.frozen?_setCell]
      exact hf i hi

set_option maxHeartbeats 1000000 in
set_option maxRecDepth 100000 in
theorem with_any (w : World) (a : Option Addr) (c : Nat) (l : List Pl) (p : Pl) (hl : l.length ≤ 900) (h : SlP w a l) (hs : byNode l) :
    Calls Tryz.prog 65 #[.agg #[.slice a l.length c], plV p] w
      fun e w' => ∃ v, e = .returned (.agg #[v]) ∧ OwnS w' w.heap.size v (inL l p) ∧ Below w.heap.size w w' := by
  obtain ⟨p0, p1, p2⟩ := p
  obtain ⟨i0, hi, hz0, hz1, hz2⟩ := info_parts infoPlace
  go_enter Tryz.func65, Tryz.ntmps65
  go_wp2_with fail
  obtain ⟨W0, hW, _, hN, hR, hB, hS⟩ := laid3 w [Value.slice a l.length c] 37 [Value.int IntKind.i64 p0, Value.int IntKind.i64 p1, Value.int IntKind.i64 p2] 47 [Value.slice none 0 0] 37
  rw [hW]
  clear hW
  have hP := h.below hB
  clear h
  refine (without_any W0 a c l p0 (by omega) hP).mono ?_
  rintro e w1 ⟨v1, rfl, hO1, hb1⟩
  have hN1 := hN.keep hb1
  have hR1 := hR.keep hb1
  have HB1 : Hid (Below w.heap.size w w1) := hB.trans (hb1.mono hB.size)
  obtain ⟨a1, c1, rfl⟩ := hO1.val
  clear hN hR hB hP
  have x0 := hN1.at 0 rfl
  have x1 := hN1.at 1 rfl
  have x2 := hN1.at 2 rfl
  have n0 : ¬ w1.heap.size = w.heap.size + 1 := by have := hN1.lt; omega
  have n1 : w.heap.size + 1 < w1.heap.size := hN1.lt
  have hsz1 : w.heap.size + 3 ≤ w1.heap.size := by have := hb1.size; omega
  have hU := Blk.new w1 [Value.slice a1 (outL l p0).length c1] 37
  have hU2 := hU.alloc (Obj.cells #[Value.int IntKind.i64 p0, Value.int IntKind.i64 p1, Value.int IntKind.i64 p2] 47)
  have hR2 := (hR1.alloc (Obj.cells #[Value.slice a1 (outL l p0).length c1] 37)).alloc (Obj.cells #[Value.int IntKind.i64 p0, Value.int IntKind.i64 p1, Value.int IntKind.i64 p2] 47)
  have hown := (hO1.row.alloc (Obj.cells #[Value.slice a1 (outL l p0).length c1] 37)).alloc (Obj.cells #[Value.int IntKind.i64 p0, Value.int IntKind.i64 p1, Value.int IntKind.i64 p2] 47)
  have hB2 := ((Below.refl w1.heap.size w1).alloc (Nat.le_refl _) (Obj.cells #[Value.slice a1 (outL l p0).length c1] 37)).alloc (by simp) (Obj.cells #[Value.int IntKind.i64 p0, Value.int IntKind.i64 p1, Value.int IntKind.i64 p2] 47)
  have hlt1 := hO1.row.lt
  have hlen : (outL l p0).length ≤ 900 := Nat.le_trans (List.length_filter_le _ _) hl
  have HU2 : Hid (Blk ((w1.alloc (Obj.cells #[Value.slice a1 (outL l p0).length c1] 37)).alloc (Obj.cells #[Value.int IntKind.i64 p0, Value.int IntKind.i64 p1, Value.int IntKind.i64 p2] 47)) w1.heap.size [Value.slice a1 (outL l p0).length c1]) := hU2
  have HR2 : Hid (Blk ((w1.alloc (Obj.cells #[Value.slice a1 (outL l p0).length c1] 37)).alloc (Obj.cells #[Value.int IntKind.i64 p0, Value.int IntKind.i64 p1, Value.int IntKind.i64 p2] 47)) (w.heap.size + 1 + 1) [Value.slice none 0 0]) := hR2
  have HL : Hid (∀ k, (Value.slice a1 (outL l p0).length c1).ownBlock = some k → W0.heap.size ≤ k ∧ k < w1.heap.size) := hlt1
  clear hU hU2 hR2 hO1 hR1 hN1 hlt1
  go_wp2_with (at_builtin; refine wpList_append_own _ rfl _ _ 24 rfl W0.heap.size 47 i0 _ 3 24 Tryz.underlying24 hi hz0 hz1 hz2 rfl (by decide) _ _ _ rfl hown ⟨w1.heap.size + 1, 0, none⟩ 1 1 [.int .i64 p0, .int .i64 p1, .int .i64 p2] rfl rfl ?c1 ?c2 ?c3 ?c4 ?c5 ?_)
  case c1 =>
    intro t u ht
    match t, ht with
    | 0, ht => simp at ht; subst ht; simp [Addr.add]
    | 1, ht => simp at ht; subst ht; simp [Addr.add]
    | 2, ht => simp at ht; subst ht; simp [Addr.add]
    | t + 3, ht => simp at ht
  case c2 => intro u hu; simp at hu; rcases hu with rfl | rfl | rfl <;> rfl
  case c3 => unfold maxLen; omega
  case c4 => omega
  case c5 => simp; omega
  · intro v2 w2 hown' hgrow _
    have hO2 : OwnS w2 (w.heap.size + 3) v2 (outL l p0 ++ [(p0, p1, p2)]) := own_pls (by simpa [encPl] using hown')
    have hne : ∀ k, k = w1.heap.size ∨ k < W0.heap.size → some k ≠ (Value.slice a1 (outL l p0).length c1).ownBlock := by
      intro k hk e
      have := HL.out k e.symm
      omega
    have hU3 := HU2.out.grown hgrow (hne _ (Or.inl rfl))
    have hR3 := HR2.out.grown hgrow (hne _ (Or.inr (by omega)))
    have hblk : w2.heap[w1.heap.size]? = some (Obj.cells #[Value.slice a1 (outL l p0).length c1] 37) := by
      rw [hgrow.block w1.heap.size (by simp; omega) (hne _ (Or.inl rfl)), blk_old (by simp)]
      exact blk_new rfl
    have hb2 : Below W0.heap.size w1 w2 := (hB2.mono hb1.size).grown hgrow (by simp; have := hb1.size; omega) (fun k hk => (HL.out k hk).1)
    have hsz2 : w1.heap.size ≤ w2.heap.size := hb2.size
    have HB2 : Hid (Below w.heap.size w w2) := HB1.out.trans (hb2.mono (by omega))
    obtain ⟨hown3, happ⟩ := hO2.apart hblk (by decide)
    obtain ⟨a2, c2, rfl⟩ := hO2.val
    generalize hK : outL l p0 ++ [(p0, p1, p2)] = K at *
    have HIN : Hid (∀ l', l'.Perm K → (l'.Pairwise fun p q => p.1 ≤ q.1) → l' = inL l (p0, p1, p2)) := fun l' h1 h2 => Orangery.in_unique l l' (p0, p1, p2) hs (by rw [← hK] at h1; exact h1) h2
    have hKl : K.length ≤ 1000 := by rw [← hK]; simp; omega
    have u0 := hU3.at 0 rfl
    have uf := hU3.frz
    have hU4 := hU3.set 0 (by simp) (.slice a2 K.length c2)
    have hR4 := hR3.other (g := w1.heap.size) (by omega) 0 (.slice a2 K.length c2)
    have hO4 := happ 0 (.slice a2 K.length c2)
    have HB4 : Hid (Below w.heap.size w (w2.setCell ⟨w1.heap.size, 0, none⟩ (.slice a2 K.length c2))) := HB2.out.setCell (by show w.heap.size ≤ w1.heap.size; omega) _
    have HBK : Hid (Blk (w2.setCell ⟨w1.heap.size, 0, none⟩ (.slice a2 K.length c2)) w1.heap.size [.slice a2 K.length c2] ∧ Blk (w2.setCell ⟨w1.heap.size, 0, none⟩ (.slice a2 K.length c2)) (w.heap.size + 1 + 1) [Value.slice none 0 0] ∧ some w1.heap.size ≠ (Value.slice a2 K.length c2).ownBlock) := ⟨hU4, hR4, hown3⟩
    clear hgrow hown hown' hne hU3 hR3 HU2 HR2 hB2 x0 x1 x2 hO2 HB1 hK hblk happ hU4 hR4 hown3 HB2
    go_wp2_with fail
    refine (sort_node _ (w.heap.size + 3) _ K hKl (by simp; omega) hO4).mono ?_
    rintro e w3 ⟨rfl, l', hp', hs', hO5, hb5, hg5⟩
    have hl' := HIN.out l' hp' hs'
    subst hl'
    have hU5 := HBK.out.1.grown hg5 HBK.out.2.2
    have hR5 := HBK.out.2.1.below hb5 (by omega)
    have u5 := hU5.at 0 rfl
    have r5 := hR5.at 0 rfl
    have rf := hR5.frz
    have HO5 : Hid (OwnS w3 (w.heap.size + 3) (.slice a2 K.length c2) (inL l (p0, p1, p2))) := hO5
    have HB5 : Hid (Below w.heap.size w w3) := HB4.out.trans (hb5.mono (by omega))
    have hne : ¬ w1.heap.size = w.heap.size + 1 + 1 := by omega
    clear hO4 hO5 hb5 hg5 hU5 hR5 HBK HB4 u0 uf
    go_wp2
    have z1 : (w3.setCell ⟨w.heap.size + 1 + 1, 0, none⟩ (.slice a2 K.length c2)).cell? ⟨w.heap.size + 1 + 1, 0, none⟩ = some (.slice a2 K.length c2) := World.cell?_setCell_same _ _ _ r5
    refine bodyPost_ret (v := .agg #[.slice a2 K.length c2]) (by simp [results, Tryz.results65, go_sem, z1]) rfl ⟨_, rfl, ?_, ?_⟩
    · exact (HO5.out.other _ (by omega) _ _).mono (by omega)
    · exact HB5.out.setCell (by show _ ≤ w.heap.size + 1 + 1; omega) _
end Go.Proofs.YtijjiccgpobjmaeGreat

/- orangerylaw.small; the fields of values that are no variables. -/
namespace Go.Proofs.YtijjiccgpobjmaeGreat
open Go.ChangeShapes Go.WideShapes Go.ChangeAt Go.RowKit
open Orangery (Pl smallL)

/-- the fields of a place that is no variable -/
theorem run_field_pl (x0 x1 x2 : Int) (w : World) :
    (Instr.field 47 (.agg #[.int .i64 x0, .int .i64 x1, .int .i64 x2]) 0).run Tryz.prog w = .ok (.int .i64 x0) w ∧
    (Instr.field 47 (.agg #[.int .i64 x0, .int .i64 x1, .int .i64 x2]) 1).run Tryz.prog w = .ok (.int .i64 x1) w ∧
    (Instr.field 47 (.agg #[.int .i64 x0, .int .i64 x1, .int .i64 x2]) 2).run Tryz.prog w = .ok (.int .i64 x2) w := by
  have h1 := Tryz.underlying47
  have h2 := Tryz.isAgg3
  have h3 := Tryz.sizeOf3
  refine ⟨?_, ?_, ?_⟩
  all_goals
    unfold Instr.field
    go_simp
    simp [asAgg]

/-- the places of a tree that is no variable -/
theorem run_field_tree (v : Value) (w : World) : (Instr.field 37 (.agg #[v]) 0).run Tryz.prog w = .ok v w := by
  have h1 := Tryz.underlying37
  have h2 := Tryz.isAgg24
  have h3 := Tryz.sizeOf24
  unfold Instr.field
  go_simp
  simp [asAgg]
end Go.Proofs.YtijjiccgpobjmaeGreat

/- slices.Equal at places. -/
namespace Go.Proofs.YtijjiccgpobjmaeGreat
open Go.ChangeShapes Go.WideShapes Go.ChangeAt Go.RowKit
open Orangery (Pl)

def eqPl (x y : Pl) : Bool := decide (x = y)

theorem run_neq_pl (x0 x1 x2 y0 y1 y2 : Int) (w : World) :
    (binOp .neq 47 (.agg #[.int .i64 x0, .int .i64 x1, .int .i64 x2]) (.agg #[.int .i64 y0, .int .i64 y1, .int .i64 y2])).run Tryz.prog w = .ok (.bool (!eqPl (x0, x1, x2) (y0, y1, y2))) w := by
  have u3 := Tryz.underlying3
  have a3 := Tryz.isAgg3
  have z3 := Tryz.sizeOf3
  have hS : Tryz.prog.underlying 47 = some (.struct (Tryz.prog.fieldsOf 47)) := by kernel_rfl
  have hp : Tryz.prog.stoodInHeld 47 = false := by kernel_rfl
  rw [run_neq_struct, show (10000 : Nat) = 9999 + 1 from rfl, run_equalIn_agg w 9999 47 _ _ hS hp]
  simp only [Program.fieldsOf, Tryz.underlying47]
  go_simp
  by_cases h1 : x0 = y0 <;> by_cases h2 : x1 = y1 <;> by_cases h3 : x2 = y2 <;> simp [h1, h2, h3, eqPl]

theorem run_eql_pl (x0 x1 x2 y0 y1 y2 : Int) (w : World) :
    (binOp .eql 47 (.agg #[.int .i64 x0, .int .i64 x1, .int .i64 x2]) (.agg #[.int .i64 y0, .int .i64 y1, .int .i64 y2])).run Tryz.prog w = .ok (.bool (eqPl (x0, x1, x2) (y0, y1, y2))) w := by
  have u3 := Tryz.underlying3
  have a3 := Tryz.isAgg3
  have z3 := Tryz.sizeOf3
  have hS : Tryz.prog.underlying 47 = some (.struct (Tryz.prog.fieldsOf 47)) := by kernel_rfl
  have hp : Tryz.prog.stoodInHeld 47 = false := by kernel_rfl
  rw [run_eql_struct, show (10000 : Nat) = 9999 + 1 from rfl, run_equalIn_agg w 9999 47 _ _ hS hp]
  simp only [Program.fieldsOf, Tryz.underlying47]
  go_simp
  by_cases h1 : x0 = y0 <;> by_cases h2 : x1 = y1 <;> by_cases h3 : x2 = y2 <;> simp [h1, h2, h3, eqPl]

theorem guard_pl (op : BinOp) (x y : Operand) (xs ys : Array Value) (w : World) : (eqGuard op 47 x y (.agg xs) (.agg ys)).run Tryz.prog w = .ok () w :=
  run_eqGuard_agg w op 47 x y xs ys (by kernel_rfl)

def eqPls (l m : List Pl) : Bool := decide (l = m)

set_option maxHeartbeats 1000000 in
theorem equal_pls (w : World) (a a' : Option Addr) (c c' : Nat) (l m : List Pl) (hl : l.length ≤ maxLen) (h1 : SlP w a l) (h2 : SlP w a' m) :
    Calls Tryz.prog 18 #[.slice a l.length c, .slice a' m.length c'] w
      fun e w' => e = .returned (.bool (eqPls l m)) ∧ ∃ n, w' = w.drewN n := by
  have hl' : l.length ≤ 9223372036854775807 := hl
  by_cases hlen : l.length = m.length
  · have hne := run_neq_pl
    have hgd := guard_pl
    have hlen' : ((l.length : Int) != (m.length : Int)) = false := by simp [hlen]
    go_enter Tryz.func18, Tryz.ntmps18
    go_wp2
    go_loopw [13] (fun i w' => ∃ k n : Nat, k ≤ l.length ∧ i = .int .i64 k ∧ w' = w.drewN n ∧ l.take k = m.take k) (fun i _ => l.length - (intOf i).toNat)
    case atStart => exact ⟨0, 0, Nat.zero_le _, rfl, rfl, rfl⟩
    case round =>
      obtain ⟨k, n, hk, rfl, rfl, hpre⟩ := hrel
      have HP : Hid (l.take k = m.take k) := hpre
      clear hpre
      by_cases hlt : k < l.length
      · have hlt2 : k < m.length := by omega
        rcases h1 with h1 | ⟨b, off, rfl, hbl, hp⟩
        · exact absurd hlt (by simp [h1])
        rcases h2 with h2 | ⟨b', off', rfl, hbl', hp'⟩
        · exact absurd hlt2 (by simp [h2])
        obtain ⟨g0, g1, g2⟩ := hp k hlt
        obtain ⟨x0, x1, x2⟩ := hp' k hlt2
        have hlti : (k : Int) < (m.length : Int) := by omega
        go_wp2
        go_quiet (fail)
        cases hq : eqPl l[k] m[k]
        · have HQ : Hid (l[k] ≠ m[k]) := by show _ ≠ _; simpa [eqPl] using hq
          go_wp2
          go_ret
          exact ⟨ret_bool (by symm; simp only [eqPls, decide_eq_false_iff_not]; intro e; subst e; exact HQ.out rfl), n + nq, by simp⟩
        · have HQ : Hid (l[k] = m[k]) := by show _ = _; simpa [eqPl] using hq
          go_wp2
          go_roundw
          case rel => exact ⟨k + 1, _, by omega, by go_num, rfl, by rw [List.take_succ_eq_append_getElem hlt, List.take_succ_eq_append_getElem hlt2, HP.out, HQ.out]⟩
          case measure => simp [intOf]; omega
      · go_wp2
        go_ret
        refine ⟨ret_bool ?_, n, rfl⟩
        symm
        have e := HP.out
        rw [List.take_of_length_le (by omega), List.take_of_length_le (by omega)] at e
        simp [eqPls, e]
  · have hlen' : ((l.length : Int) != (m.length : Int)) = true := by simp; omega
    have HL : Hid (l.length ≠ m.length) := hlen
    clear hlen
    go_enter Tryz.func18, Tryz.ntmps18
    go_wp2
    go_ret
    exact ⟨ret_bool (by symm; simp only [eqPls, decide_eq_false_iff_not]; intro e; subst e; exact HL.out rfl), 0, rfl⟩
end Go.Proofs.YtijjiccgpobjmaeGreat

