/- 5 texts of the proof: move.without, move.with$1. view.split: what is known, and the way up, each in new memory. delta.between: what goes, what is here, each in new memory. view.Of. slices.SortFunc at places is the library's, by its own laws. -/
import Derived.Maps.AppendAt
import Derived.Deep.RegionHeld3
import Derived.Deep.DeepCutAuto
import Derived.Shelf.SlSortCmp.NoneTotal
import Derived.Shelf.SlGeneric
import Derived.Ground.SlsfProg
import Derived.Test.YtkjgoikcibgonacGreatProg
import Derived.Test.YtkjgoikcibgonacGreatP03
import Derived.Test.YtkjgoikcibgonacGreatP06
import Derived.Test.YtkjgoikcibgonacGreatP05
import Derived.Test.YtkjgoikcibgonacGreatP01
import Derived.Test.YtkjgoikcibgonacGreatP04
/- move.without, move.with$1. -/
namespace Go.Proofs.YtkjgoikcibgonacGreat
open Go.ChangeShapes Go.WideShapes Go.ChangeAt Go.RowKit
open Orangery (Pl Mv Stp outL inL cmpI)

theorem OwnS.mono {w : World} {base base' : Nat} {v : Value} {l : List Pl} (h : OwnS w base v l) (hb : base' ≤ base) : OwnS w base' v l := by
  rcases h with h | ⟨g, cap, rfl, h1, h2⟩
  · exact Or.inl h
  · exact Or.inr ⟨g, cap, rfl, Nat.le_trans hb h1, h2⟩

theorem OwnS.val {w : World} {base : Nat} {v : Value} {l : List Pl} (h : OwnS w base v l) : ∃ a cap, v = .slice a l.length cap := by
  obtain ⟨a, cap, e, _⟩ := h.slp
  exact ⟨a, cap, e⟩

/-- an own slice, behind the writing of an elder block -/
theorem OwnS.other {w : World} {base : Nat} {v : Value} {l : List Pl} (h : OwnS w base v l) (g : Nat) (hg : g < base) (j : Nat) (u : Value) : OwnS (w.setCell ⟨g, j, none⟩ u) base v l := by
  rcases h with h | ⟨b, cap, rfl, h1, hl, h2, h3, ⟨hp, hf⟩, hr⟩
  · exact Or.inl h
  · refine Or.inr ⟨b, cap, rfl, h1, by simpa using hl, h2, h3, ⟨fun i hi => ?_, fun i hi => ?_⟩, hr.set _ _ _⟩
    · rw [World.cell?_setCell_other _ _ _ _ (by simp <;> omega), World.cell?_setCell_other _ _ _ _ (by simp <;> omega), World.cell?_setCell_other _ _ _ _ (by simp <;> omega)]
      exact hp i hi
    · simp only [World.frozen?_setCell]
      exact hf i hi

theorem OwnS.others {base : Nat} {v : Value} {l : List Pl} (g : Nat) (hg : g < base) : ∀ (us : List Value) (o : Nat) (w : World), OwnS w base v l → OwnS (w.setCells g o us) base v l
  | [], _, _, h => h
  | u :: r, o, _, h => OwnS.others g hg r (o + 1) _ (h.other g hg o u)

set_option maxHeartbeats 1000000 in
theorem without_any (w : World) (a : Option Addr) (c : Nat) (l : List Pl) (n : Int) (hl : l.length ≤ 1000) (h : SlP w a l) :
    Calls Tryz.prog 85 #[.agg #[.slice a l.length c], .int .i64 n] w
      fun e w' => ∃ v, e = .returned (.agg #[v]) ∧ OwnS w' w.heap.size v (outL l n) ∧ Below w.heap.size w w' := by
  go_enter Tryz.func85, Tryz.ntmps85
  go_wp2_with fail
  obtain ⟨W0, hW, _, hN, hR, hB, hS⟩ := laid3 w [Value.slice a l.length c] 62 [Value.int IntKind.i64 n] 3 [Value.slice none 0 0] 62
  rw [hW]
  clear hW
  have hP := h.below hB
  clear h
  refine (clone_any W0 a c l hl hP).mono ?_
  rintro e w1 ⟨v1, rfl, hO1, hb1⟩
  have hN1 := hN.keep hb1
  have hR1 := hR.keep hb1
  have HB1 : Hid (Below w.heap.size w w1) := hB.trans (hb1.mono hB.size)
  clear hN hR hB hP
  go_wp2_with fail
  refine (delete_any w1 W0.heap.size v1 l 101 (.pointer (some ⟨w.heap.size + 1, 0, none⟩)) (fun p => p.1 == n) hl hO1 hb1.size (Go.Proofs.enters_of Tryz.func101 (by kernel_rfl) rfl) ?_).mono ?_
  · intro W p hW
    have := hN1.below hW (by omega)
    exact without1_any W p n _ this.lt (this.at 0 rfl)
  rintro e w2 ⟨v2, rfl, hO2, hb2⟩
  have hR2 := hR1.below hb2 (by omega)
  have HB2 : Hid (Below w.heap.size w w2) := HB1.out.trans (hb2.mono (by omega))
  have z0 := hR2.at 0 rfl
  have f0 := hR2.frz
  have hO3 := hO2.mono (base' := w.heap.size + 1 + 1 + 1) (by omega)
  obtain ⟨a2, c2, rfl⟩ := hO3.val
  have HO : Hid (OwnS w2 (w.heap.size + 1 + 1 + 1) (.slice a2 (l.filter fun p => !(p.1 == n)).length c2) (outL l n)) := hO3
  clear hO1 hb1 hN1 hR1 hb2 hO2 HB1 hO3
  go_wp2
  have z1 : (w2.setCell ⟨w.heap.size + 1 + 1, 0, none⟩ (.slice a2 (l.filter fun p => !(p.1 == n)).length c2)).cell? ⟨w.heap.size + 1 + 1, 0, none⟩ = some (.slice a2 (l.filter fun p => !(p.1 == n)).length c2) := World.cell?_setCell_same _ _ _ z0
  refine bodyPost_ret (v := .agg #[.slice a2 (l.filter fun p => !(p.1 == n)).length c2]) (by simp [results, Tryz.results85, go_sem, z1]) rfl ⟨_, rfl, ?_, ?_⟩
  · exact (HO.out.other _ (by omega) _ _).mono (by omega)
  · exact HB2.out.setCell (by show _ ≤ w.heap.size + 1 + 1; omega) _

theorem with1_any (w : World) (p q : Pl) :
    Calls Tryz.prog 86 #[plV p, plV q] w fun e w' => e = .returned (.int .i64 (cmpI p.1 q.1)) ∧ ∃ n os, w' = Go.Sort.grow (w.drewN n) os := by
  obtain ⟨a0, a1, a2⟩ := p
  obtain ⟨b0, b1, b2⟩ := q
  go_enter Tryz.func86, Tryz.ntmps86
  go_wp2_with fail
  refine (compare_any _ a0 b0).mono ?_
  rintro e w1 ⟨rfl, rfl⟩
  go_wp2
  go_ret
  exact ⟨rfl, 0, _, by rw [Go.Sort.alloc_eq_grow, Go.Sort.alloc_eq_grow, Go.Sort.grow_grow]; rfl⟩
end Go.Proofs.YtkjgoikcibgonacGreat

/- view.split: what is known, and the way up, each in new memory. -/
namespace Go.Proofs.YtkjgoikcibgonacGreat
open Go.ChangeShapes Go.WideShapes Go.ChangeAt Go.RowKit
open Orangery (Pl rootsOk knB abB wyB viewK viewW)

/-- two slices of places of the call's own, in rows apart -/
def Two (W : World) (base : Nat) (v u : Value) (K V : List Pl) : Prop :=
  OwnE encPl 3 55 W base v K ∧ OwnE encPl 3 55 W base u V ∧ (v.ownBlock = none ∨ v.ownBlock ≠ u.ownBlock)

theorem Two.swap {W : World} {base : Nat} {v u : Value} {K V : List Pl} (h : Two W base v u K V) : Two W base u v V K := by
  obtain ⟨h1, h2, h3⟩ := h
  refine ⟨h2, h1, ?_⟩
  rcases h3 with h3 | h3
  · rw [h3]
    cases u.ownBlock with
    | none => exact Or.inl rfl
    | some g => exact Or.inr (by simp)
  · exact Or.inr (fun e => h3 e.symm)
theorem Two.nil (W : World) (base : Nat) : Two W base (.slice none 0 0) (.slice none 0 0) [] [] := ⟨OwnE.nil _ _, OwnE.nil _ _, Or.inl rfl⟩
theorem Two.keep {W W' : World} {base : Nat} {v u : Value} {K V : List Pl} (h : Two W base v u K V) (hb : Below W.heap.size W W') : Two W' base v u K V := ⟨h.1.keep hb, h.2.1.keep hb, h.2.2⟩
theorem Two.other {W : World} {base : Nat} {v u : Value} {K V : List Pl} (h : Two W base v u K V) (g : Nat) (hg : g < base) (j : Nat) (x : Value) : Two (W.setCell ⟨g, j, none⟩ x) base v u K V := ⟨h.1.other g hg j x, h.2.1.other g hg j x, h.2.2⟩
theorem Two.mono {W : World} {base base' : Nat} {v u : Value} {K V : List Pl} (h : Two W base v u K V) (hb : base' ≤ base) : Two W base' v u K V := ⟨h.1.mono hb, h.2.1.mono hb, h.2.2⟩
theorem Two.others {base : Nat} {v u : Value} {K V : List Pl} (g : Nat) (hg : g < base) (us : List Value) (o : Nat) (W : World) (h : Two W base v u K V) : Two (W.setCells g o us) base v u K V := ⟨OwnE.others g hg us o W h.1, OwnE.others g hg us o W h.2.1, h.2.2⟩
/-- behind an append to the one -/
theorem Two.grew {W W' : World} {base : Nat} {v u v' : Value} {K K' V : List Pl} (h : Two W base v u K V) (hown : OwnE encPl 3 55 W' base v' K') (hg : W.grownBy W' v.ownBlock) (hat : v'.ownBlock = v.ownBlock ∨ v'.ownBlock = some W.heap.size) : Two W' base v' u K' V := by
  have hs := h.swap
  obtain ⟨h1, h2, h3⟩ := h
  refine ⟨hown, World.ownsRow.kept h2 hg hs.2.2, ?_⟩
  rcases hat with e | e
  · rw [e]; exact h3
  · right
    rw [e]
    intro e2
    have := (World.ownsRow.lt h2 W.heap.size e2.symm).2
    omega

theorem sizeParts : (Tryz.prog.info? 79).map (·.size) = some 2 := by kernel_rfl

set_option maxHeartbeats 2000000 in
set_option maxRecDepth 100000 in
theorem split_any (w : World) (a a' : Option Addr) (c c' : Nat) (l : List Pl) (R : List Int) (hl : l.length ≤ 1000) (hR : R.length ≤ 1000) (h : SlP w a l) (h' : SlI w a' R) :
    Calls Tryz.prog 51 #[.agg #[.slice a l.length c], .slice a' R.length c'] w
      fun e w' => ∃ v u, e = .returned (.agg #[v, u]) ∧ Two w' w.heap.size v u (viewK l R) (viewW l R) ∧ Below w.heap.size w w' := by
  obtain ⟨i0, hi, hz0, hz1, hz2⟩ := info_parts infoPlace
  obtain ⟨W0, hW, hT, hQ, hO, hS, hB, hsz⟩ := laid4 w [Value.slice a l.length c] 62 [Value.slice a' R.length c'] 22 [Value.slice none 0 0, Value.slice none 0 0] 79 [Value.slice none 0 0, Value.slice none 0 0] 79
  have t0 := hT.at 0 rfl
  go_enter Tryz.func51, Tryz.ntmps51
  go_wp2
  clear hW t0
  have HP : Hid (SlP w a l) := h
  have HI : Hid (SlI w a' R) := h'
  have HS : Hid (Blk W0 (w.heap.size + 1 + 1 + 1) [Value.slice none 0 0, Value.slice none 0 0]) := hS
  have HO : Hid (Blk W0 (w.heap.size + 1 + 1) [Value.slice none 0 0, Value.slice none 0 0]) := hO
  have HB : Hid (Below w.heap.size w W0) := hB
  have HT : Hid (Blk W0 w.heap.size [Value.slice a l.length c]) := hT
  have HQ : Hid (Blk W0 (w.heap.size + 1) [Value.slice a' R.length c']) := hQ
  have hl' : l.length ≤ maxLen := by unfold maxLen; omega
  have hR' : R.length ≤ maxLen := by unfold maxLen; omega
  clear h h' hS hO hB hT hQ
  go_loopw [15] (fun i W => ∃ (k : Nat) (v u : Value), k ≤ l.length ∧ i = .int .i64 k ∧ Blk W (w.heap.size + 1 + 1 + 1) [v, u] ∧ Two W (w.heap.size + 4) v u ((l.take k).filter fun p => knB l R p.1) ((l.take k).filter fun p => wyB l R p.1) ∧ Below (w.heap.size + 3) W0 W) (fun i _ => l.length - (intOf i).toNat)
  case atStart => exact ⟨0, _, _, Nat.zero_le _, rfl, HS.out, Two.nil _ _, Below.refl _ _⟩
  case round =>
    obtain ⟨k, v, u, hk, rfl, hblk, htwo, hb⟩ := hrel
    have hge : w.heap.size + 4 ≤ wr.heap.size := by have := hb.size; omega
    have HBw : Hid (Below w.heap.size w wr) := HB.out.trans (hb.mono (by omega))
    by_cases hlt : k < l.length
    · have hPW : SlP wr a l := HP.out.below HBw.out
      have hIW : SlI wr a' R := HI.out.below HBw.out
      rcases hPW with h9 | ⟨b, off, rfl, hbl, hp⟩
      · exact absurd hlt (by simp [h9])
      obtain ⟨g0, g1, g2⟩ := hp k hlt
      have HK1 : Hid ((l.take (k + 1)).filter (fun p => knB l R p.1) = (l.take k).filter (fun p => knB l R p.1) ++ if knB l R l[k].1 = true then [l[k]] else []) := Orangery.viewK_take l R k hlt
      have HW1 : Hid ((l.take (k + 1)).filter (fun p => wyB l R p.1) = (l.take k).filter (fun p => wyB l R p.1) ++ if wyB l R l[k].1 = true then [l[k]] else []) := Orangery.viewW_take l R k hlt
      have hkl : ((l.take k).filter fun p => knB l R p.1).length ≤ 1000 := Nat.le_trans (List.length_filter_le _ _) (by simp; omega)
      have hwl : ((l.take k).filter fun p => wyB l R p.1).length ≤ 1000 := Nat.le_trans (List.length_filter_le _ _) (by simp; omega)
      generalize l[k] = q at *
      obtain ⟨q0, q1, q2⟩ := q
      simp only at g0 g1 g2 HK1 HW1
      generalize (l.take k).filter (fun p => knB l R p.1) = K at *
      generalize (l.take k).filter (fun p => wyB l R p.1) = V at *
      obtain ⟨W1, hW1, hN, hBn, hS1⟩ := laid1 wr [Value.int IntKind.i64 q0, Value.int IntKind.i64 q1, Value.int IntKind.i64 q2] 55
      have n0 := hN.at 0 rfl
      have HP1 : Hid (SlP W1 (some ⟨b, off, none⟩) l) := (HP.out.below HBw.out).below hBn
      have HI1 : Hid (SlI W1 a' R) := hIW.below hBn
      have HT1 : Hid (Blk W1 w.heap.size [Value.slice (some ⟨b, off, none⟩) l.length c]) := (HT.out.below hb (by omega)).keep hBn
      have HQ1 : Hid (Blk W1 (w.heap.size + 1) [Value.slice a' R.length c']) := (HQ.out.below hb (by omega)).keep hBn
      have HN1 : Hid (Blk W1 wr.heap.size [Value.int IntKind.i64 q0, Value.int IntKind.i64 q1, Value.int IntKind.i64 q2]) := hN
      have HX1 : Hid (Blk W1 (w.heap.size + 1 + 1 + 1) [v, u]) := hblk.keep hBn
      have HT2 : Hid (Two W1 (w.heap.size + 4) v u K V) := htwo.keep hBn
      have HB1 : Hid (Below (w.heap.size + 3) W0 W1) := hb.trans (hBn.mono (by omega))
      clear hp hIW hN hblk htwo hb hBn HBw
      go_wp2_with fail
      clear hW1 g0 g1 g2 n0
      refine (vsplit1_any W1 q0 (w.heap.size + 1) w.heap.size (some ⟨b, off, none⟩) a' c c' l R hl' hR' HP1.out HI1.out (HT1.out.lt) (HT1.out.at 0 rfl) (HQ1.out.at 0 rfl)).mono ?_
      rintro e w2 ⟨rfl, hb2⟩
      have hsz2 : w.heap.size + 5 ≤ w2.heap.size := by have := hb2.size; omega
      have hlt2 : wr.heap.size < w2.heap.size := by have := hb2.size; omega
      cases hkn : knB l R q0
      · have HKE : Hid ((l.take (k + 1)).filter (fun p => knB l R p.1) = K) := by show _ = _; rw [HK1.out, hkn]; simp
        have n0 := (HN1.out.keep hb2).at 0 rfl
        have HN2 : Hid (Blk w2 wr.heap.size [Value.int IntKind.i64 q0, Value.int IntKind.i64 q1, Value.int IntKind.i64 q2]) := HN1.out.keep hb2
        have HX2 : Hid (Blk w2 (w.heap.size + 1 + 1 + 1) [v, u]) := HX1.out.keep hb2
        have HT3 : Hid (Two w2 (w.heap.size + 4) v u K V) := HT2.out.keep hb2
        have HB2 : Hid (Below (w.heap.size + 3) W0 w2) := HB1.out.trans (hb2.mono (by omega))
        have HC2 : Hid (Calls Tryz.prog 80 #[.int .i64 q0, .pointer (some ⟨w.heap.size + 1, 0, none⟩), .pointer (some ⟨w.heap.size, 0, none⟩)] w2 fun e w' => e = .returned (.bool (abB l R q0)) ∧ Below w2.heap.size w2 w') :=
          vsplit2_any w2 q0 (w.heap.size + 1) w.heap.size (some ⟨b, off, none⟩) a' c c' l R hl' hR' (HP1.out.below hb2) (HI1.out.below hb2) (HT1.out.keep hb2).lt ((HT1.out.keep hb2).at 0 rfl) ((HQ1.out.keep hb2).at 0 rfl)
        have HWE : Hid (wyB l R q0 = abB l R q0) := by show _ = _; rw [Orangery.wy_ab, hkn]; rfl
        clear HK1 HN1 HX1 HT2 HB1 hb2 HP1 HI1 HT1 HQ1 hkn
        go_wp2_with fail
        refine HC2.out.mono ?_
        rintro e w3 ⟨rfl, hb3⟩
        have hsz3 : w.heap.size + 5 ≤ w3.heap.size := by have := hb3.size; omega
        have hlt3 : wr.heap.size < w3.heap.size := by have := hb3.size; omega
        clear HC2 n0
        have hN3 := HN2.out.keep hb3
        have hX3 := HX2.out.keep hb3
        have HT4 : Hid (Two w3 (w.heap.size + 4) v u K V) := HT3.out.keep hb3
        have HB3 : Hid (Below (w.heap.size + 3) W0 w3) := HB2.out.trans (hb3.mono (by omega))
        clear HN2 HX2 HT3 HB2 hb3
        cases hab : abB l R q0
        · have HVE : Hid ((l.take (k + 1)).filter (fun p => wyB l R p.1) = V) := by show _ = _; rw [HW1.out, HWE.out, hab]; simp
          clear hab HWE
          go_wp2
          go_roundw
          case rel => exact ⟨k + 1, v, u, hlt, by go_num, hX3, by rw [HKE.out, HVE.out]; exact HT4.out, HB3.out⟩
          case measure => simp [intOf]; omega
        · have HVE : Hid ((l.take (k + 1)).filter (fun p => wyB l R p.1) = V ++ [(q0, q1, q2)]) := by show _ = _; rw [HW1.out, HWE.out, hab]; simp
          clear hab HWE
          obtain ⟨WW, hWW, hZ, hBz, hSz⟩ := laid1 w3 [Value.int IntKind.i64 q0, Value.int IntKind.i64 q1, Value.int IntKind.i64 q2] 55
          have m0 := hN3.at 0 rfl
          have m1 := hN3.at 1 rfl
          have m2 := hN3.at 2 rfl
          have x1 := hX3.at 1 rfl
          have HTZ : Hid (Two WW (w.heap.size + 4) v u K V) := HT4.out.keep hBz
          have hown : WW.ownsRow (w.heap.size + 4) 55 3 u V.length (V.flatMap encPl) := HTZ.out.2.1
          have HXZ : Hid (Blk WW (w.heap.size + 1 + 1 + 1) [v, u]) := hX3.keep hBz
          have HBZ : Hid (Below (w.heap.size + 3) W0 WW) := HB3.out.trans (hBz.mono (by omega))
          have HZ : Hid (Blk WW w3.heap.size [Value.int IntKind.i64 q0, Value.int IntKind.i64 q1, Value.int IntKind.i64 q2]) := hZ
          clear hN3 hX3 HT4 HB3 hBz hZ
          go_wp2_with (at_builtin; refine wpList_append_own_at _ rfl _ _ 23 rfl (w.heap.size + 4) 55 i0 _ 3 24 Tryz.underlying23 hi hz0 hz1 hz2 rfl (by decide) _ _ _ rfl hown ⟨w3.heap.size, 0, none⟩ 1 1 [.int .i64 q0, .int .i64 q1, .int .i64 q2] rfl rfl ?c1 ?c2 ?c3 ?c4 ?c5 ?_)
          case c1 => intro j y hj; rw [Addr.add_mid, Nat.zero_add]; exact HZ.out.at j hj
          case c2 => exact encPl_one (q0, q1, q2)
          case c3 => unfold maxLen; omega
          case c4 => omega
          case c5 => omega
          intro u' w4 hown' hgrow _ hat
          rw [← hSz] at hat
          have hlo : ∀ g, u.ownBlock = some g → w.heap.size + 4 ≤ g := fun g hg => (World.ownsRow.lt hown g hg).1
          have hO' : OwnE encPl 3 55 w4 (w.heap.size + 4) u' (V ++ [(q0, q1, q2)]) := by simpa [OwnE, encPl] using hown'
          obtain ⟨a4, c4, rfl, _⟩ := hO'.val
          rw [List.length_append, List.length_singleton] at hO' hat
          have HTW : Hid (Two w4 (w.heap.size + 4) v (.slice a4 (V.length + 1) c4) K (V ++ [(q0, q1, q2)])) := (HTZ.out.swap.grew hO' hgrow hat).swap
          have hX4 := HXZ.out.grown hgrow (fun e => by have := hlo _ e.symm; omega)
          have HB4 : Hid (Below (w.heap.size + 3) W0 w4) := HBZ.out.grown hgrow (by omega) (fun g hg => by have := hlo g hg; omega)
          have y1 := hX4.at 1 rfl
          have yf := hX4.frz
          have HX4 : Hid (Blk w4 (w.heap.size + 1 + 1 + 1) [v, u]) := hX4
          clear hown hown' hgrow hat hO' hlo hSz HTZ HXZ HBZ HZ hX4 hWW m0 m1 m2 x1
          go_wp2
          go_roundw
          case rel => exact ⟨k + 1, v, _, hlt, by go_num, HX4.out.set 1 (by simp) (.slice a4 (V.length + 1) c4), by rw [HKE.out, HVE.out]; exact HTW.out.other _ (by omega) _ _, HB4.out.setCell (by show _ ≤ w.heap.size + 1 + 1 + 1; omega) _⟩
          case measure => simp [intOf]; omega
      · have HKE : Hid ((l.take (k + 1)).filter (fun p => knB l R p.1) = K ++ [(q0, q1, q2)]) := by show _ = _; rw [HK1.out, hkn]; simp
        have HVE : Hid ((l.take (k + 1)).filter (fun p => wyB l R p.1) = V) := by show _ = _; rw [HW1.out, Orangery.wy_ab, hkn]; simp
        have hN3 := HN1.out.keep hb2
        have hX3 := HX1.out.keep hb2
        have HT4 : Hid (Two w2 (w.heap.size + 4) v u K V) := HT2.out.keep hb2
        have HB3 : Hid (Below (w.heap.size + 3) W0 w2) := HB1.out.trans (hb2.mono (by omega))
        clear HK1 HN1 HX1 HT2 HB1 hb2 HP1 HI1 HT1 HQ1 hkn HW1
        obtain ⟨WW, hWW, hZ, hBz, hSz⟩ := laid1 w2 [Value.int IntKind.i64 q0, Value.int IntKind.i64 q1, Value.int IntKind.i64 q2] 55
        have m0 := hN3.at 0 rfl
        have m1 := hN3.at 1 rfl
        have m2 := hN3.at 2 rfl
        have x1 := hX3.at 0 rfl
        have HTZ : Hid (Two WW (w.heap.size + 4) v u K V) := HT4.out.keep hBz
        have hown : WW.ownsRow (w.heap.size + 4) 55 3 v K.length (K.flatMap encPl) := HTZ.out.1
        have HXZ : Hid (Blk WW (w.heap.size + 1 + 1 + 1) [v, u]) := hX3.keep hBz
        have HBZ : Hid (Below (w.heap.size + 3) W0 WW) := HB3.out.trans (hBz.mono (by omega))
        have HZ : Hid (Blk WW w2.heap.size [Value.int IntKind.i64 q0, Value.int IntKind.i64 q1, Value.int IntKind.i64 q2]) := hZ
        clear hN3 hX3 HT4 HB3 hBz hZ
        go_wp2_with (at_builtin; refine wpList_append_own_at _ rfl _ _ 23 rfl (w.heap.size + 4) 55 i0 _ 3 24 Tryz.underlying23 hi hz0 hz1 hz2 rfl (by decide) _ _ _ rfl hown ⟨w2.heap.size, 0, none⟩ 1 1 [.int .i64 q0, .int .i64 q1, .int .i64 q2] rfl rfl ?c1 ?c2 ?c3 ?c4 ?c5 ?_)
        case c1 => intro j y hj; rw [Addr.add_mid, Nat.zero_add]; exact HZ.out.at j hj
        case c2 => exact encPl_one (q0, q1, q2)
        case c3 => unfold maxLen; omega
        case c4 => omega
        case c5 => omega
        intro v' w4 hown' hgrow _ hat
        rw [← hSz] at hat
        have hlo : ∀ g, v.ownBlock = some g → w.heap.size + 4 ≤ g := fun g hg => (World.ownsRow.lt hown g hg).1
        have hO' : OwnE encPl 3 55 w4 (w.heap.size + 4) v' (K ++ [(q0, q1, q2)]) := by simpa [OwnE, encPl] using hown'
        obtain ⟨a4, c4, rfl, _⟩ := hO'.val
        rw [List.length_append, List.length_singleton] at hO' hat
        have HTW : Hid (Two w4 (w.heap.size + 4) (.slice a4 (K.length + 1) c4) u (K ++ [(q0, q1, q2)]) V) := HTZ.out.grew hO' hgrow hat
        have hX4 := HXZ.out.grown hgrow (fun e => by have := hlo _ e.symm; omega)
        have HB4 : Hid (Below (w.heap.size + 3) W0 w4) := HBZ.out.grown hgrow (by omega) (fun g hg => by have := hlo g hg; omega)
        have y1 := hX4.at 0 rfl
        have yf := hX4.frz
        have HX4 : Hid (Blk w4 (w.heap.size + 1 + 1 + 1) [v, u]) := hX4
        clear hown hown' hgrow hat hO' hlo hSz HTZ HXZ HBZ HZ hX4 hWW m0 m1 m2 x1
        go_wp2
        go_roundw
        case rel => exact ⟨k + 1, _, u, hlt, by go_num, HX4.out.set 0 (by simp) (.slice a4 (K.length + 1) c4), by rw [HKE.out, HVE.out]; exact HTW.out.other _ (by omega) _ _, HB4.out.setCell (by show _ ≤ w.heap.size + 1 + 1 + 1; omega) _⟩
        case measure => simp [intOf]; omega
    · have hkl : k = l.length := by omega
      subst hkl
      rw [List.take_of_length_le (Nat.le_refl _)] at htwo
      have htwo : Two wr (w.heap.size + 4) v u (viewK l R) (viewW l R) := htwo
      obtain ⟨a5, c5, rfl, _⟩ := htwo.1.val
      obtain ⟨a6, c6, rfl, _⟩ := htwo.2.1.val
      have HTW : Hid (Two wr (w.heap.size + 4) (.slice a5 (viewK l R).length c5) (.slice a6 (viewW l R).length c6) (viewK l R) (viewW l R)) := htwo
      have hO2 := HO.out.below hb (by omega)
      have HX2 : Hid (Blk (wr.setCells (w.heap.size + 1 + 1) 0 [.slice a5 (viewK l R).length c5, .slice a6 (viewW l R).length c6]) (w.heap.size + 1 + 1) [.slice a5 (viewK l R).length c5, .slice a6 (viewW l R).length c6]) := hO2.sets [.slice a5 (viewK l R).length c5, .slice a6 (viewW l R).length c6] rfl
      have x0 := hblk.at 0 rfl
      have x1 := hblk.at 1 rfl
      have y0 := hO2.at 0 rfl
      have y1 := hO2.at 1 rfl
      have yf := hO2.frz
      clear htwo hO2 hblk hb
      go_wp2
      refine ret_cell (vs := [.slice a5 (viewK l R).length c5, .slice a6 (viewW l R).length c6]) Tryz.results51 rfl (HX2.out.load Tryz.underlying79 rfl sizeParts) ⟨_, _, rfl, ?_, ?_⟩
      · exact ((HTW.out.other _ (by omega) _ _).other _ (by omega) _ _).mono (by omega)
      · exact below_sets HBw.out _ (by omega) [.slice a5 (viewK l R).length c5, .slice a6 (viewW l R).length c6] 0
end Go.Proofs.YtkjgoikcibgonacGreat

/- delta.between: what goes, what is here, each in new memory. -/
namespace Go.Proofs.YtkjgoikcibgonacGreat
open Go.ChangeShapes Go.WideShapes Go.ChangeAt Go.RowKit
open Orangery (Pl hasN goneP hereP)

/-- a slice of ints and one of places, both of the call's own -/
def Pair (W : World) (base : Nat) (u v : Value) (G : List Int) (H : List Pl) : Prop := OwnI W base u G ∧ OwnE encPl 3 55 W base v H
theorem row_type {W : World} {base k n : Nat} {e : TypeId} {v : Value} {cs : List Value} (h : W.ownsRow base e k v n cs) : ∀ g, v.ownBlock = some g → ∃ cur, W.heap[g]? = some (.cells cur e) := by
  intro g hg
  rcases h.2 with ⟨rfl, _⟩ | ⟨b, cap, cur, rfl, _, hh, _⟩
  · simp [Value.ownBlock] at hg
  · simp [Value.ownBlock] at hg
    subst hg
    exact ⟨cur, hh⟩
theorem Pair.ne {W : World} {base : Nat} {u v : Value} {G : List Int} {H : List Pl} (h : Pair W base u v G H) : ∀ g, u.ownBlock = some g → ¬ v.ownBlock = some g := by
  intro g h1 h2
  obtain ⟨c1, e1⟩ := row_type h.1 g h1
  obtain ⟨c2, e2⟩ := row_type (OwnE.row h.2) g h2
  rw [e1] at e2
  simp at e2
theorem Pair.nil (W : World) (base : Nat) : Pair W base (.slice none 0 0) (.slice none 0 0) [] [] := ⟨⟨by simp, Or.inl ⟨rfl, rfl⟩⟩, OwnE.nil _ _⟩
theorem Pair.keep {W W' : World} {base : Nat} {u v : Value} {G : List Int} {H : List Pl} (h : Pair W base u v G H) (hb : Below W.heap.size W W') : Pair W' base u v G H := ⟨h.1.keep hb, h.2.keep hb⟩
theorem Pair.other {W : World} {base : Nat} {u v : Value} {G : List Int} {H : List Pl} (h : Pair W base u v G H) (g : Nat) (hg : g < base) (j : Nat) (x : Value) : Pair (W.setCell ⟨g, j, none⟩ x) base u v G H := ⟨h.1.other g hg j x, h.2.other g hg j x⟩
theorem Pair.others {base : Nat} {u v : Value} {G : List Int} {H : List Pl} (g : Nat) (hg : g < base) (us : List Value) (o : Nat) (W : World) (h : Pair W base u v G H) : Pair (W.setCells g o us) base u v G H := ⟨OwnI.others g hg us o W h.1, OwnE.others g hg us o W h.2⟩
theorem Pair.mono {W : World} {base base' : Nat} {u v : Value} {G : List Int} {H : List Pl} (h : Pair W base u v G H) (hb : base' ≤ base) : Pair W base' u v G H := by
  refine ⟨⟨h.1.1, ?_⟩, h.2.mono hb⟩
  rcases h.1.2 with h2 | ⟨g, cap, cur, e2, hg, r⟩
  · exact Or.inl h2
  · exact Or.inr ⟨g, cap, cur, e2, by omega, r⟩
theorem Pair.growI {W W' : World} {base : Nat} {u v u' : Value} {G G' : List Int} {H : List Pl} (h : Pair W base u v G H) (hown : OwnI W' base u' G') (hg : W.grownBy W' u.ownBlock) : Pair W' base u' v G' H := by
  refine ⟨hown, World.ownsRow.kept h.2 hg ?_⟩
  cases hv : v.ownBlock with
  | none => exact Or.inl rfl
  | some g => exact Or.inr (fun e => h.ne g e.symm hv)
theorem Pair.growP {W W' : World} {base : Nat} {u v v' : Value} {G : List Int} {H H' : List Pl} (h : Pair W base u v G H) (hown : OwnE encPl 3 55 W' base v' H') (hg : W.grownBy W' v.ownBlock) : Pair W' base u v' G H' := by
  refine ⟨World.ownsRow.kept h.1 hg ?_, hown⟩
  cases hu : u.ownBlock with
  | none => exact Or.inl rfl
  | some g => exact Or.inr (fun e => h.ne g hu e.symm)
theorem Pair.lo {W : World} {base : Nat} {u v : Value} {G : List Int} {H : List Pl} (h : Pair W base u v G H) : (∀ g, u.ownBlock = some g → base ≤ g) ∧ (∀ g, v.ownBlock = some g → base ≤ g) :=
  ⟨fun g hg => (World.ownsRow.lt h.1 g hg).1, fun g hg => (World.ownsRow.lt (OwnE.row h.2) g hg).1⟩
theorem int_one (x : Int) : ∀ v ∈ [Value.int IntKind.i64 x], v.oneCell' = true := by
  intro v hv
  simp at hv
  subst hv
  rfl
theorem gone_len {a b : List Pl} (h : a.length ≤ 1000) : (goneP a b).length ≤ 1000 := by unfold goneP; rw [List.length_map]; exact Nat.le_trans (List.length_filter_le _ _) h
theorem here_len {a b : List Pl} (h : b.length ≤ 1000) : (hereP a b).length ≤ 1000 := Nat.le_trans (List.length_filter_le _ _) h

set_option maxHeartbeats 4000000 in
set_option maxRecDepth 100000 in
theorem between_any (w : World) (x y : Option Addr) (cx cy : Nat) (a b : List Pl) (ha : a.length ≤ 1000) (hb : b.length ≤ 1000) (h1 : SlP w x a) (h2 : SlP w y b) :
    Calls Tryz.prog 18 #[.slice x a.length cx, .slice y b.length cy] w
      fun e w' => ∃ u v, e = .returned (.agg #[u, v]) ∧ Pair w' w.heap.size u v (goneP a b) (hereP a b) ∧ Below w.heap.size w w' := by
  obtain ⟨i0, hi, hz0, hz1, hz2⟩ := info_parts infoPlace
  obtain ⟨j0, hj, hy0, hy1, hy2⟩ := info_parts infoInt
  have hla : a.length ≤ maxLen := by unfold maxLen; omega
  have hlb : b.length ≤ maxLen := by unfold maxLen; omega
  obtain ⟨W0, hW, hR, hC, hB, hS⟩ := laid2 w [Value.slice none 0 0, Value.slice none 0 0] 45 [Value.slice none 0 0, Value.slice none 0 0] 45
  have HP1 : Hid (SlP w x a) := h1
  have HP2 : Hid (SlP w y b) := h2
  have HR : Hid (Blk W0 w.heap.size [Value.slice none 0 0, Value.slice none 0 0]) := hR
  have HC : Hid (Blk W0 (w.heap.size + 1) [Value.slice none 0 0, Value.slice none 0 0]) := hC
  have HB : Hid (Below w.heap.size w W0) := hB
  clear h1 h2 hR hC hB
  go_enter Tryz.func18, Tryz.ntmps18
  go_wp2
  clear hW
  go_loopw [12] (fun i W => ∃ (k : Nat) (u : Value), k ≤ a.length ∧ i = .int .i64 k ∧ Blk W (w.heap.size + 1) [u, .slice none 0 0] ∧ Pair W (w.heap.size + 2) u (.slice none 0 0) (goneP (a.take k) b) [] ∧ Below (w.heap.size + 1) W0 W) (fun i _ => a.length - (intOf i).toNat)
  case atStart => exact ⟨0, _, Nat.zero_le _, rfl, HC.out, Pair.nil _ _, Below.refl _ _⟩
  case round =>
    obtain ⟨k, u, hk, rfl, hblk, hpr, hb0⟩ := hrel
    have hge : w.heap.size + 2 ≤ wr.heap.size := by have := hb0.size; omega
    have HBw : Hid (Below w.heap.size w wr) := HB.out.trans (hb0.mono (by omega))
    by_cases hlt : k < a.length
    · have HT : Hid (goneP (a.take (k + 1)) b = goneP (a.take k) b ++ if hasN b a[k].1 = true then [] else [a[k].1]) := Orangery.goneP_take b a k hlt
      have hGl : (goneP (a.take k) b).length ≤ 1000 := gone_len (by simp; omega)
      generalize goneP (a.take k) b = G at *
      have hPW : SlP wr x a := HP1.out.below HBw.out
      rcases hPW with h9 | ⟨g, off, rfl, hbl, hp⟩
      · exact absurd hlt (by simp [h9])
      obtain ⟨g0, g1, g2⟩ := hp k hlt
      clear hp
      generalize a[k] = q at *
      obtain ⟨q0, q1, q2⟩ := q
      dsimp only at g0 g1 g2 HT
      obtain ⟨W1, hW1, hN, hB1, _⟩ := laid1 wr [Value.int IntKind.i64 q0, Value.int IntKind.i64 q1, Value.int IntKind.i64 q2] 55
      have HX1 : Hid (Blk W1 (w.heap.size + 1) [u, .slice none 0 0]) := hblk.keep hB1
      have HPR1 : Hid (Pair W1 (w.heap.size + 2) u (.slice none 0 0) G []) := hpr.keep hB1
      have HB1 : Hid (Below (w.heap.size + 1) W0 W1) := hb0.trans (hB1.mono (by omega))
      have HBw1 : Hid (Below w.heap.size w W1) := HBw.out.trans (hB1.mono HBw.out.size)
      have n0 := hN.at 0 rfl
      have HN : Hid (Blk W1 wr.heap.size [Value.int IntKind.i64 q0, Value.int IntKind.i64 q1, Value.int IntKind.i64 q2]) := hN
      have hsz1 : wr.heap.size ≤ W1.heap.size := hB1.size
      clear hblk hpr hb0 hB1 hN hbl
      go_wp2_with fail
      clear hW1 n0 g0 g1 g2
      refine (has_any W1 y cy b q0 hlb (HP2.out.below HBw1.out)).mono ?_
      rintro e w2 ⟨rfl, hb2⟩
      have HX2 : Hid (Blk w2 (w.heap.size + 1) [u, .slice none 0 0]) := HX1.out.keep hb2
      have HPR2 : Hid (Pair w2 (w.heap.size + 2) u (.slice none 0 0) G []) := HPR1.out.keep hb2
      have HB2 : Hid (Below (w.heap.size + 1) W0 w2) := HB1.out.trans (hb2.mono (by omega))
      have hN2 := HN.out.keep hb2
      have hsz2 : W1.heap.size ≤ w2.heap.size := hb2.size
      clear HX1 HPR1 HB1 HN hb2 HBw1 HBw
      cases hh : hasN b q0
      · have HE : Hid (goneP (a.take (k + 1)) b = G ++ [q0]) := by show _ = _; rw [HT.out, hh]; rfl
        clear HT hh
        obtain ⟨WW, hWW, hZ, hBz, hSz⟩ := laid1 w2 [Value.int IntKind.i64 q0] 3
        have m0 := hN2.at 0 rfl
        have m1 := HX2.out.at 0 rfl
        have HPRZ : Hid (Pair WW (w.heap.size + 2) u (.slice none 0 0) G []) := HPR2.out.keep hBz
        have hown : WW.ownsRow (w.heap.size + 2) 3 1 u G.length (G.map (Value.int .i64)) := HPRZ.out.1
        have HXZ : Hid (Blk WW (w.heap.size + 1) [u, .slice none 0 0]) := HX2.out.keep hBz
        have HBZ : Hid (Below (w.heap.size + 1) W0 WW) := HB2.out.trans (hBz.mono (by omega))
        have HZ : Hid (Blk WW w2.heap.size [Value.int IntKind.i64 q0]) := hZ
        clear hN2 HX2 HPR2 HB2 hBz hZ
        go_wp2_with (at_builtin; refine wpList_append_own _ rfl _ _ 22 rfl (w.heap.size + 2) 3 j0 _ 1 8 Tryz.underlying22 hj hy0 hy1 hy2 rfl (by decide) _ _ _ rfl hown ⟨w2.heap.size, 0, none⟩ 1 1 [.int .i64 q0] rfl rfl ?c1 ?c2 ?c3 ?c4 ?c5 ?_)
        case c1 => intro j y hj; rw [Addr.add_mid, Nat.zero_add]; exact HZ.out.at j hj
        case c2 => exact int_one q0
        case c3 => unfold maxLen; omega
        case c4 => omega
        case c5 => omega
        intro u' w4 hown' hgrow _
        have hlo := HPRZ.out.lo.1
        have hO' : OwnI w4 (w.heap.size + 2) u' (G ++ [q0]) := by simpa [OwnI] using hown'
        obtain ⟨a4, c4, rfl, _⟩ := hO'.val
        rw [List.length_append, List.length_singleton] at hO'
        have HPR4 : Hid (Pair w4 (w.heap.size + 2) (.slice a4 (G.length + 1) c4) (.slice none 0 0) (G ++ [q0]) []) := HPRZ.out.growI hO' hgrow
        have hX4 := HXZ.out.grown hgrow (fun e => by have := hlo _ e.symm; omega)
        have HB4 : Hid (Below (w.heap.size + 1) W0 w4) := HBZ.out.grown hgrow (by omega) (fun g hg => by have := hlo g hg; omega)
        have y1 := hX4.at 0 rfl
        have yf := hX4.frz
        have HX4 : Hid (Blk w4 (w.heap.size + 1) [u, .slice none 0 0]) := hX4
        clear hown hown' hgrow hO' hlo hSz HPRZ HXZ HBZ HZ hX4 hWW m0 m1
        go_wp2
        go_roundw
        case rel => exact ⟨k + 1, _, hlt, by go_num, HX4.out.set 0 (by simp) (.slice a4 (G.length + 1) c4), by rw [HE.out]; exact HPR4.out.other _ (by omega) _ _, HB4.out.setCell (by show _ ≤ w.heap.size + 1; omega) _⟩
        case measure => simp [intOf]; omega
      · have HE : Hid (goneP (a.take (k + 1)) b = G) := by show _ = _; rw [HT.out, hh]; simp
        clear HT hh hN2
        go_wp2
        go_roundw
        case rel => exact ⟨k + 1, u, hlt, by go_num, HX2.out, by rw [HE.out]; exact HPR2.out, HB2.out⟩
        case measure => simp [intOf]; omega
    · have hkl : k = a.length := by omega
      subst hkl
      rw [List.take_of_length_le (Nat.le_refl _)] at hpr
      rename World => W5
      have hGl : (goneP a b).length ≤ 1000 := gone_len ha
      generalize hGG : goneP a b = G at *
      have HGG : Hid (goneP a b = G) := hGG
      clear hGG
      have HPR0 : Hid (Pair W5 (w.heap.size + 2) u (.slice none 0 0) G []) := hpr
      have HX0 : Hid (Blk W5 (w.heap.size + 1) [u, .slice none 0 0]) := hblk
      have HB0 : Hid (Below (w.heap.size + 1) W0 W5) := hb0
      clear hpr hblk hb0
      go_wp2
      go_loopw [31] (fun i W => ∃ (k : Nat) (v : Value), k ≤ b.length ∧ i = .int .i64 k ∧ Blk W (w.heap.size + 1) [u, v] ∧ Pair W (w.heap.size + 2) u v G (hereP a (b.take k)) ∧ Below (w.heap.size + 1) W0 W) (fun i _ => b.length - (intOf i).toNat)
      case atStart => exact ⟨0, _, Nat.zero_le _, rfl, HX0.out, HPR0.out, HB0.out⟩
      case round =>
        obtain ⟨k, v, hk, rfl, hblk, hpr, hb0⟩ := hrel
        have hge : w.heap.size + 2 ≤ wr.heap.size := by have := hb0.size; omega
        have HBw : Hid (Below w.heap.size w wr) := HB.out.trans (hb0.mono (by omega))
        clear HX0 HPR0 HB0
        by_cases hlt : k < b.length
        · have HT : Hid (hereP a (b.take (k + 1)) = hereP a (b.take k) ++ if decide (b[k] ∈ a) = true then [] else [b[k]]) := Orangery.hereP_take a b k hlt
          have hHl : (hereP a (b.take k)).length ≤ 1000 := here_len (by simp; omega)
          generalize hereP a (b.take k) = H at *
          have hPW : SlP wr y b := HP2.out.below HBw.out
          rcases hPW with h9 | ⟨g, off, rfl, hbl, hp⟩
          · exact absurd hlt (by simp [h9])
          obtain ⟨g0, g1, g2⟩ := hp k hlt
          clear hp
          generalize b[k] = q at *
          obtain ⟨q0, q1, q2⟩ := q
          dsimp only at g0 g1 g2
          obtain ⟨W1, hW1, hN, hB1, _⟩ := laid1 wr [Value.int IntKind.i64 q0, Value.int IntKind.i64 q1, Value.int IntKind.i64 q2] 55
          have HX1 : Hid (Blk W1 (w.heap.size + 1) [u, v]) := hblk.keep hB1
          have HPR1 : Hid (Pair W1 (w.heap.size + 2) u v G H) := hpr.keep hB1
          have HB1 : Hid (Below (w.heap.size + 1) W0 W1) := hb0.trans (hB1.mono (by omega))
          have HBw1 : Hid (Below w.heap.size w W1) := HBw.out.trans (hB1.mono HBw.out.size)
          have n0 := hN.at 0 rfl
          have n1 := hN.at 1 rfl
          have n2 := hN.at 2 rfl
          have HN : Hid (Blk W1 wr.heap.size [Value.int IntKind.i64 q0, Value.int IntKind.i64 q1, Value.int IntKind.i64 q2]) := hN
          have hsz1 : wr.heap.size ≤ W1.heap.size := hB1.size
          clear hblk hpr hb0 hB1 hN hbl
          go_wp2_with fail
          clear hW1 n0 n1 n2 g0 g1 g2
          refine (containsPls_any W1 x cx a (q0, q1, q2) hla (HP1.out.below HBw1.out)).mono ?_
          rintro e w2 ⟨rfl, hb2⟩
          have HX2 : Hid (Blk w2 (w.heap.size + 1) [u, v]) := HX1.out.keep hb2
          have HPR2 : Hid (Pair w2 (w.heap.size + 2) u v G H) := HPR1.out.keep hb2
          have HB2 : Hid (Below (w.heap.size + 1) W0 w2) := HB1.out.trans (hb2.mono (by omega))
          have hN2 := HN.out.keep hb2
          have hsz2 : W1.heap.size ≤ w2.heap.size := hb2.size
          clear HX1 HPR1 HB1 HN hb2 HBw1 HBw
          cases hh : hasP (q0, q1, q2) a
          · have HE : Hid (hereP a (b.take (k + 1)) = H ++ [(q0, q1, q2)]) := by show _ = _; rw [HT.out]; have : decide ((q0, q1, q2) ∈ a) = false := hh; rw [this]; rfl
            clear HT hh
            obtain ⟨WW, hWW, hZ, hBz, hSz⟩ := laid1 w2 [Value.int IntKind.i64 q0, Value.int IntKind.i64 q1, Value.int IntKind.i64 q2] 55
            have m0 := hN2.at 0 rfl
            have m2 := hN2.at 1 rfl
            have m3 := hN2.at 2 rfl
            have m1 := HX2.out.at 1 rfl
            have HPRZ : Hid (Pair WW (w.heap.size + 2) u v G H) := HPR2.out.keep hBz
            have hown : WW.ownsRow (w.heap.size + 2) 55 3 v H.length (H.flatMap encPl) := HPRZ.out.2
            have HXZ : Hid (Blk WW (w.heap.size + 1) [u, v]) := HX2.out.keep hBz
            have HBZ : Hid (Below (w.heap.size + 1) W0 WW) := HB2.out.trans (hBz.mono (by omega))
            have HZ : Hid (Blk WW w2.heap.size [Value.int IntKind.i64 q0, Value.int IntKind.i64 q1, Value.int IntKind.i64 q2]) := hZ
            clear hN2 HX2 HPR2 HB2 hBz hZ
            go_wp2_with (at_builtin; refine wpList_append_own _ rfl _ _ 23 rfl (w.heap.size + 2) 55 i0 _ 3 24 Tryz.underlying23 hi hz0 hz1 hz2 rfl (by decide) _ _ _ rfl hown ⟨w2.heap.size, 0, none⟩ 1 1 [.int .i64 q0, .int .i64 q1, .int .i64 q2] rfl rfl ?c1 ?c2 ?c3 ?c4 ?c5 ?_)
            case c1 => intro j y hj; rw [Addr.add_mid, Nat.zero_add]; exact HZ.out.at j hj
            case c2 => exact encPl_one (q0, q1, q2)
            case c3 => unfold maxLen; omega
            case c4 => omega
            case c5 => omega
            intro v' w4 hown' hgrow _
            have hlo := HPRZ.out.lo.2
            have hO' : OwnE encPl 3 55 w4 (w.heap.size + 2) v' (H ++ [(q0, q1, q2)]) := by simpa [OwnE, encPl] using hown'
            obtain ⟨a4, c4, rfl, _⟩ := hO'.val
            rw [List.length_append, List.length_singleton] at hO'
            have HPR4 : Hid (Pair w4 (w.heap.size + 2) u (.slice a4 (H.length + 1) c4) G (H ++ [(q0, q1, q2)])) := HPRZ.out.growP hO' hgrow
            have hX4 := HXZ.out.grown hgrow (fun e => by have := hlo _ e.symm; omega)
            have HB4 : Hid (Below (w.heap.size + 1) W0 w4) := HBZ.out.grown hgrow (by omega) (fun g hg => by have := hlo g hg; omega)
            have y1 := hX4.at 1 rfl
            have yf := hX4.frz
            have HX4 : Hid (Blk w4 (w.heap.size + 1) [u, v]) := hX4
            clear hown hown' hgrow hO' hlo hSz HPRZ HXZ HBZ HZ hX4 hWW m0 m1 m2 m3
            go_wp2
            go_roundw
            case rel => exact ⟨k + 1, _, hlt, by go_num, HX4.out.set 1 (by simp) (.slice a4 (H.length + 1) c4), by rw [HE.out]; exact HPR4.out.other _ (by omega) _ _, HB4.out.setCell (by show _ ≤ w.heap.size + 1; omega) _⟩
            case measure => simp [intOf]; omega
          · have HE : Hid (hereP a (b.take (k + 1)) = H) := by show _ = _; rw [HT.out]; have : decide ((q0, q1, q2) ∈ a) = true := hh; rw [this]; simp
            clear HT hh hN2
            go_wp2
            go_roundw
            case rel => exact ⟨k + 1, v, hlt, by go_num, HX2.out, by rw [HE.out]; exact HPR2.out, HB2.out⟩
            case measure => simp [intOf]; omega
        · have hkl : k = b.length := by omega
          subst hkl
          rw [List.take_of_length_le (Nat.le_refl _)] at hpr
          obtain ⟨a5, c5, rfl, _⟩ := hpr.1.val
          obtain ⟨a6, c6, rfl, _⟩ := hpr.2.val
          have HPR : Hid (Pair wr (w.heap.size + 2) (.slice a5 G.length c5) (.slice a6 (hereP a b).length c6) G (hereP a b)) := hpr
          have hO2 := HR.out.below hb0 (by omega)
          have HX2 : Hid (Blk (wr.setCells w.heap.size 0 [.slice a5 G.length c5, .slice a6 (hereP a b).length c6]) w.heap.size [.slice a5 G.length c5, .slice a6 (hereP a b).length c6]) := hO2.sets _ rfl
          have x0 := hblk.at 0 rfl
          have x1 := hblk.at 1 rfl
          have y0 := hO2.at 0 rfl
          have y1 := hO2.at 1 rfl
          have yf := hO2.frz
          clear hpr hO2 hblk hb0
          go_wp2
          refine ret_cell (vs := [.slice a5 G.length c5, .slice a6 (hereP a b).length c6]) Tryz.results18 rfl (HX2.out.load Tryz.underlying45 rfl sizeDChange) ⟨_, _, rfl, ?_, ?_⟩
          · rw [HGG.out]
            exact (Pair.others w.heap.size (by omega) [.slice a5 G.length c5, .slice a6 (hereP a b).length c6] 0 wr HPR.out).mono (base' := w.heap.size) (by omega)
          · exact below_sets HBw.out _ (by omega) [.slice a5 G.length c5, .slice a6 (hereP a b).length c6] 0
end Go.Proofs.YtkjgoikcibgonacGreat

/- view.Of. -/
namespace Go.Proofs.YtkjgoikcibgonacGreat
open Go.ChangeShapes Go.WideShapes Go.ChangeAt Go.RowKit
open Orangery (Pl rootsOk check orI ofE ofR ofK ofW viewK viewW)

/-- a view's value -/
abbrev viV (r k v : Value) : Value := .agg #[r, k, v]

/-- an address in new memory -/
def Fresh (B : Nat) (a : Option Addr) : Prop := ∀ b off, a = some ⟨b, off, none⟩ → B ≤ b
theorem Fresh.none {B : Nat} : Fresh B none := fun _ _ e => by simp at e

/-- what a call leaves that answers a view and an error; its roots may lie where those lay that were handed in -/
def Views (w : World) (a' : Option Addr) (R : List Int) (K V : List Pl) (E : Int) (e : Ending) (w' : World) : Prop :=
  ∃ aR aK aV cR cK cV, e = .returned (.tuple #[viV (.slice aR R.length cR) (.slice aK K.length cK) (.slice aV V.length cV), .int .i64 E]) ∧ ((aK = none → cK = 0) ∧ (aV = none → cV = 0)) ∧ (Fresh w.heap.size aK ∧ Fresh w.heap.size aV ∧ (aR = a' ∨ Fresh w.heap.size aR)) ∧ SlI w' aR R ∧ SlP w' aK K ∧ SlP w' aV V ∧ Below w.heap.size w w'

theorem sizeView : (Tryz.prog.info? 25).map (·.size) = some 3 := by kernel_rfl

theorem OwnE.reads {W : World} {base : Nat} {a : Option Addr} {n c : Nat} {K : List Pl} (h : OwnE encPl 3 55 W base (.slice a n c) K) : SlP W a K ∧ (a = none → c = 0) ∧ Fresh base a := by
  have h1 := own_pls h
  rcases h1 with ⟨h2, rfl⟩ | ⟨g, cap, e, hb, hg, _, _, hp, _⟩
  · simp at h2
    obtain ⟨rfl, _, rfl⟩ := h2
    exact ⟨Or.inl rfl, fun _ => rfl, Fresh.none⟩
  · simp at e
    obtain ⟨rfl, _, _⟩ := e
    exact ⟨Or.inr ⟨g, 0, rfl, hg, hp.1⟩, fun hn => by simp at hn, fun b off e => by simp at e; omega⟩
theorem OwnI.fresh {W : World} {base : Nat} {a : Option Addr} {n c : Nat} {l : List Int} (h : OwnI W base (.slice a n c) l) : Fresh base a := by
  rcases h.2 with ⟨h2, _⟩ | ⟨g, cap, cur, e, hb, _⟩
  · simp at h2
    obtain ⟨rfl, _⟩ := h2
    exact Fresh.none
  · simp at e
    obtain ⟨rfl, _⟩ := e
    exact fun b off e => by simp at e; omega
theorem Fresh.mono {B B' : Nat} {a : Option Addr} (h : Fresh B a) (hb : B' ≤ B) : Fresh B' a := fun b off e => Nat.le_trans hb (h b off e)

set_option maxHeartbeats 2000000 in
set_option maxRecDepth 100000 in
theorem of_any (w : World) (a a' : Option Addr) (c c' : Nat) (l : List Pl) (R : List Int) (hl : l.length ≤ maxLen) (hR : R.length ≤ maxLen) (h : SlP w a l) (h' : SlI w a' R) :
    Calls Tryz.prog 27 #[.agg #[.slice a l.length c], .slice a' R.length c'] w (Views w a' (ofR l R) (ofK l R) (ofW l R) (ofE l R)) := by
  obtain ⟨W0, hW, hT, hV, hB, hS⟩ := laid2 w [Value.slice a l.length c] 62 [Value.slice none 0 0, Value.slice none 0 0, Value.slice none 0 0] 25
  have t0 := hT.at 0 rfl
  have HP : Hid (SlP w a l) := h
  have HI : Hid (SlI w a' R) := h'
  clear h h'
  go_enter Tryz.func27, Tryz.ntmps27
  go_wp2_with fail
  clear hW
  refine (check_any W0 a c l hl (HP.out.below hB)).mono ?_
  rintro e w1 ⟨rfl, hb1⟩
  go_wp2_with fail
  have hb1w : Below w.heap.size w w1 := hB.trans (hb1.mono hB.size)
  refine (vroots_any w1 a' c' R hR (HI.out.below hb1w)).mono ?_
  rintro e w1 ⟨rfl, rfl⟩
  go_wp2_with fail
  obtain ⟨W2, hW2, hN2, hB2, hS2⟩ := laid1 w1 [Value.int IntKind.i64 (check l), Value.int IntKind.i64 (rootsOk R)] 28
  rw [hW2]
  clear hW2
  refine (orE_any W2 w1.heap.size 2 (check l) (rootsOk R) (hN2.at 0 rfl) (hN2.at 1 rfl)).mono ?_
  rintro e w2 ⟨rfl, rfl⟩
  have hT2 := (hT.keep hb1).keep hB2
  have hV2 := (hV.keep hb1).keep hB2
  have HB2 : Hid (Below w.heap.size w w2) := hb1w.trans (hB2.mono hb1w.size)
  have HE : Hid (ofE l R = orI (check l) (rootsOk R)) := rfl
  clear hT hV hB hb1 hb1w hN2 hB2 t0
  by_cases hz : orI (check l) (rootsOk R) = 0
  · obtain ⟨hck, hro⟩ := Orangery.ofE_zero (l := l) (R := R) hz
    have hl2 : l.length ≤ 1000 := by have := Orangery.check_len l hck; omega
    have hR2 : R.length ≤ 1000 := by have := Orangery.rootsOk_len hro; omega
    obtain ⟨e1, e2, e3⟩ := Orangery.of_ok (l := l) (R := R) hz
    have HZ : Hid (ofE l R = 0) := hz
    have HV : Hid (ofR l R = R ∧ ofK l R = viewK l R ∧ ofW l R = viewW l R) := ⟨e1, e2, e3⟩
    rw [hz]
    clear hz hck hro HE e1 e2 e3
    have t0 := hT2.at 0 rfl
    go_wp2_with fail
    refine (split_any w2 a a' c c' l R hl2 hR2 (HP.out.below HB2.out) (HI.out.below HB2.out)).mono ?_
    rintro e w3 ⟨v, u, rfl, htwo, hb3⟩
    clear t0 hT2
    obtain ⟨a5, c5, rfl, _⟩ := htwo.1.val
    obtain ⟨a6, c6, rfl, _⟩ := htwo.2.1.val
    obtain ⟨W4, hW4, hX, hB4, hS4⟩ := laid1 w3 [Value.slice a5 (viewK l R).length c5, Value.slice a6 (viewW l R).length c6] 79
    have hV4 := (hV2.keep hb3).keep hB4
    have HT4 : Hid (Two W4 w2.heap.size (.slice a5 (viewK l R).length c5) (.slice a6 (viewW l R).length c6) (viewK l R) (viewW l R)) := htwo.keep hB4
    have HB4 : Hid (Below w.heap.size w W4) := (HB2.out.trans (hb3.mono HB2.out.size)).trans (hB4.mono (Nat.le_trans HB2.out.size hb3.size))
    have x0 := hX.at 0 rfl
    have x1 := hX.at 1 rfl
    have hlt4 : w2.heap.size ≤ w3.heap.size := hb3.size
    have hV2lt : w.heap.size + 1 < w2.heap.size := hV2.lt
    clear htwo hb3 hV2 hB4
    go_upto_region 5 with fail
    clear hW4
    have HI4 : Hid (SlI W4.drew a' R) := HI.out.below (HB4.out.drew)
    have y0 := hV4.at 0 rfl
    have y1 := hV4.at 1 rfl
    have y2 := hV4.at 2 rfl
    have yf := hV4.frz
    have ne1 : ¬ w.heap.size + 1 = w3.heap.size := by have := hV2lt; omega
    have ne2 : ¬ w3.heap.size = w.heap.size + 1 := by have := hV2lt; omega
    go_region_held3 (fun w' => w'.cell? ⟨w3.heap.size, 0, none⟩ = some (.slice a5 (viewK l R).length c5) ∧ w'.cell? ⟨w3.heap.size, 1, none⟩ = some (.slice a6 (viewW l R).length c6)) (go_keep)
      (first | (go_at_call 21; refine (cloneInts_any _ a' c' R hR2 ?_).mono ?_; exact HI4.out; rintro e w5 ⟨v5, rfl, hO5, hb5⟩; obtain ⟨a7, c7, rfl, hI7⟩ := hO5.val; have hb5' : Below W4.heap.size W4 w5 := ((Below.refl _ W4).drew).trans hb5; have hX5 := hX.keep hb5'; have x50 := hX5.at 0 rfl; have x51 := hX5.at 1 rfl; have hV5 := hV4.keep hb5'; have y50 := hV5.at 0 rfl; have y51 := hV5.at 1 rfl; have y52 := hV5.at 2 rfl; have yf5 := hV5.frz))
    go_wp2
    have HVf := hV5.sets [Value.slice a7 R.length c7, Value.slice a5 (viewK l R).length c5, Value.slice a6 (viewW l R).length c6] rfl
    have hTf := Two.others (w.heap.size + 1) hV2lt [Value.slice a7 R.length c7, Value.slice a5 (viewK l R).length c5, Value.slice a6 (viewW l R).length c6] 0 _ (HT4.out.keep hb5')
    have hOf := OwnI.others (w.heap.size + 1) (by have h1 : w3.heap.size < W4.heap.size := hX.lt; show w.heap.size + 1 < W4.heap.size; omega) [Value.slice a7 R.length c7, Value.slice a5 (viewK l R).length c5, Value.slice a6 (viewW l R).length c6] 0 _ hO5
    have hBf : Below w.heap.size w w5 := HB4.out.trans (hb5'.mono HB4.out.size)
    refine ret_cell_tmp Tryz.results27 rfl rfl (HVf.load Tryz.underlying25 rfl sizeView) ?_
    obtain ⟨e1, e2, e3⟩ := HV.out
    unfold Views
    rw [e1, e2, e3, HZ.out]
    exact ⟨a7, a5, a6, c7, c5, c6, rfl, ⟨hTf.1.reads.2.1, hTf.2.1.reads.2.1⟩, ⟨hTf.1.reads.2.2.mono HB2.out.size, hTf.2.1.reads.2.2.mono HB2.out.size, Or.inr (hOf.fresh.mono HB4.out.size)⟩, hOf.reads, hTf.1.reads.1, hTf.2.1.reads.1, below_sets hBf (w.heap.size + 1) (by omega) [Value.slice a7 R.length c7, Value.slice a5 (viewK l R).length c5, Value.slice a6 (viewW l R).length c6] 0⟩
  · have hz' : (orI (check l) (rootsOk R) != 0) = true := by simpa using hz
    obtain ⟨e1, e2, e3⟩ := Orangery.of_bad (l := l) (R := R) hz
    have HV : Hid (ofR l R = [] ∧ ofK l R = [] ∧ ofW l R = []) := ⟨e1, e2, e3⟩
    have HVf : Hid (Blk (w2.setCells (w.heap.size + 1) 0 [Value.slice none 0 0, Value.slice none 0 0, Value.slice none 0 0]) (w.heap.size + 1) [Value.slice none 0 0, Value.slice none 0 0, Value.slice none 0 0]) := hV2.sets _ rfl
    have y0 := hV2.at 0 rfl
    have y1 := hV2.at 1 rfl
    have y2 := hV2.at 2 rfl
    have yf := hV2.frz
    generalize orI (check l) (rootsOk R) = E at *
    clear hz e1 e2 e3 hT2 hV2
    go_wp2
    refine ret_cell_tmp Tryz.results27 rfl rfl (HVf.out.load Tryz.underlying25 rfl sizeView) ?_
    obtain ⟨e1, e2, e3⟩ := HV.out
    unfold Views
    rw [e1, e2, e3, HE.out]
    exact ⟨none, none, none, 0, 0, 0, rfl, ⟨fun _ => rfl, fun _ => rfl⟩, ⟨Fresh.none, Fresh.none, Or.inr Fresh.none⟩, Or.inl rfl, Or.inl rfl, Or.inl rfl, below_sets HB2.out (w.heap.size + 1) (by omega) [Value.slice none 0 0, Value.slice none 0 0, Value.slice none 0 0] 0⟩
end Go.Proofs.YtkjgoikcibgonacGreat

/- slices.SortFunc at places is the library's, by its own laws. -/
namespace Go.Proofs
open Go.Shelf
def Tryz.sortPl_ren : Go.Shelf.Ren := ⟨fun | 6 => 44 | 15 => 72 | 14 => 71 | 28 => 96 | 29 => 97 | 20 => 88 | 21 => 89 | 22 => 90 | 23 => 91 | 24 => 92 | 25 => 93 | 26 => 94 | 27 => 95 | 46 => 102 | 47 => 103 | 48 => 104 | 49 => 105 | 50 => 106 | 57 => 108 | n => n, fun | 22 => 23 | 24 => 55 | 25 => 90 | 3 => 3 | 39 => 109 | 0 => 0 | 53 => 124 | 55 => 126 | 4 => 4 | 46 => 117 | 45 => 116 | 50 => 121 | 5 => 5 | 9 => 9 | 66 => 131 | 70 => 135 | 76 => 137 | 77 => 138 | n => n, fun | n => n⟩
theorem Tryz.sortPl : Go.Proofs.SlLaysF0.n6 Tryz.prog Tryz.sortPl_ren := {
  mixed := by kernel_rfl
  f6 := ⟨Tryz.f44.name, by decide, Tryz.func44.trans (congrArg some (by kernel_rfl))⟩
  f14 := ⟨Tryz.f71.name, by decide, Tryz.func71.trans (congrArg some (by kernel_rfl))⟩
  f15 := Tryz.func72.trans (congrArg some (by kernel_rfl))
  f20 := ⟨Tryz.f88.name, by decide, Tryz.func88.trans (congrArg some (by kernel_rfl))⟩
  f21 := ⟨Tryz.f89.name, by decide, Tryz.func89.trans (congrArg some (by kernel_rfl))⟩
  f22 := ⟨Tryz.f90.name, by decide, Tryz.func90.trans (congrArg some (by kernel_rfl))⟩
  f23 := ⟨Tryz.f91.name, by decide, Tryz.func91.trans (congrArg some (by kernel_rfl))⟩
  f24 := ⟨Tryz.f92.name, by decide, Tryz.func92.trans (congrArg some (by kernel_rfl))⟩
  f25 := ⟨Tryz.f93.name, by decide, Tryz.func93.trans (congrArg some (by kernel_rfl))⟩
  f26 := ⟨Tryz.f94.name, by decide, Tryz.func94.trans (congrArg some (by kernel_rfl))⟩
  f27 := ⟨Tryz.f95.name, by decide, Tryz.func95.trans (congrArg some (by kernel_rfl))⟩
  f28 := Tryz.func96.trans (congrArg some (by kernel_rfl))
  f29 := Tryz.func97.trans (congrArg some (by kernel_rfl))
  f46 := ⟨Tryz.f102.name, by decide, Tryz.func102.trans (congrArg some (by kernel_rfl))⟩
  f47 := Tryz.func103.trans (congrArg some (by kernel_rfl))
  f48 := Tryz.func104.trans (congrArg some (by kernel_rfl))
  f49 := ⟨Tryz.f105.name, by decide, Tryz.func105.trans (congrArg some (by kernel_rfl))⟩
  f50 := ⟨Tryz.f106.name, by decide, Tryz.func106.trans (congrArg some (by kernel_rfl))⟩
  f57 := ⟨Tryz.f108.name, by decide, Tryz.func108.trans (congrArg some (by kernel_rfl))⟩
  t0 := Tryz.underlying0
  a0 := Tryz.isAgg0
  z0 := Tryz.sizeOf0
  v0 := Tryz.zeroValue0
  t3 := Tryz.underlying3
  a3 := Tryz.isAgg3
  z3 := Tryz.sizeOf3
  v3 := Tryz.zeroValue3
  t4 := Tryz.underlying4
  a4 := Tryz.isAgg4
  z4 := Tryz.sizeOf4
  v4 := Tryz.zeroValue4
  t5 := Tryz.underlying5
  a5 := Tryz.isAgg5
  z5 := Tryz.sizeOf5
  v5 := Tryz.zeroValue5
  t9 := Tryz.underlying9
  a9 := Tryz.isAgg9
  z9 := Tryz.sizeOf9
  v9 := Tryz.zeroValue9
  t22 := Tryz.underlying23
  a22 := Tryz.isAgg23
  z22 := Tryz.sizeOf23
  v22 := Tryz.zeroValue23
  t25 := Tryz.underlying90
  a25 := Tryz.isAgg90
  z25 := Tryz.sizeOf90
  v25 := Tryz.zeroValue90
  t39 := Tryz.underlying109
  a39 := Tryz.isAgg109
  z39 := Tryz.sizeOf109
  v39 := Tryz.zeroValue109
  t45 := Tryz.underlying116
  a45 := Tryz.isAgg116
  z45 := Tryz.sizeOf116
  v45 := Tryz.zeroValue116
  t46 := Tryz.underlying117
  a46 := Tryz.isAgg117
  z46 := Tryz.sizeOf117
  v46 := Tryz.zeroValue117
  t50 := Tryz.underlying121
  a50 := Tryz.isAgg121
  z50 := Tryz.sizeOf121
  v50 := Tryz.zeroValue121
  t53 := Tryz.underlying124
  a53 := Tryz.isAgg124
  z53 := Tryz.sizeOf124
  v53 := Tryz.zeroValue124
  t55 := Tryz.underlying126
  a55 := Tryz.isAgg126
  z55 := Tryz.sizeOf126
  v55 := Tryz.zeroValue126
  t66 := Tryz.underlying131
  a66 := Tryz.isAgg131
  z66 := Tryz.sizeOf131
  v66 := Tryz.zeroValue131
  t70 := Tryz.underlying135
  a70 := Tryz.isAgg135
  z70 := Tryz.sizeOf135
  v70 := Tryz.zeroValue135
  t76 := Tryz.underlying137
  a76 := Tryz.isAgg137
  z76 := Tryz.sizeOf137
  v76 := Tryz.zeroValue137
  t77 := Tryz.underlying138
  a77 := Tryz.isAgg138
  z77 := Tryz.sizeOf138
  v77 := Tryz.zeroValue138 }
end Go.Proofs

