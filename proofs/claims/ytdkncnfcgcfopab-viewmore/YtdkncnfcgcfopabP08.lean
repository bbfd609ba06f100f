/- 8 texts of the proof: slices.Index, slices.Contains, slices.ContainsFunc at places. Plain facts for ViewAgain and ViewMore. orangerylaw.at: a number brought within bounds. orangerylaw.ViewMore: the walk. A tree that came in as an argument: which places it holds. Operations and steps that came in as arguments. Slices of operations and histories that came in as arguments, and what they weigh. Ints, places with the room b -/
import Derived.Deep.Slices
import Derived.Deep.Strs
import Derived.ChangeOld
import Derived.SizedLaws
import Derived.Test.YtdkncnfcgcfopabP03
import Derived.Test.YtdkncnfcgcfopabP06
import Derived.Test.YtdkncnfcgcfopabP02
import Derived.Test.YtdkncnfcgcfopabP04
import Derived.Test.YtdkncnfcgcfopabP01
import Derived.Test.YtdkncnfcgcfopabP07
import Derived.Test.YtdkncnfcgcfopabP05
/- slices.Index, slices.Contains, slices.ContainsFunc at places. -/
namespace Go.Proofs.Ytdkncnfcgcfopab
open Go.ChangeShapes Go.WideShapes Go.ChangeAt Go.RowKit
open Orangery (Pl idxF)

def hasP (p : Pl) (l : List Pl) : Bool := decide (p ∈ l)

set_option maxHeartbeats 1000000 in
theorem indexPls_any (w : World) (a : Option Addr) (c : Nat) (l : List Pl) (p : Pl) (hl : l.length ≤ maxLen) (h : SlP w a l) :
    Calls Try.prog 66 #[.slice a l.length c, plV p] w
      fun e w' => (∃ i : Int, e = .returned (.int .i64 i) ∧ (p ∈ l → 0 ≤ i) ∧ (p ∉ l → i = -1)) ∧ Below w.heap.size w w' := by
  have hl' : l.length ≤ 9223372036854775807 := hl
  obtain ⟨p0, p1, p2⟩ := p
  obtain ⟨W0, hW, hN, hB, hS⟩ := laid1 w [Value.int IntKind.i64 p0, Value.int IntKind.i64 p1, Value.int IntKind.i64 p2] 45
  have HP : Hid (SlP W0 a l) := h.below hB
  have HB : Hid (Below w.heap.size w W0) := hB
  have heq := run_eql_pl
  have hgd := guard_pl
  have m0 := hN.at 0 rfl
  have m1 := hN.at 1 rfl
  have m2 := hN.at 2 rfl
  clear hN hB hS h
  go_enter Try.func66, Try.ntmps66
  go_wp2
  clear hW
  go_loopw [8] (fun i W => ∃ k n : Nat, k ≤ l.length ∧ i = .int .i64 k ∧ W = W0.drewN n ∧ (∀ j, (hj : j < l.length) → j < k → (p0, p1, p2) ≠ l[j])) (fun i _ => l.length - (intOf i).toNat)
  case atStart => exact ⟨0, 0, Nat.zero_le _, rfl, rfl, fun j _ hj => absurd hj (Nat.not_lt_zero _)⟩
  case round =>
    obtain ⟨k, n, hk, rfl, rfl, hno⟩ := hrel
    have HNO : Hid (∀ j, (hj : j < l.length) → j < k → (p0, p1, p2) ≠ l[j]) := hno
    clear hno
    by_cases hlt : k < l.length
    · have hPP := HP.out
      rcases hPP with hPP | ⟨b, off, rfl, hbl, hp⟩
      · exact absurd hlt (by simp [hPP])
      obtain ⟨g0, g1, g2⟩ := hp k hlt
      have HM : Hid (l[k] ∈ l) := List.getElem_mem hlt
      have HKE : Hid (∀ j, (hj : j < l.length) → j = k → l[j] = l[k]) := fun j hj e => by subst e; rfl
      clear hp
      generalize l[k] = q at *
      obtain ⟨q0, q1, q2⟩ := q
      simp only at g0 g1 g2
      go_wp2
      go_quiet (fail)
      cases hq : eqPl (p0, p1, p2) (q0, q1, q2)
      · have HQ : Hid ((p0, p1, p2) ≠ (q0, q1, q2)) := by show _ ≠ _; simpa [eqPl] using hq
        go_wp2
        go_roundw
        case rel =>
          refine ⟨k + 1, _, by omega, by go_num, rfl, fun j hj hjk => ?_⟩
          by_cases hjk' : j < k
          · exact HNO.out j hj hjk'
          · rw [HKE.out j hj (by omega)]; exact HQ.out
        case measure => simp [intOf]; omega
      · have HQ : Hid ((p0, p1, p2) = (q0, q1, q2)) := by show _ = _; simpa [eqPl] using hq
        go_wp2
        go_ret
        refine ⟨⟨k, rfl, fun _ => by omega, fun hn => ?_⟩, HB.out.trans ⟨rfl, rfl, rfl, Nat.le_refl _, fun _ _ => rfl⟩⟩
        rw [HQ.out] at hn
        exact absurd HM.out hn
    · go_wp2
      go_ret
      refine ⟨⟨-1, rfl, fun hm => ?_, fun _ => rfl⟩, HB.out.trans ⟨rfl, rfl, rfl, Nat.le_refl _, fun _ _ => rfl⟩⟩
      obtain ⟨j, hj, e⟩ := List.getElem_of_mem hm
      exact absurd e.symm (HNO.out j hj (by omega))

set_option maxHeartbeats 1000000 in
theorem containsPls_any (w : World) (a : Option Addr) (c : Nat) (l : List Pl) (p : Pl) (hl : l.length ≤ maxLen) (h : SlP w a l) :
    Calls Try.prog 35 #[.slice a l.length c, plV p] w fun e w' => e = .returned (.bool (hasP p l)) ∧ Below w.heap.size w w' := by
  obtain ⟨W0, hW, hN, hB, hS⟩ := laid1 w [Value.int IntKind.i64 p.1, Value.int IntKind.i64 p.2.1, Value.int IntKind.i64 p.2.2] 45
  have m0 := hN.at 0 rfl
  have m1 := hN.at 1 rfl
  have m2 := hN.at 2 rfl
  have HB : Hid (Below w.heap.size w W0) := hB
  have hP := h.below hB
  clear hN hB hS h
  go_enter Try.func35, Try.ntmps35
  go_wp2_with fail
  refine (indexPls_any W0 a c l p hl hP).mono ?_
  rintro e w1 ⟨⟨i, rfl, hi, hi2⟩, hb⟩
  have HB1 : Hid (Below w.heap.size w w1) := HB.out.trans (hb.mono HB.out.size)
  by_cases hm : p ∈ l
  · have h0 := hi hm
    have HH : Hid (hasP p l = true) := by show _ = _; simpa [hasP] using hm
    clear hi hi2 hb hm
    go_wp2
    go_ret
    exact ⟨ret_bool HH.out.symm, HB1.out⟩
  · have h0 := hi2 hm
    have HH : Hid (hasP p l = false) := by show _ = _; simpa [hasP] using hm
    subst h0
    clear hi hi2 hb hm
    go_wp2
    go_ret
    exact ⟨ret_bool HH.out.symm, HB1.out⟩

theorem containsFuncP_any (w : World) (a : Option Addr) (c : Nat) (l : List Pl) (g : Nat) (v : Value) (f : Pl → Bool) (hl : l.length ≤ maxLen) (h : SlP w a l)
    (eg : ∀ args w, (callFunc g args).run Try.prog w = .ok (.enter g args) w)
    (hg : ∀ W p, Below w.heap.size w W → Calls Try.prog g #[plV p, v] W fun e w' => e = .returned (.bool (f p)) ∧ Below W.heap.size W w') :
    Calls Try.prog 32 #[.slice a l.length c, .func (.func g) #[] #[v]] w
      fun e w' => e = .returned (.bool (l.any f)) ∧ Below w.heap.size w w' := by
  go_enter Try.func32, Try.ntmps32
  go_wp2_with fail
  refine (indexFunc_any w a c l g v f hl h eg hg).mono ?_
  rintro e w1 ⟨rfl, hb1⟩
  rcases Orangery.idxF_any f l 0 with ⟨h1, h2⟩ | ⟨h1, h2⟩
  · rw [h1]
    have HA : Hid (l.any f = false) := h2
    clear h1 h2
    go_wp2
    go_ret
    exact ⟨ret_bool HA.out.symm, hb1⟩
  · have d : decide (idxF f 0 l ≥ 0) = true := by simp; omega
    have HA : Hid (l.any f = true) := h2
    clear h1 h2
    go_wp2
    go_ret
    exact ⟨ret_bool HA.out.symm, hb1⟩
end Go.Proofs.Ytdkncnfcgcfopab

/- Plain facts for ViewAgain and ViewMore. -/
namespace Orangery

theorem rootsE_take (l : List Int) : ∀ a k, rootsE a l = 0 → rootsE a (l.take k) = 0 := by
  induction l with
  | nil => intro a k h; simpa using h
  | cons n l ih =>
    intro a k h
    cases k with
    | zero => rfl
    | succ k =>
      rw [List.take_succ_cons]
      unfold rootsE at h ⊢
      split at h
      · omega
      · split at h
        · omega
        · rename_i h1 h2
          rw [if_neg h1, if_neg h2]
          exact ih n k h
theorem rootsOk_take {l : List Int} (h : rootsOk l = 0) (k : Nat) : rootsOk (l.take k) = 0 := by
  have hl := rootsOk_len h
  unfold rootsOk at h ⊢
  rw [if_neg (by omega)] at h
  rw [if_neg (by simp; omega)]
  exact rootsE_take l _ k h
theorem ofE_take {l : List Pl} {R : List Int} (h : ofE l R = 0) (k : Nat) : ofE l (R.take k) = 0 := by
  obtain ⟨h1, h2⟩ := ofE_zero h
  unfold ofE orI
  rw [if_neg (by simp [h1])]
  exact rootsOk_take h2 k
theorem more_K (l : List Pl) (R : List Int) (k : Nat) (p : Pl) (hp : p ∈ viewK l (R.take k)) : p ∈ viewK l R := by
  obtain ⟨h1, h2⟩ := List.mem_filter.1 hp
  exact List.mem_filter.2 ⟨h1, view_more l _ _ (fun r hr => List.mem_of_mem_take hr) _ h2⟩
theorem more_W (l : List Pl) (R : List Int) (k : Nat) (p : Pl) (hp : p ∈ viewW l (R.take k)) : p ∉ viewK l R → p ∈ viewW l R := by
  obtain ⟨h1, h2⟩ := List.mem_filter.1 hp
  intro hn
  refine List.mem_filter.2 ⟨h1, ?_⟩
  have hk : knB l R p.1 = false := by
    cases hq : knB l R p.1
    · rfl
    · exact absurd (List.mem_filter.2 ⟨h1, hq⟩) hn
  have h3 : wyB l (R.take k) p.1 = true := h2
  rw [wy_ab] at h3 ⊢
  rw [hk]
  simp only [Bool.not_false, Bool.true_and]
  have h4 : abB l (R.take k) p.1 = true := by
    cases hq : abB l (R.take k) p.1
    · rw [hq] at h3; simp at h3
    · rfl
  unfold abB at h4 ⊢
  rw [List.any_eq_true] at h4 ⊢
  obtain ⟨r, hr, hu⟩ := h4
  exact ⟨r, List.mem_of_mem_take hr, hu⟩

/-- both parts of a view, sorted -/
theorem again_both (l : List Pl) (R : List Int) (h : check l = 0) (l' : List Pl) (hp : l'.Perm (viewK l R ++ viewW l R)) (hs : l'.Pairwise fun p q => p.1 ≤ q.1) : l' = viewA l R := by
  have hb : byNode (viewA l R) := ((check_iff l).1 h).2.1.filter _
  exact sorted_unique l' (viewA l R) hb (hp.trans (view_perm l R)) hs
theorem again_of (l : List Pl) (R : List Int) (h : ofE l R = 0) : ofE (viewA l R) R = 0 ∧ ofR (viewA l R) R = R ∧ ofK (viewA l R) R = viewK l R ∧ ofW (viewA l R) R = viewW l R := by
  obtain ⟨h1, h2⟩ := ofE_zero h
  obtain ⟨g1, g2, g3⟩ := view_again l R h1 (rootsOk_node h2)
  have e : ofE (viewA l R) R = 0 := by unfold ofE orI; rw [if_neg (by simp [g1])]; exact h2
  obtain ⟨k1, k2, k3⟩ := of_ok e
  exact ⟨e, k1, by rw [k2, g2], by rw [k3, g3]⟩
theorem again_find (l : List Pl) (R : List Int) (h : check l = 0) (p : Pl) (hp : p ∈ viewA l R) : find l p.1 = p :=
  (mem_node l h p (List.mem_filter.1 hp).1).2.2.1
theorem again_next (l : List Pl) (R : List Int) (h : check l = 0) (i j : Nat) (hi : i < (viewA l R).length) (hj : j < (viewA l R).length) (hij : i < j) : (viewA l R)[i].1 < (viewA l R)[j].1 := by
  have hb : byNode (viewA l R) := ((check_iff l).1 h).2.1.filter _
  exact List.pairwise_iff_getElem.1 hb i j hi hj hij
theorem again_kids (l : List Pl) (R : List Int) (h : check l = 0) (hr : ∀ r ∈ R, isNodeB r = true) (p : Pl) (hp : p ∈ l) (hu : (viewK l R).any (fun q => q.1 == p.2.1) = true ∨ hasB p.2.1 R = true) : p ∈ viewK l R := by
  have hk : knB l R p.2.1 = true := by
    rcases hu with hu | hu
    · rw [List.any_eq_true] at hu
      obtain ⟨q, hq, e⟩ := hu
      have e' : q.1 = p.2.1 := by simpa using e
      rw [← e']
      exact (List.mem_filter.1 hq).2
    · have hm : p.2.1 ∈ R := by simpa [hasB] using hu
      exact root_known l R h _ (hr _ hm) hm
  exact List.mem_filter.2 ⟨hp, view_kids l R h hr p hp hk⟩
end Orangery

/- orangerylaw.at: a number brought within bounds. -/
namespace Go.Proofs.Ytdkncnfcgcfopab
open Go.ChangeShapes Go.WideShapes Go.ChangeAt Go.RowKit
open Orangery (atI)

set_option maxHeartbeats 400000 in
theorem at_any (w : World) (k n : Int) (hn : 0 < n) (hn2 : n ≤ 4611686018427387904) :
    Calls Try.prog 11 #[.int .i64 k, .int .i64 n] w fun e w' => e = .returned (.int .i64 (atI k n)) ∧ w' = w := by
  obtain ⟨⟨h1, h2⟩, hat⟩ := Orangery.tmod_at k n hn
  have HA : Hid (atI k n = if k.tmod n < 0 then k.tmod n + n else k.tmod n) := hat
  have hnz : (n == 0) = false := by simp; omega
  clear hat
  by_cases hneg : k.tmod n < 0
  · go_enter Try.func11, Try.ntmps11
    go_wp2
    go_ret
    exact ⟨ret_int (by rw [HA.out, if_pos hneg]), rfl⟩
  · go_enter Try.func11, Try.ntmps11
    go_wp2
    go_ret
    exact ⟨ret_int (by rw [HA.out, if_neg (by omega)]), rfl⟩

end Go.Proofs.Ytdkncnfcgcfopab

/- orangerylaw.ViewMore: the walk. -/
namespace Go.Proofs.Ytdkncnfcgcfopab
open Go.ChangeShapes Go.WideShapes Go.ChangeAt Go.RowKit
open Orangery (Pl rootsOk ofE ofR ofK ofW viewK viewW atI)

theorem hasP_yes {p : Pl} {l : List Pl} (h : p ∈ l) : hasP p l = true := by simpa [hasP] using h

set_option maxHeartbeats 4000000 in
set_option maxRecDepth 100000 in
theorem viewMore_any (w : World) (a : Option Addr) (c : Nat) (l : List Pl) (a' : Option Addr) (c' : Nat) (R : List Int) (x : Int)
    (hl : l.length ≤ maxLen) (h : SlP w a l) (hR : R.length ≤ maxLen) (hc : R.length ≤ c' ∧ c' ≤ maxLen) (h' : SlI w a' R) :
    Calls Try.prog 8 #[.agg #[.slice a l.length c], .slice a' R.length c', .int .i64 x] w
      fun e w' => e = .returned (.bool true) ∧ Below w.heap.size w w' := by
  obtain ⟨W0, hW, BT, hb0, hS0⟩ := laid1 w [Value.slice a l.length c] 26
  have HB0 : Hid (Below w.heap.size w W0) := hb0
  have PT0 := h.below hb0
  have PI0 := h'.below hb0
  have t0 := BT.at 0 rfl
  clear h h' hb0 hS0
  go_enter Try.func8, Try.ntmps8
  go_wp2_with fail
  clear hW t0
  refine (of_any W0 a a' c c' l R hl hR PT0 PI0).mono ?_
  rintro e w1 ⟨fR, fK, fV, gR, gK, gV, rfl, _, _, q1, q2, q3, hb⟩
  obtain ⟨WX, hWX, BX, hbx, hSX⟩ := laid1 w1 [Value.slice fR (ofR l R).length gR, Value.slice fK (ofK l R).length gK, Value.slice fV (ofW l R).length gV] 55
  have hbX : Below W0.heap.size W0 WX := hb.trans (hbx.mono hb.size)
  have BT1 := BT.keep hbX
  have PT1 := PT0.below hbX
  have PI1 := PI0.below hbX
  have QK := q2.below hbx
  have QV := q3.below hbx
  have HBX : Hid (Below w.heap.size w WX) := HB0.out.trans (hbX.mono HB0.out.size)
  clear BT PT0 PI0 q1 q2 q3 hb hbx hbX HB0 hSX
  go_wp2_with fail
  clear hWX
  refine (seen_any WX).mono ?_
  rintro e w2 ⟨rfl, hb⟩
  have BT2 := BT1.keep hb
  have BX2 := BX.keep hb
  have PT2 := PT1.below hb
  have PI2 := PI1.below hb
  have QK2 := QK.below hb
  have QV2 := QV.below hb
  have HB2 : Hid (Below w.heap.size w w2) := HBX.out.trans (hb.mono HBX.out.size)
  clear BT1 BX PT1 PI1 QK QV hb HBX
  by_cases hz : ofE l R = 0
  · obtain ⟨e1, e2, e3⟩ := Orangery.of_ok hz
    rw [e2] at BX2 QK2
    rw [e3] at BX2 QV2
    rw [hz]
    obtain ⟨j, hj⟩ : ∃ j : Nat, atI x ((R.length : Int) + 1) = (j : Int) ∧ j ≤ R.length := by
      have h1 : 0 ≤ atI x ((R.length : Int) + 1) := by unfold atI; exact Int.emod_nonneg _ (by omega)
      have h2 : atI x ((R.length : Int) + 1) < (R.length : Int) + 1 := by unfold atI; exact Int.emod_lt_of_pos _ (by omega)
      exact ⟨(atI x ((R.length : Int) + 1)).toNat, by omega, by omega⟩
    obtain ⟨hj, hjl⟩ := hj
    have hz2 := Orangery.ofE_take hz j
    obtain ⟨k1, k2, k3⟩ := Orangery.of_ok hz2
    have hRl : R.length ≤ 4 := Orangery.rootsOk_len (Orangery.ofE_zero hz).2
    have htl : (R.take j).length = j := by simp; omega
    have hwr : IntKind.i64.wrap ((R.length : Int) + 1) = (R.length : Int) + 1 := by simp [IntKind.wrap, IntKind.signed, IntKind.bits]; omega
    have CALL1 : Hid (∀ W, Calls Try.prog 11 #[.int .i64 x, .int .i64 ((R.length : Int) + 1)] W fun e w' => e = .returned (.int .i64 (j : Int)) ∧ w' = W) := by
      intro W
      have := at_any W x ((R.length : Int) + 1) (by omega) (by omega)
      rw [hj] at this
      exact this
    have CALL2 : Hid (∀ w', Below w2.heap.size w2 w' → Calls Try.prog 20 #[.agg #[.slice a l.length c], .slice a' j c'] w' (Views w' a' (R.take j) (viewK l (R.take j)) (viewW l (R.take j)) 0)) := by
      intro w' hb'
      have := of_any w' a a' c c' l (R.take j) hl (by rw [htl]; unfold maxLen; omega) (PT2.below hb') ((PI2.below hb').take j)
      rw [hz2, k1, k2, k3, htl] at this
      exact this
    have HMK : Hid (∀ p ∈ viewK l (R.take j), p ∈ viewK l R) := fun p hp => Orangery.more_K l R j p hp
    have HMW : Hid (∀ p ∈ viewW l (R.take j), p ∉ viewK l R → p ∈ viewW l R) := fun p hp => Orangery.more_W l R j p hp
    have hll := Orangery.check_len l (Orangery.ofE_zero hz).1
    have hK0 : (viewK l R).length ≤ 15 := Nat.le_trans (List.length_filter_le _ _) hll
    have hV0 : (viewW l R).length ≤ 15 := Nat.le_trans (List.length_filter_le _ _) hll
    have hK1 : (viewK l (R.take j)).length ≤ 15 := Nat.le_trans (List.length_filter_le _ _) hll
    have hV1 : (viewW l (R.take j)).length ≤ 15 := Nat.le_trans (List.length_filter_le _ _) hll
    generalize viewK l (R.take j) = K1 at *
    generalize viewW l (R.take j) = V1 at *
    generalize viewK l R = K0 at *
    generalize viewW l R = V0 at *
    generalize R.take j = R1 at *
    obtain ⟨hc1, hc2⟩ := hc
    have hc2' : c' ≤ 9223372036854775807 := hc2
    have j1 : (0 : Int) ≤ (j : Int) := by omega
    have j2 : (j : Int) ≤ (c' : Int) := by omega
    have j3 : (j : Int) ≤ (R.length : Int) := by omega
    clear hz hz2 e1 e2 e3 k1 k2 k3 htl hj
    rename World => WX
    go_upto_region 4 with fail
    go_cut [9, 8] from 27 to 73 (fun r e4 wc => ∃ bs bR bK bV dR dK dV, r = .pointer (some ⟨bs, 0, none⟩) ∧ e4 = .int .i64 0 ∧ Blk wc bs [.slice bR R1.length dR, .slice bK K1.length dK, .slice bV V1.length dV] ∧ SlP wc bK K1 ∧ SlP wc bV V1 ∧ Below WX.heap.size WX wc)
    case first =>
      refine wp_region_held_drew (S := fun w' => Below WX.heap.size WX w') (by kernel_rfl) ((Below.refl _ WX).drew) (fun hHeld => ?_)
      refine take_load 0 28 26 w.heap.size [Value.slice a l.length c] rfl rfl (by kernel_rfl) (by kernel_rfl) (by kernel_rfl) (fun _ _ _ h => h) (by rfl) (by rfl) (by rfl) (fun w hw => (BT2.keep hw).range) Try.underlying26 rfl sizeTree hHeld ?_
      simp only [Act.put, List.setIfInBounds_toArray, List.set_cons_succ, List.set_cons_zero]
      refine take_yes 1 29 (v := ?_) rfl rfl (by kernel_rfl) (by kernel_rfl) (by kernel_rfl) (fun _ _ _ h => h) (by rfl) ?_ hHeld ?_
      rotate_left 1
      · (intro w hSw; go_simp; try with_reducible rfl)
      simp only [Act.put, List.setIfInBounds_toArray, List.set_cons_succ, List.set_cons_zero]
      refine take_yes 2 30 (v := ?_) rfl rfl (by kernel_rfl) (by kernel_rfl) (by kernel_rfl) (fun _ _ _ h => h) (by rfl) ?_ hHeld ?_
      rotate_left 1
      · (intro w hSw; go_simp; try with_reducible rfl)
      simp only [Act.put, List.setIfInBounds_toArray, List.set_cons_succ, List.set_cons_zero]
      refine take_yes 3 31 (v := ?_) rfl rfl (by kernel_rfl) (by kernel_rfl) (by kernel_rfl) (fun _ _ _ h => h) (by rfl) ?_ hHeld ?_
      rotate_left 1
      · (intro w hSw; go_simp; try with_reducible rfl)
      simp only [Act.put, List.setIfInBounds_toArray, List.set_cons_succ, List.set_cons_zero]
      refine take_yes 4 32 (v := ?_) rfl rfl (by kernel_rfl) (by kernel_rfl) (by kernel_rfl) (fun _ _ _ h => h) (by rfl) ?_ hHeld ?_
      rotate_left 1
      · (intro w hSw; go_simp; try with_reducible rfl)
      simp only [Act.put, List.setIfInBounds_toArray, List.set_cons_succ, List.set_cons_zero]
      refine take_yes 5 33 (v := ?_) rfl rfl (by kernel_rfl) (by kernel_rfl) (by kernel_rfl) (fun _ _ _ h => h) (by rfl) ?_ hHeld ?_
      rotate_left 1
      · (intro w hSw; go_simp; try with_reducible rfl)
      simp only [Act.put, List.setIfInBounds_toArray, List.set_cons_succ, List.set_cons_zero]
      refine wpAnyH_ready (rs := [6, 12]) (by kernel_rfl) (by simp) ?_
      refine AllReadyH.cons rfl (fun K hK => ?_) (AllReadyH.cons rfl (fun K hK => ?_) AllReadyH.nil)
      · skip
        go_simp
        refine (CALL1.out _).mono ?_
        rintro e _ ⟨rfl, rfl⟩
        go_wp2_with fail
        refine hK.out _ _ hHeld (fun hHeld => ?_)
        clear hK K
        refine take_yes 7 35 (v := ?_) rfl rfl (by kernel_rfl) (by kernel_rfl) (by kernel_rfl) (fun _ _ _ h => h) (by rfl) ?_ hHeld ?_
        rotate_left 1
        · (intro w hSw; go_simp; try with_reducible rfl)
        simp only [Act.put, List.setIfInBounds_toArray, List.set_cons_succ, List.set_cons_zero]
        refine wpAnyH_ready (rs := [8, 12]) (by kernel_rfl) (by simp) ?_
        refine AllReadyH.cons rfl (fun K hK => ?_) (AllReadyH.cons rfl (fun K hK => ?_) AllReadyH.nil)
        · skip
          go_simp
          refine (CALL2.out _ hHeld).mono ?_
          rintro e w7 ⟨bR, bK, bV, dR, dK, dV, rfl, ⟨z1, z2⟩, ⟨f1, f2, f3⟩, hI7, hK7, hV7, hb7⟩
          have hS7 : Below WX.heap.size WX w7 := hHeld.trans (hb7.mono hHeld.size)
          have hsz7 := hb7.size
          have hgt7 : WX.heap.size ≤ w7.heap.size := hS7.size
          go_wp2_with fail
          refine hK.out _ _ hS7 (fun hHeld => ?_)
          clear hK K
          refine take_yes 9 27 (v := ?_) rfl rfl (by kernel_rfl) (by kernel_rfl) (by kernel_rfl) (fun _ _ _ h => h) (by rfl) ?_ hHeld ?_
          rotate_left 1
          · (intro w hSw; go_simp; try with_reducible rfl)
          simp only [Act.put, List.setIfInBounds_toArray, List.set_cons_succ, List.set_cons_zero]
          refine take_yes 10 37 (v := ?_) rfl rfl (by kernel_rfl) (by kernel_rfl) (by kernel_rfl) (fun _ _ _ h => h) (by rfl) ?_ hHeld ?_
          rotate_left 1
          · (intro w hSw; go_simp; try with_reducible rfl)
          simp only [Act.put, List.setIfInBounds_toArray, List.set_cons_succ, List.set_cons_zero]
          refine take_yes 11 38 (v := ?_) rfl rfl (by kernel_rfl) (by kernel_rfl) (by kernel_rfl) (fun _ _ _ h => h) (by rfl) ?_ hHeld ?_
          rotate_left 1
          · (intro w hSw; go_simp; try with_reducible rfl)
          simp only [Act.put, List.setIfInBounds_toArray, List.set_cons_succ, List.set_cons_zero]
          refine wpAnyH_ready (rs := [12]) (by kernel_rfl) (by simp) ?_
          refine AllReadyH.cons rfl (fun K hK => ?_) AllReadyH.nil
          go_simp
          have hN := (Blk.new w7 [Value.slice none 0 0, Value.slice none 0 0, Value.slice none 0 0] 55)
          refine hK.out _ _ (hHeld.alloc hHeld.size _) (fun hHeld => ?_)
          clear hK K
          refine step_store 13 55 w7.heap.size [Value.slice bR R1.length dR, Value.slice bK K1.length dK, Value.slice bV V1.length dV] (by kernel_rfl) rfl rfl (by rfl) (by rfl) (by rfl) (by rfl) hN.there sizeView ?_ ?_ ?_
          · intro v hv; simp at hv; rcases hv with rfl | rfl | rfl <;> rfl
          · exact below_sets hHeld w7.heap.size (by omega) [Value.slice bR R1.length dR, Value.slice bK K1.length dK, Value.slice bV V1.length dV] 0
          have hHeld := below_sets hHeld w7.heap.size (by omega) [Value.slice bR R1.length dR, Value.slice bK K1.length dK, Value.slice bV V1.length dV] 0
          refine take_yes 14 8 (v := ?_) rfl rfl (by kernel_rfl) (by kernel_rfl) (by kernel_rfl) (fun _ _ _ h => h) (by rfl) ?_ hHeld ?_
          rotate_left 1
          · (intro w hSw; go_simp; try with_reducible rfl)
          simp only [Act.put, List.setIfInBounds_toArray, List.set_cons_succ, List.set_cons_zero]
          refine wpAnyH_done (by kernel_rfl) ?_ _
          have HHeld : Hid (Below WX.heap.size WX ((w7.alloc (Obj.cells #[Value.slice none 0 0, Value.slice none 0 0, Value.slice none 0 0] 55)).setCells w7.heap.size 0 [Value.slice bR R1.length dR, Value.slice bK K1.length dK, Value.slice bV V1.length dV])) := hHeld
          clear hHeld
          go_wp2
          go_meet
          case rel =>
            have hbw := below_sets (Go.Joins.below_alloc1 w7 (Obj.cells #[Value.slice none 0 0, Value.slice none 0 0, Value.slice none 0 0] 55)) w7.heap.size (Nat.le_refl _) [Value.slice bR R1.length dR, Value.slice bK K1.length dK, Value.slice bV V1.length dV] 0
            exact ⟨_, bR, bK, bV, dR, dK, dV, rfl, rfl, hN.sets [Value.slice bR R1.length dR, Value.slice bK K1.length dK, Value.slice bV V1.length dV] rfl, hK7.below hbw, hV7.below hbw, HHeld.out⟩
        · skip
          go_simp
          have hN := (Blk.new WX [Value.slice none 0 0, Value.slice none 0 0, Value.slice none 0 0] 55).drew
          refine hK.out _ _ (hHeld.alloc hHeld.size _) (fun hHeld => ?_)
          clear hK K
          refine wpAnyH_ready (rs := [8]) (by kernel_rfl) (by simp) ?_
          refine AllReadyH.cons rfl (fun K hK => ?_) AllReadyH.nil
          go_simp
          refine (CALL2.out _ hHeld).mono ?_
          rintro e w7 ⟨bR, bK, bV, dR, dK, dV, rfl, ⟨z1, z2⟩, ⟨f1, f2, f3⟩, hI7, hK7, hV7, hb7⟩
          have hS7 : Below WX.heap.size WX w7 := hHeld.trans (hb7.mono hHeld.size)
          have hN7 := hN.keep hb7
          have hsz7 := hb7.size
          have hgt7 : WX.heap.size ≤ w7.heap.size := hS7.size
          go_wp2_with fail
          refine hK.out _ _ hS7 (fun hHeld => ?_)
          clear hK K
          refine take_yes 9 27 (v := ?_) rfl rfl (by kernel_rfl) (by kernel_rfl) (by kernel_rfl) (fun _ _ _ h => h) (by rfl) ?_ hHeld ?_
          rotate_left 1
          · (intro w hSw; go_simp; try with_reducible rfl)
          simp only [Act.put, List.setIfInBounds_toArray, List.set_cons_succ, List.set_cons_zero]
          refine take_yes 10 37 (v := ?_) rfl rfl (by kernel_rfl) (by kernel_rfl) (by kernel_rfl) (fun _ _ _ h => h) (by rfl) ?_ hHeld ?_
          rotate_left 1
          · (intro w hSw; go_simp; try with_reducible rfl)
          simp only [Act.put, List.setIfInBounds_toArray, List.set_cons_succ, List.set_cons_zero]
          refine take_yes 11 38 (v := ?_) rfl rfl (by kernel_rfl) (by kernel_rfl) (by kernel_rfl) (fun _ _ _ h => h) (by rfl) ?_ hHeld ?_
          rotate_left 1
          · (intro w hSw; go_simp; try with_reducible rfl)
          simp only [Act.put, List.setIfInBounds_toArray, List.set_cons_succ, List.set_cons_zero]
          have hlt7 : WX.heap.size < w7.heap.size := hN7.lt
          refine step_store 13 55 WX.heap.size [Value.slice bR R1.length dR, Value.slice bK K1.length dK, Value.slice bV V1.length dV] (by kernel_rfl) rfl rfl (by rfl) (by rfl) (by rfl) (by rfl) hN7.there sizeView ?_ ?_ ?_
          · intro v hv; simp at hv; rcases hv with rfl | rfl | rfl <;> rfl
          · exact below_sets hHeld WX.heap.size (by omega) [Value.slice bR R1.length dR, Value.slice bK K1.length dK, Value.slice bV V1.length dV] 0
          have hHeld := below_sets hHeld WX.heap.size (by omega) [Value.slice bR R1.length dR, Value.slice bK K1.length dK, Value.slice bV V1.length dV] 0
          refine take_yes 14 8 (v := ?_) rfl rfl (by kernel_rfl) (by kernel_rfl) (by kernel_rfl) (fun _ _ _ h => h) (by rfl) ?_ hHeld ?_
          rotate_left 1
          · (intro w hSw; go_simp; try with_reducible rfl)
          simp only [Act.put, List.setIfInBounds_toArray, List.set_cons_succ, List.set_cons_zero]
          refine wpAnyH_done (by kernel_rfl) ?_ _
          have HHeld : Hid (Below WX.heap.size WX (w7.setCells WX.heap.size 0 [Value.slice bR R1.length dR, Value.slice bK K1.length dK, Value.slice bV V1.length dV])) := hHeld
          clear hHeld
          go_wp2
          go_meet
          case rel =>
            exact ⟨_, bR, bK, bV, dR, dK, dV, rfl, rfl, hN7.sets [Value.slice bR R1.length dR, Value.slice bK K1.length dK, Value.slice bV V1.length dV] rfl, SlP.apart hK7 f1 (by first | omega | (simp; try omega)) _ _, SlP.apart hV7 f2 (by first | omega | (simp; try omega)) _ _, HHeld.out⟩
      · skip
        go_simp
        have hN := (Blk.new WX [Value.slice none 0 0, Value.slice none 0 0, Value.slice none 0 0] 55).drew
        refine hK.out _ _ (hHeld.alloc hHeld.size _) (fun hHeld => ?_)
        clear hK K
        refine wpAnyH_ready (rs := [6]) (by kernel_rfl) (by simp) ?_
        refine AllReadyH.cons rfl (fun K hK => ?_) AllReadyH.nil
        go_simp
        refine (CALL1.out _).mono ?_
        rintro e _ ⟨rfl, rfl⟩
        go_wp2_with fail
        refine hK.out _ _ hHeld (fun hHeld => ?_)
        clear hK K
        refine take_yes 7 35 (v := ?_) rfl rfl (by kernel_rfl) (by kernel_rfl) (by kernel_rfl) (fun _ _ _ h => h) (by rfl) ?_ hHeld ?_
        rotate_left 1
        · (intro w hSw; go_simp; try with_reducible rfl)
        simp only [Act.put, List.setIfInBounds_toArray, List.set_cons_succ, List.set_cons_zero]
        refine wpAnyH_ready (rs := [8]) (by kernel_rfl) (by simp) ?_
        refine AllReadyH.cons rfl (fun K hK => ?_) AllReadyH.nil
        go_simp
        refine (CALL2.out _ hHeld).mono ?_
        rintro e w7 ⟨bR, bK, bV, dR, dK, dV, rfl, ⟨z1, z2⟩, ⟨f1, f2, f3⟩, hI7, hK7, hV7, hb7⟩
        have hS7 : Below WX.heap.size WX w7 := hHeld.trans (hb7.mono hHeld.size)
        have hN7 := hN.keep hb7
        have hsz7 := hb7.size
        have hgt7 : WX.heap.size ≤ w7.heap.size := hS7.size
        go_wp2_with fail
        refine hK.out _ _ hS7 (fun hHeld => ?_)
        clear hK K
        refine take_yes 9 27 (v := ?_) rfl rfl (by kernel_rfl) (by kernel_rfl) (by kernel_rfl) (fun _ _ _ h => h) (by rfl) ?_ hHeld ?_
        rotate_left 1
        · (intro w hSw; go_simp; try with_reducible rfl)
        simp only [Act.put, List.setIfInBounds_toArray, List.set_cons_succ, List.set_cons_zero]
        refine take_yes 10 37 (v := ?_) rfl rfl (by kernel_rfl) (by kernel_rfl) (by kernel_rfl) (fun _ _ _ h => h) (by rfl) ?_ hHeld ?_
        rotate_left 1
        · (intro w hSw; go_simp; try with_reducible rfl)
        simp only [Act.put, List.setIfInBounds_toArray, List.set_cons_succ, List.set_cons_zero]
        refine take_yes 11 38 (v := ?_) rfl rfl (by kernel_rfl) (by kernel_rfl) (by kernel_rfl) (fun _ _ _ h => h) (by rfl) ?_ hHeld ?_
        rotate_left 1
        · (intro w hSw; go_simp; try with_reducible rfl)
        simp only [Act.put, List.setIfInBounds_toArray, List.set_cons_succ, List.set_cons_zero]
        have hlt7 : WX.heap.size < w7.heap.size := hN7.lt
        refine step_store 13 55 WX.heap.size [Value.slice bR R1.length dR, Value.slice bK K1.length dK, Value.slice bV V1.length dV] (by kernel_rfl) rfl rfl (by rfl) (by rfl) (by rfl) (by rfl) hN7.there sizeView ?_ ?_ ?_
        · intro v hv; simp at hv; rcases hv with rfl | rfl | rfl <;> rfl
        · exact below_sets hHeld WX.heap.size (by omega) [Value.slice bR R1.length dR, Value.slice bK K1.length dK, Value.slice bV V1.length dV] 0
        have hHeld := below_sets hHeld WX.heap.size (by omega) [Value.slice bR R1.length dR, Value.slice bK K1.length dK, Value.slice bV V1.length dV] 0
        refine take_yes 14 8 (v := ?_) rfl rfl (by kernel_rfl) (by kernel_rfl) (by kernel_rfl) (fun _ _ _ h => h) (by rfl) ?_ hHeld ?_
        rotate_left 1
        · (intro w hSw; go_simp; try with_reducible rfl)
        simp only [Act.put, List.setIfInBounds_toArray, List.set_cons_succ, List.set_cons_zero]
        refine wpAnyH_done (by kernel_rfl) ?_ _
        have HHeld : Hid (Below WX.heap.size WX (w7.setCells WX.heap.size 0 [Value.slice bR R1.length dR, Value.slice bK K1.length dK, Value.slice bV V1.length dV])) := hHeld
        clear hHeld
        go_wp2
        go_meet
        case rel =>
          exact ⟨_, bR, bK, bV, dR, dK, dV, rfl, rfl, hN7.sets [Value.slice bR R1.length dR, Value.slice bK K1.length dK, Value.slice bV V1.length dV] rfl, SlP.apart hK7 f1 (by first | omega | (simp; try omega)) _ _, SlP.apart hV7 f2 (by first | omega | (simp; try omega)) _ _, HHeld.out⟩
    case rest =>
      obtain ⟨bs, bR, bK, bV, dR, dK, dV, rfl, rfl, hblk, hKc, hVc, hbc⟩ := hcut
      have BXc := BX2.keep hbc
      have QKc := QK2.below hbc
      have QVc := QV2.below hbc
      have HBc : Hid (Below w.heap.size w wc) := HB2.out.trans (hbc.mono HB2.out.size)
      have y1 := hblk.at 1 rfl
      have hK0' : K0.length ≤ maxLen := by unfold maxLen; omega
      have hV0' : V0.length ≤ maxLen := by unfold maxLen; omega
      have HBK : Hid (Blk wc bs [.slice bR R1.length dR, .slice bK K1.length dK, .slice bV V1.length dV]) := hblk
      clear CALL1 CALL2 BT2 BX2 PT2 PI2 QK2 QV2 hbc HB2 hblk
      go_wp2
      clear y1
      go_loopw [44] (fun i W => ∃ k : Nat, k ≤ K1.length ∧ i = .int .i64 k ∧ Below wc.heap.size wc W) (fun i _ => K1.length - (intOf i).toNat)
      case atStart => exact ⟨0, Nat.zero_le _, rfl, Below.refl _ _⟩
      case round =>
        obtain ⟨k, hk, rfl, hb⟩ := hrel
        by_cases hlt : k < K1.length
        · have hPr := hKc.below hb
          rcases hPr with h9 | ⟨b, off, rfl, hbl, hp⟩
          · exact absurd hlt (by simp [h9])
          obtain ⟨g0, g1, g2⟩ := hp k hlt
          have HM : Hid (hasP K1[k] K0 = true) := hasP_yes (HMK.out _ (List.getElem_mem hlt))
          generalize K1[k] = q at *
          obtain ⟨q0, q1, q2⟩ := q
          simp only at g0 g1 g2
          obtain ⟨W5, hW5, hN, hBn, hS5⟩ := laid1 wr [Value.int IntKind.i64 q0, Value.int IntKind.i64 q1, Value.int IntKind.i64 q2] 45
          have n0 := hN.at 0 rfl
          have n1 := hN.at 1 rfl
          have n2 := hN.at 2 rfl
          have x1 := ((BXc.keep hb).keep hBn).at 1 rfl
          have hP5 := (QKc.below hb).below hBn
          have HB5 : Hid (Below wc.heap.size wc W5) := hb.trans (hBn.mono hb.size)
          clear hp hS5 hN hBn hb
          go_wp2_with fail
          clear hW5 g0 g1 g2 n0 n1 n2 x1
          refine (containsPls_any W5 fK gK K0 (q0, q1, q2) hK0' hP5).mono ?_
          rintro e w6 ⟨rfl, hb6⟩
          rw [HM.out]
          have HB6 : Hid (Below wc.heap.size wc w6) := HB5.out.trans (hb6.mono HB5.out.size)
          clear hb6 hP5 HB5 HM
          go_wp2
          go_roundw
          case rel => exact ⟨k + 1, hlt, by go_num, HB6.out⟩
          case measure => simp [intOf]; omega
        · have y2 := (HBK.out.keep hb).at 2 rfl
          have BXd := BXc.keep hb
          have QKd := QKc.below hb
          have QVd := QVc.below hb
          have hVd := hVc.below hb
          have HBd : Hid (Below w.heap.size w wr) := HBc.out.trans (hb.mono HBc.out.size)
          rename World => W8
          clear hb BXc QKc QVc hVc HBc hKc
          go_wp2
          clear y2
          go_loopw [57] (fun i W => ∃ k : Nat, k ≤ V1.length ∧ i = .int .i64 k ∧ Below W8.heap.size W8 W) (fun i _ => V1.length - (intOf i).toNat)
          case atStart => exact ⟨0, Nat.zero_le _, rfl, Below.refl _ _⟩
          case round =>
            obtain ⟨k2, hk2, rfl, hb⟩ := hrel
            by_cases hlt2 : k2 < V1.length
            · have hPr := hVd.below hb
              rcases hPr with h9 | ⟨b, off, rfl, hbl, hp⟩
              · exact absurd hlt2 (by simp [h9])
              obtain ⟨g0, g1, g2⟩ := hp k2 hlt2
              have HM : Hid (V1[k2] ∉ K0 → hasP V1[k2] V0 = true) := fun hn => hasP_yes (HMW.out _ (List.getElem_mem hlt2) hn)
              generalize V1[k2] = q at *
              obtain ⟨q0, q1, q2⟩ := q
              simp only at g0 g1 g2
              obtain ⟨W5, hW5, hN, hBn, hS5⟩ := laid1 wr [Value.int IntKind.i64 q0, Value.int IntKind.i64 q1, Value.int IntKind.i64 q2] 45
              have n0 := hN.at 0 rfl
              have n1 := hN.at 1 rfl
              have n2 := hN.at 2 rfl
              have BX5 := (BXd.keep hb).keep hBn
              have x1 := BX5.at 1 rfl
              have hP5 := (QKd.below hb).below hBn
              have hQ5 := (QVd.below hb).below hBn
              have HB5 : Hid (Below W8.heap.size W8 W5) := hb.trans (hBn.mono hb.size)
              clear hp hS5 hBn hb
              go_wp2_with fail
              clear hW5 g0 g1 g2 n0 n1 n2 x1
              refine (containsPls_any W5 fK gK K0 (q0, q1, q2) hK0' hP5).mono ?_
              rintro e w6 ⟨rfl, hb6⟩
              have HB6 : Hid (Below W8.heap.size W8 w6) := HB5.out.trans (hb6.mono HB5.out.size)
              cases hq : hasP (q0, q1, q2) K0
              · have HT : Hid (hasP (q0, q1, q2) V0 = true) := HM.out (by simpa [hasP] using hq)
                have x2 := (BX5.keep hb6).at 2 rfl
                have hN6 := hN.keep hb6
                have n0 := hN6.at 0 rfl
                have n1 := hN6.at 1 rfl
                have n2 := hN6.at 2 rfl
                have hQ6 := hQ5.below hb6
                clear hb6 hP5 HB5 HM hq BX5 hN hN6 hQ5
                go_wp2_with fail
                clear n0 n1 n2 x2
                refine (containsPls_any w6 fV gV V0 (q0, q1, q2) hV0' hQ6).mono ?_
                rintro e w7 ⟨rfl, hb7⟩
                rw [HT.out]
                have HB7 : Hid (Below W8.heap.size W8 w7) := HB6.out.trans (hb7.mono HB6.out.size)
                clear hb7 HB6 hQ6 HT
                go_wp2
                go_roundw
                case rel => exact ⟨k2 + 1, hlt2, by go_num, HB7.out⟩
                case measure => simp [intOf]; omega
              · clear hb6 hP5 HB5 HM hq BX5 hN hQ5
                go_wp2
                go_roundw
                case rel => exact ⟨k2 + 1, hlt2, by go_num, HB6.out⟩
                case measure => simp [intOf]; omega
            · go_wp2
              go_ret
              exact ⟨rfl, HBd.out.trans (hb.mono HBd.out.size)⟩
  · have hz' : (ofE l R != 0) = true := by simpa using hz
    clear hz BT2 BX2 PT2 PI2 QK2 QV2
    go_wp2_with fail
    refine (seen_any w2).mono ?_
    rintro e w3 ⟨rfl, hb3⟩
    have HB3 : Hid (Below w.heap.size w w3) := HB2.out.trans (hb3.mono HB2.out.size)
    clear hb3
    go_wp2
    go_ret
    exact ⟨rfl, HB3.out⟩
end Go.Proofs.Ytdkncnfcgcfopab

/- A tree that came in as an argument: which places it holds. -/
namespace Go.Proofs.Ytdkncnfcgcfopab
open Go.ChangeShapes Go.WideShapes Go.ChangeAt Go.RowKit
open Orangery (Pl)

theorem cells3_of {w : World} {base : Nat} {a : Addr} {cs : List Value} (h : w.cells? base a 3 = some cs) :
    ∃ x y z, cs = [x, y, z] ∧ w.cell? (a.add 0) = some x ∧ w.cell? (a.add 1) = some y ∧ w.cell? (a.add 2) = some z := by
  unfold World.cells? at h
  split at h
  · simp only [show List.range 3 = [0, 1, 2] from rfl, List.mapM_cons, List.mapM_nil] at h
    cases h0 : w.cell? (a.add 0) with
    | none => simp [h0] at h
    | some x =>
      cases h1 : w.cell? (a.add 1) with
      | none => simp [h0, h1] at h
      | some y =>
        cases h2 : w.cell? (a.add 2) with
        | none => simp [h0, h1, h2] at h
        | some z =>
          simp [h0, h1, h2] at h
          exact ⟨x, y, z, h.symm, rfl, rfl, rfl⟩
  · simp at h

theorem add_at (b off i : Nat) : (⟨b, off, none⟩ : Addr).add i = ⟨b, off + i, none⟩ := by
  unfold Addr.add
  by_cases hz : i = 0 <;> simp [hz]

/-- a slice of places that is read -/
theorem open_places {H : Type} {enc : TypeId × Value → H} {w : World} {base fuel : Nat} {spare : Nat → Bool} {held : Bool} {v : Value} {x : DataW H × List MemPlace}
    (h : DataW.trod enc Try.prog w base spare held fuel 24 [v] = some x) : ∃ a c, ∃ l : List Pl, v = .slice a l.length c ∧ l.length ≤ maxLen ∧ SlP w a l := by
  rcases Go.Deep.open_slice Try.underlying24 h with ⟨hcs, _⟩ | ⟨a, len, cap, m, n, D, Pq, hcs, _, hle, hm, hmm, _, hel⟩
  · simp at hcs
    subst hcs
    exact ⟨none, 0, [], rfl, by simp, Or.inl rfl⟩
  · simp at hcs
    subst hcs
    have hlm : len ≤ m := by rw [hmm]; split <;> omega
    have hC : Try.prog.cellsOf 45 = 3 := by kernel_rfl
    have hI : Try.prog.cellsOf 3 = 1 := by kernel_rfl
    have key : ∀ i, i < len → ∃ q : Pl, w.cell? ((a.add (i * 3)).add 0) = some (.int .i64 q.1) ∧ w.cell? ((a.add (i * 3)).add 1) = some (.int .i64 q.2.1) ∧ w.cell? ((a.add (i * 3)).add 2) = some (.int .i64 q.2.2) := by
      intro i hi
      obtain ⟨cs', h1, h2⟩ := hel i (by omega)
      rw [hC] at h1
      obtain ⟨x, y, z, rfl, c0, c1, c2⟩ := cells3_of h1
      obtain ⟨y0, y1, y2, n', _, _, t0, t1, t2⟩ := Go.Deep.trod_struct3 Try.underlying45 h2
      simp [hI] at t0 t1 t2
      obtain ⟨q0, e0, _, _⟩ := DataW.trod_int Try.underlying3 t0
      obtain ⟨q1, e1, _, _⟩ := DataW.trod_int Try.underlying3 t1
      obtain ⟨q2, e2, _, _⟩ := DataW.trod_int Try.underlying3 t2
      simp at e0 e1 e2
      subst e0 e1 e2
      exact ⟨(q0, q1, q2), c0, c1, c2⟩
    obtain ⟨f, hf⟩ := Go.Deep.choose_lt key
    refine ⟨some a, cap, (List.range len).map f, by simp, by simp; omega, ?_⟩
    by_cases hz : len = 0
    · exact Or.inl (by simp [hz])
    · right
      have h0 := (hf 0 (by omega)).1
      obtain ⟨b, off, spot⟩ := a
      have hspot : spot = none := by simpa [Addr.add] using World.cell?_spot h0
      subst hspot
      have hb : b < w.heap.size := by
        have := World.block_lt_of_cell? w _ h0
        rw [add_at, add_at] at this
        exact this
      refine ⟨b, off, rfl, hb, fun i hi => ?_⟩
      have hi' : i < len := by simpa using hi
      have := hf i hi'
      rw [add_at, add_at, add_at, add_at] at this
      simpa using this

set_option maxRecDepth 100000 in
/-- a tree that came in -/
theorem open_tree {H : Type} {enc : TypeId × Value → H} {w : World} {r : Reach} {b0 base : Nat} {spare : Nat → Bool} {held : Bool} {v : Value} {d : DataW H} {p : List MemPlace}
    (hv : Value.okWide Try.prog w r b0 26 v) (h : DataW.Trod enc Try.prog w base spare held 26 v d p) : ∃ a c, ∃ l : List Pl, v = .agg #[.slice a l.length c] ∧ l.length ≤ maxLen ∧ SlP w a l := by
  obtain ⟨cs, rfl, hsz⟩ := okWide_struct Try.underlying26 hv
  have hC : Try.prog.cellsOf 26 = 1 := by kernel_rfl
  have hD : Try.prog.cellsOf 24 = 1 := by kernel_rfl
  rw [hC] at hsz
  obtain ⟨c0, rfl⟩ : ∃ c0, cs = #[c0] := by
    have h1 : cs.toList.length = 1 := by simpa using hsz
    obtain ⟨x, hx⟩ := List.length_eq_one_iff.1 h1
    exact ⟨x, by cases cs; simp_all⟩
  obtain ⟨fuel, hf⟩ := h
  obtain ⟨y0, n, _, _, h0⟩ := trod_struct1 Try.underlying26 hf
  simp [Value.cells, hD] at h0
  obtain ⟨a, c, l, rfl, h1, h2⟩ := open_places h0
  exact ⟨a, c, l, rfl, h1, h2⟩
end Go.Proofs.Ytdkncnfcgcfopab

/- Operations and steps that came in as arguments. -/
namespace Go.Proofs.Ytdkncnfcgcfopab
open Go.ChangeShapes Go.WideShapes Go.ChangeAt Go.RowKit
open Orangery (Pl Mv Stp)

theorem list7 {cs : List Value} (h : cs.length = 7) : ∃ a b c d e f g, cs = [a, b, c, d, e, f, g] := by
  match cs, h with
  | [a, b, c, d, e, f, g], _ => exact ⟨a, b, c, d, e, f, g, rfl⟩
theorem list11 {cs : List Value} (h : cs.length = 11) : ∃ a b c d e f g i j k l, cs = [a, b, c, d, e, f, g, i, j, k, l] := by
  match cs, h with
  | [a, b, c, d, e, f, g, i, j, k, l], _ => exact ⟨a, b, c, d, e, f, g, i, j, k, l, rfl⟩

set_option maxRecDepth 100000 in
theorem open_opC {H : Type} {enc : TypeId × Value → H} {w : World} {base fuel : Nat} {spare : Nat → Bool} {held : Bool} {cs : List Value} {x : DataW H × List MemPlace}
    (h : DataW.trod enc Try.prog w base spare held fuel 38 cs = some x) : ∃ o : Mv, cs = opC o := by
  obtain ⟨xs, n, _, _, hl, hlen, hf⟩ := DataW.trod_struct Try.underlying38 h
  have hC : Try.prog.cellsOf 38 = 7 := by kernel_rfl
  have hI : Try.prog.cellsOf 3 = 1 := by kernel_rfl
  have hT : Try.prog.cellsOf 36 = 2 := by kernel_rfl
  rw [hC] at hl
  obtain ⟨c0, c1, c2, c3, c4, c5, c6, rfl⟩ := list7 hl
  have hx : xs.length = 6 := hlen
  have g0 := hf 0 _ rfl
  have g1 := hf 1 _ rfl
  have g2 := hf 2 _ rfl
  have g3 := hf 3 _ rfl
  have g4 := hf 4 _ rfl
  have g5 := hf 5 _ rfl
  simp [hI, hT] at g0 g1 g2 g3 g4 g5
  rw [List.getElem?_eq_getElem (by omega)] at g0 g1 g2 g3 g4 g5
  obtain ⟨o3, e3, _, _⟩ := DataW.trod_int Try.underlying3 g1
  obtain ⟨o4, e4, _, _⟩ := DataW.trod_int Try.underlying3 g2
  obtain ⟨o5, e5, _, _⟩ := DataW.trod_int Try.underlying3 g3
  obtain ⟨o6, e6, _, _⟩ := DataW.trod_int Try.underlying3 g4
  obtain ⟨o7, e7, _, _⟩ := DataW.trod_int Try.underlying3 g5
  obtain ⟨y0, y1, n', _, _, t0, t1⟩ := trod_struct2 Try.underlying36 g0
  simp [hI] at t0 t1
  obtain ⟨o1, e1, _, _⟩ := DataW.trod_int Try.underlying3 t0
  obtain ⟨o2, e2, _, _⟩ := DataW.trod_int Try.underlying3 t1
  simp at e1 e2 e3 e4 e5 e6 e7
  subst e1 e2 e3 e4 e5 e6 e7
  exact ⟨(o1, o2, (o3, o4, o5), o6, o7), rfl⟩

set_option maxRecDepth 100000 in
/-- an operation that came in -/
theorem open_op {H : Type} {enc : TypeId × Value → H} {w : World} {r : Reach} {b0 base : Nat} {spare : Nat → Bool} {held : Bool} {v : Value} {d : DataW H} {p : List MemPlace}
    (hv : Value.okWide Try.prog w r b0 38 v) (h : DataW.Trod enc Try.prog w base spare held 38 v d p) : ∃ o : Mv, v = opV o := by
  obtain ⟨cs, rfl, hsz⟩ := okWide_struct Try.underlying38 hv
  obtain ⟨fuel, hf⟩ := h
  obtain ⟨o, ho⟩ := open_opC hf
  refine ⟨o, ?_⟩
  have : cs = (opC o).toArray := by rw [← ho]; simp [Value.cells]
  rw [this]
  rfl

set_option maxRecDepth 100000 in
theorem open_stC {H : Type} {enc : TypeId × Value → H} {w : World} {base fuel : Nat} {spare : Nat → Bool} {held : Bool} {cs : List Value} {x : DataW H × List MemPlace}
    (h : DataW.trod enc Try.prog w base spare held fuel 47 cs = some x) : ∃ s : Stp, cs = stC s := by
  obtain ⟨y0, y1, y2, n, _, hl, t0, t1, t2⟩ := Go.Deep.trod_struct3 Try.underlying47 h
  have hC : Try.prog.cellsOf 47 = 11 := by kernel_rfl
  have hO : Try.prog.cellsOf 38 = 7 := by kernel_rfl
  have hB : Try.prog.cellsOf 4 = 1 := by kernel_rfl
  have hP : Try.prog.cellsOf 45 = 3 := by kernel_rfl
  have hI : Try.prog.cellsOf 3 = 1 := by kernel_rfl
  rw [hC] at hl
  obtain ⟨c0, c1, c2, c3, c4, c5, c6, c7, c8, c9, c10, rfl⟩ := list11 hl
  simp [hO, hB, hP] at t0 t1 t2
  obtain ⟨o, ho⟩ := open_opC t0
  obtain ⟨b, hb, _⟩ := DataW.trod_bool Try.underlying4 t1
  obtain ⟨z0, z1, z2, n', _, _, q0, q1, q2⟩ := Go.Deep.trod_struct3 Try.underlying45 t2
  simp [hI] at q0 q1 q2
  obtain ⟨p1, e1, _, _⟩ := DataW.trod_int Try.underlying3 q0
  obtain ⟨p2, e2, _, _⟩ := DataW.trod_int Try.underlying3 q1
  obtain ⟨p3, e3, _, _⟩ := DataW.trod_int Try.underlying3 q2
  simp at e1 e2 e3 hb
  subst e1 e2 e3 hb
  simp [opC] at ho
  obtain ⟨rfl, rfl, rfl, rfl, rfl, rfl, rfl⟩ := ho
  exact ⟨(o, b, (p1, p2, p3)), rfl⟩

set_option maxRecDepth 100000 in
/-- a step that came in -/
theorem open_step {H : Type} {enc : TypeId × Value → H} {w : World} {r : Reach} {b0 base : Nat} {spare : Nat → Bool} {held : Bool} {v : Value} {d : DataW H} {p : List MemPlace}
    (hv : Value.okWide Try.prog w r b0 47 v) (h : DataW.Trod enc Try.prog w base spare held 47 v d p) : ∃ s : Stp, v = stV s := by
  obtain ⟨cs, rfl, hsz⟩ := okWide_struct Try.underlying47 hv
  obtain ⟨fuel, hf⟩ := h
  obtain ⟨o, ho⟩ := open_stC hf
  refine ⟨o, ?_⟩
  have : cs = (stC o).toArray := by rw [← ho]; simp [Value.cells]
  rw [this]
  rfl
end Go.Proofs.Ytdkncnfcgcfopab

/- Slices of operations and histories that came in as arguments, and what they weigh. -/
namespace Go.Proofs.Ytdkncnfcgcfopab
open Go.ChangeShapes Go.WideShapes Go.ChangeAt Go.RowKit
open Orangery (Pl Mv Stp)

/-- a slice of such elements that came in, with what it weighs -/
theorem open_slW {α : Type} [Inhabited α] {enc : α → List Value} {k : Nat} {H : Type} {en : TypeId × Value → H} {w : World} {base fuel : Nat} {spare : Nat → Bool} {held : Bool} {v : Value} {x : DataW H × List MemPlace} {t e : TypeId}
    (hk : ∀ x, (enc x).length = k) (hpos : 0 < k) (ht : Try.prog.underlying t = some (.slice e)) (hC : Try.prog.cellsOf e = k)
    (hel : ∀ (n : Nat) (cs : List Value) (y : DataW H × List MemPlace), DataW.trod en Try.prog w base spare held n e cs = some y → ∃ z : α, cs = enc z)
    (h : DataW.trod en Try.prog w base spare held fuel t [v] = some x) : ∃ a c, ∃ l : List α, v = .slice a l.length c ∧ l.length ≤ maxLen ∧ l.length ≤ c ∧ (c ≤ maxLen ∧ (a = none → c = 0)) ∧ SlE enc w a l ∧ (l = [] ∨ ∃ m, l.length ≤ m ∧ m * Try.prog.bytesOf e ∈ x.1.weights Try.prog t) := by
  rcases Go.Deep.open_slice ht h with ⟨hcs, _⟩ | ⟨a, len, cap, m, n, D, Pq, hcs, _, hle, hm, hmm, hxx, hx⟩
  · simp at hcs
    subst hcs
    exact ⟨none, 0, [], rfl, by simp, by simp, ⟨by simp, fun _ => rfl⟩, Or.inl rfl, Or.inl rfl⟩
  · simp at hcs
    subst hcs
    have hlm : len ≤ m := by rw [hmm]; split <;> omega
    have key : ∀ i, i < len → ∃ z : α, ∀ (j : Nat) (v : Value), (enc z)[j]? = some v → w.cell? ((a.add (i * k)).add j) = some v := by
      intro i hi
      obtain ⟨cs', h1, h2⟩ := hx i (by omega)
      rw [hC] at h1
      obtain ⟨z, rfl⟩ := hel _ _ _ h2
      exact ⟨z, (cells_range h1).2⟩
    obtain ⟨f, hf⟩ := Go.Deep.choose_lt key
    refine ⟨some a, cap, (List.range len).map f, by simp, by simp; omega, by simp; omega, ⟨hm, fun e => by simp at e⟩, ?_, Or.inr ⟨m, by simpa using hlm, ?_⟩⟩
    · by_cases hz : len = 0
      · exact Or.inl (by simp [hz])
      · right
        obtain ⟨u, hu⟩ : ∃ u, (enc (f 0))[0]? = some u := ⟨_, List.getElem?_eq_getElem (by rw [hk]; exact hpos)⟩
        have h0 := hf 0 (by omega) 0 u hu
        obtain ⟨b, off, spot⟩ := a
        have hspot : spot = none := by simpa [Addr.add] using World.cell?_spot h0
        subst hspot
        have hb : b < w.heap.size := by
          have := World.block_lt_of_cell? w _ h0
          rw [Addr.add_mid, Addr.add_mid] at this
          exact this
        refine ⟨b, off, rfl, hb, fun j v hv => ?_⟩
        have hj : j < len * k := by
          have := (List.getElem?_eq_some_iff.1 hv).1
          rw [flatE_len hk] at this
          simpa using this
        have hi : j / k < len := (Nat.div_lt_iff_lt_mul hpos).2 hj
        have hc : j % k < k := Nat.mod_lt _ hpos
        have e1 : j / k * k + j % k = j := by rw [Nat.mul_comm]; exact Nat.div_add_mod j k
        have e2 := flatE_get hk ((List.range len).map f) (j / k) (by simpa using hi) (j % k) hc
        rw [e1, hv] at e2
        have e3 := hf (j / k) hi (j % k) v (by simpa using e2.symm)
        rw [Addr.add_mid, Addr.add_mid] at e3
        rw [show off + j = off + j / k * k + j % k by omega]
        exact e3
    · subst hxx
      simp only [DataW.weights, ht]
      have e : ((List.range len).map D).length + ((List.range (m - len)).map fun j => D (len + j)).length = m := by simp; omega
      rw [e]
      exact List.mem_cons_self

set_option maxRecDepth 100000 in
/-- operations that came in -/
theorem open_ops {H : Type} {enc : TypeId × Value → H} {w : World} {r : Reach} {b0 base : Nat} {spare : Nat → Bool} {held : Bool} {v : Value} {d : DataW H} {p : List MemPlace}
    (hv : Value.okWide Try.prog w r b0 22 v) (h : DataW.Trod enc Try.prog w base spare held 22 v d p) : ∃ a c, ∃ l : List Mv, v = .slice a l.length c ∧ l.length ≤ maxLen ∧ l.length ≤ c ∧ SlE opC w a l := by
  obtain ⟨a', n', c', rfl⟩ := okWide_slice Try.underlying22 hv
  obtain ⟨fuel, hf⟩ := h
  obtain ⟨a, c, l, e, h1, h2, _, h3, _⟩ := open_slW opC_len (by omega) Try.underlying22 (by kernel_rfl) (fun n cs y hy => open_opC hy) hf
  exact ⟨a, c, l, e, h1, h2, h3⟩

set_option maxRecDepth 100000 in
/-- operations that came in, and the room behind them -/
theorem open_opsN {H : Type} {enc : TypeId × Value → H} {w : World} {r : Reach} {b0 base : Nat} {spare : Nat → Bool} {held : Bool} {v : Value} {d : DataW H} {p : List MemPlace}
    (hv : Value.okWide Try.prog w r b0 22 v) (h : DataW.Trod enc Try.prog w base spare held 22 v d p) : ∃ a c, ∃ l : List Mv, v = .slice a l.length c ∧ l.length ≤ maxLen ∧ l.length ≤ c ∧ c ≤ maxLen ∧ (a = none → c = 0) ∧ SlE opC w a l := by
  obtain ⟨a', n', c', rfl⟩ := okWide_slice Try.underlying22 hv
  obtain ⟨fuel, hf⟩ := h
  obtain ⟨a, c, l, e, h1, h2, ⟨h4, h5⟩, h3, _⟩ := open_slW opC_len (by omega) Try.underlying22 (by kernel_rfl) (fun n cs y hy => open_opC hy) hf
  exact ⟨a, c, l, e, h1, h2, h4, h5, h3⟩

set_option maxRecDepth 100000 in
/-- a history that came in -/
theorem open_hist {H : Type} {enc : TypeId × Value → H} {w : World} {r : Reach} {b0 base : Nat} {spare : Nat → Bool} {held : Bool} {v : Value} {d : DataW H} {p : List MemPlace}
    (hv : Value.okWide Try.prog w r b0 28 v) (h : DataW.Trod enc Try.prog w base spare held 28 v d p) :
    ∃ aL aT cL cT, ∃ (L : List Stp) (T : List Pl), v = hiV (.slice aL L.length cL) (.slice aT T.length cT) ∧ T.length ≤ maxLen ∧ SlE stC w aL L ∧ SlP w aT T ∧ (L = [] ∨ ∃ m, L.length ≤ m ∧ m * 88 ∈ d.weights Try.prog 28) := by
  obtain ⟨cs, rfl, hsz⟩ := okWide_struct Try.underlying28 hv
  have hC : Try.prog.cellsOf 28 = 2 := by kernel_rfl
  have hD : Try.prog.cellsOf 23 = 1 := by kernel_rfl
  have hE : Try.prog.cellsOf 26 = 1 := by kernel_rfl
  have hF : Try.prog.cellsOf 24 = 1 := by kernel_rfl
  have hby : Try.prog.bytesOf 47 = 88 := by kernel_rfl
  rw [hC] at hsz
  obtain ⟨c0, c1, rfl⟩ : ∃ c0 c1, cs = #[c0, c1] := by
    have h1 : cs.toList.length = 2 := by simpa using hsz
    cases cs with
    | mk l =>
      match l, h1 with
      | [x, y], _ => exact ⟨x, y, rfl⟩
  obtain ⟨fuel, hf⟩ := h
  obtain ⟨y0, y1, n, hd, _, h0, h1⟩ := trod_struct2 Try.underlying28 hf
  simp [Value.cells, hD, hE] at h0 h1
  obtain ⟨aL, cL, L, rfl, _, _, _, hL, hw⟩ := open_slW stC_len (by omega) Try.underlying23 (by kernel_rfl) (fun n cs y hy => open_stC hy) h0
  obtain ⟨z0, n', _, _, h2⟩ := trod_struct1 Try.underlying26 h1
  simp [hF] at h2
  obtain ⟨aT, cT, T, rfl, hT1, hT2⟩ := open_places h2
  refine ⟨aL, aT, cL, cT, L, T, rfl, hT1, hL, hT2, ?_⟩
  rcases hw with hw | ⟨m, hm, hw⟩
  · exact Or.inl hw
  · right
    refine ⟨m, hm, ?_⟩
    have e : d = .agg [y0.1, y1.1] := congrArg Prod.fst hd
    rw [e]
    rw [hby] at hw
    simp only [DataW.weights, Try.underlying28]
    exact DataW.weights_mem_each (j := 0) rfl rfl _ hw

theorem sized_hist {H : Type} {ts : List TypeId} {ds : List (DataW H)} (h : (DataW.weightsEach Try.prog ts ds).all (· ≤ reachBytes) = true) {j : Nat} {d : DataW H} (ht : ts[j]? = some 28) (hd : ds[j]? = some d) {L : List Stp}
    (hw : L = [] ∨ ∃ m, L.length ≤ m ∧ m * 88 ∈ d.weights Try.prog 28) : L.length * 88 ≤ 140737488351232 := by
  rcases hw with rfl | ⟨m, hm, hw⟩
  · simp
  · have := List.all_eq_true.1 h _ (DataW.weights_mem_each ht hd _ hw)
    have h2 : m * 88 ≤ reachBytes := by simpa using this
    unfold reachBytes at h2
    omega
end Go.Proofs.Ytdkncnfcgcfopab

/- Ints, places with the room behind them, and views that came in as arguments. -/
namespace Go.Proofs.Ytdkncnfcgcfopab
open Go.ChangeShapes Go.WideShapes Go.ChangeAt Go.RowKit
open Orangery (Pl)

def intC (x : Int) : List Value := [.int .i64 x]
theorem intC_len (x : Int) : (intC x).length = 1 := rfl

theorem sli_of {w : World} {a : Option Addr} {l : List Int} (h : SlE intC w a l) : SlI w a l := by
  rcases h with h | ⟨b, off, ha, hlt, hp⟩
  · exact Or.inl h
  · refine Or.inr ⟨b, off, ha, hlt, fun i hi => ?_⟩
    have := elemE intC_len hp i hi 0 (.int .i64 l[i]) rfl
    rw [Nat.mul_one, Nat.add_zero] at this
    exact this
theorem slp_of {w : World} {a : Option Addr} {l : List Pl} (h : SlE encPl w a l) : SlP w a l := by
  rcases h with h | ⟨b, off, ha, hlt, hp⟩
  · exact Or.inl h
  · refine Or.inr ⟨b, off, ha, hlt, fun i hi => ?_⟩
    have hr := elemE encPl_len hp i hi
    exact ⟨hr 0 _ rfl, hr 1 _ rfl, hr 2 _ rfl⟩

theorem open_intC {H : Type} {enc : TypeId × Value → H} {w : World} {base fuel : Nat} {spare : Nat → Bool} {held : Bool} {cs : List Value} {x : DataW H × List MemPlace}
    (h : DataW.trod enc Try.prog w base spare held fuel 3 cs = some x) : ∃ z : Int, cs = intC z := by
  obtain ⟨q, e, _, _⟩ := DataW.trod_int Try.underlying3 h
  exact ⟨q, e⟩
set_option maxRecDepth 100000 in
theorem open_plC {H : Type} {enc : TypeId × Value → H} {w : World} {base fuel : Nat} {spare : Nat → Bool} {held : Bool} {cs : List Value} {x : DataW H × List MemPlace}
    (h : DataW.trod enc Try.prog w base spare held fuel 45 cs = some x) : ∃ z : Pl, cs = encPl z := by
  obtain ⟨y0, y1, y2, n', _, hl, t0, t1, t2⟩ := Go.Deep.trod_struct3 Try.underlying45 h
  have hC : Try.prog.cellsOf 45 = 3 := by kernel_rfl
  have hI : Try.prog.cellsOf 3 = 1 := by kernel_rfl
  rw [hC] at hl
  obtain ⟨c0, c1, c2, rfl⟩ : ∃ c0 c1 c2, cs = [c0, c1, c2] := by
    match cs, hl with
    | [x, y, z], _ => exact ⟨x, y, z, rfl⟩
  simp [hI] at t0 t1 t2
  obtain ⟨q0, e0, _, _⟩ := DataW.trod_int Try.underlying3 t0
  obtain ⟨q1, e1, _, _⟩ := DataW.trod_int Try.underlying3 t1
  obtain ⟨q2, e2, _, _⟩ := DataW.trod_int Try.underlying3 t2
  simp at e0 e1 e2
  subst e0 e1 e2
  exact ⟨(q0, q1, q2), rfl⟩

set_option maxRecDepth 100000 in
/-- ints that came in -/
theorem open_ints {H : Type} {enc : TypeId × Value → H} {w : World} {r : Reach} {b0 base : Nat} {spare : Nat → Bool} {held : Bool} {v : Value} {d : DataW H} {p : List MemPlace}
    (hv : Value.okWide Try.prog w r b0 53 v) (h : DataW.Trod enc Try.prog w base spare held 53 v d p) : ∃ a c, ∃ l : List Int, v = .slice a l.length c ∧ l.length ≤ maxLen ∧ (l.length ≤ c ∧ c ≤ maxLen) ∧ SlI w a l := by
  obtain ⟨a', n', c', rfl⟩ := okWide_slice Try.underlying53 hv
  obtain ⟨fuel, hf⟩ := h
  obtain ⟨a, c, l, e, h1, h2, ⟨h4, _⟩, h3, _⟩ := open_slW intC_len (by omega) Try.underlying53 (by kernel_rfl) (fun n cs y hy => open_intC hy) hf
  exact ⟨a, c, l, e, h1, ⟨h2, h4⟩, sli_of h3⟩

set_option maxRecDepth 100000 in
theorem open_view {H : Type} {enc : TypeId × Value → H} {w : World} {r : Reach} {b0 base : Nat} {spare : Nat → Bool} {held : Bool} {v : Value} {d : DataW H} {p : List MemPlace}
    (hv : Value.okWide Try.prog w r b0 55 v) (h : DataW.Trod enc Try.prog w base spare held 55 v d p) :
    ∃ aR aK aW cR cK cW, ∃ (R : List Int) (K W : List Pl), v = .agg #[.slice aR R.length cR, .slice aK K.length cK, .slice aW W.length cW] ∧ (R.length ≤ maxLen ∧ K.length ≤ maxLen ∧ W.length ≤ maxLen) ∧ ((aK = none → cK = 0) ∧ (aW = none → cW = 0)) ∧ SlI w aR R ∧ SlP w aK K ∧ SlP w aW W := by
  obtain ⟨cs, rfl, hsz⟩ := okWide_struct Try.underlying55 hv
  have hC : Try.prog.cellsOf 55 = 3 := by kernel_rfl
  have hD : Try.prog.cellsOf 53 = 1 := by kernel_rfl
  have hF : Try.prog.cellsOf 24 = 1 := by kernel_rfl
  rw [hC] at hsz
  obtain ⟨c0, c1, c2, rfl⟩ : ∃ c0 c1 c2, cs = #[c0, c1, c2] := by
    have h1 : cs.toList.length = 3 := by simpa using hsz
    cases cs with
    | mk l =>
      match l, h1 with
      | [x, y, z], _ => exact ⟨x, y, z, rfl⟩
  obtain ⟨fuel, hf⟩ := h
  obtain ⟨y0, y1, y2, n, _, _, h0, h1, h2⟩ := Go.Deep.trod_struct3 Try.underlying55 hf
  simp [Value.cells, hD, hF] at h0 h1 h2
  obtain ⟨aR, cR, R, rfl, m0, _, _, hR, _⟩ := open_slW intC_len (by omega) Try.underlying53 (by kernel_rfl) (fun n cs y hy => open_intC hy) h0
  obtain ⟨aK, cK, K, rfl, m1, _, ⟨_, n1⟩, hK, _⟩ := open_slW encPl_len (by omega) Try.underlying24 (by kernel_rfl) (fun n cs y hy => open_plC hy) h1
  obtain ⟨aW, cW, W, rfl, m2, _, ⟨_, n2⟩, hW, _⟩ := open_slW encPl_len (by omega) Try.underlying24 (by kernel_rfl) (fun n cs y hy => open_plC hy) h2
  exact ⟨aR, aK, aW, cR, cK, cW, R, K, W, rfl, ⟨m0, m1, m2⟩, ⟨n1, n2⟩, sli_of hR, slp_of hK, slp_of hW⟩
end Go.Proofs.Ytdkncnfcgcfopab

