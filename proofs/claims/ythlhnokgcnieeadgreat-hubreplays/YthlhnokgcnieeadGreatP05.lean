/- 6 texts of the proof: Slices of ints that a call reads; slices.Equal, slices.Clone, slices.Contains at them. Plain facts on views: what is known, what is the way up, and that a view of a view is the same. Plain facts on deltas: what goes, what is here, and that it makes the other one. Plain facts on a view's two parts put together. tree.Under. view.Roots, view.under; slices.IndexFunc, slices.ContainsFunc at ints; the c -/
import Derived.Test.YthlhnokgcnieeadGreatP01
import Derived.Test.YthlhnokgcnieeadGreatP03
import Derived.Test.YthlhnokgcnieeadGreatP04
import Derived.Test.YthlhnokgcnieeadGreatP02
/- Slices of ints that a call reads; slices.Equal, slices.Clone, slices.Contains at them. -/
namespace Go.Proofs.YthlhnokgcnieeadGreat
open Go.ChangeShapes Go.WideShapes Go.ChangeAt Go.RowKit
open Orangery (hasB)

/-- a slice's address holds these ints -/
def SlI (w : World) (a : Option Addr) (l : List Int) : Prop :=
  l = [] ∨ ∃ b off, a = some ⟨b, off, none⟩ ∧ b < w.heap.size ∧ IntsAt w b off l

theorem SlI.below {w w' : World} {a : Option Addr} {l : List Int} (h : SlI w a l) (hb : Below w.heap.size w w') : SlI w' a l := by
  rcases h with h | ⟨b, off, ha, hlt, hp⟩
  · exact Or.inl h
  · exact Or.inr ⟨b, off, ha, Nat.lt_of_lt_of_le hlt hb.size, fun i hi => by rw [hb.cell hlt]; exact hp i hi⟩
theorem SlI.nil {w : World} {a : Option Addr} : SlI w a [] := Or.inl rfl
theorem SlI.at {w : World} {a : Option Addr} {l : List Int} (h : SlI w a l) (k : Nat) (hk : k < l.length) : ∃ b off, a = some ⟨b, off, none⟩ ∧ b < w.heap.size ∧ w.cell? ⟨b, off + k, none⟩ = some (.int .i64 l[k]) := by
  rcases h with h | ⟨b, off, ha, hlt, hp⟩
  · exact absurd hk (by simp [h])
  · exact ⟨b, off, ha, hlt, hp k hk⟩
theorem SlI.take {w : World} {a : Option Addr} {l : List Int} (h : SlI w a l) (n : Nat) : SlI w a (l.take n) := by
  rcases h with h | ⟨b, off, ha, hlt, hp⟩
  · exact Or.inl (by simp [h])
  · exact Or.inr ⟨b, off, ha, hlt, fun i hi => by rw [List.getElem_take]; exact hp i (by simp at hi; omega)⟩
theorem SlI.news {w : World} {ad : Addr} {l : List Int} (h : SlI w (some ad) l) : ∀ j u, (l.map (Value.int .i64))[j]? = some u → w.cell? (ad.add j) = some u := by
  intro j u hj
  rcases h with rfl | ⟨b, off, ha, _, hp⟩
  · simp at hj
  · simp at ha
    subst ha
    rw [Addr.add_mid]
    have hlt : j < l.length := by
      have := (List.getElem?_eq_some_iff.1 hj).1
      simpa using this
    rw [List.getElem?_map, List.getElem?_eq_getElem hlt] at hj
    simp at hj
    rw [hp j hlt, hj]
theorem SlI.none_nil {w : World} {l : List Int} (h : SlI w none l) : l = [] := by
  rcases h with rfl | ⟨b, off, h, _⟩
  · rfl
  · simp at h

/-- a row of ints of the call's own -/
def OwnI (w : World) (base : Nat) (v : Value) (l : List Int) : Prop := w.ownsRow base 3 1 v l.length (l.map (Value.int .i64))
theorem OwnI.val {w : World} {base : Nat} {v : Value} {l : List Int} (h : OwnI w base v l) : ∃ a cap, v = .slice a l.length cap ∧ SlI w a l := by
  obtain ⟨_, h2⟩ := own_ints h
  rcases h2 with ⟨rfl, h2⟩ | ⟨g, cap, h3, _, h4, h5⟩
  · have : l = [] := List.length_eq_zero_iff.1 h2
    subst this
    exact ⟨none, 0, rfl, Or.inl rfl⟩
  · exact ⟨_, cap, h3, Or.inr ⟨g, 0, rfl, h4, h5⟩⟩
theorem OwnI.keep {w w' : World} {base : Nat} {v : Value} {l : List Int} (h : OwnI w base v l) (hb : Below w.heap.size w w') : OwnI w' base v l := own_below h hb

theorem OwnI.other {w : World} {base : Nat} {v : Value} {l : List Int} (h : OwnI w base v l) (g : Nat) (hg : g < base) (j : Nat) (u : Value) : OwnI (w.setCell ⟨g, j, none⟩ u) base v l := ownsRow_setCell_below h (a := ⟨g, j, none⟩) hg u
theorem OwnI.others {base : Nat} {v : Value} {l : List Int} (g : Nat) (hg : g < base) : ∀ (us : List Value) (o : Nat) (w : World), OwnI w base v l → OwnI (w.setCells g o us) base v l
  | [], _, _, h => h
  | u :: us, o, _, h => OwnI.others g hg us (o + 1) _ (h.other g hg o u)
theorem OwnI.reads {W : World} {base : Nat} {a : Option Addr} {n c : Nat} {l : List Int} (h : OwnI W base (.slice a n c) l) : SlI W a l := by
  obtain ⟨a', c', e, h1⟩ := h.val
  obtain ⟨rfl, _, _⟩ : a = a' ∧ n = l.length ∧ c = c' := by simpa using e
  exact h1

theorem map_one (l : List Int) : ∀ v ∈ l.map (Value.int .i64), v.oneCell' = true := by
  intro v hv
  simp at hv
  obtain ⟨x, _, rfl⟩ := hv
  rfl

def eqIs (l m : List Int) : Bool := decide (l = m)
theorem eqIs_no {l m : List Int} (h : l ≠ m) : eqIs l m = false := by simpa [eqIs] using h
theorem eqIs_yes {l m : List Int} (h : l = m) : eqIs l m = true := by simpa [eqIs] using h

set_option maxHeartbeats 1000000 in
theorem equal_is (w : World) (a a' : Option Addr) (c c' : Nat) (l m : List Int) (hl : l.length ≤ maxLen) (h1 : SlI w a l) (h2 : SlI w a' m) :
    Calls Tryz.prog 45 #[.slice a l.length c, .slice a' m.length c'] w
      fun e w' => e = .returned (.bool (eqIs l m)) ∧ ∃ n, w' = w.drewN n := by
  have hl' : l.length ≤ 9223372036854775807 := hl
  by_cases hlen : l.length = m.length
  · have hlen' : ((l.length : Int) != (m.length : Int)) = false := by simp [hlen]
    go_enter Tryz.func45, Tryz.ntmps45
    go_wp2
    go_loopw [13] (fun i w' => ∃ k n : Nat, k ≤ l.length ∧ i = .int .i64 k ∧ w' = w.drewN n ∧ l.take k = m.take k) (fun i _ => l.length - (intOf i).toNat)
    case atStart => exact ⟨0, 0, Nat.zero_le _, rfl, rfl, rfl⟩
    case round =>
      obtain ⟨k, n, hk, rfl, rfl, hpre⟩ := hrel
      have HP : Hid (l.take k = m.take k) := hpre
      clear hpre
      by_cases hlt : k < l.length
      · have hlt2 : k < m.length := by omega
        obtain ⟨b, off, rfl, hbl, g0⟩ := h1.at k hlt
        obtain ⟨b', off', rfl, hbl', x0⟩ := h2.at k hlt2
        have hlti : (k : Int) < (m.length : Int) := by omega
        have HT1 : Hid (l.take (k + 1) = l.take k ++ [l[k]]) := List.take_succ_eq_append_getElem hlt
        have HT2 : Hid (m.take (k + 1) = m.take k ++ [m[k]]) := List.take_succ_eq_append_getElem hlt2
        have HG : Hid (l = m → l[k] = m[k]) := fun e => by subst e; rfl
        generalize l[k] = s at *
        generalize m[k] = t at *
        by_cases hq : s = t
        · have hq' : (s != t) = false := by simp [hq]
          have HQ : Hid (s = t) := hq
          clear hq
          go_wp2
          go_quiet (fail)
          go_wp2
          go_roundw
          case rel => exact ⟨k + 1, _, by omega, by go_num, rfl, by rw [HT1.out, HT2.out, HP.out, HQ.out]⟩
          case measure => simp [intOf]; omega
        · have hq' : (s != t) = true := by simp [hq]
          have HQ : Hid (s ≠ t) := hq
          clear hq
          go_wp2
          go_quiet (fail)
          go_wp2
          go_ret
          exact ⟨ret_bool ((eqIs_no (fun e => HQ.out (HG.out e))).symm), n + nq, by simp⟩
      · go_wp2
        go_ret
        refine ⟨ret_bool ?_, n, rfl⟩
        have e := HP.out
        rw [List.take_of_length_le (by omega), List.take_of_length_le (by omega)] at e
        exact (eqIs_yes e).symm
  · have hlen' : ((l.length : Int) != (m.length : Int)) = true := by simp; omega
    have HL : Hid (l.length ≠ m.length) := hlen
    clear hlen
    go_enter Tryz.func45, Tryz.ntmps45
    go_wp2
    go_ret
    exact ⟨ret_bool ((eqIs_no (by intro e; subst e; exact HL.out rfl)).symm), 0, rfl⟩

set_option maxHeartbeats 1000000 in
theorem cloneInts_any (w : World) (a : Option Addr) (c : Nat) (l : List Int) (hl : l.length ≤ 1000) (h : SlI w a l) :
    Calls Tryz.prog 70 #[.slice a l.length c] w
      fun e w' => ∃ v, e = .returned v ∧ OwnI w' w.heap.size v l ∧ Below w.heap.size w w' := by
  obtain ⟨i0, hi, hz0, hz1, hz2⟩ := info_parts infoInt
  have hq := fun (W : World) (a : Option Addr) (n c : Nat) => Lib.run_eql_slice_nil (P := Tryz.prog) W 31 3 a n c 0 0 Tryz.underlying31
  cases a with
  | none =>
    have hl0 := h.none_nil
    subst hl0
    go_enter Tryz.func70, Tryz.ntmps70
    go_wp2
    go_ret
    exact ⟨_, rfl, World.ownsRow_nil _ _ _ _, Below.refl _ _⟩
  | some ad =>
    have hB := Go.Joins.below_alloc1 w (Obj.cells #[] 3)
    have hown : (w.alloc (Obj.cells #[] 3)).ownsRow w.heap.size 3 1 (.slice (some ⟨w.heap.size, 0, none⟩) 0 0) 0 [] :=
      ⟨rfl, Or.inr ⟨w.heap.size, 0, #[], rfl, Nat.le_refl _, blk_new rfl, Nat.le_refl _, by unfold maxLen; omega, rfl, rfl⟩⟩
    have HN : Hid (∀ j u, (l.map (Value.int .i64))[j]? = some u → (w.alloc (Obj.cells #[] 3)).cell? (ad.add j) = some u) := (h.below hB).news
    clear h
    go_enter Tryz.func70, Tryz.ntmps70
    go_wp2_with (at_builtin; refine wpList_append_own _ rfl _ _ 31 rfl w.heap.size 3 i0 _ 1 8 Tryz.underlying31 hi hz0 hz1 hz2 rfl (by decide) _ _ _ rfl hown ad l.length c (l.map (Value.int .i64)) rfl (by simp) ?c1 ?c2 ?c3 ?c4 ?c5 ?_)
    case c1 => exact HN.out
    case c2 => exact map_one l
    case c3 => unfold maxLen; omega
    case c4 => omega
    case c5 => exact hB.size
    · intro v' w1 hown' hgrow _
      have hb1 := hB.trans (below_grown hown hB.size hgrow)
      have hO : OwnI w1 w.heap.size v' l := by simpa [OwnI] using hown'
      clear hgrow hown hown'
      go_wp2
      go_ret
      exact ⟨_, rfl, hO, hb1⟩
end Go.Proofs.YthlhnokgcnieeadGreat

/- Plain facts on views: what is known, what is the way up, and that a view of a view is the same. -/
namespace Orangery

/-- a node that is one of the roots, or below one -/
def knB (l : List Pl) (roots : List Int) (n : Int) : Bool := roots.any fun r => underB l n r
/-- another one, above a root -/
def wyB (l : List Pl) (roots : List Int) (n : Int) : Bool := !knB l roots n && roots.any fun r => underB l r n
def viewK (l : List Pl) (roots : List Int) : List Pl := l.filter fun p => knB l roots p.1
def viewW (l : List Pl) (roots : List Int) : List Pl := l.filter fun p => wyB l roots p.1
/-- both -/
def seenB (l : List Pl) (roots : List Int) (n : Int) : Bool := knB l roots n || wyB l roots n
def viewA (l : List Pl) (roots : List Int) : List Pl := l.filter fun p => seenB l roots p.1

/-- roots that may be -/
def rootsE : Int → List Int → Int
  | _, [] => 0
  | a, n :: l => if isNodeB n = false then 5 else if n ≤ a then 6 else rootsE n l
def rootsOk (l : List Int) : Int := if 4 < l.length then 2 else rootsE (-1) l

theorem rootsE_step (l : List Int) (k : Nat) (a : Int) (h : k < l.length) (hs : rootsE a (l.drop k) = rootsE (-1) l) :
    (isNodeB l[k] = false → rootsE (-1) l = 5) ∧ (isNodeB l[k] = true → l[k] ≤ a → rootsE (-1) l = 6) ∧ (isNodeB l[k] = true → ¬ l[k] ≤ a → rootsE l[k] (l.drop (k + 1)) = rootsE (-1) l) := by
  rw [List.drop_eq_getElem_cons h] at hs
  have e : rootsE a (l[k] :: l.drop (k + 1)) = if isNodeB l[k] = false then 5 else if l[k] ≤ a then 6 else rootsE l[k] (l.drop (k + 1)) := rfl
  rw [e] at hs
  refine ⟨fun h1 => ?_, fun h1 h2 => ?_, fun h1 h2 => ?_⟩
  · rw [if_pos h1] at hs; exact hs.symm
  · rw [if_neg (by simp [h1]), if_pos h2] at hs; exact hs.symm
  · rw [if_neg (by simp [h1]), if_neg h2] at hs; exact hs

theorem rootsE_node (l : List Int) : ∀ a, rootsE a l = 0 → (∀ r ∈ l, isNodeB r = true ∧ a < r) ∧ l.Pairwise (· < ·) := by
  induction l with
  | nil => intro a _; exact ⟨by simp, List.Pairwise.nil⟩
  | cons n l ih =>
    intro a h
    unfold rootsE at h
    split at h
    · omega
    · split at h
      · omega
      · rename_i h1 h2
        obtain ⟨h3, h4⟩ := ih n h
        refine ⟨?_, List.pairwise_cons.2 ⟨fun r hr => (h3 r hr).2, h4⟩⟩
        intro r hr
        simp at hr h1
        rcases hr with rfl | hr
        · exact ⟨h1, by omega⟩
        · exact ⟨(h3 r hr).1, by have := (h3 r hr).2; omega⟩
theorem rootsOk_node {l : List Int} (h : rootsOk l = 0) : ∀ r ∈ l, isNodeB r = true := by
  unfold rootsOk at h
  split at h
  · omega
  · exact fun r hr => ((rootsE_node l _ h).1 r hr).1
theorem rootsOk_len {l : List Int} (h : rootsOk l = 0) : l.length ≤ 4 := by
  unfold rootsOk at h
  split at h
  · omega
  · omega

/-- places of some nodes alone -/
theorem find_g (g : Int → Bool) (l : List Pl) (n : Int) : find (l.filter fun p => g p.1) n = if g n = true then find l n else (0, 0, 0) := by
  cases h : g n
  · rw [if_neg (by simp)]
    refine find_zero _ _ ?_
    intro q hq e
    have : g q.1 = true := (List.mem_filter.1 hq).2
    rw [e, h] at this
    simp at this
  · rw [if_pos rfl]
    exact find_filter _ l n (fun q _ e => by rw [e]; exact h)

theorem up_g1 (g : Int → Bool) (l : List Pl) (k : Nat) : ∀ a b, upN (l.filter fun p => g p.1) k a = some b → upN l k a = some b := by
  induction k with
  | zero => intro a b h; exact h
  | succ k ih =>
    intro a b h
    rw [upN, find_g] at h
    rw [upN]
    cases hg : g a
    · rw [hg] at h; simp at h
    · rw [hg] at h
      simp only [if_true] at h
      split at h
      · simp at h
      · rename_i hz
        rw [if_neg hz]
        exact ih _ _ h

theorem up_g2 (g : Int → Bool) (l : List Pl) (k : Nat) : ∀ a b, upN l k a = some b → (∀ i, i < k → ∀ c, upN l i a = some c → g c = true) → upN (l.filter fun p => g p.1) k a = some b := by
  induction k with
  | zero => intro a b h _; exact h
  | succ k ih =>
    intro a b h hg
    have h0 : g a = true := hg 0 (by omega) a rfl
    rw [upN, find_g, h0]
    simp only [if_true]
    rw [upN] at h
    split at h
    · simp at h
    · rename_i hz
      rw [if_neg hz]
      exact ih _ _ h (fun i hi c hc => hg (i + 1) (by omega) c (by rw [upN, if_neg hz]; exact hc))

theorem check_g (g : Int → Bool) (l : List Pl) (h : check l = 0) : check (l.filter fun p => g p.1) = 0 := by
  rw [check_iff] at h ⊢
  obtain ⟨h1, h2, h3⟩ := h
  exact ⟨fun p hp => h1 p (List.mem_filter.1 hp).1, h2.filter _, fun a j hj => h3 a j (up_g1 g l _ _ _ hj)⟩

theorem up_node (l : List Pl) (h : check l = 0) (k : Nat) : ∀ a b, isNodeB a = true → upN l k a = some b → isNodeB b = true := by
  induction k with
  | zero => intro a b ha hb; simp [upN] at hb; subst hb; exact ha
  | succ k ih =>
    intro a b ha hb
    rw [upN] at hb
    split at hb
    · simp at hb
    · rename_i hz
      obtain ⟨hm, _⟩ := find_mem l a hz
      exact ih _ _ (mem_node l h _ hm).2.1 hb

theorem kn_iff (l : List Pl) (roots : List Int) (h : check l = 0) (hr : ∀ r ∈ roots, isNodeB r = true) (n : Int) (hn : isNodeB n = true) : knB l roots n = true ↔ ∃ r ∈ roots, ∃ j, upN l j n = some r := by
  unfold knB
  rw [List.any_eq_true]
  constructor
  · rintro ⟨r, hm, hu⟩; exact ⟨r, hm, (under_iff l n r h hn (hr r hm)).1 hu⟩
  · rintro ⟨r, hm, hu⟩; exact ⟨r, hm, (under_iff l n r h hn (hr r hm)).2 hu⟩
theorem wy_iff (l : List Pl) (roots : List Int) (h : check l = 0) (hr : ∀ r ∈ roots, isNodeB r = true) (n : Int) (hn : isNodeB n = true) : wyB l roots n = true ↔ knB l roots n = false ∧ ∃ r ∈ roots, ∃ j, upN l j r = some n := by
  unfold wyB
  rw [Bool.and_eq_true, List.any_eq_true]
  have e : (!knB l roots n) = true ↔ knB l roots n = false := by simp
  rw [e]
  constructor
  · rintro ⟨h1, r, hm, hu⟩; exact ⟨h1, r, hm, (under_iff l r n h (hr r hm) hn).1 hu⟩
  · rintro ⟨h1, r, hm, hu⟩; exact ⟨h1, r, hm, (under_iff l r n h (hr r hm) hn).2 hu⟩

theorem kn_again (l : List Pl) (roots : List Int) (h : check l = 0) (hr : ∀ r ∈ roots, isNodeB r = true) (n : Int) (hn : isNodeB n = true) : knB (viewA l roots) roots n = knB l roots n := by
  have hc : check (viewA l roots) = 0 := check_g (seenB l roots) l h
  rw [Bool.eq_iff_iff, kn_iff _ roots hc hr n hn, kn_iff l roots h hr n hn]
  constructor
  · rintro ⟨r, hm, j, hj⟩; exact ⟨r, hm, j, up_g1 (seenB l roots) l _ _ _ hj⟩
  · rintro ⟨r, hm, j, hj⟩
    refine ⟨r, hm, j, up_g2 (seenB l roots) l _ _ _ hj ?_⟩
    intro i hi c hc'
    have : knB l roots c = true := (kn_iff l roots h hr c (up_node l h i n c hn hc')).2 ⟨r, hm, j - i, by
      have := upN_add l i (j - i) n
      rw [show i + (j - i) = j by omega, hj, hc'] at this
      exact this.symm⟩
    unfold seenB
    rw [this]
    rfl

theorem wy_again (l : List Pl) (roots : List Int) (h : check l = 0) (hr : ∀ r ∈ roots, isNodeB r = true) (n : Int) (hn : isNodeB n = true) : wyB (viewA l roots) roots n = wyB l roots n := by
  have hc : check (viewA l roots) = 0 := check_g (seenB l roots) l h
  rw [Bool.eq_iff_iff, wy_iff _ roots hc hr n hn, wy_iff l roots h hr n hn, kn_again l roots h hr n hn]
  constructor
  · rintro ⟨h1, r, hm, j, hj⟩; exact ⟨h1, r, hm, j, up_g1 (seenB l roots) l _ _ _ hj⟩
  · rintro ⟨h1, r, hm, j, hj⟩
    refine ⟨h1, r, hm, j, up_g2 (seenB l roots) l _ _ _ hj ?_⟩
    intro i hi c hc'
    have hcn := up_node l h i r c (hr r hm) hc'
    unfold seenB
    cases hk : knB l roots c
    · rw [(wy_iff l roots h hr c hcn).2 ⟨hk, r, hm, i, hc'⟩]; rfl
    · rfl

/-- a view of a view is the same -/
theorem view_again (l : List Pl) (roots : List Int) (h : check l = 0) (hr : ∀ r ∈ roots, isNodeB r = true) :
    check (viewA l roots) = 0 ∧ viewK (viewA l roots) roots = viewK l roots ∧ viewW (viewA l roots) roots = viewW l roots := by
  refine ⟨check_g (seenB l roots) l h, ?_, ?_⟩
  · unfold viewK
    conv => lhs; arg 2; unfold viewA
    rw [List.filter_filter]
    apply List.filter_congr
    intro p hp
    rw [kn_again l roots h hr p.1 (mem_node l h p hp).1]
    unfold seenB
    cases knB l roots p.1 <;> simp
  · unfold viewW
    conv => lhs; arg 2; unfold viewA
    rw [List.filter_filter]
    apply List.filter_congr
    intro p hp
    rw [wy_again l roots h hr p.1 (mem_node l h p hp).1]
    unfold seenB
    cases wyB l roots p.1 <;> simp

/-- what is known and what is the way are apart -/
theorem view_apart (l : List Pl) (roots : List Int) (n : Int) (h : knB l roots n = true) : wyB l roots n = false := by
  unfold wyB
  rw [h]
  rfl
theorem view_perm (l : List Pl) (roots : List Int) : (viewK l roots ++ viewW l roots).Perm (viewA l roots) := by
  exact filter_or _ _ (fun p hp => view_apart l roots p.1 hp) l

/-- who is known, or a root, has all their kids known -/
theorem view_kids (l : List Pl) (roots : List Int) (h : check l = 0) (hr : ∀ r ∈ roots, isNodeB r = true) (p : Pl) (hp : p ∈ l) (hk : knB l roots p.2.1 = true) : knB l roots p.1 = true := by
  obtain ⟨h1, h2, h3, _⟩ := mem_node l h p hp
  obtain ⟨r, hm, j, hj⟩ := (kn_iff l roots h hr _ h2).1 hk
  refine (kn_iff l roots h hr _ h1).2 ⟨r, hm, j + 1, ?_⟩
  have hz : p.1 ≠ 0 := by have := (scan_range l 0 (check_scan l h) p hp).2; omega
  rw [upN, h3, if_neg hz]
  exact hj
theorem root_known (l : List Pl) (roots : List Int) (h : check l = 0) (r : Int) (hr : isNodeB r = true) (hm : r ∈ roots) : knB l roots r = true := by
  unfold knB
  rw [List.any_eq_true]
  exact ⟨r, hm, under_refl l r h hr⟩

/-- with more roots no less is known -/
theorem view_more (l : List Pl) (roots more : List Int) (hs : ∀ r ∈ roots, r ∈ more) (n : Int) (h : knB l roots n = true) : knB l more n = true := by
  unfold knB at *
  rw [List.any_eq_true] at *
  obtain ⟨r, hm, hu⟩ := h
  exact ⟨r, hs r hm, hu⟩

/-- the reference's way to reckon it: on chains -/
theorem kn_chain (l : List Pl) (roots : List Int) (h : check l = 0) (hr : ∀ r ∈ roots, isNodeB r = true) (n : Int) (hn : isNodeB n = true) : knB l roots n = (chain l n).any fun m => hasB m roots := by
  rw [Bool.eq_iff_iff]
  unfold knB
  rw [List.any_eq_true, List.any_eq_true]
  constructor
  · rintro ⟨r, hm, hu⟩
    rw [under_eq l n r h hn (hr r hm)] at hu
    exact ⟨r, by simpa [hasB] using hu, by simpa [hasB] using hm⟩
  · rintro ⟨m, hm, hu⟩
    have hm' : m ∈ roots := by simpa [hasB] using hu
    exact ⟨m, hm', by rw [under_eq l n m h hn (hr m hm')]; simpa [hasB] using hm⟩

theorem chain_head (l : List Pl) (r : Int) (h : check l = 0) (hr : isNodeB r = true) : ∃ t, chain l r = r :: t ∧ r ∉ t := by
  rw [isNodeB_iff] at hr
  obtain ⟨m, ⟨hok, hi, _⟩, _⟩ := chain_inv l r (scan_up (check_scan l h)) hr.1 hr.2
  have hpos := hok.2.2
  have h0 := hi 0 (by omega)
  cases hc : chain l r with
  | nil => rw [hc] at hpos; simp at hpos
  | cons x t =>
    have e : x = r := by
      have : upN l 0 r = some (chain l r)[0] := h0
      simp only [hc, List.getElem_cons_zero, upN] at this
      exact (Option.some.inj this).symm
    subst e
    refine ⟨t, rfl, ?_⟩
    have := hok.1
    rw [hc] at this
    exact (List.nodup_cons.1 this).1

theorem wy_chain (l : List Pl) (roots : List Int) (h : check l = 0) (hr : ∀ r ∈ roots, isNodeB r = true) (n : Int) (hn : isNodeB n = true) (hk : knB l roots n = false) :
    wyB l roots n = roots.any fun r => hasB n ((chain l r).drop 1) := by
  unfold wyB
  rw [hk, Bool.eq_iff_iff]
  simp only [Bool.not_false, Bool.true_and]
  rw [List.any_eq_true, List.any_eq_true]
  constructor
  · rintro ⟨r, hm, hu⟩
    refine ⟨r, hm, ?_⟩
    rw [under_eq l r n h (hr r hm) hn] at hu
    obtain ⟨t, ht, _⟩ := chain_head l r h (hr r hm)
    have hne : n ≠ r := by
      rintro rfl
      rw [root_known l roots h n hn hm] at hk
      simp at hk
    rw [ht] at hu ⊢
    simp [hasB] at hu ⊢
    rcases hu with hu | hu
    · exact absurd hu hne
    · exact hu
  · rintro ⟨r, hm, hu⟩
    refine ⟨r, hm, ?_⟩
    rw [under_eq l r n h (hr r hm) hn]
    obtain ⟨t, ht, _⟩ := chain_head l r h (hr r hm)
    rw [ht] at hu ⊢
    simp [hasB] at hu ⊢
    exact Or.inr hu

/-- a row of a table, of places in whatever order: the last one counts -/
def tabLast (l : List Pl) (n : Int) : Pl := l.foldl (fun t p => if p.1 = n then p else t) (0, -1, 0)
theorem tabLast_snoc (l : List Pl) (p : Pl) (n : Int) : tabLast (l ++ [p]) n = if p.1 = n then p else tabLast l n := by
  unfold tabLast
  rw [List.foldl_append]
  rfl
theorem tabLast_take (l : List Pl) (k : Nat) (h : k < l.length) (n : Int) : tabLast (l.take (k + 1)) n = if n = l[k].1 then l[k] else tabLast (l.take k) n := by
  rw [List.take_succ_eq_append_getElem h, tabLast_snoc]
  by_cases he : l[k].1 = n
  · rw [if_pos he, if_pos he.symm]
  · rw [if_neg he, if_neg (fun e => he e.symm)]
theorem tabLast_append (l m : List Pl) (n : Int) : tabLast (l ++ m) n = m.foldl (fun t p => if p.1 = n then p else t) (tabLast l n) := by
  unfold tabLast
  rw [List.foldl_append]
theorem foldl_at (m : List Pl) (n : Int) (hb : byNode m) (hz : ∀ p ∈ m, p.1 ≠ 0) : ∀ t, m.foldl (fun t p => if p.1 = n then p else t) t = if (find m n).1 = 0 then t else find m n := by
  induction m with
  | nil => intro t; simp [find_nil]
  | cons q m ih =>
    intro t
    replace hb := List.pairwise_cons.1 hb
    rw [List.foldl_cons, ih hb.2 (fun p hp => hz p (by simp [hp])), find_cons]
    by_cases hq : q.1 = n
    · rw [if_pos hq, if_pos hq]
      have hf : find m n = (0, 0, 0) := find_zero m n (fun p hp e => by have := hb.1 p hp; omega)
      rw [hf]
      have := hz q (by simp)
      simp [this]
    · rw [if_neg hq, if_neg hq]
theorem tabLast_eq (l : List Pl) (h : scan 0 l = 0) (n : Int) : tabLast l n = tabAt l n := by
  obtain ⟨h1, h2⟩ := (scan0_iff l).1 h
  unfold tabLast tabAt
  rw [foldl_at l n h2 (fun p hp => by have := (inRangeB_iff p).1 (h1 p hp); omega)]
end Orangery

/- Plain facts on deltas: what goes, what is here, and that it makes the other one. -/
namespace Orangery

/-- two trees in which all are found alike are one -/
theorem ext_find (l m : List Pl) (hl : scan 0 l = 0) (hm : scan 0 m = 0) (h : ∀ n, find l n = find m n) : l = m := by
  rw [← rows_all l hl, ← rows_all m hm]
  apply rows_congr
  intro n _
  unfold tabAt
  rw [h]

def goneL (a b : List Pl) : List Int := (a.filter fun p => decide ((find b p.1).1 = 0)).map (·.1)
def hereL (a b : List Pl) : List Pl := b.filter fun p => decide (find a p.1 ≠ p)
/-- some go, some stand so -/
def appL (l : List Pl) (gone : List Int) (here : List Pl) : List Pl := here.foldl inL (l.filter fun p => !hasB p.1 gone)

theorem find_ins (here : List Pl) (hb : byNode here) (hz : ∀ p ∈ here, p.1 ≠ 0) : ∀ l n, find (here.foldl inL l) n = if (find here n).1 = 0 then find l n else find here n := by
  induction here with
  | nil => intro l n; simp [find_nil]
  | cons q m ih =>
    intro l n
    replace hb := List.pairwise_cons.1 hb
    rw [List.foldl_cons, ih hb.2 (fun p hp => hz p (by simp [hp])), find_cons, find_in]
    by_cases hq : q.1 = n
    · subst hq
      have hf : find m q.1 = (0, 0, 0) := find_zero m q.1 (fun p hp e => by have := hb.1 p hp; omega)
      have := hz q (by simp)
      simp [hf, this]
    · have e1 : (if n = q.1 then q else find l n) = find l n := if_neg (fun e => hq e.symm)
      have e2 : (if q.1 = n then q else find m n) = find m n := if_neg hq
      rw [e1, e2]

theorem find_app (l : List Pl) (gone : List Int) (here : List Pl) (hb : byNode here) (hz : ∀ p ∈ here, p.1 ≠ 0) (n : Int) :
    find (appL l gone here) n = if (find here n).1 = 0 then (if hasB n gone = true then (0, 0, 0) else find l n) else find here n := by
  unfold appL
  rw [find_ins here hb hz]
  have h := find_g (fun m => !hasB m gone) l n
  rw [h]
  cases hasB n gone <;> simp

theorem scan_filter (l : List Pl) (f : Pl → Bool) (h : scan 0 l = 0) : scan 0 (l.filter f) = 0 := by
  obtain ⟨h1, h2⟩ := (scan0_iff l).1 h
  exact (scan0_iff _).2 ⟨fun p hp => h1 p (List.mem_filter.1 hp).1, h2.filter _⟩

theorem scan_ins (here : List Pl) (hr : ∀ p ∈ here, inRangeB p = true) : ∀ l, scan 0 l = 0 → scan 0 (here.foldl inL l) = 0 := by
  induction here with
  | nil => intro l h; exact h
  | cons q m ih => intro l h; exact ih (fun p hp => hr p (by simp [hp])) _ (scan_in l q h (hr q (by simp)))

theorem scan_app (l : List Pl) (gone : List Int) (here : List Pl) (hl : scan 0 l = 0) (hh : scan 0 here = 0) : scan 0 (appL l gone here) = 0 :=
  scan_ins here ((scan0_iff here).1 hh).1 _ (scan_filter l _ hl)

theorem find_here (a b : List Pl) (hb : scan 0 b = 0) (n : Int) : find (hereL a b) n = if find a n = find b n then (0, 0, 0) else find b n := by
  obtain ⟨h1, h2⟩ := (scan0_iff b).1 hb
  by_cases hz : (find b n).1 = 0
  · have hno : ∀ p ∈ b, p.1 ≠ n := by
      intro p hp e
      have := find_of_mem h2 p hp
      rw [e] at this
      rw [this] at hz
      have := (inRangeB_iff p).1 (h1 p hp)
      omega
    have e1 : find b n = (0, 0, 0) := find_zero b n hno
    have e2 : find (hereL a b) n = (0, 0, 0) := find_zero _ n (fun p hp => hno p (List.mem_filter.1 hp).1)
    rw [e1, e2]
    simp
  · obtain ⟨hm, hn⟩ := find_mem b n hz
    by_cases he : find a n = find b n
    · rw [if_pos he]
      refine find_zero _ n ?_
      intro p hp e
      obtain ⟨hp1, hp2⟩ := List.mem_filter.1 hp
      have h3 := find_of_mem h2 p hp1
      rw [e] at h3
      simp only [decide_eq_true_eq] at hp2
      rw [e, he, h3] at hp2
      exact hp2 rfl
    · rw [if_neg he]
      refine find_filter _ b n ?_
      intro p hp e
      have h3 := find_of_mem h2 p hp
      rw [e] at h3
      simp only [decide_eq_true_eq]
      rw [e, ← h3]
      exact he

theorem gone_iff (a b : List Pl) (ha : scan 0 a = 0) (n : Int) : hasB n (goneL a b) = true ↔ (find a n).1 ≠ 0 ∧ (find b n).1 = 0 := by
  obtain ⟨h1, h2⟩ := (scan0_iff a).1 ha
  unfold hasB goneL
  rw [decide_eq_true_eq, List.mem_map]
  constructor
  · rintro ⟨p, hp, rfl⟩
    obtain ⟨hp1, hp2⟩ := List.mem_filter.1 hp
    refine ⟨?_, by simpa using hp2⟩
    rw [find_of_mem h2 p hp1]
    have := (inRangeB_iff p).1 (h1 p hp1)
    omega
  · rintro ⟨h3, h4⟩
    obtain ⟨hm, hn⟩ := find_mem a n h3
    exact ⟨find a n, List.mem_filter.2 ⟨hm, by rw [hn]; simpa using h4⟩, hn⟩

theorem find_none (l : List Pl) (h : scan 0 l = 0) (n : Int) (hz : (find l n).1 = 0) : find l n = (0, 0, 0) := by
  obtain ⟨h1, h2⟩ := (scan0_iff l).1 h
  refine find_zero l n ?_
  intro p hp e
  have := find_of_mem h2 p hp
  rw [e] at this
  rw [this] at hz
  have := (inRangeB_iff p).1 (h1 p hp)
  omega

/-- what changes, applied, makes the other one -/
theorem delta_makes (a b : List Pl) (ha : scan 0 a = 0) (hb : scan 0 b = 0) : appL a (goneL a b) (hereL a b) = b := by
  obtain ⟨h1, h2⟩ := (scan0_iff b).1 hb
  have hh : scan 0 (hereL a b) = 0 := scan_filter b _ hb
  obtain ⟨h3, h4⟩ := (scan0_iff _).1 hh
  refine ext_find _ _ (scan_app a _ _ ha hh) hb ?_
  intro n
  rw [find_app a _ _ h4 (fun p hp => by have := (inRangeB_iff p).1 (h3 p hp); omega), find_here a b hb]
  by_cases he : find a n = find b n
  · rw [if_pos he]
    simp only [if_true]
    rw [if_neg, he]
    rw [gone_iff a b ha, he]
    exact fun h => h.1 h.2
  · rw [if_neg he]
    by_cases hz : (find b n).1 = 0
    · have e0 := find_none b hb n hz
      rw [if_pos hz, if_pos, e0]
      rw [gone_iff a b ha]
      refine ⟨fun h => he ?_, hz⟩
      rw [find_none a ha n h, e0]
    · rw [if_neg hz]

/-- of like ones there is none -/
theorem delta_none (a : List Pl) (ha : scan 0 a = 0) : goneL a a = [] ∧ hereL a a = [] := by
  obtain ⟨h1, h2⟩ := (scan0_iff a).1 ha
  constructor
  · unfold goneL
    rw [List.map_eq_nil_iff, List.filter_eq_nil_iff]
    intro p hp h
    rw [find_of_mem h2 p hp] at h
    have := (inRangeB_iff p).1 (h1 p hp)
    simp at h
    omega
  · unfold hereL
    rw [List.filter_eq_nil_iff]
    intro p hp h
    rw [find_of_mem h2 p hp] at h
    simp at h
end Orangery

/- Plain facts on a view's two parts put together. -/
namespace Orangery

/-- both together: of a node that is in both the place in the way counts -/
def togL (K W : List Pl) : List Pl := W.foldl inL K
/-- is a node in these places? -/
def inPl (W : List Pl) (n : Int) : Bool := decide ((find W n).1 = n)

def ofE (l : List Pl) (R : List Int) : Int := orI (check l) (rootsOk R)
def ofR (l : List Pl) (R : List Int) : List Int := if ofE l R ≠ 0 then [] else R
def ofK (l : List Pl) (R : List Int) : List Pl := if ofE l R ≠ 0 then [] else viewK l R
def ofW (l : List Pl) (R : List Int) : List Pl := if ofE l R ≠ 0 then [] else viewW l R
def sameV (R R' : List Int) (K K' W W' : List Pl) : Bool := decide (R = R') && decide (K = K') && decide (W = W')
def viewE (R : List Int) (K W : List Pl) : Int :=
  if rootsOk R ≠ 0 then rootsOk R else if check K ≠ 0 then check K else if check W ≠ 0 then check W
  else if check (togL K W) ≠ 0 then check (togL K W) else if sameV R R K (viewK (togL K W) R) W (viewW (togL K W) R) = true then 0 else 4

theorem ofE_zero {l : List Pl} {R : List Int} (h : ofE l R = 0) : check l = 0 ∧ rootsOk R = 0 := by
  unfold ofE orI at h
  split at h
  · rename_i h1; exact absurd h h1
  · rename_i h1
    simp at h1
    exact ⟨h1, h⟩
theorem of_ok {l : List Pl} {R : List Int} (h : ofE l R = 0) : ofR l R = R ∧ ofK l R = viewK l R ∧ ofW l R = viewW l R := by
  unfold ofR ofK ofW
  rw [if_neg (by simp [h]), if_neg (by simp [h]), if_neg (by simp [h])]
  exact ⟨rfl, rfl, rfl⟩
theorem of_bad {l : List Pl} {R : List Int} (h : ofE l R ≠ 0) : ofR l R = [] ∧ ofK l R = [] ∧ ofW l R = [] := by
  unfold ofR ofK ofW
  rw [if_pos h, if_pos h, if_pos h]
  exact ⟨rfl, rfl, rfl⟩

theorem scan_tog {K W : List Pl} (hK : scan 0 K = 0) (hW : scan 0 W = 0) : scan 0 (togL K W) = 0 :=
  scan_ins W (fun p hp => (scan_range W 0 hW p hp).1) K hK
theorem find_tog {K W : List Pl} (hW : scan 0 W = 0) (n : Int) : find (togL K W) n = if (find W n).1 = 0 then find K n else find W n :=
  find_ins W (scan_sorted W 0 hW) (fun p hp => by have := (scan_range W 0 hW p hp).2; omega) K n

theorem inPl_iff {W : List Pl} (n : Int) (hn : n ≠ 0) : inPl W n = true ↔ (find W n).1 ≠ 0 := by
  unfold inPl
  rw [decide_eq_true_iff]
  constructor
  · intro h; rw [h]; exact hn
  · intro h; exact (find_mem W n h).2

theorem node_pos {W : List Pl} (hW : scan 0 W = 0) (p : Pl) (hp : p ∈ W) : p.1 ≠ 0 := by have := (scan_range W 0 hW p hp).2; omega

/-- the program's way: take out of the one what is in the other, put the other behind it, sort -/
theorem tog_unique (K W l' : List Pl) (hK : scan 0 K = 0) (hW : scan 0 W = 0)
    (hp : l'.Perm ((K.filter fun p => !inPl W p.1) ++ W)) (hs : l'.Pairwise fun p q => p.1 ≤ q.1) : l' = togL K W := by
  have hKs := scan_sorted K 0 hK
  have hWs := scan_sorted W 0 hW
  have hmem : ∀ p, p ∈ l' ↔ (p ∈ K ∧ (find W p.1).1 = 0) ∨ p ∈ W := by
    intro p
    rw [hp.mem_iff, List.mem_append, List.mem_filter]
    constructor
    · rintro (⟨h1, h2⟩ | h)
      · left
        refine ⟨h1, ?_⟩
        have hn := node_pos hK p h1
        have : ¬ inPl W p.1 = true := by simpa using h2
        rw [inPl_iff _ hn] at this
        simpa using this
      · exact Or.inr h
    · rintro (⟨h1, h2⟩ | h)
      · left
        refine ⟨h1, ?_⟩
        have hn := node_pos hK p h1
        have : ¬ inPl W p.1 = true := by rw [inPl_iff _ hn]; simpa using h2
        simpa using this
      · exact Or.inr h
  have hnd : (((K.filter fun p => !inPl W p.1) ++ W).map (·.1)).Nodup := by
    rw [List.map_append, List.nodup_append]
    refine ⟨?_, ?_, ?_⟩
    · rw [List.Nodup, List.pairwise_map]
      exact (hKs.filter _).imp (fun h => by omega)
    · rw [List.Nodup, List.pairwise_map]
      exact hWs.imp (fun h => by omega)
    · intro x hx y hy
      simp only [List.mem_map, List.mem_filter] at hx hy
      obtain ⟨p, ⟨h1, h2⟩, rfl⟩ := hx
      obtain ⟨q, h3, rfl⟩ := hy
      intro e
      have hn := node_pos hK p h1
      have : ¬ inPl W p.1 = true := by simpa using h2
      apply this
      rw [inPl_iff _ hn, e, find_of_mem hWs q h3, ← e]
      exact hn
  have hnd' : (l'.map (·.1)).Nodup := ((hp.map (·.1)).nodup_iff).2 hnd
  rw [List.Nodup, List.pairwise_map] at hnd'
  have hb : l'.Pairwise fun p q => p.1 < q.1 := (List.Pairwise.and hs hnd').imp (fun h => by omega)
  have hr : ∀ p ∈ l', inRangeB p = true := by
    intro p h
    rcases (hmem p).1 h with h | h
    · exact (scan_range K 0 hK p h.1).1
    · exact (scan_range W 0 hW p h).1
  refine ext_find _ _ ((scan0_iff l').2 ⟨hr, hb⟩) (scan_tog hK hW) ?_
  intro n
  rw [find_tog hW]
  by_cases h1 : (find W n).1 = 0
  · rw [if_pos h1]
    by_cases h2 : (find K n).1 = 0
    · rw [find_none K hK n h2]
      apply find_zero
      intro p h e
      rcases (hmem p).1 h with h | h
      · rw [← e, find_of_mem hKs p h.1] at h2
        exact node_pos hK p h.1 h2
      · rw [← e, find_of_mem hWs p h] at h1
        exact node_pos hW p h h1
    · obtain ⟨h3, h4⟩ := find_mem K n h2
      have h5 : find K n ∈ l' := (hmem _).2 (Or.inl ⟨h3, by rw [h4]; exact h1⟩)
      have := find_of_mem hb _ h5
      rw [h4] at this
      exact this
  · rw [if_neg h1]
    obtain ⟨h3, h4⟩ := find_mem W n h1
    have h5 : find W n ∈ l' := (hmem _).2 (Or.inr h3)
    have := find_of_mem hb _ h5
    rw [h4] at this
    exact this

/-- the reference's way: a table -/
theorem tog_rows (K W : List Pl) (hK : scan 0 K = 0) (hW : scan 0 W = 0) : rows (fun n => tabLast (K ++ W) n) 16 = togL K W := by
  have h := rows_all (togL K W) (scan_tog hK hW)
  rw [← h]
  apply rows_congr
  intro n _
  obtain ⟨h1, h2⟩ := (scan0_iff W).1 hW
  rw [tabLast_append, tabLast_eq K hK, foldl_at W n h2 (fun p hp => node_pos hW p hp)]
  unfold tabAt
  rw [find_tog hW]
  by_cases h3 : (find W (n : Int)).1 = 0
  · rw [if_pos h3, if_pos h3]
  · rw [if_neg h3, if_neg h3, if_neg h3]

/-- a view is one: what its parts make together -/
theorem tog_view (l : List Pl) (R : List Int) (h : check l = 0) : togL (viewK l R) (viewW l R) = viewA l R := by
  have hs := check_scan l h
  have hK : scan 0 (viewK l R) = 0 := scan_filter l _ hs
  have hW : scan 0 (viewW l R) = 0 := scan_filter l _ hs
  have hA : scan 0 (viewA l R) = 0 := scan_filter l _ hs
  refine ext_find _ _ (scan_tog hK hW) hA ?_
  intro n
  rw [find_tog hW]
  have e1 : find (viewK l R) n = if knB l R n = true then find l n else (0, 0, 0) := find_g (knB l R) l n
  have e2 : find (viewW l R) n = if wyB l R n = true then find l n else (0, 0, 0) := find_g (wyB l R) l n
  have e3 : find (viewA l R) n = if seenB l R n = true then find l n else (0, 0, 0) := find_g (seenB l R) l n
  rw [e1, e2, e3]
  unfold seenB
  cases hk : knB l R n
  · cases hw : wyB l R n
    · simp
    · simp
      intro hz
      rw [find_none l hs n hz]
  · rw [view_apart l R n hk]
    simp

theorem view_ok (l : List Pl) (R : List Int) (h : ofE l R = 0) : viewE R (viewK l R) (viewW l R) = 0 := by
  obtain ⟨h1, h2⟩ := ofE_zero h
  obtain ⟨g1, g2, g3⟩ := view_again l R h1 (rootsOk_node h2)
  unfold viewE
  rw [tog_view l R h1, if_neg (by simp [h2]), if_neg (by simp; exact check_g _ l h1), if_neg (by simp; exact check_g _ l h1), if_neg (by simp [g1]), g2, g3]
  simp [sameV]

/-- the one ahead of the k-th -/
def prevI (l : List Int) : Nat → Int
  | 0 => -1
  | k + 1 => (l[k]?).getD 0
theorem prevI_succ (l : List Int) (k : Nat) (h : k < l.length) : prevI l (k + 1) = l[k] := by simp [prevI, h]

def idxI (f : Int → Bool) : Nat → List Int → Int
  | _, [] => -1
  | k, n :: l => if f n = true then k else idxI f (k + 1) l
theorem idxI_step (f : Int → Bool) (l : List Int) (k : Nat) (h : k < l.length) (hs : idxI f k (l.drop k) = idxI f 0 l) :
    (f l[k] = true → idxI f 0 l = k) ∧ (f l[k] = false → idxI f (k + 1) (l.drop (k + 1)) = idxI f 0 l) := by
  rw [List.drop_eq_getElem_cons h] at hs
  have e : idxI f k (l[k] :: l.drop (k + 1)) = if f l[k] = true then (k : Int) else idxI f (k + 1) (l.drop (k + 1)) := rfl
  rw [e] at hs
  refine ⟨fun h1 => ?_, fun h1 => ?_⟩
  · rw [if_pos h1] at hs; exact hs.symm
  · rw [if_neg (by simp [h1])] at hs; exact hs
theorem idxI_any (f : Int → Bool) (l : List Int) : ∀ k : Nat, (idxI f k l = -1 ∧ l.any f = false) ∨ ((k : Int) ≤ idxI f k l ∧ l.any f = true) := by
  induction l with
  | nil => intro k; exact Or.inl ⟨rfl, rfl⟩
  | cons n l ih =>
    intro k
    have e : idxI f k (n :: l) = if f n = true then (k : Int) else idxI f (k + 1) l := rfl
    rw [e, List.any_cons]
    by_cases h : f n = true
    · rw [if_pos h]; exact Or.inr ⟨Int.le_refl _, by simp [h]⟩
    · rw [if_neg h]
      have hf : f n = false := by simpa using h
      rcases ih (k + 1) with ⟨h1, h2⟩ | ⟨h1, h2⟩
      · exact Or.inl ⟨h1, by simp [hf, h2]⟩
      · refine Or.inr ⟨by omega, by simp [h2]⟩
theorem idxF_any (f : Pl → Bool) (l : List Pl) : ∀ k : Nat, (idxF f k l = -1 ∧ l.any f = false) ∨ ((k : Int) ≤ idxF f k l ∧ l.any f = true) := by
  induction l with
  | nil => intro k; exact Or.inl ⟨rfl, rfl⟩
  | cons n l ih =>
    intro k
    have e : idxF f k (n :: l) = if f n = true then (k : Int) else idxF f (k + 1) l := rfl
    rw [e, List.any_cons]
    by_cases h : f n = true
    · rw [if_pos h]; exact Or.inr ⟨Int.le_refl _, by simp [h]⟩
    · rw [if_neg h]
      have hf : f n = false := by simpa using h
      rcases ih (k + 1) with ⟨h1, h2⟩ | ⟨h1, h2⟩
      · exact Or.inl ⟨h1, by simp [hf, h2]⟩
      · refine Or.inr ⟨by omega, by simp [h2]⟩
theorem under_E {l : List Pl} {n t : Int} (h : underB l n t = true) : underE l n t = 0 := by
  unfold underB at h
  split at h
  · simp at h
  · rename_i h1; simpa using h1
/-- a node above one of the roots -/
def abB (l : List Pl) (R : List Int) (n : Int) : Bool := R.any fun r => underB l r n
theorem wy_ab (l : List Pl) (R : List Int) (n : Int) : wyB l R n = (!knB l R n && abB l R n) := rfl
theorem viewK_take (l : List Pl) (R : List Int) (k : Nat) (h : k < l.length) : (l.take (k + 1)).filter (fun p => knB l R p.1) = (l.take k).filter (fun p => knB l R p.1) ++ if knB l R l[k].1 = true then [l[k]] else [] := by
  rw [List.take_succ_eq_append_getElem h, List.filter_append]
  congr 1
  by_cases hk : knB l R l[k].1 = true
  · simp [hk]
  · simp [hk]
theorem viewW_take (l : List Pl) (R : List Int) (k : Nat) (h : k < l.length) : (l.take (k + 1)).filter (fun p => wyB l R p.1) = (l.take k).filter (fun p => wyB l R p.1) ++ if wyB l R l[k].1 = true then [l[k]] else [] := by
  rw [List.take_succ_eq_append_getElem h, List.filter_append]
  congr 1
  by_cases hk : wyB l R l[k].1 = true
  · simp [hk]
  · simp [hk]

/-- all on the way up from these -/
def upL (l : List Pl) (R : List Int) : List Int := R.flatMap fun r => (chain l r).drop 1
theorem upL_take (l : List Pl) (R : List Int) (k : Nat) (h : k < R.length) : upL l (R.take (k + 1)) = upL l (R.take k) ++ (chain l R[k]).drop 1 := by
  unfold upL
  rw [List.take_succ_eq_append_getElem h, List.flatMap_append]
  simp
theorem upL_len (l : List Pl) (R : List Int) (h : ∀ r ∈ R, (chain l r).length ≤ 17) : (upL l R).length ≤ 16 * R.length := by
  induction R with
  | nil => simp [upL]
  | cons r R ih =>
    have h1 := h r (by simp)
    have h2 := ih (fun r hr => h r (by simp [hr]))
    have e : upL l (r :: R) = (chain l r).drop 1 ++ upL l R := by simp [upL]
    rw [e, List.length_append, List.length_drop, List.length_cons]
    omega
theorem has_up (l : List Pl) (R : List Int) (n : Int) : hasB n (upL l R) = R.any fun r => hasB n ((chain l r).drop 1) := by
  rw [Bool.eq_iff_iff, List.any_eq_true]
  simp only [hasB, decide_eq_true_eq, upL, List.mem_flatMap]
theorem any_take (f : Int → Bool) (l : List Int) (k : Nat) (h : k < l.length) : (l.take (k + 1)).any f = ((l.take k).any f || f l[k]) := by
  rw [List.take_succ_eq_append_getElem h, List.any_append]
  simp
theorem chain_len (l : List Pl) (r : Int) (h : check l = 0) (hr : isNodeB r = true) : (chain l r).length ≤ 17 := by
  rw [isNodeB_iff] at hr
  obtain ⟨m, ⟨hok, _⟩, _⟩ := chain_inv l r (scan_up (check_scan l h)) hr.1 hr.2
  exact outOk_len hok
end Orangery

/- tree.Under. -/
namespace Go.Proofs.YthlhnokgcnieeadGreat
open Go.ChangeShapes Go.WideShapes Go.ChangeAt Go.RowKit
open Orangery (Pl find isNodeB inRangeB meetsN scan ringAt check underE underB)

set_option maxHeartbeats 1000000 in
theorem under_any (w : World) (a : Option Addr) (c : Nat) (l : List Pl) (n t : Int) (hl : l.length ≤ maxLen) (h : SlP w a l) :
    Calls Tryz.prog 25 #[.agg #[.slice a l.length c], .int .i64 n, .int .i64 t] w
      fun e w' => e = .returned (.tuple #[.bool (underB l n t), .int .i64 (underE l n t)]) ∧ Below w.heap.size w w' := by
  go_enter Tryz.func25, Tryz.ntmps25
  go_wp2_with fail
  have hB := Go.Joins.below_alloc2 w (Obj.cells #[Value.slice a l.length c] 25) (Obj.cells #[Value.int IntKind.i64 t] 3)
  generalize hW : (w.alloc (Obj.cells #[Value.slice a l.length c] 25)).alloc (Obj.cells #[Value.int IntKind.i64 t] 3) = W0 at hB
  have hS : W0.heap.size = w.heap.size + 2 := by subst hW; simp
  have hc : W0.cell? ⟨w.heap.size, 0, none⟩ = some (.slice a l.length c) := by subst hW; rw [(Go.Joins.below_alloc1 _ _).cell (by simp)]; simp
  have ht : W0.cell? ⟨w.heap.size + 1, 0, none⟩ = some (.int .i64 t) := by subst hW; simp
  clear hW
  have hP := h.below hB
  clear h
  refine (check_any W0 a c l hl hP).mono ?_
  rintro e w1 ⟨rfl, hb⟩
  have hb2 : Below w.heap.size w w1 := hB.trans (hb.mono (by omega))
  have hc1 := hc
  rw [← hb.cell (by show w.heap.size < _; omega)] at hc1
  have ht1 := ht
  rw [← hb.cell (by show w.heap.size + 1 < _; omega)] at ht1
  have hP1 := hP.below hb
  have hS1 : w.heap.size + 1 < w1.heap.size := by have := hb.size; omega
  clear hc ht hP hB hb
  by_cases hz : check l = 0
  · by_cases h1 : isNodeB n = true
    · by_cases h2 : isNodeB t = true
      · obtain ⟨e1, e2⟩ := Orangery.underE_ok l n t hz h1 h2
        have HE : Hid (underE l n t = 0) := e1
        have HB : Hid (underB l n t = ((n == t) || meetsN l (fun m => m == t) l.length n)) := e2
        clear e1 e2
        rw [hz]
        clear hz
        go_wp2_with fail
        refine (isNode_any _ n).mono ?_
        rintro e w2 ⟨rfl, rfl⟩
        go_wp2_with fail
        refine (isNode_any _ t).mono ?_
        rintro e w2 ⟨rfl, rfl⟩
        by_cases hnt : n = t
        · have hnt' : (n == t) = true := by simpa using hnt
          have HN : Hid ((n == t) = true) := hnt'
          clear hnt
          go_wp2
          go_ret2
          exact ⟨by rw [HE.out, HB.out, HN.out]; rfl, hb2⟩
        · have hnt' : (n == t) = false := by simpa using hnt
          have HN : Hid ((n == t) = false) := hnt'
          clear hnt
          go_wp2_with fail
          refine (meets_any _ _ c l n 62 (.pointer (some ⟨w.heap.size + 1, 0, none⟩)) (fun m => m == t) hl hP1 (Go.Proofs.enters_of Tryz.func62 (by kernel_rfl) rfl) ?_).mono ?_
          · intro W m hbW
            exact under1_any W m t (w.heap.size + 1) (by rw [hbW.cell hS1, ht1])
          rintro e w2 ⟨rfl, hbm⟩
          have hb3 : Below w.heap.size w w2 := hb2.trans (hbm.mono hb2.size)
          clear hbm
          go_wp2
          go_ret2
          exact ⟨by rw [HE.out, HB.out, HN.out]; rfl, hb3⟩
      · obtain ⟨e1, e2⟩ := Orangery.underE_who l n t hz (fun hh => h2 hh.2)
        have HE : Hid (underE l n t = 5 ∧ underB l n t = false) := ⟨e1, e2⟩
        have h2' : isNodeB t = false := by simpa using h2
        clear e1 e2 h2
        rw [hz]
        clear hz
        go_wp2_with fail
        refine (isNode_any _ n).mono ?_
        rintro e w2 ⟨rfl, rfl⟩
        go_wp2_with fail
        refine (isNode_any _ t).mono ?_
        rintro e w2 ⟨rfl, rfl⟩
        go_wp2
        go_ret2
        exact ⟨by rw [HE.out.1, HE.out.2]; rfl, hb2⟩
    · obtain ⟨e1, e2⟩ := Orangery.underE_who l n t hz (fun hh => h1 hh.1)
      have HE : Hid (underE l n t = 5 ∧ underB l n t = false) := ⟨e1, e2⟩
      have h1' : isNodeB n = false := by simpa using h1
      clear e1 e2 h1
      rw [hz]
      clear hz
      go_wp2_with fail
      refine (isNode_any _ n).mono ?_
      rintro e w2 ⟨rfl, rfl⟩
      go_wp2
      go_ret2
      exact ⟨by rw [HE.out.1, HE.out.2]; rfl, hb2⟩
  · obtain ⟨e1, e2⟩ := Orangery.underE_bad l n t hz
    have HE : Hid (underE l n t = check l ∧ underB l n t = false) := ⟨e1, e2⟩
    have hz' : (check l != 0) = true := by simpa using hz
    clear e1 e2 hz
    go_wp2
    go_ret2
    exact ⟨by rw [HE.out.1, HE.out.2]; rfl, hb2⟩
end Go.Proofs.YthlhnokgcnieeadGreat

/- view.Roots, view.under; slices.IndexFunc, slices.ContainsFunc at ints; the closures of view.split. -/
namespace Go.Proofs.YthlhnokgcnieeadGreat
open Go.ChangeShapes Go.WideShapes Go.ChangeAt Go.RowKit
open Orangery (Pl isNodeB rootsE rootsOk prevI idxI underB underE knB abB)

set_option maxHeartbeats 1000000 in
theorem vroots_any (w : World) (a : Option Addr) (c : Nat) (l : List Int) (hl : l.length ≤ maxLen) (h : SlI w a l) :
    Calls Tryz.prog 23 #[.slice a l.length c] w fun e w' => e = .returned (.int .i64 (rootsOk l)) ∧ w' = w := by
  have hl' : l.length ≤ 9223372036854775807 := hl
  by_cases h4 : 4 < l.length
  · have d4 : decide ((l.length : Int) > 4) = true := by simp; omega
    have HE : Hid (rootsOk l = 2) := by show _ = _; unfold rootsOk; rw [if_pos h4]
    clear h4
    go_enter Tryz.func23, Tryz.ntmps23
    go_wp2
    go_ret
    exact ⟨ret_int HE.out.symm, rfl⟩
  · have d4 : decide ((l.length : Int) > 4) = false := by simp; omega
    have HE : Hid (rootsOk l = rootsE (-1) l) := by show _ = _; unfold rootsOk; rw [if_neg h4]
    go_enter Tryz.func23, Tryz.ntmps23
    go_wp2
    go_loop [10] (fun i => ∃ k : Nat, k ≤ l.length ∧ i = .int .i64 k ∧ rootsE (prevI l k) (l.drop k) = rootsE (-1) l) (fun i => l.length - (intOf i).toNat)
    case atStart => exact ⟨0, Nat.zero_le _, rfl, rfl⟩
    case round =>
      obtain ⟨k, hk, rfl, hf⟩ := hrel
      by_cases hlt : k < l.length
      · obtain ⟨s1, s2, s3⟩ := Orangery.rootsE_step l k _ hlt hf
        have H1 : Hid (isNodeB l[k] = false → rootsE (-1) l = 5) := s1
        have H2 : Hid (isNodeB l[k] = true → l[k] ≤ prevI l k → rootsE (-1) l = 6) := s2
        have H3 : Hid (isNodeB l[k] = true → ¬ l[k] ≤ prevI l k → rootsE (prevI l (k + 1)) (l.drop (k + 1)) = rootsE (-1) l) := by
          show _ → _ → _
          rw [Orangery.prevI_succ l k hlt]
          exact s3
        clear s1 s2 s3 hf
        obtain ⟨b, off, rfl, hbl, g0⟩ := h.at k hlt
        by_cases hn : isNodeB l[k] = true
        · have hn' := (Orangery.isNodeB_iff _).1 hn
          cases k with
          | zero =>
            rw [Nat.add_zero] at g0
            have hq : ¬ l[0] ≤ prevI l 0 := by show ¬ l[0] ≤ -1; omega
            have HF : Hid (rootsE (prevI l (0 + 1)) (l.drop (0 + 1)) = rootsE (-1) l) := H3.out hn hq
            clear H1 H2 H3 hn hq
            generalize l[0] = x at *
            have x1 : decide (x < 0) = false := by simp; omega
            have x2 : decide (x > 16) = false := by simp; omega
            clear hn'
            go_wp2
            go_round
            case rel => exact ⟨1, hlt, by go_num, HF.out⟩
            case measure => simp [intOf]; omega
          | succ j =>
            obtain ⟨b', off', e', _, g1⟩ := h.at j (by omega)
            obtain ⟨rfl, rfl⟩ : b = b' ∧ off = off' := by simpa using e'
            have hp : prevI l (j + 1) = l[j] := Orangery.prevI_succ l j (by omega)
            rw [hp] at H2 H3
            generalize l[j + 1] = x at *
            generalize l[j] = y at *
            have x1 : decide (x < 0) = false := by simp; omega
            have x2 : decide (x > 16) = false := by simp; omega
            have x3 : decide (((j + 1 : Nat) : Int) > 0) = true := by simp <;> omega
            have x4 : ((j + 1 : Nat) : Int) - 1 = (j : Int) := by omega
            clear hp e'
            by_cases hq : x ≤ y
            · have HF : Hid (rootsE (-1) l = 6) := H2.out hn hq
              have x5 : decide (x ≤ y) = true := by simpa using hq
              clear H1 H2 H3 hn hn' hq
              go_wp2
              go_ret
              exact ⟨ret_int (by rw [HE.out, HF.out]), rfl⟩
            · have HF : Hid (rootsE (prevI l (j + 1 + 1)) (l.drop (j + 1 + 1)) = rootsE (-1) l) := H3.out hn hq
              have x5 : decide (x ≤ y) = false := by simpa using hq
              clear H1 H2 H3 hn hn' hq
              go_wp2
              go_round
              case rel => exact ⟨j + 2, hlt, by go_num, HF.out⟩
              case measure => simp [intOf]; omega
        · have hn' : isNodeB l[k] = false := by simpa using hn
          have HF : Hid (rootsE (-1) l = 5) := H1.out hn'
          have hx : ¬ (0 ≤ l[k] ∧ l[k] ≤ 16) := fun e => hn ((Orangery.isNodeB_iff _).2 e)
          clear H1 H2 H3 hn hn'
          generalize l[k] = x at *
          by_cases h0 : x < 0
          · have x1 : decide (x < 0) = true := by simpa using h0
            clear h0 hx
            go_wp2
            go_ret
            exact ⟨ret_int (by rw [HE.out, HF.out]), rfl⟩
          · have x1 : decide (x < 0) = false := by simpa using h0
            have x2 : decide (x > 16) = true := by simp; omega
            clear h0 hx
            go_wp2
            go_ret
            exact ⟨ret_int (by rw [HE.out, HF.out]), rfl⟩
      · have hk' : l.drop k = [] := by simp; omega
        rw [hk'] at hf
        have HF : Hid (rootsE (-1) l = 0) := hf.symm
        clear hf hk'
        go_wp2
        go_ret
        exact ⟨ret_int (by rw [HE.out, HF.out]), rfl⟩

set_option maxHeartbeats 1000000 in
theorem vunder_any (w : World) (a : Option Addr) (c : Nat) (l : List Pl) (n t : Int) (hl : l.length ≤ maxLen) (h : SlP w a l) :
    Calls Tryz.prog 96 #[.agg #[.slice a l.length c], .int .i64 n, .int .i64 t] w
      fun e w' => e = .returned (.bool (underB l n t)) ∧ Below w.heap.size w w' := by
  go_enter Tryz.func96, Tryz.ntmps96
  go_wp2_with fail
  have hB := Go.Joins.below_alloc1 w (Obj.cells #[Value.slice a l.length c] 25)
  refine (under_any _ a c l n t hl (h.below hB)).mono ?_
  rintro e w1 ⟨rfl, hb⟩
  have hb1 : Below w.heap.size w w1 := hB.trans (hb.mono hB.size)
  clear hB hb h
  cases hu : underB l n t
  · have HU : Hid (underB l n t = false) := hu
    clear hu
    go_wp2
    go_ret
    exact ⟨ret_bool HU.out.symm, hb1⟩
  · have hE := Orangery.under_E hu
    have HU : Hid (underB l n t = true) := hu
    clear hu
    go_wp2
    go_ret
    exact ⟨ret_bool HU.out.symm, hb1⟩

set_option maxHeartbeats 1000000 in
theorem indexFuncI_any (w : World) (a : Option Addr) (c : Nat) (l : List Int) (g : Nat) (v v' : Value) (f : Int → Bool) (hl : l.length ≤ maxLen) (h : SlI w a l)
    (eg : ∀ args w, (callFunc g args).run Tryz.prog w = .ok (.enter g args) w)
    (hg : ∀ W n, Below w.heap.size w W → Calls Tryz.prog g #[.int .i64 n, v, v'] W fun e w' => e = .returned (.bool (f n)) ∧ Below W.heap.size W w') :
    Calls Tryz.prog 117 #[.slice a l.length c, .func (.func g) #[] #[v, v']] w
      fun e w' => e = .returned (.int .i64 (idxI f 0 l)) ∧ Below w.heap.size w w' := by
  have hl' : l.length ≤ 9223372036854775807 := hl
  go_enter Tryz.func117, Tryz.ntmps117
  go_wp2
  go_loopw [8] (fun i W => ∃ k : Nat, k ≤ l.length ∧ i = .int .i64 k ∧ idxI f k (l.drop k) = idxI f 0 l ∧ Below w.heap.size w W) (fun i _ => l.length - (intOf i).toNat)
  case atStart => exact ⟨0, Nat.zero_le _, rfl, rfl, Below.refl _ _⟩
  case round =>
    obtain ⟨k, hk, rfl, hf, hb⟩ := hrel
    by_cases hlt : k < l.length
    · obtain ⟨s1, s2⟩ := Orangery.idxI_step f l k hlt hf
      have H1 : Hid (f l[k] = true → idxI f 0 l = k) := s1
      have H2 : Hid (f l[k] = false → idxI f (k + 1) (l.drop (k + 1)) = idxI f 0 l) := s2
      clear s1 s2 hf
      obtain ⟨b, off, rfl, hbl, g0⟩ := h.at k hlt
      rw [← hb.cell (by exact hbl)] at g0
      generalize l[k] = x at *
      go_wp2_with fail
      refine (hg wr x hb).mono ?_
      rintro e w1 ⟨rfl, hb1⟩
      have hb2 : Below w.heap.size w w1 := hb.trans (hb1.mono hb.size)
      cases hr : f x
      · have e := H2.out hr
        have HE : Hid (idxI f (k + 1) (l.drop (k + 1)) = idxI f 0 l) := e
        clear e
        go_wp2
        go_roundw
        case rel => exact ⟨k + 1, hlt, by go_num, HE.out, hb2⟩
        case measure => simp [intOf]; omega
      · have e := H1.out hr
        have HE : Hid (idxI f 0 l = k) := e
        clear e
        go_wp2
        go_ret
        exact ⟨ret_int (by rw [HE.out]), hb2⟩
    · have hk' : l.drop k = [] := by simp; omega
      rw [hk'] at hf
      have HF : Hid (idxI f 0 l = -1) := hf.symm
      clear hf hk'
      go_wp2
      go_ret
      exact ⟨ret_int (by rw [HF.out]), hb⟩

theorem containsFuncI_any (w : World) (a : Option Addr) (c : Nat) (l : List Int) (g : Nat) (v v' : Value) (f : Int → Bool) (hl : l.length ≤ maxLen) (h : SlI w a l)
    (eg : ∀ args w, (callFunc g args).run Tryz.prog w = .ok (.enter g args) w)
    (hg : ∀ W n, Below w.heap.size w W → Calls Tryz.prog g #[.int .i64 n, v, v'] W fun e w' => e = .returned (.bool (f n)) ∧ Below W.heap.size W w') :
    Calls Tryz.prog 94 #[.slice a l.length c, .func (.func g) #[] #[v, v']] w
      fun e w' => e = .returned (.bool (l.any f)) ∧ Below w.heap.size w w' := by
  go_enter Tryz.func94, Tryz.ntmps94
  go_wp2_with fail
  refine (indexFuncI_any w a c l g v v' f hl h eg hg).mono ?_
  rintro e w1 ⟨rfl, hb1⟩
  rcases Orangery.idxI_any f l 0 with ⟨h1, h2⟩ | ⟨h1, h2⟩
  · rw [h1]
    have HA : Hid (l.any f = false) := h2
    clear h1 h2
    go_wp2
    go_ret
    exact ⟨ret_bool HA.out.symm, hb1⟩
  · have d : decide (idxI f 0 l ≥ 0) = true := by simp; omega
    have HA : Hid (l.any f = true) := h2
    clear h1 h2
    go_wp2
    go_ret
    exact ⟨ret_bool HA.out.symm, hb1⟩

theorem vsplit11_any (w : World) (r n : Int) (bt bn : Nat) (a : Option Addr) (c : Nat) (l : List Pl) (hl : l.length ≤ maxLen) (h : SlP w a l)
    (ht : w.cell? ⟨bt, 0, none⟩ = some (.slice a l.length c)) (hn : w.cell? ⟨bn, 0, none⟩ = some (.int .i64 n)) :
    Calls Tryz.prog 95 #[.int .i64 r, .pointer (some ⟨bt, 0, none⟩), .pointer (some ⟨bn, 0, none⟩)] w
      fun e w' => e = .returned (.bool (underB l n r)) ∧ Below w.heap.size w w' := by
  go_enter Tryz.func95, Tryz.ntmps95
  go_wp2_with fail
  refine (vunder_any w a c l n r hl h).mono ?_
  rintro e w1 ⟨rfl, hb1⟩
  clear ht hn
  go_wp2
  go_ret
  exact ⟨rfl, hb1⟩
theorem vsplit21_any (w : World) (r n : Int) (bt bn : Nat) (a : Option Addr) (c : Nat) (l : List Pl) (hl : l.length ≤ maxLen) (h : SlP w a l)
    (ht : w.cell? ⟨bt, 0, none⟩ = some (.slice a l.length c)) (hn : w.cell? ⟨bn, 0, none⟩ = some (.int .i64 n)) :
    Calls Tryz.prog 98 #[.int .i64 r, .pointer (some ⟨bt, 0, none⟩), .pointer (some ⟨bn, 0, none⟩)] w
      fun e w' => e = .returned (.bool (underB l r n)) ∧ Below w.heap.size w w' := by
  go_enter Tryz.func98, Tryz.ntmps98
  go_wp2_with fail
  refine (vunder_any w a c l r n hl h).mono ?_
  rintro e w1 ⟨rfl, hb1⟩
  clear ht hn
  go_wp2
  go_ret
  exact ⟨rfl, hb1⟩

theorem vsplit1_any (w : World) (n : Int) (br bt : Nat) (a a' : Option Addr) (c c' : Nat) (l : List Pl) (R : List Int) (hl : l.length ≤ maxLen) (hR : R.length ≤ maxLen) (h : SlP w a l) (h' : SlI w a' R)
    (hbt : bt < w.heap.size) (ht : w.cell? ⟨bt, 0, none⟩ = some (.slice a l.length c)) (hr : w.cell? ⟨br, 0, none⟩ = some (.slice a' R.length c')) :
    Calls Tryz.prog 93 #[.int .i64 n, .pointer (some ⟨br, 0, none⟩), .pointer (some ⟨bt, 0, none⟩)] w
      fun e w' => e = .returned (.bool (knB l R n)) ∧ Below w.heap.size w w' := by
  have hbr : br < w.heap.size := World.block_lt_of_cell? w ⟨br, 0, none⟩ hr
  obtain ⟨W0, hW, hN, hB, hS⟩ := laid1 w [Value.int IntKind.i64 n] 3
  have hr0 : W0.cell? ⟨br, 0, none⟩ = some (.slice a' R.length c') := by rw [hB.cell (by exact hbr)]; exact hr
  have HT : Hid (w.cell? ⟨bt, 0, none⟩ = some (.slice a l.length c)) := ht
  clear hr ht
  go_enter Tryz.func93, Tryz.ntmps93
  go_wp2_with fail
  clear hW
  refine (containsFuncI_any W0 a' c' R 95 (.pointer (some ⟨bt, 0, none⟩)) (.pointer (some ⟨w.heap.size, 0, none⟩)) (fun r => underB l n r) hR (h'.below hB) (Go.Proofs.enters_of Tryz.func95 (by kernel_rfl) rfl) ?_).mono ?_
  · intro W r hb
    refine vsplit11_any W r n bt w.heap.size a c l hl ((h.below hB).below hb) ?_ ((hN.keep hb).at 0 rfl)
    rw [hb.cell (by show bt < _; omega), hB.cell (by exact hbt)]
    exact HT.out
  rintro e w1 ⟨rfl, hb1⟩
  have hb2 : Below w.heap.size w w1 := hB.trans (hb1.mono hB.size)
  clear hN hr0
  go_wp2
  go_ret
  exact ⟨rfl, hb2⟩
theorem vsplit2_any (w : World) (n : Int) (br bt : Nat) (a a' : Option Addr) (c c' : Nat) (l : List Pl) (R : List Int) (hl : l.length ≤ maxLen) (hR : R.length ≤ maxLen) (h : SlP w a l) (h' : SlI w a' R)
    (hbt : bt < w.heap.size) (ht : w.cell? ⟨bt, 0, none⟩ = some (.slice a l.length c)) (hr : w.cell? ⟨br, 0, none⟩ = some (.slice a' R.length c')) :
    Calls Tryz.prog 97 #[.int .i64 n, .pointer (some ⟨br, 0, none⟩), .pointer (some ⟨bt, 0, none⟩)] w
      fun e w' => e = .returned (.bool (abB l R n)) ∧ Below w.heap.size w w' := by
  have hbr : br < w.heap.size := World.block_lt_of_cell? w ⟨br, 0, none⟩ hr
  obtain ⟨W0, hW, hN, hB, hS⟩ := laid1 w [Value.int IntKind.i64 n] 3
  have hr0 : W0.cell? ⟨br, 0, none⟩ = some (.slice a' R.length c') := by rw [hB.cell (by exact hbr)]; exact hr
  have HT : Hid (w.cell? ⟨bt, 0, none⟩ = some (.slice a l.length c)) := ht
  clear hr ht
  go_enter Tryz.func97, Tryz.ntmps97
  go_wp2_with fail
  clear hW
  refine (containsFuncI_any W0 a' c' R 98 (.pointer (some ⟨bt, 0, none⟩)) (.pointer (some ⟨w.heap.size, 0, none⟩)) (fun r => underB l r n) hR (h'.below hB) (Go.Proofs.enters_of Tryz.func98 (by kernel_rfl) rfl) ?_).mono ?_
  · intro W r hb
    refine vsplit21_any W r n bt w.heap.size a c l hl ((h.below hB).below hb) ?_ ((hN.keep hb).at 0 rfl)
    rw [hb.cell (by show bt < _; omega), hB.cell (by exact hbt)]
    exact HT.out
  rintro e w1 ⟨rfl, hb1⟩
  have hb2 : Below w.heap.size w w1 := hB.trans (hb1.mono hB.size)
  clear hN hr0
  go_wp2
  go_ret
  exact ⟨rfl, hb2⟩
end Go.Proofs.YthlhnokgcnieeadGreat

