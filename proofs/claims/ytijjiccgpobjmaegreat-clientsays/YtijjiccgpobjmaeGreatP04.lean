/- 8 texts of the proof: Plain facts on clients: what they hear, and show. Plain facts on clients: Check, step by step. How places lie in memory: the words that the contracts speak. slices.Equal and slices.Contains at ints. Slices of places in memory of the call's own. Slices of elements of several cells, whatever they are: how they lie, are owned, sorted, come in. Blocks of the call's own, cell by cell: what they hold be -/
import Derived.Test.YtijjiccgpobjmaeGreatRows
import Derived.WalkKit
import Derived.ProofKit
import Derived.OpenShut
import Derived.Deep.QuietTactic
import Derived.BigQuiet
import Derived.Lib.SmallJoins
import Derived.Shelf.Abstract
import Derived.Lib.SliceRun
import Derived.Deep.MidRow
import Derived.Deep.Slices
import Derived.Deep.Onto
import Derived.Shelf.SlSortFuncK.RowK2
import Derived.Test.YtijjiccgpobjmaeGreatP03
import Derived.Test.YtijjiccgpobjmaeGreatP02
import Derived.Test.YtijjiccgpobjmaeGreatP01
/- Plain facts on clients: what they hear, and show. -/
namespace Orangery

theorem ml1_zero {m : Ml} (h : ml1E m = 0) (hk : ¬ m.1.1 = 1) : (0 ≤ m.1.2.1 ∧ m.1.2.1 ≤ 2) ∧ seeRange m = true ∧ (if m.1.1 = 3 then deltaME m.2.2.2 else viewME m.2.2.1) = 0 := by
  unfold ml1E at h
  split at h
  · omega
  split at h
  · omega
  rename_i h2
  split at h
  · omega
  split at h
  · omega
  rename_i h3
  exact ⟨by simpa using h2, by simpa using h3, h⟩
theorem hear_zero {c : Cl} {me : Int} {m : Ml} (h : hearE c me m = 0) : clE c me = 0 ∧ ml1E m = 0 ∧ ¬ m.1.1 = 1 ∧ m.1.2.1 = me ∧ (deaf c m = false → m.1.1 = 3 → apME c.2.2 m.2.2.2 = 0) := by
  unfold hearE at h
  split at h
  · rename_i h1; exact absurd h h1
  rename_i h1
  split at h
  · rename_i h2; exact absurd h h2
  rename_i h2
  split at h
  · omega
  rename_i h3
  refine ⟨by simpa using h1, by simpa using h2, by omega, by omega, ?_⟩
  intro h4 h5
  rwa [if_neg (by simp [h4]), if_pos h5] at h
theorem hear_view {c : Cl} {me : Int} {m : Ml} (h : hearE c me m = 0) (hd : deaf c m = false) : viewME (hearV c m) = 0 := by
  obtain ⟨_, h2, h3, _, h5⟩ := hear_zero h
  unfold hearV
  by_cases hk : m.1.1 = 3
  · rw [if_pos hk]
    have h6 := h5 hd hk
    unfold apME apE at h6
    split at h6
    · rename_i h7; exact absurd h6 h7
    · exact h6
  · rw [if_neg hk]
    have := (ml1_zero h2 h3).2.2
    rwa [if_neg hk] at this
theorem deaf_false {c : Cl} {m : Ml} (h : deaf c m = false) : c.1.1 = m.1.2.2.1 ∧ c.1.2.2.2 < m.1.2.2.2.2.2.1 ∧ m.1.2.2.2.1 ≤ c.1.2.2.1 := by
  unfold deaf at h
  simp only [Bool.or_eq_false_iff, Bool.not_eq_false', decide_eq_true_eq, decide_eq_false_iff_not] at h
  obtain ⟨⟨⟨h1, h2⟩, h3⟩, _⟩ := h
  exact ⟨h1, by omega, by omega⟩
/-- what a client hears leaves a client -/
theorem heard_ok {c : Cl} {me : Int} {m : Ml} (h : hearE c me m = 0) (hd : deaf c m = false) : clE (heard c m) me = 0 := by
  obtain ⟨h1, h2, h3, h4, h5⟩ := hear_zero h
  obtain ⟨d1, d2, d3⟩ := deaf_false hd
  obtain ⟨_, m2, _⟩ := ml1_zero h2 h3
  obtain ⟨c1, c2, c3, c4, c5, c6⟩ := clE_zero h1
  unfold seeRange at m2
  simp only [Bool.and_eq_true, decide_eq_true_eq] at m2
  obtain ⟨⟨⟨⟨a1, a2⟩, a3⟩, a4⟩, a5⟩ := m2
  unfold clRange at c2
  simp only [Bool.and_eq_true, decide_eq_true_eq] at c2
  obtain ⟨⟨⟨b1, b2⟩, b3⟩, b4⟩ := c2
  obtain ⟨n, n1, n2, n3, n4⟩ := pend_drop m.1.2.2.2.1 c6
  have hl : (heard c m).2.1 = c.2.1.drop n := n2
  have hlen : (heard c m).2.1.length = c.2.1.length - n := by rw [hl, List.length_drop]
  have e1 : (heard c m).1.1 = c.1.1 := rfl
  have e2 : (heard c m).1.2.1 = max c.1.2.1 m.1.2.2.2.2.1 := rfl
  have e3 : (heard c m).1.2.2.1 = c.1.2.2.1 := rfl
  have e4 : (heard c m).1.2.2.2 = m.1.2.2.2.2.2.1 := rfl
  have hm1 := Int.le_max_left c.1.2.1 m.1.2.2.2.2.1
  have hm2 : max c.1.2.1 m.1.2.2.2.2.1 ≤ 10000 := Int.max_le.2 ⟨b2.2, a3.2⟩
  have hf := c5
  unfold clForm at hf
  simp only [Bool.or_eq_false_iff, decide_eq_false_iff_not] at hf
  refine clE_of c1 ?_ (by omega) (hear_view h hd) ?_ ?_
  · unfold clRange
    simp only [Bool.and_eq_true, decide_eq_true_eq]
    rw [e1, e2, e3, e4]
    refine ⟨⟨⟨b1, by omega, hm2⟩, b3⟩, by omega, by omega⟩
  · unfold clForm
    rw [e1, e2, e3, e4]
    simp only [Bool.or_eq_false_iff, Bool.and_eq_false_iff, decide_eq_false_iff_not]
    refine ⟨⟨Or.inl (by omega), Or.inl (by omega)⟩, ?_⟩
    rw [hlen]
    omega
  · rw [e1, e2, e3, hlen, hl]
    refine pend_mono hm1 (Int.le_refl _) ?_
    rw [show c.1.2.2.1 - ((c.2.1.length - n : Nat) : Int) = c.1.2.2.1 - c.2.1.length + n by omega]
    exact n3
theorem hear_ok {c : Cl} {me : Int} {m : Ml} (h : hearE c me m = 0) : clE (hearC c me m) me = 0 := by
  unfold hearC
  rw [if_neg (by simp [h])]
  cases hd : deaf c m
  · exact heard_ok h hd
  · exact (hear_zero h).1
/-- it never goes back -/
theorem hear_not_back {c : Cl} {me : Int} {m : Ml} (h : hearE c me m = 0) :
    c.1.2.2.2 ≤ (hearC c me m).1.2.2.2 ∧ c.1.2.1 ≤ (hearC c me m).1.2.1 ∧ (hearC c me m).1.1 = c.1.1 ∧ (hearC c me m).1.2.2.1 = c.1.2.2.1 := by
  unfold hearC
  rw [if_neg (by simp [h])]
  cases hd : deaf c m
  · have := (deaf_false hd).2.1
    exact ⟨Int.le_of_lt this, Int.le_max_left _ _, rfl, rfl⟩
  · exact ⟨Int.le_refl _, Int.le_refl _, rfl, rfl⟩
/-- twice is once -/
theorem heard_deaf (c : Cl) (m : Ml) : deaf (heard c m) m = true := by
  unfold deaf
  have e4 : (heard c m).1.2.2.2 = m.1.2.2.2.2.2.1 := rfl
  rw [e4]
  simp
theorem hear_twice {c : Cl} {me : Int} {m : Ml} (h : hearE c me m = 0) : hearE (hearC c me m) me m = 0 ∧ hearC (hearC c me m) me m = hearC c me m := by
  have hd : deaf (hearC c me m) m = true := by
    unfold hearC
    rw [if_neg (by simp [h])]
    cases hd : deaf c m
    · exact heard_deaf c m
    · exact hd
  obtain ⟨h1, h2, h3, h4, _⟩ := hear_zero h
  have he : hearE (hearC c me m) me m = 0 := by
    unfold hearE
    rw [if_neg (by simp [hear_ok h]), if_neg (by simp [h2]), if_neg (by omega), if_pos hd]
  refine ⟨he, ?_⟩
  generalize hearC c me m = a at he hd ⊢
  unfold hearC
  rw [if_neg (by simp [he]), if_pos hd]
/-- of what isn't accepted nothing is forgotten -/
theorem hear_pending {c : Cl} {me : Int} {m : Ml} (h : hearE c me m = 0) :
    ∃ n, n ≤ c.2.1.length ∧ (hearC c me m).2.1 = c.2.1.drop n ∧ ∀ o ∈ c.2.1.take n, o.2.2.2.2 ≤ m.1.2.2.2.1 := by
  obtain ⟨_, _, _, _, _, c6⟩ := clE_zero (hear_zero h).1
  unfold hearC
  rw [if_neg (by simp [h])]
  cases hd : deaf c m
  · obtain ⟨n, n1, n2, _, n4⟩ := pend_drop m.1.2.2.2.1 c6
    exact ⟨n, n1, n2, n4⟩
  · exact ⟨0, by simp, rfl, by simp⟩

/-- all that a client knows, and what it did: a tree -/
theorem view_tog {v : Vw} (h : viewME v = 0) : check (togL v.2.1 v.2.2) = 0 := by
  unfold viewME viewE at h
  split at h
  · rename_i h1; exact absurd h h1
  split at h
  · rename_i h1; exact absurd h h1
  split at h
  · rename_i h1; exact absurd h h1
  split at h
  · rename_i h1; exact absurd h h1
  rename_i h1
  simpa using h1
theorem view_form {v : Vw} (h : viewME v = 0) : v.2.1 = viewK (togL v.2.1 v.2.2) v.1 ∧ v.2.2 = viewW (togL v.2.1 v.2.2) v.1 := by
  unfold viewME viewE at h
  split at h
  · rename_i h1; exact absurd h h1
  split at h
  · rename_i h1; exact absurd h h1
  split at h
  · rename_i h1; exact absurd h h1
  split at h
  · rename_i h1; exact absurd h h1
  split at h
  · rename_i h1
    unfold sameV at h1
    simp only [Bool.and_eq_true, decide_eq_true_eq] at h1
    exact ⟨h1.1.2, h1.2⟩
  · omega
theorem view_count {v : Vw} (h : viewME v = 0) : (togL v.2.1 v.2.2).length = v.2.1.length + v.2.2.length := by
  obtain ⟨g1, g2⟩ := view_form h
  have hc := view_tog h
  have h1 := tog_view (togL v.2.1 v.2.2) v.1 hc
  rw [← g1, ← g2] at h1
  have h2 := (view_perm (togL v.2.1 v.2.2) v.1).length_eq
  rw [← g1, ← g2, ← h1, List.length_append] at h2
  exact h2.symm
theorem does_check {l : List Mv} : ∀ {t : List Pl}, check t = 0 → (∀ o ∈ l, checkOp o = 0) → check (l.foldl doT t) = 0 := by
  induction l with
  | nil => intro t h _; exact h
  | cons o l ih =>
    intro t h ho
    rw [List.foldl_cons]
    refine ih (doT_check ?_) (fun p hp => ho p (List.mem_cons_of_mem _ hp))
    unfold doE orI
    rw [if_neg (by simp [h])]
    exact ho o (List.mem_cons_self ..)
theorem shown_check {c : Cl} {me : Int} (h : clE c me = 0) : check (shown c) = 0 := by
  obtain ⟨_, _, _, c4, _, c6⟩ := clE_zero h
  exact does_check (view_tog c4) (fun o ho => (pend_ops c6 o ho).1)
theorem shown_none {c : Cl} {me : Int} (h : clE c me = 0) (hp : c.2.1 = []) : (shown c).length = c.2.2.2.1.length + c.2.2.2.2.length := by
  obtain ⟨_, _, _, c4, _, _⟩ := clE_zero h
  unfold shown
  rw [hp]
  exact view_count c4
theorem move_zero {c : Cl} {me n p nm : Int} (h : movE c me n p nm = 0) : clE c me = 0 ∧ ¬ c.1.1 = 0 ∧ ¬ (c.2.1.length = 8 ∨ c.1.2.1 = 10000 ∨ c.1.2.2.1 = 30) ∧ checkOp (movO c me n p nm) = 0 := by
  unfold movE at h
  split at h
  · rename_i h1; exact absurd h h1
  rename_i h1
  split at h
  · omega
  rename_i h2
  split at h
  · omega
  rename_i h3
  exact ⟨by simpa using h1, h2, h3, h⟩
theorem pend_app {me life time : Int} {o : Mv} {l : List Mv} : ∀ {s t : Int}, pendE me life time s t l = 0 → checkOp o = 0 → o.2.1 = me → o.2.2.2.1 = life → o.2.2.2.2 = s + l.length + 1 → time < o.1 → t < o.1 → pendE me life o.1 s t (l ++ [o]) = 0 := by
  induction l with
  | nil =>
    intro s t _ h1 h2 h3 h4 h5 h6
    exact pend_of h1 ⟨h2, h3, by simpa using h4, h6, Int.le_refl _⟩ rfl
  | cons x l ih =>
    intro s t h g1 g2 g3 g4 g5 g6
    obtain ⟨h1, ⟨h2, h3, h4, h5, h6⟩, h7⟩ := pend_cons h
    refine pend_of h1 ⟨h2, h3, h4, h5, by omega⟩ (ih h7 g1 g2 g3 ?_ g5 (by omega))
    rw [g4, List.length_cons]
    omega
/-- a client that moves a node is one -/
theorem moved_ok {c : Cl} {me n p nm : Int} (h : movE c me n p nm = 0) : clE (movC c me n p nm) me = 0 := by
  obtain ⟨h1, h2, h3, h4⟩ := move_zero h
  obtain ⟨c1, c2, c3, c4, c5, c6⟩ := clE_zero h1
  unfold clRange at c2
  simp only [Bool.and_eq_true, decide_eq_true_eq] at c2
  obtain ⟨⟨⟨b1, b2⟩, b3⟩, b4⟩ := c2
  have hf := c5
  unfold clForm at hf
  simp only [Bool.or_eq_false_iff, decide_eq_false_iff_not, Bool.and_eq_false_iff] at hf
  unfold movC
  rw [if_neg (by simp [h])]
  have hl : (c.2.1 ++ [movO c me n p nm]).length = c.2.1.length + 1 := by simp
  refine clE_of c1 ?_ (by show (c.2.1 ++ [movO c me n p nm]).length ≤ 8; omega) c4 ?_ ?_
  · unfold clRange
    simp only [Bool.and_eq_true, decide_eq_true_eq]
    refine ⟨⟨⟨b1, by omega, by omega⟩, by omega, by omega⟩, b4⟩
  · unfold clForm
    simp only [Bool.or_eq_false_iff, Bool.and_eq_false_iff, decide_eq_false_iff_not]
    refine ⟨⟨Or.inl h2, hf.1.2⟩, ?_⟩
    rw [hl]
    omega
  · show pendE me c.1.1 (c.1.2.1 + 1) (c.1.2.2.1 + 1 - ((c.2.1 ++ [movO c me n p nm]).length : Int)) 0 (c.2.1 ++ [movO c me n p nm]) = 0
    rw [hl, show c.1.2.2.1 + 1 - ((c.2.1.length + 1 : Nat) : Int) = c.1.2.2.1 - c.2.1.length by omega]
    exact pend_app c6 h4 rfl rfl (by show c.1.2.2.1 + 1 = _; omega) (by show c.1.2.1 < c.1.2.1 + 1; omega) (by show 0 < c.1.2.1 + 1; omega)
theorem moved_shown {c : Cl} {me n p nm : Int} (h : movE c me n p nm = 0) :
    shown (movC c me n p nm) = doT (shown c) (movO c me n p nm) ∧ (movC c me n p nm).2.1.length = c.2.1.length + 1 ∧ doE (shown c) (movO c me n p nm) = 0 := by
  obtain ⟨h1, _, _, h4⟩ := move_zero h
  refine ⟨?_, ?_, ?_⟩
  · unfold movC shown
    rw [if_neg (by simp [h]), List.foldl_append]
    rfl
  · unfold movC
    rw [if_neg (by simp [h])]
    simp
  · unfold doE orI
    rw [if_neg (by simp [shown_check h1])]
    exact h4
/-- the node that it moved last stands there, if it made no ring -/
theorem moved_stands {c : Cl} {me n p nm : Int} (h : movE c me n p nm = 0) (hr : underB (shown c) p n = false) : find (shown (movC c me n p nm)) n = (n, p, nm) := by
  obtain ⟨h1, _, h3⟩ := moved_shown h
  rw [h1]
  exact doT_moved h3 hr
theorem moved_ring {c : Cl} {me n p nm : Int} (h : movE c me n p nm = 0) (hr : underB (shown c) p n = true) : shown (movC c me n p nm) = shown c := by
  obtain ⟨h1, _, h3⟩ := moved_shown h
  rw [h1, doT_eq h3]
  exact if_pos hr
end Orangery

/- Plain facts on clients: Check, step by step. -/
namespace Orangery

theorem clE_who {c : Cl} {me : Int} (h1 : ¬ (0 ≤ me ∧ me ≤ 2)) : clE c me = 5 := by unfold clE; rw [if_pos h1]
theorem clE_range {c : Cl} {me : Int} (h1 : 0 ≤ me ∧ me ≤ 2) (h2 : clRange c = false) : clE c me = 3 := by unfold clE; rw [if_neg (by simpa using h1), if_pos h2]
theorem clE_many {c : Cl} {me : Int} (h1 : 0 ≤ me ∧ me ≤ 2) (h2 : clRange c = true) (h3 : 8 < c.2.1.length) : clE c me = 2 := by
  unfold clE; rw [if_neg (by simpa using h1), if_neg (by simp [h2]), if_pos h3]
theorem clE_view {c : Cl} {me : Int} (h1 : 0 ≤ me ∧ me ≤ 2) (h2 : clRange c = true) (h3 : c.2.1.length ≤ 8) (h4 : viewME c.2.2 ≠ 0) : clE c me = viewME c.2.2 := by
  unfold clE; rw [if_neg (by simpa using h1), if_neg (by simp [h2]), if_neg (by omega), if_pos h4]
theorem clE_form {c : Cl} {me : Int} (h1 : 0 ≤ me ∧ me ≤ 2) (h2 : clRange c = true) (h3 : c.2.1.length ≤ 8) (h4 : viewME c.2.2 = 0) : clE c me = if clForm c = true then 4 else pendE me c.1.1 c.1.2.1 (c.1.2.2.1 - c.2.1.length) 0 c.2.1 := by
  unfold clE; rw [if_neg (by simpa using h1), if_neg (by simp [h2]), if_neg (by omega), if_neg (by simp [h4])]
/-- one step along what isn't accepted -/
theorem pend_step {me life time s t : Int} {l : List Mv} {k : Nat} (hk : k < l.length) :
    pendE me life time s t (l.drop k) = if checkOp l[k] ≠ 0 then checkOp l[k] else if ¬ (l[k].2.1 = me ∧ l[k].2.2.2.1 = life ∧ l[k].2.2.2.2 = s + 1 ∧ t < l[k].1 ∧ l[k].1 ≤ time) then 4 else pendE me life time (s + 1) l[k].1 (l.drop (k + 1)) := by
  rw [List.drop_eq_getElem_cons hk]
  rfl
end Orangery

/- How places lie in memory: the words that the contracts speak. -/
namespace Go.Proofs.YtijjiccgpobjmaeGreat
open Go.ChangeShapes Go.WideShapes Go.ChangeAt Go.RowKit
open Orangery (Pl)

/-- the value of a place -/
abbrev plV (p : Pl) : Value := .agg #[.int .i64 p.1, .int .i64 p.2.1, .int .i64 p.2.2]

/-- the places from a cell on -/
def PlsAt (w : World) (b off : Nat) (l : List Pl) : Prop :=
  ∀ i, (h : i < l.length) → w.cell? ⟨b, off + i * 3, none⟩ = some (.int .i64 l[i].1) ∧ w.cell? ⟨b, off + i * 3 + 1, none⟩ = some (.int .i64 l[i].2.1) ∧ w.cell? ⟨b, off + i * 3 + 2, none⟩ = some (.int .i64 l[i].2.2)

/-- a slice's address holds these places -/
def SlP (w : World) (a : Option Addr) (l : List Pl) : Prop :=
  l = [] ∨ ∃ b off, a = some ⟨b, off, none⟩ ∧ b < w.heap.size ∧ PlsAt w b off l

theorem SlP.below {w w' : World} {a : Option Addr} {l : List Pl} (h : SlP w a l) (hb : Below w.heap.size w w') : SlP w' a l := by
  rcases h with h | ⟨b, off, ha, hlt, hp⟩
  · exact Or.inl h
  · refine Or.inr ⟨b, off, ha, Nat.lt_of_lt_of_le hlt hb.size, fun i hi => ?_⟩
    have := hp i hi
    rw [hb.cell hlt, hb.cell hlt, hb.cell hlt]
    exact this

theorem ret_bool {a b : Bool} (h : a = b) : Ending.returned (.bool a) = .returned (.bool b) := by rw [h]
theorem ret_int {k : IntKind} {a b : Int} (h : a = b) : Ending.returned (.int k a) = .returned (.int k b) := by rw [h]

/-- behind a call that leaves the old memory alone: the old cells, as rules -/
theorem bcell {B : Nat} {W w1 : World} (hb : Below B W w1) : ∀ b o, b < B → w1.cell? ⟨b, o, none⟩ = W.cell? ⟨b, o, none⟩ :=
  fun b o h => hb.cell (p := ⟨b, o, none⟩) h

/-- the ints from a cell on -/
def IntsAt (w : World) (b off : Nat) (l : List Int) : Prop :=
  ∀ i, (h : i < l.length) → w.cell? ⟨b, off + i, none⟩ = some (.int .i64 l[i])

def lenOf : Value → Nat
  | .slice _ n _ => n
  | _ => 0

/-- an own row of ints, as an address -/
theorem own_ints {w : World} {base n : Nat} {e : TypeId} {v : Value} {l : List Int} (h : w.ownsRow base e 1 v n (l.map (Value.int .i64))) :
    l.length = n ∧ ((v = .slice none 0 0 ∧ n = 0) ∨ ∃ g cap, v = .slice (some ⟨g, 0, none⟩) n cap ∧ base ≤ g ∧ g < w.heap.size ∧ IntsAt w g 0 l) := by
  obtain ⟨h1, h2⟩ := h
  simp at h1
  refine ⟨h1, ?_⟩
  rcases h2 with h2 | ⟨g, cap, cur, hv, hb, hh, hn, hm, hs, ht⟩
  · exact Or.inl h2
  · refine Or.inr ⟨g, cap, hv, hb, ?_, ?_⟩
    · by_cases hg : g < w.heap.size
      · exact hg
      · rw [Array.getElem?_eq_none (by omega)] at hh; exact absurd hh (by simp)
    · intro i hi
      rw [Go.Joins.cell_of_block hh, Nat.zero_add]
      have e1 : (cur.toList.take (n * 1))[i]? = some (.int .i64 l[i]) := by rw [ht]; simp [hi]
      rw [List.getElem?_take] at e1
      split at e1
      · simpa using e1
      · exact absurd e1 (by simp)

theorem own_ints_pos {w : World} {base n : Nat} {e : TypeId} {v : Value} {l : List Int} (h : w.ownsRow base e 1 v n (l.map (Value.int .i64))) (hp : 1 ≤ l.length) :
    ∃ g cap, v = .slice (some ⟨g, 0, none⟩) n cap ∧ g < w.heap.size ∧ IntsAt w g 0 l := by
  obtain ⟨h1, h2⟩ := own_ints h
  rcases h2 with ⟨_, h2⟩ | ⟨g, cap, h3, _, h4, h5⟩
  · omega
  · exact ⟨g, cap, h3, h4, h5⟩

theorem blk_lt {w : World} {g : Nat} {o : Obj} (h : w.heap[g]? = some o) : g < w.heap.size := by
  by_cases hg : g < w.heap.size
  · exact hg
  · rw [Array.getElem?_eq_none (by omega)] at h; exact absurd h (by simp)

/-- an own row stays behind a call that leaves the old memory alone -/
theorem own_below {w w' : World} {base size n : Nat} {e : TypeId} {v : Value} {xs : List Value} (h : w.ownsRow base e size v n xs) (hb : Below w.heap.size w w') : w'.ownsRow base e size v n xs := by
  obtain ⟨h1, h2⟩ := h
  refine ⟨h1, ?_⟩
  rcases h2 with h2 | ⟨g, cap, cur, hv, hbs, hh, hn, hm, hs, ht⟩
  · exact Or.inl h2
  · exact Or.inr ⟨g, cap, cur, hv, hbs, by rw [hb.block g (blk_lt hh)]; exact hh, hn, hm, hs, ht⟩

/-- what an append leaves, below the base of its row -/
theorem below_grown {w w' : World} {base size n : Nat} {e : TypeId} {v : Value} {xs : List Value} (h : w.ownsRow base e size v n xs) (hB : base ≤ w.heap.size) (hg : w.grownBy w' v.ownBlock) : Below base w w' :=
  (Below.refl base w).grown hg hB (fun k hk => (h.lt k hk).1)

/-- three cells stored one behind the other, read again -/
theorem cells3 {w : World} {b : Nat} {u0 u1 u2 : Value} (v0 v1 v2 : Value) (c0 : w.cell? ⟨b, 0, none⟩ = some u0) (c1 : w.cell? ⟨b, 1, none⟩ = some u1) (c2 : w.cell? ⟨b, 2, none⟩ = some u2) :
    (w.setCell ⟨b, 0, none⟩ v0).cell? ⟨b, 0, none⟩ = some v0 ∧ ((w.setCell ⟨b, 0, none⟩ v0).setCell ⟨b, 1, none⟩ v1).cell? ⟨b, 1, none⟩ = some v1 ∧ (((w.setCell ⟨b, 0, none⟩ v0).setCell ⟨b, 1, none⟩ v1).setCell ⟨b, 2, none⟩ v2).cell? ⟨b, 2, none⟩ = some v2 := by
  refine ⟨World.cell?_setCell_same _ _ _ c0, World.cell?_setCell_same _ _ _ (u := u1) ?_, World.cell?_setCell_same _ _ _ (u := u2) ?_⟩
  · rw [World.cell?_setCell_other _ _ _ _ (by simp), c1]
  · rw [World.cell?_setCell_other _ _ _ _ (by simp), World.cell?_setCell_other _ _ _ _ (by simp), c2]

end Go.Proofs.YtijjiccgpobjmaeGreat

/- slices.Equal and slices.Contains at ints. -/
namespace Go.Proofs.YtijjiccgpobjmaeGreat
open Go.ChangeShapes Go.WideShapes Go.ChangeAt Go.RowKit
open Orangery (hasB)

set_option maxHeartbeats 400000 in
theorem equal_ints (w : World) (b off c b' off' c' n : Nat) (l : List Int) (hn : l.length = n) (hl : n ≤ 1000)
    (h1 : IntsAt w b off l) (h2 : IntsAt w b' off' l) :
    Calls Tryz.prog 79 #[.slice (some ⟨b, off, none⟩) n c, .slice (some ⟨b', off', none⟩) n c'] w
      fun e w' => e = .returned (.bool true) ∧ ∃ n, w' = w.drewN n := by
  subst hn
  go_enter Tryz.func79, Tryz.ntmps79
  go_wp2
  go_loopw [13] (fun i w' => ∃ k n : Nat, k ≤ l.length ∧ i = .int .i64 k ∧ w' = w.drewN n) (fun i _ => l.length - (intOf i).toNat)
  case atStart => exact ⟨0, 0, Nat.zero_le _, rfl, rfl⟩
  case round =>
    obtain ⟨k, n, hk, rfl, rfl⟩ := hrel
    by_cases hlt : k < l.length
    · have g1 := h1 k hlt
      have g2 := h2 k hlt
      go_wp2
      go_quiet (fail)
      go_wp2
      go_roundw
      case rel => exact ⟨k + 1, _, by omega, by go_num, rfl⟩
      case measure => simp [intOf]; omega
    · go_wp2
      go_ret
      exact ⟨rfl, n, rfl⟩

theorem blk_new {w : World} {o : Obj} {b : Nat} (h : b = w.heap.size) : (w.alloc o).heap[b]? = some o := by
  subst h
  show (w.heap.push o)[_]? = _
  simp

theorem blk_old {w : World} {o : Obj} {b : Nat} (h : b < w.heap.size) : (w.alloc o).heap[b]? = w.heap[b]? := by
  show (w.heap.push o)[_]? = _
  simp [Array.getElem?_push]
  omega

theorem intsAt_block {w : World} {b : Nat} {t : TypeId} {fr : Nat × Nat} (l : List Int)
    (h : w.heap[b]? = some (.cells (l.map (Value.int .i64)).toArray t fr)) : IntsAt w b 0 l := by
  intro i hi
  rw [Go.Joins.cell_of_block h, Nat.zero_add]
  simp [hi]

set_option maxHeartbeats 400000 in
theorem index_ints (w : World) (b off c n : Nat) (x : Int) (l : List Int) (hn : l.length = n) (hl : n ≤ maxLen) (h1 : IntsAt w b off l) :
    Calls Tryz.prog 125 #[.slice (some ⟨b, off, none⟩) n c, .int .i64 x] w
      fun e w' => (∃ i : Int, e = .returned (.int .i64 i) ∧ (x ∈ l → 0 ≤ i) ∧ (x ∉ l → i = -1)) ∧ w' = w := by
  subst hn
  have hl' : l.length ≤ 9223372036854775807 := hl
  go_enter Tryz.func125, Tryz.ntmps125
  go_wp2
  go_loop [8] (fun i => ∃ k : Nat, k ≤ l.length ∧ i = .int .i64 k ∧ ∀ j, (hj : j < l.length) → j < k → l[j] ≠ x) (fun i => l.length - (intOf i).toNat)
  case atStart => exact ⟨0, Nat.zero_le _, rfl, fun j _ hj => absurd hj (Nat.not_lt_zero _)⟩
  case round =>
    obtain ⟨k, hk, rfl, hno⟩ := hrel
    have HNO : Hid (∀ j, (hj : j < l.length) → j < k → l[j] ≠ x) := hno
    clear hno
    by_cases hlt : k < l.length
    · have g1 := h1 k hlt
      by_cases hx : x = l[k]
      · have hx' : (x == l[k]) = true := by simpa using hx
        have HX : Hid (x = l[k]) := hx
        clear hx
        go_wp2
        go_ret
        refine ⟨⟨k, rfl, fun _ => by omega, fun hn => absurd (by rw [HX.out]; exact List.getElem_mem hlt) hn⟩, rfl⟩
      · have hx' : (x == l[k]) = false := by simpa using hx
        have HX : Hid (x ≠ l[k]) := hx
        clear hx
        go_wp2
        go_round
        case rel =>
          refine ⟨k + 1, hlt, by go_num, fun j hj hjk => ?_⟩
          by_cases hjk' : j < k
          · exact HNO.out j hj hjk'
          · have : j = k := by omega
            subst this
            exact fun e => HX.out e.symm
        case measure => simp [intOf]; omega
    · go_wp2
      go_ret
      refine ⟨⟨-1, rfl, fun hm => ?_, fun _ => rfl⟩, rfl⟩
      obtain ⟨j, hj, e⟩ := List.getElem_of_mem hm
      exact absurd e (HNO.out j hj (by omega))

set_option maxHeartbeats 400000 in
theorem contains_ints (w : World) (b off c n : Nat) (x : Int) (l : List Int) (hn : l.length = n) (hl : n ≤ maxLen) (h1 : IntsAt w b off l) :
    Calls Tryz.prog 93 #[.slice (some ⟨b, off, none⟩) n c, .int .i64 x] w
      fun e w' => e = .returned (.bool (hasB x l)) ∧ w' = w := by
  go_enter Tryz.func93, Tryz.ntmps93
  go_wp2_with fail
  refine (index_ints w b off c n x l hn hl h1).mono ?_
  rintro e w' ⟨⟨i, rfl, hi1, hi2⟩, rfl⟩
  by_cases hm : x ∈ l
  · have h0 := hi1 hm
    clear hi1 hi2
    go_wp2
    go_ret
    exact ⟨ret_bool (by simp [hasB, hm]), rfl⟩
  · have h0 := hi2 hm
    subst h0
    clear hi1 hi2
    go_wp2
    go_ret
    exact ⟨ret_bool (by simp [hasB, hm]), rfl⟩
end Go.Proofs.YtijjiccgpobjmaeGreat

/- Slices of places in memory of the call's own. -/
namespace Go.Proofs.YtijjiccgpobjmaeGreat
open Go.ChangeShapes Go.WideShapes Go.ChangeAt Go.RowKit
open Orangery (Pl)

def encPl (p : Pl) : List Value := [.int .i64 p.1, .int .i64 p.2.1, .int .i64 p.2.2]

/-- places from a block's head on, that may be written -/
def HoldsP (w : World) (g : Nat) (m : List Pl) : Prop :=
  PlsAt w g 0 m ∧ ∀ i, i < m.length * 3 → w.frozen? ⟨g, i, none⟩ = false

/-- a block is a row of places with so much room -/
def RowAt (w : World) (g cap : Nat) : Prop := ∃ cur, w.heap[g]? = some (.cells cur 47 (0, 0)) ∧ cur.size = cap * 3

theorem RowAt.below {w w' : World} {g cap B : Nat} (h : RowAt w g cap) (hb : Below B w w') (hg : g < B) : RowAt w' g cap := by
  obtain ⟨cur, h1, h2⟩ := h
  exact ⟨cur, by rw [hb.block g hg]; exact h1, h2⟩

theorem RowAt.set {w : World} {g cap : Nat} (h : RowAt w g cap) (b j : Nat) (v : Value) : RowAt (w.setCell ⟨b, j, none⟩ v) g cap := by
  obtain ⟨cur, h1, h2⟩ := h
  by_cases hb : g = b
  · subst hb
    exact ⟨_, heap_setCell_same w g j cur _ v h1, by simpa using h2⟩
  · exact ⟨cur, by rw [heap_setCell_other w ⟨b, j, none⟩ g v hb]; exact h1, h2⟩

theorem RowAt.sets {g cap : Nat} (b : Nat) : ∀ (vs : List Value) (o : Nat) (w : World), RowAt w g cap → RowAt (w.setCells b o vs) g cap
  | [], _, _, h => h
  | v :: r, o, _, h => RowAt.sets b r (o + 1) _ (h.set b o v)

/-- a slice of the call's own -/
def OwnS (w : World) (base : Nat) (v : Value) (l : List Pl) : Prop :=
  (v = .slice none 0 0 ∧ l = []) ∨ ∃ g cap, v = .slice (some ⟨g, 0, none⟩) l.length cap ∧ base ≤ g ∧ g < w.heap.size ∧ l.length ≤ cap ∧ cap ≤ maxLen ∧ HoldsP w g l ∧ RowAt w g cap

theorem flat_len (l : List Pl) : (l.flatMap encPl).length = l.length * 3 := by
  induction l with
  | nil => rfl
  | cons p l ih => simp [List.flatMap_cons, ih, encPl]; omega

theorem flat_get (l : List Pl) : ∀ i, (h : i < l.length) → (l.flatMap encPl)[i * 3]? = some (.int .i64 l[i].1) ∧ (l.flatMap encPl)[i * 3 + 1]? = some (.int .i64 l[i].2.1) ∧ (l.flatMap encPl)[i * 3 + 2]? = some (.int .i64 l[i].2.2) := by
  induction l with
  | nil => intro i h; simp at h
  | cons p l ih =>
    intro i h
    cases i with
    | zero => simp [List.flatMap_cons, encPl]
    | succ i =>
      have := ih i (by simpa using h)
      rw [List.flatMap_cons]
      have e : ∀ j, (encPl p ++ l.flatMap encPl)[(i + 1) * 3 + j]? = (l.flatMap encPl)[i * 3 + j]? := by
        intro j
        rw [List.getElem?_append_right (by simp [encPl]; omega)]
        congr 1
        simp [encPl]
        omega
      have e0 := e 0
      simp only [Nat.add_zero] at e0
      rw [e0, e 1, e 2]
      simpa using this

theorem flat_one (l : List Pl) : ∀ v ∈ l.flatMap encPl, v.oneCell' = true := by
  intro v hv
  simp [encPl] at hv
  obtain ⟨_, _, _, _, rfl | rfl | rfl⟩ := hv <;> rfl

theorem pls_flat {w : World} {b off : Nat} {l : List Pl} (h : PlsAt w b off l) : ∀ j u, (l.flatMap encPl)[j]? = some u → w.cell? ((⟨b, off, none⟩ : Addr).add j) = some u := by
  intro j u hj
  have hlt : j < l.length * 3 := by
    rw [← flat_len]
    rcases Nat.lt_or_ge j (l.flatMap encPl).length with h' | h'
    · exact h'
    · rw [List.getElem?_eq_none h'] at hj; simp at hj
  have hi : j / 3 < l.length := by omega
  have hc := h (j / 3) hi
  have hg := flat_get l (j / 3) hi
  have ha : (⟨b, off, none⟩ : Addr).add j = ⟨b, off + j, none⟩ := by unfold Addr.add; by_cases hz : j = 0 <;> simp [hz]
  rw [ha]
  have hm : j % 3 = 0 ∨ j % 3 = 1 ∨ j % 3 = 2 := by omega
  rcases hm with hm | hm | hm
  · have e : j = j / 3 * 3 := by omega
    have e2 : off + j = off + j / 3 * 3 := by omega
    rw [e2, hc.1]
    rw [e, hg.1] at hj
    exact hj
  · have e : j = j / 3 * 3 + 1 := by omega
    have e2 : off + j = off + j / 3 * 3 + 1 := by omega
    rw [e2, hc.2.1]
    rw [e, hg.2.1] at hj
    exact hj
  · have e : j = j / 3 * 3 + 2 := by omega
    have e2 : off + j = off + j / 3 * 3 + 2 := by omega
    rw [e2, hc.2.2]
    rw [e, hg.2.2] at hj
    exact hj

theorem own_pls {w : World} {base : Nat} {v : Value} {l : List Pl} (h : w.ownsRow base 47 3 v l.length (l.flatMap encPl)) : OwnS w base v l := by
  obtain ⟨h1, h2⟩ := h
  rcases h2 with ⟨hv, hn⟩ | ⟨g, cap, cur, hv, hb, hh, hn, hm, hs, ht⟩
  · exact Or.inl ⟨hv, List.length_eq_zero_iff.1 hn⟩
  · refine Or.inr ⟨g, cap, hv, hb, blk_lt hh, hn, hm, ⟨?_, ?_⟩, cur, hh, hs⟩
    · intro i hi
      have hg := flat_get l i hi
      rw [← ht] at hg
      have key : ∀ j u, (cur.toList.take (l.length * 3))[j]? = some u → w.cell? ⟨g, 0 + j, none⟩ = some u := by
        intro j u hj
        rw [Go.Joins.cell_of_block hh, Nat.zero_add]
        rw [List.getElem?_take] at hj
        split at hj
        · simpa using hj
        · simp at hj
      have k0 := key _ _ hg.1
      have k1 := key _ _ hg.2.1
      have k2 := key _ _ hg.2.2
      rw [← Nat.add_assoc] at k1 k2
      exact ⟨k0, k1, k2⟩
    · intro i _
      exact Go.Joins.unfrozen_of_block hh i

theorem OwnS.slp {w : World} {base : Nat} {v : Value} {l : List Pl} (h : OwnS w base v l) : ∃ a cap, v = .slice a l.length cap ∧ SlP w a l := by
  rcases h with ⟨rfl, rfl⟩ | ⟨g, cap, rfl, _, hg, _, _, hp, _⟩
  · exact ⟨none, 0, rfl, Or.inl rfl⟩
  · exact ⟨_, cap, rfl, Or.inr ⟨g, 0, rfl, hg, hp.1⟩⟩

theorem OwnS.read {w : World} {base : Nat} {a : Option Addr} {n c : Nat} {l : List Pl} (h : OwnS w base (.slice a n c) l) : SlP w a l := by
  obtain ⟨a', c', e, h'⟩ := h.slp
  obtain ⟨rfl, _⟩ : a = a' ∧ _ := by simpa using e
  exact h'
theorem OwnS.below {w w' : World} {base : Nat} {v : Value} {l : List Pl} (h : OwnS w base v l) (hb : Below w.heap.size w w') : OwnS w' base v l := by
  rcases h with h | ⟨g, cap, rfl, h1, hg, h2, h3, ⟨hp, hf⟩, hr⟩
  · exact Or.inl h
  · refine Or.inr ⟨g, cap, rfl, h1, Nat.lt_of_lt_of_le hg hb.size, h2, h3, ⟨fun i hi => ?_, fun i hi => ?_⟩, hr.below hb hg⟩
    · rw [hb.cell hg, hb.cell hg, hb.cell hg]; exact hp i hi
    · rw [hb.frozen hg]; exact hf i hi

/-- an own slice, for an append -/
theorem OwnS.row {w : World} {base : Nat} {v : Value} {l : List Pl} (h : OwnS w base v l) : w.ownsRow base 47 3 v l.length (l.flatMap encPl) := by
  refine ⟨flat_len l, ?_⟩
  rcases h with ⟨rfl, rfl⟩ | ⟨g, cap, rfl, h1, hg, h2, h3, hp, cur, hc, hs⟩
  · exact Or.inl ⟨rfl, rfl⟩
  · refine Or.inr ⟨g, cap, cur, rfl, h1, hc, h2, h3, hs, ?_⟩
    have h4 := pls_flat hp.1
    apply List.ext_getElem?
    intro j
    by_cases hj : j < l.length * 3
    · obtain ⟨u, hu⟩ : ∃ u, (l.flatMap encPl)[j]? = some u := ⟨_, List.getElem?_eq_getElem (by rw [flat_len]; exact hj)⟩
      have h5 := h4 j u hu
      have ha : (⟨g, 0, none⟩ : Addr).add j = ⟨g, j, none⟩ := by unfold Addr.add; by_cases hz : j = 0 <;> simp [hz]
      rw [ha, Go.Joins.cell_of_block hc] at h5
      rw [List.getElem?_take_of_lt hj, hu]
      simpa using h5
    · rw [List.getElem?_eq_none (by simp; omega), List.getElem?_eq_none (by rw [flat_len]; omega)]

theorem infoPlace : (Tryz.prog.info? 47).map (fun i => (i.zero, i.size, i.bytes)) = some (some (.agg #[.int .i64 0, .int .i64 0, .int .i64 0]), 3, 24) := by kernel_rfl

set_option maxHeartbeats 1000000 in
theorem clone_any (w : World) (a : Option Addr) (c : Nat) (l : List Pl) (hl : l.length ≤ 1000) (h : SlP w a l) :
    Calls Tryz.prog 64 #[.slice a l.length c] w
      fun e w' => ∃ v, e = .returned v ∧ OwnS w' w.heap.size v l ∧ Below w.heap.size w w' := by
  obtain ⟨i0, hi, hz0, hz1, hz2⟩ := info_parts infoPlace
  have hq := fun (W : World) (a : Option Addr) (n c : Nat) => Lib.run_eql_slice_nil (P := Tryz.prog) W 24 47 a n c 0 0 Tryz.underlying24
  cases a with
  | none =>
    have hl0 : l = [] := by
      rcases h with h | ⟨b, off, h, _⟩
      · exact h
      · simp at h
    subst hl0
    go_enter Tryz.func64, Tryz.ntmps64
    go_wp2
    go_ret
    exact ⟨_, rfl, Or.inl ⟨rfl, rfl⟩, Below.refl _ _⟩
  | some ad =>
    have hB := Go.Joins.below_alloc1 w (Obj.cells #[] 47)
    have hP := h.below hB
    have hown : (w.alloc (Obj.cells #[] 47)).ownsRow w.heap.size 47 3 (.slice (some ⟨w.heap.size, 0, none⟩) 0 0) 0 [] :=
      ⟨rfl, Or.inr ⟨w.heap.size, 0, #[], rfl, Nat.le_refl _, blk_new rfl, Nat.le_refl _, by unfold maxLen; omega, rfl, rfl⟩⟩
    have hnews : ∀ j u, (l.flatMap encPl)[j]? = some u → (w.alloc (Obj.cells #[] 47)).cell? (ad.add j) = some u := by
      rcases hP with hP | ⟨b, off, ha, _, hp⟩
      · intro j u hj; subst hP; simp at hj
      · simp at ha
        subst ha
        exact pls_flat hp
    have HP : Hid (SlP w (some ad) l) := h
    have HN : Hid (∀ j u, (l.flatMap encPl)[j]? = some u → (w.alloc (Obj.cells #[] 47)).cell? (ad.add j) = some u) := hnews
    clear hP h hnews
    go_enter Tryz.func64, Tryz.ntmps64
    go_wp2_with (at_builtin; refine wpList_append_own _ rfl _ _ 24 rfl w.heap.size 47 i0 _ 3 24 Tryz.underlying24 hi hz0 hz1 hz2 rfl (by decide) _ _ _ rfl hown ad l.length c (l.flatMap encPl) rfl (flat_len l) ?c1 ?c2 ?c3 ?c4 ?c5 ?_)
    case c1 => exact HN.out
    case c2 => exact flat_one l
    case c3 => unfold maxLen; omega
    case c4 => omega
    case c5 => exact hB.size
    · intro v' w1 hown' hgrow _
      have hb1 := hB.trans (below_grown hown hB.size hgrow)
      have hO : OwnS w1 w.heap.size v' l := own_pls (by simpa using hown')
      clear hgrow hown hown'
      go_wp2
      go_ret
      exact ⟨_, rfl, hO, hb1⟩
end Go.Proofs.YtijjiccgpobjmaeGreat

/- Slices of elements of several cells, whatever they are: how they lie, are owned, sorted, come in. -/
namespace Go.Proofs.YtijjiccgpobjmaeGreat
open Go.ChangeShapes Go.WideShapes Go.ChangeAt Go.RowKit

/-- a slice's address holds these elements -/
def SlE {α : Type} (enc : α → List Value) (w : World) (a : Option Addr) (l : List α) : Prop :=
  l = [] ∨ ∃ b off, a = some ⟨b, off, none⟩ ∧ b < w.heap.size ∧ w.rangeAt b off (l.flatMap enc)

theorem SlE.below {α : Type} {enc : α → List Value} {w w' : World} {a : Option Addr} {l : List α} (h : SlE enc w a l) (hb : Below w.heap.size w w') : SlE enc w' a l := by
  rcases h with h | ⟨b, off, ha, hlt, hp⟩
  · exact Or.inl h
  · exact Or.inr ⟨b, off, ha, Nat.lt_of_lt_of_le hlt hb.size, fun j v hv => by rw [hb.cell (by exact hlt)]; exact hp j v hv⟩

theorem flatE_len {α : Type} {enc : α → List Value} {k : Nat} (hk : ∀ x, (enc x).length = k) (l : List α) : (l.flatMap enc).length = l.length * k := by
  induction l with
  | nil => simp
  | cons p l ih => rw [List.flatMap_cons, List.length_append, ih, hk, List.length_cons, Nat.succ_mul]; omega

theorem flatE_get {α : Type} {enc : α → List Value} {k : Nat} (hk : ∀ x, (enc x).length = k) (l : List α) : ∀ i, (hi : i < l.length) → ∀ c, c < k → (l.flatMap enc)[i * k + c]? = (enc l[i])[c]? := by
  induction l with
  | nil => intro i hi; simp at hi
  | cons p l ih =>
    intro i hi c hc
    rw [List.flatMap_cons]
    cases i with
    | zero => rw [Nat.zero_mul, Nat.zero_add, List.getElem?_append_left (by rw [hk]; exact hc)]; rfl
    | succ i =>
      have e : (i + 1) * k + c = (enc p).length + (i * k + c) := by rw [hk, Nat.succ_mul]; omega
      rw [e, List.getElem?_append_right (by omega), Nat.add_sub_cancel_left, ih i (by simpa using hi) c hc]
      rfl

/-- one element of them -/
theorem elemE {α : Type} {enc : α → List Value} {k : Nat} (hk : ∀ x, (enc x).length = k) {w : World} {b off : Nat} {l : List α} (h : w.rangeAt b off (l.flatMap enc)) (i : Nat) (hi : i < l.length) : w.rangeAt b (off + i * k) (enc l[i]) := by
  intro c v hv
  have hc : c < k := by rw [← hk l[i]]; exact (List.getElem?_eq_some_iff.1 hv).1
  have := h (i * k + c) v (by rw [flatE_get hk l i hi c hc]; exact hv)
  rw [Nat.add_assoc]
  exact this

/-- an own row, as an address -/
theorem own_slE {α : Type} {enc : α → List Value} {k : Nat} {w : World} {base : Nat} {e : TypeId} {v : Value} {l : List α} (h : w.ownsRow base e k v l.length (l.flatMap enc)) :
    ∃ a cap, v = .slice a l.length cap ∧ SlE enc w a l ∧ (a = none ∨ ∃ g, a = some ⟨g, 0, none⟩ ∧ base ≤ g ∧ g < w.heap.size) := by
  obtain ⟨h1, h2⟩ := h
  rcases h2 with ⟨rfl, hn⟩ | ⟨g, cap, cur, rfl, hb, hh, hn, hm, hs, ht⟩
  · have : l = [] := List.length_eq_zero_iff.1 hn
    subst this
    exact ⟨none, 0, rfl, Or.inl rfl, Or.inl rfl⟩
  · refine ⟨_, cap, rfl, Or.inr ⟨g, 0, rfl, blk_lt hh, fun j v hv => ?_⟩, Or.inr ⟨g, rfl, hb, blk_lt hh⟩⟩
    rw [← ht] at hv
    rw [Go.Joins.cell_of_block hh, Nat.zero_add]
    rw [List.getElem?_take] at hv
    split at hv
    · simpa using hv
    · simp at hv

theorem own_readE {α : Type} {enc : α → List Value} {k : Nat} {w : World} {base n c : Nat} {e : TypeId} {a : Option Addr} {l : List α} (h : w.ownsRow base e k (.slice a n c) l.length (l.flatMap enc)) : SlE enc w a l := by
  obtain ⟨a', c', e', h', _⟩ := own_slE h
  obtain ⟨rfl, _⟩ : a = a' ∧ _ := by simpa using e'
  exact h'

/-- a row of cells that was read -/
theorem cells_range {w : World} {base n : Nat} {a : Addr} {cs : List Value} (h : w.cells? base a n = some cs) : cs.length = n ∧ ∀ (j : Nat) (v : Value), cs[j]? = some v → w.cell? (a.add j) = some v := by
  unfold World.cells? at h
  split at h
  · have key : ∀ (f : Nat → Option Value) (r : List Nat) (cs : List Value), r.mapM f = some cs → cs.length = r.length ∧ ∀ (j : Nat) (v : Value), cs[j]? = some v → ∃ i : Nat, r[j]? = some i ∧ f i = some v := by
      intro f r
      induction r with
      | nil => intro cs h; simp at h; subst h; exact ⟨rfl, by intro j v hv; simp at hv⟩
      | cons i r ih =>
        intro cs h
        rw [List.mapM_cons] at h
        cases h0 : f i with
        | none => simp [h0] at h
        | some x =>
          cases h1 : r.mapM f with
          | none => simp [h0, h1] at h
          | some t =>
            simp [h0, h1] at h
            subst h
            obtain ⟨hl, hg⟩ := ih t h1
            refine ⟨by simp [hl], ?_⟩
            intro j v hv
            cases j with
            | zero => simp at hv; subst hv; exact ⟨i, rfl, h0⟩
            | succ j => exact hg j v (by simpa using hv)
    obtain ⟨hl, hg⟩ := key _ _ _ h
    refine ⟨by simpa using hl, fun j v hv => ?_⟩
    obtain ⟨i, hi, hf⟩ := hg j v hv
    have : i = j := by
      rw [List.getElem?_eq_some_iff] at hi
      obtain ⟨h1, h2⟩ := hi
      simp at h2
      exact h2.symm
    subst this
    exact hf
  · simp at h

/-- a slice of such elements that came in -/
theorem open_slE {α : Type} [Inhabited α] {enc : α → List Value} {k : Nat} {H : Type} {en : TypeId × Value → H} {w : World} {base fuel : Nat} {spare : Nat → Bool} {held : Bool} {v : Value} {x : DataW H × List MemPlace} {t e : TypeId}
    (hk : ∀ x, (enc x).length = k) (hpos : 0 < k) (ht : Tryz.prog.underlying t = some (.slice e)) (hC : Tryz.prog.cellsOf e = k)
    (hel : ∀ (n : Nat) (cs : List Value) (y : DataW H × List MemPlace), DataW.trod en Tryz.prog w base spare held n e cs = some y → ∃ z : α, cs = enc z)
    (h : DataW.trod en Tryz.prog w base spare held fuel t [v] = some x) : ∃ a c, ∃ l : List α, v = .slice a l.length c ∧ l.length ≤ maxLen ∧ SlE enc w a l := by
  rcases Go.Deep.open_slice ht h with ⟨hcs, _⟩ | ⟨a, len, cap, m, n, D, Pq, hcs, _, hle, hm, hmm, _, hx⟩
  · simp at hcs
    subst hcs
    exact ⟨none, 0, [], rfl, by simp, Or.inl rfl⟩
  · simp at hcs
    subst hcs
    have hlm : len ≤ m := by rw [hmm]; split <;> omega
    have key : ∀ i, i < len → ∃ z : α, ∀ (j : Nat) (v : Value), (enc z)[j]? = some v → w.cell? ((a.add (i * k)).add j) = some v := by
      intro i hi
      obtain ⟨cs', h1, h2⟩ := hx i (by omega)
      rw [hC] at h1
      obtain ⟨z, rfl⟩ := hel _ _ _ h2
      exact ⟨z, (cells_range h1).2⟩
    obtain ⟨f, hf⟩ := Go.Deep.choose_lt key
    refine ⟨some a, cap, (List.range len).map f, by simp, by simp; omega, ?_⟩
    by_cases hz : len = 0
    · exact Or.inl (by simp [hz])
    · right
      obtain ⟨u, hu⟩ : ∃ u, (enc (f 0))[0]? = some u := ⟨_, List.getElem?_eq_getElem (by rw [hk]; exact hpos)⟩
      have h0 := hf 0 (by omega) 0 u hu
      obtain ⟨b, off, spot⟩ := a
      have hspot : spot = none := by simpa [Addr.add] using World.cell?_spot h0
      subst hspot
      have hb : b < w.heap.size := by
        have := World.block_lt_of_cell? w _ h0
        rw [Addr.add_mid, Addr.add_mid] at this
        exact this
      refine ⟨b, off, rfl, hb, fun j v hv => ?_⟩
      have hj : j < len * k := by
        have := (List.getElem?_eq_some_iff.1 hv).1
        rw [flatE_len hk] at this
        simpa using this
      have hi : j / k < len := (Nat.div_lt_iff_lt_mul hpos).2 hj
      have hc : j % k < k := Nat.mod_lt _ hpos
      have e1 : j / k * k + j % k = j := by rw [Nat.mul_comm]; exact Nat.div_add_mod j k
      have e2 := flatE_get hk ((List.range len).map f) (j / k) (by simpa using hi) (j % k) hc
      rw [e1, hv] at e2
      have e3 := hf (j / k) hi (j % k) v (by simpa using e2.symm)
      rw [Addr.add_mid, Addr.add_mid] at e3
      rw [show off + j = off + j / k * k + j % k by omega]
      exact e3

/-- an own row, for the library's sort -/
theorem own_holdsK {α : Type} [Inhabited α] {enc : α → List Value} {k : Nat} (hk : ∀ x, (enc x).length = k) (hpos : 0 < k) {w : World} {base g cap : Nat} {e : TypeId} {l : List α} (h : w.ownsRow base e k (.slice (some ⟨g, 0, none⟩) l.length cap) l.length (l.flatMap enc)) :
    Go.Sort.HoldsK enc k w g 0 l.toArray := by
  intro j hj
  rw [Go.Sort.size_flatK] at hj
  have hj' : j < l.length * k := by simpa using hj
  have hi : j / k < l.length := (Nat.div_lt_iff_lt_mul hpos).2 hj'
  have hc : j % k < k := Nat.mod_lt _ hpos
  have e1 : j / k * k + j % k = j := by rw [Nat.mul_comm]; exact Nat.div_add_mod j k
  rw [Go.Sort.get_flatK _ _ _ _ (by simpa using hj')]
  have e : l.toArray[j / k]! = l[j / k] := by simp [hi]
  rw [e]
  have h1 := h.cellAt j hj'
  have h2 := h.frozenAt j
  have e2 := flatE_get hk l (j / k) hi (j % k) hc
  rw [e1] at e2
  rw [e2] at h1
  refine ⟨?_, by rw [Nat.zero_add]; exact h2⟩
  rw [Nat.zero_add, h1, List.getElem?_eq_getElem (by rw [hk]; exact hc)]
  simp [hk, hc]
end Go.Proofs.YtijjiccgpobjmaeGreat

/- Blocks of the call's own, cell by cell: what they hold behind calls and stores. -/
namespace Go.Proofs.YtijjiccgpobjmaeGreat
open Go.ChangeShapes Go.WideShapes Go.ChangeAt Go.RowKit

/-- a block holds these cells, and may be written -/
def Blk (w : World) (b : Nat) (vs : List Value) : Prop :=
  b < w.heap.size ∧ (∀ j, w.frozen? ⟨b, j, none⟩ = false) ∧ ∀ i v, vs[i]? = some v → w.cell? ⟨b, i, none⟩ = some v

theorem Blk.lt {w : World} {b : Nat} {vs : List Value} (h : Blk w b vs) : b < w.heap.size := h.1
theorem Blk.frz {w : World} {b : Nat} {vs : List Value} (h : Blk w b vs) (j : Nat) : w.frozen? ⟨b, j, none⟩ = false := h.2.1 j
theorem Blk.at {w : World} {b : Nat} {vs : List Value} (h : Blk w b vs) (i : Nat) {v : Value} (e : vs[i]? = some v) : w.cell? ⟨b, i, none⟩ = some v := h.2.2 i v e

theorem Blk.below {w w' : World} {b B : Nat} {vs : List Value} (h : Blk w b vs) (hb : Below B w w') (hB : b < B) : Blk w' b vs :=
  ⟨Nat.lt_of_lt_of_le h.1 hb.size, fun j => by rw [hb.frozen (by exact hB)]; exact h.2.1 j, fun i v e => by rw [hb.cell (by exact hB)]; exact h.2.2 i v e⟩

theorem Blk.keep {w w' : World} {b : Nat} {vs : List Value} (h : Blk w b vs) (hb : Below w.heap.size w w') : Blk w' b vs := h.below hb h.1

theorem Blk.new (w : World) (vs : List Value) (t : TypeId) : Blk (w.alloc (Obj.cells vs.toArray t)) w.heap.size vs := by
  refine ⟨by simp, fun j => by simp, fun i v e => ?_⟩
  have hh : (w.alloc (Obj.cells vs.toArray t)).heap[w.heap.size]? = some (Obj.cells vs.toArray t) := blk_new rfl
  rw [Go.Joins.cell_of_block hh]
  simpa using e

theorem Blk.alloc {w : World} {b : Nat} {vs : List Value} (h : Blk w b vs) (o : Obj) : Blk (w.alloc o) b vs := h.keep (Go.Joins.below_alloc1 w o)

theorem Blk.drew {w : World} {b : Nat} {vs : List Value} (h : Blk w b vs) : Blk w.drew b vs := h

theorem Blk.other {w : World} {b g : Nat} {vs : List Value} (h : Blk w b vs) (hne : b ≠ g) (j : Nat) (v : Value) : Blk (w.setCell ⟨g, j, none⟩ v) b vs :=
  ⟨by simpa using h.1, fun i => by simp only [World.frozen?_setCell]; exact h.2.1 i, fun i u e => by
    rw [World.cell?_setCell_other _ _ _ _ (by simp <;> omega)]; exact h.2.2 i u e⟩

theorem Blk.others {w : World} {b g : Nat} {vs : List Value} (h : Blk w b vs) (hne : b ≠ g) : ∀ (us : List Value) (o : Nat), Blk (w.setCells g o us) b vs := by
  intro us
  induction us generalizing w with
  | nil => intro o; exact h
  | cons u us ih => intro o; exact ih (h.other hne o u) (o + 1)

/-- one cell set -/
theorem Blk.set {w : World} {b : Nat} {vs : List Value} (h : Blk w b vs) (j : Nat) (hj : j < vs.length) (v : Value) : Blk (w.setCell ⟨b, j, none⟩ v) b (vs.set j v) := by
  refine ⟨by simpa using h.1, fun i => by simp only [World.frozen?_setCell]; exact h.2.1 i, fun i u e => ?_⟩
  by_cases hij : j = i
  · subst hij
    rw [List.getElem?_set_self hj] at e
    rw [World.cell?_setCell_same _ _ _ (h.at j (List.getElem?_eq_getElem hj))]
    exact e
  · rw [List.getElem?_set_ne hij] at e
    rw [World.cell?_setCell_other _ _ _ _ (by simp <;> omega)]
    exact h.2.2 i u e

/-- all cells set -/
theorem Blk.sets {w : World} {b : Nat} {vs : List Value} (h : Blk w b vs) (us : List Value) (hl : us.length = vs.length) : Blk (w.setCells b 0 us) b us := by
  have hth : w.there b 0 us.length := fun j hj => ⟨by rw [Nat.zero_add, h.at j (List.getElem?_eq_getElem (by omega))]; rfl, by rw [Nat.zero_add]; exact h.2.1 j⟩
  refine ⟨by simpa [Go.Sort.size_setCells] using h.1, fun i => by rw [World.frozen?_setCells]; exact h.2.1 i, fun i u e => ?_⟩
  have := World.rangeAt_setCells_same w b 0 us hth i u e
  rw [Nat.zero_add] at this
  exact this

theorem below_sets {B : Nat} {w W : World} (h : Below B w W) (g : Nat) (hg : B ≤ g) : ∀ (vs : List Value) (o : Nat), Below B w (W.setCells g o vs) := by
  intro vs
  induction vs generalizing W with
  | nil => intro o; exact h
  | cons v r ih => intro o; exact ih (h.setCell (by exact hg) v) (o + 1)

theorem SlP.other {w : World} {a : Option Addr} {l : List Orangery.Pl} (h : SlP w a l) (g : Nat) (hg : ∀ b off, a = some ⟨b, off, none⟩ → b ≠ g) (j : Nat) (v : Value) : SlP (w.setCell ⟨g, j, none⟩ v) a l := by
  rcases h with h | ⟨b, off, ha, hlt, hp⟩
  · exact Or.inl h
  · have hne := hg b off ha
    refine Or.inr ⟨b, off, ha, by simpa using hlt, fun i hi => ?_⟩
    rw [World.cell?_setCell_other _ _ _ _ (by simp <;> omega), World.cell?_setCell_other _ _ _ _ (by simp <;> omega), World.cell?_setCell_other _ _ _ _ (by simp <;> omega)]
    exact hp i hi

theorem Blk.grown {w w' : World} {b : Nat} {vs : List Value} {row : Option Nat} (h : Blk w b vs) (hg : w.grownBy w' row) (hne : some b ≠ row) : Blk w' b vs := by
  have hb := hg.block b h.1 hne
  refine ⟨Nat.lt_of_lt_of_le h.1 hg.size, fun j => ?_, fun i v e => ?_⟩
  · rw [World.frozen?_of_block (w := w) (w' := w') (a := ⟨b, j, none⟩) hb]; exact h.2.1 j
  · rw [World.cell?_of_block (w := w) (w' := w') (a := ⟨b, i, none⟩) hb]; exact h.2.2 i v e

theorem laid1 (w : World) (v0 : List Value) (t0 : TypeId) : ∃ W, (w.alloc (Obj.cells v0.toArray t0)) = W ∧ Blk W w.heap.size v0 ∧ Below w.heap.size w W ∧ W.heap.size = w.heap.size + 1 := by
  refine ⟨_, rfl, ?_, ?_, ?_⟩
  · have h := (Blk.new w v0 t0)
    exact h
  · exact (Go.Joins.below_alloc1 w (Obj.cells v0.toArray t0))
  · simp only [World.size_alloc]

theorem laid2 (w : World) (v0 : List Value) (t0 : TypeId) (v1 : List Value) (t1 : TypeId) : ∃ W, ((w.alloc (Obj.cells v0.toArray t0)).alloc (Obj.cells v1.toArray t1)) = W ∧ Blk W w.heap.size v0 ∧ Blk W (w.heap.size + 1) v1 ∧ Below w.heap.size w W ∧ W.heap.size = w.heap.size + 2 := by
  refine ⟨_, rfl, ?_, ?_, ?_, ?_⟩
  · have h := ((Blk.new w v0 t0).alloc (Obj.cells v1.toArray t1))
    exact h
  · have h := (Blk.new (w.alloc (Obj.cells v0.toArray t0)) v1 t1)
    simpa only [World.size_alloc] using h
  · exact (Below.alloc (Go.Joins.below_alloc1 w (Obj.cells v0.toArray t0)) (by simp only [World.size_alloc]; omega) (Obj.cells v1.toArray t1))
  · simp only [World.size_alloc]

theorem laid3 (w : World) (v0 : List Value) (t0 : TypeId) (v1 : List Value) (t1 : TypeId) (v2 : List Value) (t2 : TypeId) : ∃ W, (((w.alloc (Obj.cells v0.toArray t0)).alloc (Obj.cells v1.toArray t1)).alloc (Obj.cells v2.toArray t2)) = W ∧ Blk W w.heap.size v0 ∧ Blk W (w.heap.size + 1) v1 ∧ Blk W (w.heap.size + 1 + 1) v2 ∧ Below w.heap.size w W ∧ W.heap.size = w.heap.size + 3 := by
  refine ⟨_, rfl, ?_, ?_, ?_, ?_, ?_⟩
  · have h := (((Blk.new w v0 t0).alloc (Obj.cells v1.toArray t1)).alloc (Obj.cells v2.toArray t2))
    exact h
  · have h := ((Blk.new (w.alloc (Obj.cells v0.toArray t0)) v1 t1).alloc (Obj.cells v2.toArray t2))
    simpa only [World.size_alloc] using h
  · have h := (Blk.new ((w.alloc (Obj.cells v0.toArray t0)).alloc (Obj.cells v1.toArray t1)) v2 t2)
    simpa only [World.size_alloc] using h
  · exact (Below.alloc (Below.alloc (Go.Joins.below_alloc1 w (Obj.cells v0.toArray t0)) (by simp only [World.size_alloc]; omega) (Obj.cells v1.toArray t1)) (by simp only [World.size_alloc]; omega) (Obj.cells v2.toArray t2))
  · simp only [World.size_alloc]

theorem laid4 (w : World) (v0 : List Value) (t0 : TypeId) (v1 : List Value) (t1 : TypeId) (v2 : List Value) (t2 : TypeId) (v3 : List Value) (t3 : TypeId) : ∃ W, ((((w.alloc (Obj.cells v0.toArray t0)).alloc (Obj.cells v1.toArray t1)).alloc (Obj.cells v2.toArray t2)).alloc (Obj.cells v3.toArray t3)) = W ∧ Blk W w.heap.size v0 ∧ Blk W (w.heap.size + 1) v1 ∧ Blk W (w.heap.size + 1 + 1) v2 ∧ Blk W (w.heap.size + 1 + 1 + 1) v3 ∧ Below w.heap.size w W ∧ W.heap.size = w.heap.size + 4 := by
  refine ⟨_, rfl, ?_, ?_, ?_, ?_, ?_, ?_⟩
  · have h := ((((Blk.new w v0 t0).alloc (Obj.cells v1.toArray t1)).alloc (Obj.cells v2.toArray t2)).alloc (Obj.cells v3.toArray t3))
    exact h
  · have h := (((Blk.new (w.alloc (Obj.cells v0.toArray t0)) v1 t1).alloc (Obj.cells v2.toArray t2)).alloc (Obj.cells v3.toArray t3))
    simpa only [World.size_alloc] using h
  · have h := ((Blk.new ((w.alloc (Obj.cells v0.toArray t0)).alloc (Obj.cells v1.toArray t1)) v2 t2).alloc (Obj.cells v3.toArray t3))
    simpa only [World.size_alloc] using h
  · have h := (Blk.new (((w.alloc (Obj.cells v0.toArray t0)).alloc (Obj.cells v1.toArray t1)).alloc (Obj.cells v2.toArray t2)) v3 t3)
    simpa only [World.size_alloc] using h
  · exact (Below.alloc (Below.alloc (Below.alloc (Go.Joins.below_alloc1 w (Obj.cells v0.toArray t0)) (by simp only [World.size_alloc]; omega) (Obj.cells v1.toArray t1)) (by simp only [World.size_alloc]; omega) (Obj.cells v2.toArray t2)) (by simp only [World.size_alloc]; omega) (Obj.cells v3.toArray t3))
  · simp only [World.size_alloc]

theorem laid5 (w : World) (v0 : List Value) (t0 : TypeId) (v1 : List Value) (t1 : TypeId) (v2 : List Value) (t2 : TypeId) (v3 : List Value) (t3 : TypeId) (v4 : List Value) (t4 : TypeId) : ∃ W, (((((w.alloc (Obj.cells v0.toArray t0)).alloc (Obj.cells v1.toArray t1)).alloc (Obj.cells v2.toArray t2)).alloc (Obj.cells v3.toArray t3)).alloc (Obj.cells v4.toArray t4)) = W ∧ Blk W w.heap.size v0 ∧ Blk W (w.heap.size + 1) v1 ∧ Blk W (w.heap.size + 1 + 1) v2 ∧ Blk W (w.heap.size + 1 + 1 + 1) v3 ∧ Blk W (w.heap.size + 1 + 1 + 1 + 1) v4 ∧ Below w.heap.size w W ∧ W.heap.size = w.heap.size + 5 := by
  refine ⟨_, rfl, ?_, ?_, ?_, ?_, ?_, ?_, ?_⟩
  · have h := (((((Blk.new w v0 t0).alloc (Obj.cells v1.toArray t1)).alloc (Obj.cells v2.toArray t2)).alloc (Obj.cells v3.toArray t3)).alloc (Obj.cells v4.toArray t4))
    exact h
  · have h := ((((Blk.new (w.alloc (Obj.cells v0.toArray t0)) v1 t1).alloc (Obj.cells v2.toArray t2)).alloc (Obj.cells v3.toArray t3)).alloc (Obj.cells v4.toArray t4))
    simpa only [World.size_alloc] using h
  · have h := (((Blk.new ((w.alloc (Obj.cells v0.toArray t0)).alloc (Obj.cells v1.toArray t1)) v2 t2).alloc (Obj.cells v3.toArray t3)).alloc (Obj.cells v4.toArray t4))
    simpa only [World.size_alloc] using h
  · have h := ((Blk.new (((w.alloc (Obj.cells v0.toArray t0)).alloc (Obj.cells v1.toArray t1)).alloc (Obj.cells v2.toArray t2)) v3 t3).alloc (Obj.cells v4.toArray t4))
    simpa only [World.size_alloc] using h
  · have h := (Blk.new ((((w.alloc (Obj.cells v0.toArray t0)).alloc (Obj.cells v1.toArray t1)).alloc (Obj.cells v2.toArray t2)).alloc (Obj.cells v3.toArray t3)) v4 t4)
    simpa only [World.size_alloc] using h
  · exact (Below.alloc (Below.alloc (Below.alloc (Below.alloc (Go.Joins.below_alloc1 w (Obj.cells v0.toArray t0)) (by simp only [World.size_alloc]; omega) (Obj.cells v1.toArray t1)) (by simp only [World.size_alloc]; omega) (Obj.cells v2.toArray t2)) (by simp only [World.size_alloc]; omega) (Obj.cells v3.toArray t3)) (by simp only [World.size_alloc]; omega) (Obj.cells v4.toArray t4))
  · simp only [World.size_alloc]

theorem laid6 (w : World) (v0 : List Value) (t0 : TypeId) (v1 : List Value) (t1 : TypeId) (v2 : List Value) (t2 : TypeId) (v3 : List Value) (t3 : TypeId) (v4 : List Value) (t4 : TypeId) (v5 : List Value) (t5 : TypeId) : ∃ W, ((((((w.alloc (Obj.cells v0.toArray t0)).alloc (Obj.cells v1.toArray t1)).alloc (Obj.cells v2.toArray t2)).alloc (Obj.cells v3.toArray t3)).alloc (Obj.cells v4.toArray t4)).alloc (Obj.cells v5.toArray t5)) = W ∧ Blk W w.heap.size v0 ∧ Blk W (w.heap.size + 1) v1 ∧ Blk W (w.heap.size + 1 + 1) v2 ∧ Blk W (w.heap.size + 1 + 1 + 1) v3 ∧ Blk W (w.heap.size + 1 + 1 + 1 + 1) v4 ∧ Blk W (w.heap.size + 1 + 1 + 1 + 1 + 1) v5 ∧ Below w.heap.size w W ∧ W.heap.size = w.heap.size + 6 := by
  refine ⟨_, rfl, ?_, ?_, ?_, ?_, ?_, ?_, ?_, ?_⟩
  · have h := ((((((Blk.new w v0 t0).alloc (Obj.cells v1.toArray t1)).alloc (Obj.cells v2.toArray t2)).alloc (Obj.cells v3.toArray t3)).alloc (Obj.cells v4.toArray t4)).alloc (Obj.cells v5.toArray t5))
    exact h
  · have h := (((((Blk.new (w.alloc (Obj.cells v0.toArray t0)) v1 t1).alloc (Obj.cells v2.toArray t2)).alloc (Obj.cells v3.toArray t3)).alloc (Obj.cells v4.toArray t4)).alloc (Obj.cells v5.toArray t5))
    simpa only [World.size_alloc] using h
  · have h := ((((Blk.new ((w.alloc (Obj.cells v0.toArray t0)).alloc (Obj.cells v1.toArray t1)) v2 t2).alloc (Obj.cells v3.toArray t3)).alloc (Obj.cells v4.toArray t4)).alloc (Obj.cells v5.toArray t5))
    simpa only [World.size_alloc] using h
  · have h := (((Blk.new (((w.alloc (Obj.cells v0.toArray t0)).alloc (Obj.cells v1.toArray t1)).alloc (Obj.cells v2.toArray t2)) v3 t3).alloc (Obj.cells v4.toArray t4)).alloc (Obj.cells v5.toArray t5))
    simpa only [World.size_alloc] using h
  · have h := ((Blk.new ((((w.alloc (Obj.cells v0.toArray t0)).alloc (Obj.cells v1.toArray t1)).alloc (Obj.cells v2.toArray t2)).alloc (Obj.cells v3.toArray t3)) v4 t4).alloc (Obj.cells v5.toArray t5))
    simpa only [World.size_alloc] using h
  · have h := (Blk.new (((((w.alloc (Obj.cells v0.toArray t0)).alloc (Obj.cells v1.toArray t1)).alloc (Obj.cells v2.toArray t2)).alloc (Obj.cells v3.toArray t3)).alloc (Obj.cells v4.toArray t4)) v5 t5)
    simpa only [World.size_alloc] using h
  · exact (Below.alloc (Below.alloc (Below.alloc (Below.alloc (Below.alloc (Go.Joins.below_alloc1 w (Obj.cells v0.toArray t0)) (by simp only [World.size_alloc]; omega) (Obj.cells v1.toArray t1)) (by simp only [World.size_alloc]; omega) (Obj.cells v2.toArray t2)) (by simp only [World.size_alloc]; omega) (Obj.cells v3.toArray t3)) (by simp only [World.size_alloc]; omega) (Obj.cells v4.toArray t4)) (by simp only [World.size_alloc]; omega) (Obj.cells v5.toArray t5))
  · simp only [World.size_alloc]
end Go.Proofs.YtijjiccgpobjmaeGreat

/- tree.Find: the first place of a node, or the zero place. -/
namespace Go.Proofs.YtijjiccgpobjmaeGreat
open Go.ChangeShapes Go.WideShapes Go.ChangeAt Go.RowKit
open Orangery (Pl find)

set_option maxHeartbeats 400000 in
theorem find_any (w : World) (a : Option Addr) (c : Nat) (l : List Pl) (n : Int) (hl : l.length ≤ maxLen) (h : SlP w a l) :
    Calls Tryz.prog 25 #[.agg #[.slice a l.length c], .int .i64 n] w
      fun e w' => e = .returned (plV (find l n)) ∧ Below w.heap.size w w' := by
  unfold maxLen at hl
  go_enter Tryz.func25, Tryz.ntmps25
  go_wp2
  generalize hW : (w.alloc (Obj.cells #[Value.slice a l.length c] 37)).alloc (Obj.cells #[Value.int IntKind.i64 0, Value.int IntKind.i64 0, Value.int IntKind.i64 0] 47) = W0
  have hB : Below w.heap.size w W0 := by subst hW; exact Go.Joins.below_alloc2 w _ _
  have hS : W0.heap.size = w.heap.size + 2 := by subst hW; simp
  have hfr : ∀ j, W0.frozen? ⟨w.heap.size + 1, j, none⟩ = false := by intro j; subst hW; simp
  have hc : W0.cell? ⟨w.heap.size + 1, 0, none⟩ = some (.int .i64 0) ∧ W0.cell? ⟨w.heap.size + 1, 1, none⟩ = some (.int .i64 0) ∧ W0.cell? ⟨w.heap.size + 1, 2, none⟩ = some (.int .i64 0) := by subst hW; simp
  have hP := h.below hB
  clear h
  have HW : Hid (_ = W0) := hW
  clear hW
  go_loopw [10] (fun i W => ∃ k : Nat, k ≤ l.length ∧ i = .int .i64 k ∧ find (l.drop k) n = find l n ∧ Below W0.heap.size W0 W) (fun i _ => l.length - (intOf i).toNat)
  case atStart => exact ⟨0, Nat.zero_le _, rfl, rfl, Below.refl _ _⟩
  case round =>
    obtain ⟨k, hk, rfl, hf, hb⟩ := hrel
    have hz : w.heap.size + 1 < wr.heap.size := by have := hb.size; omega
    have hf0 : ∀ j, wr.frozen? ⟨w.heap.size + 1, j, none⟩ = false := by intro j; rw [hb.frozen (by show w.heap.size + 1 < _; omega)]; exact hfr j
    obtain ⟨c0, c1, c2⟩ := hc
    rw [← hb.cell (by show w.heap.size + 1 < _; omega)] at c0 c1 c2
    clear hfr
    by_cases hlt : k < l.length
    · obtain ⟨e1, e2⟩ := Orangery.find_drop l n k hlt hf
      rcases hP with hP | ⟨b, off, rfl, hbl, hp⟩
      · exact absurd hlt (by simp [hP])
      have g := hp k hlt
      rw [← hb.cell hbl, ← hb.cell hbl, ← hb.cell hbl] at g
      obtain ⟨g0, g1, g2⟩ := g
      by_cases hq : l[k].1 = n
      · have e := e1 hq
        have hq' : (l[k].1 == n) = true := by simpa using hq
        have HQ : Hid (l[k].1 = n) := hq
        clear hq e1 e2 hf
        have HE : Hid (find l n = l[k]) := e
        clear e
        go_wp2
        obtain ⟨d0, d1, d2⟩ := cells3 (.int .i64 l[k].1) (.int .i64 l[k].2.1) (.int .i64 l[k].2.2) c0 c1 c2
        refine bodyPost_ret (v := plV l[k]) (by simp [results, Tryz.results25, go_sem, hz, d0, d1, d2]) rfl ⟨by rw [HE.out], ?_⟩
        have hb' : Below w.heap.size w wr := hB.trans (hb.mono (by omega))
        exact (((hb'.setCell (by simp) _).setCell (by simp) _).setCell (by simp) _).alloc (by simp; omega) _
      · have hq' : (l[k].1 == n) = false := by simpa using hq
        go_wp2
        go_roundw
        case rel => exact ⟨k + 1, hlt, by go_num, e2 hq, hb.alloc hb.size _⟩
        case measure => simp [intOf]; omega
    · have hk : k = l.length := by omega
      have e : find l n = (0, 0, 0) := by rw [← hf, hk, List.drop_length]; rfl
      have HE : Hid (find l n = (0, 0, 0)) := e
      clear e hf
      go_wp2
      obtain ⟨d0, d1, d2⟩ := cells3 (.int .i64 0) (.int .i64 0) (.int .i64 0) c0 c1 c2
      refine bodyPost_ret (v := plV (0, 0, 0)) (by simp [results, Tryz.results25, go_sem, d0, d1, d2]) rfl ⟨by rw [HE.out], ?_⟩
      have hb' : Below w.heap.size w wr := hB.trans (hb.mono (by omega))
      exact (((hb'.setCell (by simp) _).setCell (by simp) _).setCell (by simp) _)
end Go.Proofs.YtijjiccgpobjmaeGreat

