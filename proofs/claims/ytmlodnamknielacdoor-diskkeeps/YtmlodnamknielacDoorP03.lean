/- 7 texts of the proof: Plain facts on views: what is known, what is the way up, and that a view of a view is the same. Plain facts on records: checked, printed, read. Plain facts on texts: strings.Split and strconv.Atoi in the words of PlainQ. How places lie in memory: the words that the contracts speak. slices.Equal and slices.Contains at ints. Slices of places in memory of the call's own. Slices of elements of several -/
import Derived.Lib.ItoaLen
import Derived.Lib.Split
import Derived.Lib.SplitLaws
import Derived.Lib.ParseIntBTie
import Derived.Lib.Strings
import Derived.Test.YtmlodnamknielacDoorRows
import Derived.WalkKit
import Derived.ProofKit
import Derived.OpenShut
import Derived.Deep.QuietTactic
import Derived.BigQuiet
import Derived.Lib.SmallJoins
import Derived.Shelf.Abstract
import Derived.Lib.SliceRun
import Derived.Deep.MidRow
import Derived.Deep.Slices
import Derived.Deep.Onto
import Derived.Shelf.SlSortFuncK.RowK2
import Derived.Test.YtmlodnamknielacDoorP02
import Derived.Test.YtmlodnamknielacDoorP01
/- Plain facts on views: what is known, what is the way up, and that a view of a view is the same. -/
namespace Orangery

/-- a node that is one of the roots, or below one -/
def knB (l : List Pl) (roots : List Int) (n : Int) : Bool := roots.any fun r => underB l n r
/-- another one, above a root -/
def wyB (l : List Pl) (roots : List Int) (n : Int) : Bool := !knB l roots n && roots.any fun r => underB l r n
def viewK (l : List Pl) (roots : List Int) : List Pl := l.filter fun p => knB l roots p.1
def viewW (l : List Pl) (roots : List Int) : List Pl := l.filter fun p => wyB l roots p.1
/-- both -/
def seenB (l : List Pl) (roots : List Int) (n : Int) : Bool := knB l roots n || wyB l roots n
def viewA (l : List Pl) (roots : List Int) : List Pl := l.filter fun p => seenB l roots p.1

/-- roots that may be -/
def rootsE : Int → List Int → Int
  | _, [] => 0
  | a, n :: l => if isNodeB n = false then 5 else if n ≤ a then 6 else rootsE n l
def rootsOk (l : List Int) : Int := if 4 < l.length then 2 else rootsE (-1) l

theorem rootsE_step (l : List Int) (k : Nat) (a : Int) (h : k < l.length) (hs : rootsE a (l.drop k) = rootsE (-1) l) :
    (isNodeB l[k] = false → rootsE (-1) l = 5) ∧ (isNodeB l[k] = true → l[k] ≤ a → rootsE (-1) l = 6) ∧ (isNodeB l[k] = true → ¬ l[k] ≤ a → rootsE l[k] (l.drop (k + 1)) = rootsE (-1) l) := by
  rw [List.drop_eq_getElem_cons h] at hs
  have e : rootsE a (l[k] :: l.drop (k + 1)) = if isNodeB l[k] = false then 5 else if l[k] ≤ a then 6 else rootsE l[k] (l.drop (k + 1)) := rfl
  rw [e] at hs
  refine ⟨fun h1 => ?_, fun h1 h2 => ?_, fun h1 h2 => ?_⟩
  · rw [if_pos h1] at hs; exact hs.symm
  · rw [if_neg (by simp [h1]), if_pos h2] at hs; exact hs.symm
  · rw [if_neg (by simp [h1]), if_neg h2] at hs; exact hs

theorem rootsE_node (l : List Int) : ∀ a, rootsE a l = 0 → (∀ r ∈ l, isNodeB r = true ∧ a < r) ∧ l.Pairwise (· < ·) := by
  induction l with
  | nil => intro a _; exact ⟨by simp, List.Pairwise.nil⟩
  | cons n l ih =>
    intro a h
    unfold rootsE at h
    split at h
    · omega
    · split at h
      · omega
      · rename_i h1 h2
        obtain ⟨h3, h4⟩ := ih n h
        refine ⟨?_, List.pairwise_cons.2 ⟨fun r hr => (h3 r hr).2, h4⟩⟩
        intro r hr
        simp at hr h1
        rcases hr with rfl | hr
        · exact ⟨h1, by omega⟩
        · exact ⟨(h3 r hr).1, by have := (h3 r hr).2; omega⟩
theorem rootsOk_node {l : List Int} (h : rootsOk l = 0) : ∀ r ∈ l, isNodeB r = true := by
  unfold rootsOk at h
  split at h
  · omega
  · exact fun r hr => ((rootsE_node l _ h).1 r hr).1
theorem rootsOk_len {l : List Int} (h : rootsOk l = 0) : l.length ≤ 4 := by
  unfold rootsOk at h
  split at h
  · omega
  · omega

/-- places of some nodes alone -/
theorem find_g (g : Int → Bool) (l : List Pl) (n : Int) : find (l.filter fun p => g p.1) n = if g n = true then find l n else (0, 0, 0) := by
  cases h : g n
  · rw [if_neg (by simp)]
    refine find_zero _ _ ?_
    intro q hq e
    have : g q.1 = true := (List.mem_filter.1 hq).2
    rw [e, h] at this
    simp at this
  · rw [if_pos rfl]
    exact find_filter _ l n (fun q _ e => by rw [e]; exact h)

theorem up_g1 (g : Int → Bool) (l : List Pl) (k : Nat) : ∀ a b, upN (l.filter fun p => g p.1) k a = some b → upN l k a = some b := by
  induction k with
  | zero => intro a b h; exact h
  | succ k ih =>
    intro a b h
    rw [upN, find_g] at h
    rw [upN]
    cases hg : g a
    · rw [hg] at h; simp at h
    · rw [hg] at h
      simp only [if_true] at h
      split at h
      · simp at h
      · rename_i hz
        rw [if_neg hz]
        exact ih _ _ h

theorem up_g2 (g : Int → Bool) (l : List Pl) (k : Nat) : ∀ a b, upN l k a = some b → (∀ i, i < k → ∀ c, upN l i a = some c → g c = true) → upN (l.filter fun p => g p.1) k a = some b := by
  induction k with
  | zero => intro a b h _; exact h
  | succ k ih =>
    intro a b h hg
    have h0 : g a = true := hg 0 (by omega) a rfl
    rw [upN, find_g, h0]
    simp only [if_true]
    rw [upN] at h
    split at h
    · simp at h
    · rename_i hz
      rw [if_neg hz]
      exact ih _ _ h (fun i hi c hc => hg (i + 1) (by omega) c (by rw [upN, if_neg hz]; exact hc))

theorem check_g (g : Int → Bool) (l : List Pl) (h : check l = 0) : check (l.filter fun p => g p.1) = 0 := by
  rw [check_iff] at h ⊢
  obtain ⟨h1, h2, h3⟩ := h
  exact ⟨fun p hp => h1 p (List.mem_filter.1 hp).1, h2.filter _, fun a j hj => h3 a j (up_g1 g l _ _ _ hj)⟩

theorem up_node (l : List Pl) (h : check l = 0) (k : Nat) : ∀ a b, isNodeB a = true → upN l k a = some b → isNodeB b = true := by
  induction k with
  | zero => intro a b ha hb; simp [upN] at hb; subst hb; exact ha
  | succ k ih =>
    intro a b ha hb
    rw [upN] at hb
    split at hb
    · simp at hb
    · rename_i hz
      obtain ⟨hm, _⟩ := find_mem l a hz
      exact ih _ _ (mem_node l h _ hm).2.1 hb

theorem kn_iff (l : List Pl) (roots : List Int) (h : check l = 0) (hr : ∀ r ∈ roots, isNodeB r = true) (n : Int) (hn : isNodeB n = true) : knB l roots n = true ↔ ∃ r ∈ roots, ∃ j, upN l j n = some r := by
  unfold knB
  rw [List.any_eq_true]
  constructor
  · rintro ⟨r, hm, hu⟩; exact ⟨r, hm, (under_iff l n r h hn (hr r hm)).1 hu⟩
  · rintro ⟨r, hm, hu⟩; exact ⟨r, hm, (under_iff l n r h hn (hr r hm)).2 hu⟩
theorem wy_iff (l : List Pl) (roots : List Int) (h : check l = 0) (hr : ∀ r ∈ roots, isNodeB r = true) (n : Int) (hn : isNodeB n = true) : wyB l roots n = true ↔ knB l roots n = false ∧ ∃ r ∈ roots, ∃ j, upN l j r = some n := by
  unfold wyB
  rw [Bool.and_eq_true, List.any_eq_true]
  have e : (!knB l roots n) = true ↔ knB l roots n = false := by simp
  rw [e]
  constructor
  · rintro ⟨h1, r, hm, hu⟩; exact ⟨h1, r, hm, (under_iff l r n h (hr r hm) hn).1 hu⟩
  · rintro ⟨h1, r, hm, hu⟩; exact ⟨h1, r, hm, (under_iff l r n h (hr r hm) hn).2 hu⟩

theorem kn_again (l : List Pl) (roots : List Int) (h : check l = 0) (hr : ∀ r ∈ roots, isNodeB r = true) (n : Int) (hn : isNodeB n = true) : knB (viewA l roots) roots n = knB l roots n := by
  have hc : check (viewA l roots) = 0 := check_g (seenB l roots) l h
  rw [Bool.eq_iff_iff, kn_iff _ roots hc hr n hn, kn_iff l roots h hr n hn]
  constructor
  · rintro ⟨r, hm, j, hj⟩; exact ⟨r, hm, j, up_g1 (seenB l roots) l _ _ _ hj⟩
  · rintro ⟨r, hm, j, hj⟩
    refine ⟨r, hm, j, up_g2 (seenB l roots) l _ _ _ hj ?_⟩
    intro i hi c hc'
    have : knB l roots c = true := (kn_iff l roots h hr c (up_node l h i n c hn hc')).2 ⟨r, hm, j - i, by
      have := upN_add l i (j - i) n
      rw [show i + (j - i) = j by omega, hj, hc'] at this
      exact this.symm⟩
    unfold seenB
    rw [this]
    rfl

theorem wy_again (l : List Pl) (roots : List Int) (h : check l = 0) (hr : ∀ r ∈ roots, isNodeB r = true) (n : Int) (hn : isNodeB n = true) : wyB (viewA l roots) roots n = wyB l roots n := by
  have hc : check (viewA l roots) = 0 := check_g (seenB l roots) l h
  rw [Bool.eq_iff_iff, wy_iff _ roots hc hr n hn, wy_iff l roots h hr n hn, kn_again l roots h hr n hn]
  constructor
  · rintro ⟨h1, r, hm, j, hj⟩; exact ⟨h1, r, hm, j, up_g1 (seenB l roots) l _ _ _ hj⟩
  · rintro ⟨h1, r, hm, j, hj⟩
    refine ⟨h1, r, hm, j, up_g2 (seenB l roots) l _ _ _ hj ?_⟩
    intro i hi c hc'
    have hcn := up_node l h i r c (hr r hm) hc'
    unfold seenB
    cases hk : knB l roots c
    · rw [(wy_iff l roots h hr c hcn).2 ⟨hk, r, hm, i, hc'⟩]; rfl
    · rfl

/-- a view of a view is the same -/
theorem view_again (l : List Pl) (roots : List Int) (h : check l = 0) (hr : ∀ r ∈ roots, isNodeB r = true) :
    check (viewA l roots) = 0 ∧ viewK (viewA l roots) roots = viewK l roots ∧ viewW (viewA l roots) roots = viewW l roots := by
  refine ⟨check_g (seenB l roots) l h, ?_, ?_⟩
  · unfold viewK
    conv => lhs; arg 2; unfold viewA
    rw [List.filter_filter]
    apply List.filter_congr
    intro p hp
    rw [kn_again l roots h hr p.1 (mem_node l h p hp).1]
    unfold seenB
    cases knB l roots p.1 <;> simp
  · unfold viewW
    conv => lhs; arg 2; unfold viewA
    rw [List.filter_filter]
    apply List.filter_congr
    intro p hp
    rw [wy_again l roots h hr p.1 (mem_node l h p hp).1]
    unfold seenB
    cases wyB l roots p.1 <;> simp

/-- what is known and what is the way are apart -/
theorem view_apart (l : List Pl) (roots : List Int) (n : Int) (h : knB l roots n = true) : wyB l roots n = false := by
  unfold wyB
  rw [h]
  rfl
theorem view_perm (l : List Pl) (roots : List Int) : (viewK l roots ++ viewW l roots).Perm (viewA l roots) := by
  exact filter_or _ _ (fun p hp => view_apart l roots p.1 hp) l

/-- who is known, or a root, has all their kids known -/
theorem view_kids (l : List Pl) (roots : List Int) (h : check l = 0) (hr : ∀ r ∈ roots, isNodeB r = true) (p : Pl) (hp : p ∈ l) (hk : knB l roots p.2.1 = true) : knB l roots p.1 = true := by
  obtain ⟨h1, h2, h3, _⟩ := mem_node l h p hp
  obtain ⟨r, hm, j, hj⟩ := (kn_iff l roots h hr _ h2).1 hk
  refine (kn_iff l roots h hr _ h1).2 ⟨r, hm, j + 1, ?_⟩
  have hz : p.1 ≠ 0 := by have := (scan_range l 0 (check_scan l h) p hp).2; omega
  rw [upN, h3, if_neg hz]
  exact hj
theorem root_known (l : List Pl) (roots : List Int) (h : check l = 0) (r : Int) (hr : isNodeB r = true) (hm : r ∈ roots) : knB l roots r = true := by
  unfold knB
  rw [List.any_eq_true]
  exact ⟨r, hm, under_refl l r h hr⟩

/-- with more roots no less is known -/
theorem view_more (l : List Pl) (roots more : List Int) (hs : ∀ r ∈ roots, r ∈ more) (n : Int) (h : knB l roots n = true) : knB l more n = true := by
  unfold knB at *
  rw [List.any_eq_true] at *
  obtain ⟨r, hm, hu⟩ := h
  exact ⟨r, hs r hm, hu⟩

/-- the reference's way to reckon it: on chains -/
theorem kn_chain (l : List Pl) (roots : List Int) (h : check l = 0) (hr : ∀ r ∈ roots, isNodeB r = true) (n : Int) (hn : isNodeB n = true) : knB l roots n = (chain l n).any fun m => hasB m roots := by
  rw [Bool.eq_iff_iff]
  unfold knB
  rw [List.any_eq_true, List.any_eq_true]
  constructor
  · rintro ⟨r, hm, hu⟩
    rw [under_eq l n r h hn (hr r hm)] at hu
    exact ⟨r, by simpa [hasB] using hu, by simpa [hasB] using hm⟩
  · rintro ⟨m, hm, hu⟩
    have hm' : m ∈ roots := by simpa [hasB] using hu
    exact ⟨m, hm', by rw [under_eq l n m h hn (hr m hm')]; simpa [hasB] using hm⟩

theorem chain_head (l : List Pl) (r : Int) (h : check l = 0) (hr : isNodeB r = true) : ∃ t, chain l r = r :: t ∧ r ∉ t := by
  rw [isNodeB_iff] at hr
  obtain ⟨m, ⟨hok, hi, _⟩, _⟩ := chain_inv l r (scan_up (check_scan l h)) hr.1 hr.2
  have hpos := hok.2.2
  have h0 := hi 0 (by omega)
  cases hc : chain l r with
  | nil => rw [hc] at hpos; simp at hpos
  | cons x t =>
    have e : x = r := by
      have : upN l 0 r = some (chain l r)[0] := h0
      simp only [hc, List.getElem_cons_zero, upN] at this
      exact (Option.some.inj this).symm
    subst e
    refine ⟨t, rfl, ?_⟩
    have := hok.1
    rw [hc] at this
    exact (List.nodup_cons.1 this).1

theorem wy_chain (l : List Pl) (roots : List Int) (h : check l = 0) (hr : ∀ r ∈ roots, isNodeB r = true) (n : Int) (hn : isNodeB n = true) (hk : knB l roots n = false) :
    wyB l roots n = roots.any fun r => hasB n ((chain l r).drop 1) := by
  unfold wyB
  rw [hk, Bool.eq_iff_iff]
  simp only [Bool.not_false, Bool.true_and]
  rw [List.any_eq_true, List.any_eq_true]
  constructor
  · rintro ⟨r, hm, hu⟩
    refine ⟨r, hm, ?_⟩
    rw [under_eq l r n h (hr r hm) hn] at hu
    obtain ⟨t, ht, _⟩ := chain_head l r h (hr r hm)
    have hne : n ≠ r := by
      rintro rfl
      rw [root_known l roots h n hn hm] at hk
      simp at hk
    rw [ht] at hu ⊢
    simp [hasB] at hu ⊢
    rcases hu with hu | hu
    · exact absurd hu hne
    · exact hu
  · rintro ⟨r, hm, hu⟩
    refine ⟨r, hm, ?_⟩
    rw [under_eq l r n h (hr r hm) hn]
    obtain ⟨t, ht, _⟩ := chain_head l r h (hr r hm)
    rw [ht] at hu ⊢
    simp [hasB] at hu ⊢
    exact Or.inr hu

/-- a row of a table, of places in whatever order: the last one counts -/
def tabLast (l : List Pl) (n : Int) : Pl := l.foldl (fun t p => if p.1 = n then p else t) (0, -1, 0)
theorem tabLast_snoc (l : List Pl) (p : Pl) (n : Int) : tabLast (l ++ [p]) n = if p.1 = n then p else tabLast l n := by
  unfold tabLast
  rw [List.foldl_append]
  rfl
theorem tabLast_take (l : List Pl) (k : Nat) (h : k < l.length) (n : Int) : tabLast (l.take (k + 1)) n = if n = l[k].1 then l[k] else tabLast (l.take k) n := by
  rw [List.take_succ_eq_append_getElem h, tabLast_snoc]
  by_cases he : l[k].1 = n
  · rw [if_pos he, if_pos he.symm]
  · rw [if_neg he, if_neg (fun e => he e.symm)]
theorem tabLast_append (l m : List Pl) (n : Int) : tabLast (l ++ m) n = m.foldl (fun t p => if p.1 = n then p else t) (tabLast l n) := by
  unfold tabLast
  rw [List.foldl_append]
theorem foldl_at (m : List Pl) (n : Int) (hb : byNode m) (hz : ∀ p ∈ m, p.1 ≠ 0) : ∀ t, m.foldl (fun t p => if p.1 = n then p else t) t = if (find m n).1 = 0 then t else find m n := by
  induction m with
  | nil => intro t; simp [find_nil]
  | cons q m ih =>
    intro t
    replace hb := List.pairwise_cons.1 hb
    rw [List.foldl_cons, ih hb.2 (fun p hp => hz p (by simp [hp])), find_cons]
    by_cases hq : q.1 = n
    · rw [if_pos hq, if_pos hq]
      have hf : find m n = (0, 0, 0) := find_zero m n (fun p hp e => by have := hb.1 p hp; omega)
      rw [hf]
      have := hz q (by simp)
      simp [this]
    · rw [if_neg hq, if_neg hq]
theorem tabLast_eq (l : List Pl) (h : scan 0 l = 0) (n : Int) : tabLast l n = tabAt l n := by
  obtain ⟨h1, h2⟩ := (scan0_iff l).1 h
  unfold tabLast tabAt
  rw [foldl_at l n h2 (fun p hp => by have := (inRangeB_iff p).1 (h1 p hp); omega)]
end Orangery

/- Plain facts on records: checked, printed, read. -/
namespace Orangery
open Go.Lib (itoa)

/-- a record: kind, who, life, roots, operation -/
abbrev Rc := Int × Int × Int × List Int × Mv
def noRec : Rc := (0, 0, 0, [], noOp)

def checkRec (r : Rc) : Int :=
  if r.1 = 1 then (if r.2.1 ≠ 0 ∨ r.2.2.1 ≠ 0 ∨ r.2.2.2.1 ≠ [] then 4 else checkOp r.2.2.2.2)
  else if r.1 = 2 then (if r.2.2.2.2 ≠ noOp ∨ r.2.2.2.1 ≠ [] then 4 else if ¬ (0 ≤ r.2.1 ∧ r.2.1 ≤ 2) ∨ ¬ (1 ≤ r.2.2.1 ∧ r.2.2.1 ≤ 50) then 3 else 0)
  else if r.1 = 3 then (if r.2.2.2.2 ≠ noOp ∨ r.2.2.1 ≠ 0 then 4 else if ¬ (0 ≤ r.2.1 ∧ r.2.1 ≤ 2) then 3 else rootsOk r.2.2.2.1)
  else 4

def wOp : List UInt8 := [111, 112]
def wLife : List UInt8 := [108, 105, 102, 101]
def wRoots : List UInt8 := [114, 111, 111, 116, 115]
def recWord (r : Rc) : List UInt8 := if r.1 = 1 then wOp else if r.1 = 2 then wLife else wRoots
def opNums (o : Mv) : List Int := [o.1, o.2.1, o.2.2.1.1, o.2.2.1.2.1, o.2.2.1.2.2, o.2.2.2.1, o.2.2.2.2]
def recNums (r : Rc) : List Int := if r.1 = 1 then opNums r.2.2.2.2 else if r.1 = 2 then [r.2.1, r.2.2.1] else r.2.1 :: r.2.2.2.1
/-- the text of a right record -/
def recT (r : Rc) : List UInt8 := glue (recWord r :: (recNums r).map itoa)
def recText (r : Rc) : List UInt8 := if checkRec r ≠ 0 then [] else recT r

/-- what a word and numbers make -/
def recOf (w : List UInt8) (n : List Int) : Option Rc :=
  if w = wOp ∧ n.length = 7 then some (1, 0, 0, [], (n.getD 0 0, n.getD 1 0, (n.getD 2 0, n.getD 3 0, n.getD 4 0), n.getD 5 0, n.getD 6 0))
  else if w = wLife ∧ n.length = 2 then some (2, n.getD 0 0, n.getD 1 0, [], noOp)
  else if w = wRoots ∧ 1 ≤ n.length then some (3, n.getD 0 0, 0, n.tail, noOp)
  else none
def readO (s : List UInt8) : Option Rc := (numsOf (wordsB s).tail).bind (recOf ((wordsB s).headD []))
def readE (s : List UInt8) : Int := match readO s with
  | none => 1
  | some r => checkRec r
def readR (s : List UInt8) : Rc := if readE s ≠ 0 then noRec else (readO s).getD noRec
/-- chapter 6's Parse -/
def parseE (s : List UInt8) : Int := if 60000 < s.length then 2 else readE s
def parseR (s : List UInt8) : Rc := if 60000 < s.length then noRec else readR s

theorem checkRec_op {r : Rc} (h : checkRec r = 0) (h1 : r.1 = 1) : r = (1, 0, 0, [], r.2.2.2.2) ∧ checkOp r.2.2.2.2 = 0 := by
  obtain ⟨k, w, l, R, o⟩ := r
  unfold checkRec at h
  simp only at h h1 ⊢
  rw [if_pos h1] at h
  split at h
  · omega
  · rename_i h2
    simp only [not_or, Decidable.not_not, ne_eq] at h2
    obtain ⟨e1, e2, e3⟩ := h2
    subst e1 e2 e3 h1
    exact ⟨rfl, h⟩
theorem checkRec_life {r : Rc} (h : checkRec r = 0) (h1 : r.1 = 2) : r = (2, r.2.1, r.2.2.1, [], noOp) ∧ (0 ≤ r.2.1 ∧ r.2.1 ≤ 2) ∧ 1 ≤ r.2.2.1 ∧ r.2.2.1 ≤ 50 := by
  obtain ⟨k, w, l, R, o⟩ := r
  unfold checkRec at h
  simp only at h h1 ⊢
  rw [if_neg (by omega), if_pos h1] at h
  split at h
  · omega
  · rename_i h2
    simp only [not_or, Decidable.not_not, ne_eq] at h2
    obtain ⟨e1, e2⟩ := h2
    subst e1 e2 h1
    split at h
    · omega
    · rename_i h3
      exact ⟨rfl, by omega, by omega, by omega⟩
theorem checkRec_roots {r : Rc} (h : checkRec r = 0) (h1 : r.1 = 3) : r = (3, r.2.1, 0, r.2.2.2.1, noOp) ∧ (0 ≤ r.2.1 ∧ r.2.1 ≤ 2) ∧ rootsOk r.2.2.2.1 = 0 := by
  obtain ⟨k, w, l, R, o⟩ := r
  unfold checkRec at h
  simp only at h h1 ⊢
  rw [if_neg (by omega), if_neg (by omega), if_pos h1] at h
  split at h
  · omega
  · rename_i h2
    simp only [not_or, Decidable.not_not, ne_eq] at h2
    obtain ⟨e1, e2⟩ := h2
    subst e1 e2 h1
    split at h
    · omega
    · rename_i h3
      exact ⟨rfl, by omega, h⟩
theorem checkRec_kind {r : Rc} (h : checkRec r = 0) : r.1 = 1 ∨ r.1 = 2 ∨ r.1 = 3 := by
  unfold checkRec at h
  by_cases h1 : r.1 = 1
  · exact Or.inl h1
  · by_cases h2 : r.1 = 2
    · exact Or.inr (Or.inl h2)
    · by_cases h3 : r.1 = 3
      · exact Or.inr (Or.inr h3)
      · rw [if_neg h1, if_neg h2, if_neg h3] at h
        omega

theorem recNums_small {r : Rc} (h : checkRec r = 0) : (recNums r).length ≤ 7 ∧ ∀ n ∈ recNums r, 0 ≤ n ∧ n ≤ 10000 := by
  rcases checkRec_kind h with h1 | h1 | h1
  · obtain ⟨e, hc⟩ := checkRec_op h h1
    have ho := checkOp_zero hc
    simp only [opOkB, decide_eq_true_eq] at ho
    unfold recNums
    rw [if_pos h1]
    unfold opNums
    refine ⟨by simp, ?_⟩
    intro n hn
    simp only [List.mem_cons, List.not_mem_nil, or_false] at hn
    rcases hn with rfl | rfl | rfl | rfl | rfl | rfl | rfl <;> omega
  · obtain ⟨e, hw, hl⟩ := checkRec_life h h1
    unfold recNums
    rw [if_neg (by omega), if_pos h1]
    refine ⟨by simp, ?_⟩
    intro n hn
    simp only [List.mem_cons, List.not_mem_nil, or_false] at hn
    rcases hn with rfl | rfl <;> omega
  · obtain ⟨e, hw, hr⟩ := checkRec_roots h h1
    unfold recNums
    rw [if_neg (by omega), if_neg (by omega)]
    have hl := rootsOk_len hr
    refine ⟨by simp; omega, ?_⟩
    intro n hn
    rcases List.mem_cons.1 hn with rfl | hn
    · omega
    · have := (isNodeB_iff n).1 (rootsOk_node hr n hn)
      omega
theorem recWord_blank (r : Rc) : ∀ c ∈ recWord r, c ≠ 32 := by
  unfold recWord
  split
  · decide
  · split <;> decide
theorem recOf_nums {r : Rc} (h : checkRec r = 0) : recOf (recWord r) (recNums r) = some r := by
  rcases checkRec_kind h with h1 | h1 | h1
  · obtain ⟨e, _⟩ := checkRec_op h h1
    have e1 : recWord r = wOp := by unfold recWord; rw [if_pos h1]
    have e2 : recNums r = opNums r.2.2.2.2 := by unfold recNums; rw [if_pos h1]
    rw [e1, e2]
    unfold recOf
    rw [if_pos ⟨rfl, rfl⟩, e]
    rfl
  · obtain ⟨e, _⟩ := checkRec_life h h1
    have e1 : recWord r = wLife := by unfold recWord; rw [if_neg (by omega), if_pos h1]
    have e2 : recNums r = [r.2.1, r.2.2.1] := by unfold recNums; rw [if_neg (by omega), if_pos h1]
    rw [e1, e2]
    unfold recOf
    rw [if_neg (fun hh => absurd hh.1 (by decide)), if_pos ⟨rfl, rfl⟩, e]
    rfl
  · obtain ⟨e, _⟩ := checkRec_roots h h1
    have e1 : recWord r = wRoots := by unfold recWord; rw [if_neg (by omega), if_neg (by omega)]
    have e2 : recNums r = r.2.1 :: r.2.2.2.1 := by unfold recNums; rw [if_neg (by omega), if_neg (by omega)]
    rw [e1, e2]
    unfold recOf
    rw [if_neg (fun hh => absurd hh.1 (by decide)), if_neg (fun hh => absurd hh.1 (by decide)), if_pos ⟨rfl, by simp⟩, e]
    rfl

/-- what is printed is read -/
theorem read_text {r : Rc} (h : checkRec r = 0) : readO (recT r) = some r ∧ readE (recT r) = 0 ∧ readR (recT r) = r := by
  have hs := recNums_small h
  have hw : wordsB (recT r) = recWord r :: (recNums r).map itoa := by
    unfold recT
    refine words_glue _ (by simp) ?_
    intro x hx
    rcases List.mem_cons.1 hx with rfl | hx
    · exact recWord_blank r
    · obtain ⟨n, _, rfl⟩ := List.mem_map.1 hx
      exact itoa_blank n
  have h1 : readO (recT r) = some r := by
    unfold readO
    rw [hw]
    simp only [List.headD_cons, List.tail_cons]
    rw [numsOf_map _ (fun n hn => by have := hs.2 n hn; omega)]
    exact recOf_nums h
  have h2 : readE (recT r) = 0 := by unfold readE; rw [h1]; exact h
  refine ⟨h1, h2, ?_⟩
  unfold readR
  rw [if_neg (by simp [h2]), h1]
  rfl

theorem recOf_some {w : List UInt8} {n : List Int} {r : Rc} (h : recOf w n = some r) : recWord r = w ∧ recNums r = n := by
  unfold recOf at h
  split at h
  · rename_i h1
    simp at h
    subst h
    obtain ⟨e1, e2⟩ := h1
    refine ⟨by rw [e1]; rfl, ?_⟩
    match n, e2 with
    | [a, b, c, d, e, f, g], _ => rfl
  · split at h
    · rename_i h1
      simp at h
      subst h
      obtain ⟨e1, e2⟩ := h1
      refine ⟨by rw [e1]; rfl, ?_⟩
      match n, e2 with
      | [a, b], _ => rfl
    · split at h
      · rename_i h1
        simp at h
        subst h
        obtain ⟨e1, e2⟩ := h1
        refine ⟨by rw [e1]; rfl, ?_⟩
        match n, e2 with
        | a :: l, _ => rfl
      · simp at h

/-- what is read is printed as it was -/
theorem text_read {s : List UInt8} (h : readE s = 0) : checkRec (readR s) = 0 ∧ recT (readR s) = s := by
  have hR : readR s = (readO s).getD noRec := by unfold readR; rw [if_neg (by simp [h])]
  unfold readE at h
  cases hr : readO s with
  | none => rw [hr] at h; simp at h
  | some r =>
    rw [hr] at h hR
    simp only [Option.getD_some] at h hR
    rw [hR]
    refine ⟨h, ?_⟩
    unfold readO at hr
    rw [Option.bind_eq_some_iff] at hr
    obtain ⟨n, h1, h2⟩ := hr
    obtain ⟨e1, e2⟩ := recOf_some h2
    unfold recT
    rw [e1, e2, ← numsOf_some _ n h1, ← wordsB_split, glue_words]

/-- unlike records have unlike texts -/
theorem text_inj {r q : Rc} (hr : checkRec r = 0) (hq : checkRec q = 0) : recT r = recT q ↔ r = q := by
  constructor
  · intro e
    have h1 := (read_text hr).2.2
    have h2 := (read_text hq).2.2
    rw [e, h2] at h1
    exact h1.symm
  · rintro rfl; rfl

theorem glue_len (ws : List (List UInt8)) (h : ∀ x ∈ ws, x.length ≤ 21) : (glue ws).length ≤ 22 * ws.length := by
  induction ws with
  | nil => simp [glue, Go.Lib.join]
  | cons x l ih =>
    have hx := h x (by simp)
    cases l with
    | nil => rw [glue_one]; simp; omega
    | cons y l =>
      have := ih (fun z hz => h z (by simp [hz]))
      rw [glue_cons]
      simp at this ⊢
      omega
theorem recT_len {r : Rc} (h : checkRec r = 0) : (recT r).length ≤ 176 := by
  have hs := recNums_small h
  have := glue_len (recWord r :: (recNums r).map itoa) (by
    intro x hx
    rcases List.mem_cons.1 hx with rfl | hx
    · unfold recWord; split
      · decide
      · split <;> decide
    · obtain ⟨n, hn, rfl⟩ := List.mem_map.1 hx
      have := hs.2 n hn
      exact Go.Lib.itoa_length_le n (by omega) (by omega))
  unfold recT
  simp at this
  omega
/-- P6.3, with the bound on the length -/
theorem parse_text {r : Rc} (h : checkRec r = 0) : parseE (recT r) = 0 ∧ parseR (recT r) = r := by
  have hl := recT_len h
  unfold parseE parseR
  rw [if_neg (by omega), if_neg (by omega)]
  exact (read_text h).2
theorem text_parse {s : List UInt8} (h : parseE s = 0) : checkRec (parseR s) = 0 ∧ recT (parseR s) = s := by
  unfold parseE at h
  unfold parseR
  split at h
  · omega
  · rename_i h1
    rw [if_neg h1]
    exact text_read h
end Orangery

/- Plain facts on texts: strings.Split and strconv.Atoi in the words of PlainQ. -/
namespace Orangery
open Go.Lib (itoa index cut splitK split count splitB countB parseIntB atoiAll)

theorem words_step (s : List UInt8) : wordsB s = if index s [32] = -1 then [s] else s.take (index s [32]).toNat :: wordsB (s.drop ((index s [32]).toNat + 1)) := by
  have h := cut_blank s
  have hge := Go.Lib.index_ge s [32]
  rw [wordsB_split s, ← h.1, h.2]
  unfold cut
  by_cases h1 : index s [32] = -1
  · rw [h1]; rfl
  · rw [if_neg h1, if_pos (by omega)]
    rfl
theorem words_len (s : List UInt8) : (wordsB s).length = s.count 32 + 1 := by
  induction s with
  | nil => rfl
  | cons c r ih =>
    unfold wordsB
    have := wordsB_split r
    by_cases h : c = 32
    · subst h
      rw [if_pos rfl, List.count_cons_self, List.length_cons, ih]
    · rw [if_neg h, List.count_cons_of_ne (by simpa using h)]
      rw [this] at ih
      simp at ih ⊢
      exact ih
theorem words_small (s : List UInt8) : ∀ x ∈ wordsB s, x.length ≤ s.length := by
  induction s with
  | nil => simp [wordsB]
  | cons c r ih =>
    intro x hx
    unfold wordsB at hx
    split at hx
    · rcases List.mem_cons.1 hx with rfl | hx
      · simp
      · have := ih x hx
        simp; omega
    · rcases List.mem_cons.1 hx with rfl | hx
      · have := ih ((wordsB r).headD []) (by rw [wordsB_split r]; simp)
        simp at this ⊢; omega
      · have := ih x (List.mem_of_mem_tail hx)
        simp; omega
theorem words_count (s : List UInt8) : (wordsB s).length ≤ s.length + 1 := by
  rw [words_len]
  have := List.count_le_length (a := (32 : UInt8)) (l := s)
  omega
theorem splitK_words (k : Nat) : ∀ s : List UInt8, (wordsB s).length ≤ k + 1 → splitK [32] 0 k s = wordsB s := by
  induction k with
  | zero =>
    intro s h
    rw [words_step] at h ⊢
    split at h
    · rename_i h1; rw [if_pos h1]; rfl
    · rw [List.length_cons, words_len] at h; omega
  | succ k ih =>
    intro s h
    unfold splitK
    rw [words_step] at h ⊢
    by_cases h1 : index s [32] = -1
    · rw [if_pos h1, h1]; rfl
    · rw [if_neg h1] at h ⊢
      rw [if_neg (by simpa using h1)]
      rw [ih _ (by simp at h ⊢; omega)]
      rfl
/-- strings.Split at a blank, as the library's law says it -/
theorem splitB_words (s : ByteArray) : (splitB ⟨#[32]⟩ 0 (countB s ⟨#[32]⟩) s).map (·.data.toList) = wordsB s.data.toList := by
  rw [Go.Lib.splitB_data]
  refine splitK_words _ _ ?_
  have e : countB s ⟨#[32]⟩ = s.data.toList.count 32 := Go.Lib.count_one 32 _
  rw [e, words_len]
  exact Nat.le_refl _
theorem countB_words (s : ByteArray) : countB s ⟨#[32]⟩ + 1 = (wordsB s.data.toList).length := by
  have e : countB s ⟨#[32]⟩ = s.data.toList.count 32 := Go.Lib.count_one 32 _
  rw [e, words_len]
theorem splitB_strs (s : ByteArray) : splitB ⟨#[32]⟩ 0 (countB s ⟨#[32]⟩) s = (wordsB s.data.toList).map fun x => (⟨x.toArray⟩ : ByteArray) := by
  rw [← splitB_words s, List.map_map]
  have : ((fun x : List UInt8 => (⟨x.toArray⟩ : ByteArray)) ∘ fun x : ByteArray => x.data.toList) = id := by
    funext x; cases x; rfl
  rw [this, List.map_id]

/-- what Atoi makes of a word, and whether it is written so -/
theorem numOf_ok {t : List UInt8} {v : Int} (h : atoiAll t = .ok v) : numOf t = if itoa v = t then some v else none := by
  unfold numOf
  rw [Go.Lib.parseIntB_64, h]
theorem numOf_bad {t : List UInt8} (h : ∀ v, atoiAll t ≠ .ok v) : numOf t = none := by
  unfold numOf
  rw [Go.Lib.parseIntB_64]
  split
  · rename_i v hv; exact absurd hv (h v)
  · rfl
theorem numOf_bounds {t : List UInt8} {v : Int} (h : numOf t = some v) : -9223372036854775808 ≤ v ∧ v ≤ 9223372036854775807 := by
  unfold numOf at h
  split at h
  · rename_i u hu
    have := Go.Lib.parseIntB_bounds hu
    split at h
    · simp at h; subst h; simp at this; omega
    · simp at h
  · simp at h
theorem atoi_bounds {t : List UInt8} {v : Int} (h : atoiAll t = .ok v) : -9223372036854775808 ≤ v ∧ v ≤ 9223372036854775807 := by
  rw [← Go.Lib.parseIntB_64] at h
  have := Go.Lib.parseIntB_bounds h
  simp at this
  omega
theorem numsOf_len (ws : List (List UInt8)) : ∀ l, numsOf ws = some l → l.length = ws.length := by
  intro l h
  have := numsOf_some ws l h
  rw [this]; simp
theorem numsOf_take (ws : List (List UInt8)) (k : Nat) (hk : k < ws.length) (l : List Int) (h : numsOf (ws.take k) = some l) :
    numsOf (ws.take (k + 1)) = (numOf ws[k]).map fun v => l ++ [v] := by
  induction ws generalizing k l with
  | nil => simp at hk
  | cons t ws ih =>
    cases k with
    | zero =>
      simp [numsOf] at h
      subst h
      simp [numsOf]
      cases numOf t <;> rfl
    | succ k =>
      simp only [List.take_succ_cons, List.getElem_cons_succ] at h ⊢
      unfold numsOf at h ⊢
      cases hn : numOf t with
      | none => rw [hn] at h; simp at h
      | some u =>
        rw [hn] at h
        simp only at h ⊢
        rw [Option.map_eq_some_iff] at h
        obtain ⟨l', h1, rfl⟩ := h
        have hk' : k < ws.length := by simpa using hk
        rw [ih k hk' l' h1]
        cases numOf ws[k] <;> rfl
/-- a word that is no number: none of them is -/
theorem numsOf_stop (ws : List (List UInt8)) (k : Nat) (h : numsOf (ws.take k) = none) : numsOf ws = none := by
  induction ws generalizing k with
  | nil => simp [numsOf] at h
  | cons t ws ih =>
    cases k with
    | zero => simp [numsOf] at h
    | succ k =>
      simp only [List.take_succ_cons] at h
      unfold numsOf at h ⊢
      cases hn : numOf t with
      | none => rfl
      | some u =>
        rw [hn] at h
        simp only [Option.map_eq_none_iff] at h ⊢
        exact ih k h
theorem take_all {α : Type} (l : List α) (k : Nat) (h : k = l.length) : l.take k = l := by rw [h]; exact List.take_length

theorem glue_flat (x : List UInt8) (ws : List (List UInt8)) : glue (x :: ws) = x ++ ws.flatMap (fun t => 32 :: t) := by
  induction ws generalizing x with
  | nil => rw [glue_one]; simp
  | cons y l ih => rw [glue_cons, ih y]; simp
/-- a text behind its first k numbers -/
def partT (x : List UInt8) (l : List Int) (k : Nat) : List UInt8 := x ++ (l.take k).flatMap (fun n => 32 :: itoa n)
theorem partT_zero (x : List UInt8) (l : List Int) : partT x l 0 = x := by simp [partT]
theorem partT_next (x : List UInt8) (l : List Int) (k : Nat) (hk : k < l.length) : partT x l (k + 1) = partT x l k ++ 32 :: itoa l[k] := by
  unfold partT
  rw [List.take_succ_eq_append_getElem hk, List.flatMap_append, ← List.append_assoc]
  simp
theorem partT_all (x : List UInt8) (l : List Int) : partT x l l.length = glue (x :: l.map itoa) := by
  unfold partT
  rw [glue_flat, List.take_length, List.flatMap_map]
theorem partT_len (x : List UInt8) (l : List Int) (k : Nat) : (partT x l k).length ≤ (glue (x :: l.map itoa)).length := by
  rw [glue_flat, List.flatMap_map]
  unfold partT
  have e : l.flatMap (fun n => 32 :: itoa n) = (l.take k).flatMap (fun n => 32 :: itoa n) ++ (l.drop k).flatMap (fun n => 32 :: itoa n) := by
    rw [← List.flatMap_append, List.take_append_drop]
  have e2 : List.flatMap (fun a => (fun t => (32 : UInt8) :: t) (itoa a)) l = l.flatMap (fun n => 32 :: itoa n) := rfl
  rw [e2, e]
  simp
/-! strings as byte arrays -/
theorem bytes_eq (s : ByteArray) : (⟨s.data.toList.toArray⟩ : ByteArray) = s := by cases s; rfl
theorem bytes_app (a b : List UInt8) : (⟨a.toArray⟩ : ByteArray) ++ ⟨b.toArray⟩ = ⟨(a ++ b).toArray⟩ := by
  apply ByteArray.ext
  simp
theorem bytes_inj {a b : List UInt8} (h : (⟨a.toArray⟩ : ByteArray) = ⟨b.toArray⟩) : a = b := by
  have := congrArg (fun x : ByteArray => x.data.toList) h
  simpa using this
theorem bytes_size (a : List UInt8) : (⟨a.toArray⟩ : ByteArray).size = a.length := rfl
theorem bytes_list (a : List UInt8) : (⟨a.toArray⟩ : ByteArray).toList = a := Go.Lib.toList_data _
theorem bytes_ne {a b : List UInt8} (h : a ≠ b) : ((⟨a.toArray⟩ : ByteArray).toList == (⟨b.toArray⟩ : ByteArray).toList) = false := by
  rw [bytes_list, bytes_list]
  simpa using h
theorem bytes_same {a b : List UInt8} (h : a = b) : ((⟨a.toArray⟩ : ByteArray).toList == (⟨b.toArray⟩ : ByteArray).toList) = true := by
  subst h
  simp
end Orangery

/- How places lie in memory: the words that the contracts speak. -/
namespace Go.Proofs.YtmlodnamknielacDoor
open Go.ChangeShapes Go.WideShapes Go.ChangeAt Go.RowKit
open Orangery (Pl)

/-- the value of a place -/
abbrev plV (p : Pl) : Value := .agg #[.int .i64 p.1, .int .i64 p.2.1, .int .i64 p.2.2]

/-- the places from a cell on -/
def PlsAt (w : World) (b off : Nat) (l : List Pl) : Prop :=
  ∀ i, (h : i < l.length) → w.cell? ⟨b, off + i * 3, none⟩ = some (.int .i64 l[i].1) ∧ w.cell? ⟨b, off + i * 3 + 1, none⟩ = some (.int .i64 l[i].2.1) ∧ w.cell? ⟨b, off + i * 3 + 2, none⟩ = some (.int .i64 l[i].2.2)

/-- a slice's address holds these places -/
def SlP (w : World) (a : Option Addr) (l : List Pl) : Prop :=
  l = [] ∨ ∃ b off, a = some ⟨b, off, none⟩ ∧ b < w.heap.size ∧ PlsAt w b off l

theorem SlP.below {w w' : World} {a : Option Addr} {l : List Pl} (h : SlP w a l) (hb : Below w.heap.size w w') : SlP w' a l := by
  rcases h with h | ⟨b, off, ha, hlt, hp⟩
  · exact Or.inl h
  · refine Or.inr ⟨b, off, ha, Nat.lt_of_lt_of_le hlt hb.size, fun i hi => ?_⟩
    have := hp i hi
    rw [hb.cell hlt, hb.cell hlt, hb.cell hlt]
    exact this

theorem ret_bool {a b : Bool} (h : a = b) : Ending.returned (.bool a) = .returned (.bool b) := by rw [h]
theorem ret_int {k : IntKind} {a b : Int} (h : a = b) : Ending.returned (.int k a) = .returned (.int k b) := by rw [h]

/-- behind a call that leaves the old memory alone: the old cells, as rules -/
theorem bcell {B : Nat} {W w1 : World} (hb : Below B W w1) : ∀ b o, b < B → w1.cell? ⟨b, o, none⟩ = W.cell? ⟨b, o, none⟩ :=
  fun b o h => hb.cell (p := ⟨b, o, none⟩) h

/-- the ints from a cell on -/
def IntsAt (w : World) (b off : Nat) (l : List Int) : Prop :=
  ∀ i, (h : i < l.length) → w.cell? ⟨b, off + i, none⟩ = some (.int .i64 l[i])

def lenOf : Value → Nat
  | .slice _ n _ => n
  | _ => 0

/-- an own row of ints, as an address -/
theorem own_ints {w : World} {base n : Nat} {e : TypeId} {v : Value} {l : List Int} (h : w.ownsRow base e 1 v n (l.map (Value.int .i64))) :
    l.length = n ∧ ((v = .slice none 0 0 ∧ n = 0) ∨ ∃ g cap, v = .slice (some ⟨g, 0, none⟩) n cap ∧ base ≤ g ∧ g < w.heap.size ∧ IntsAt w g 0 l) := by
  obtain ⟨h1, h2⟩ := h
  simp at h1
  refine ⟨h1, ?_⟩
  rcases h2 with h2 | ⟨g, cap, cur, hv, hb, hh, hn, hm, hs, ht⟩
  · exact Or.inl h2
  · refine Or.inr ⟨g, cap, hv, hb, ?_, ?_⟩
    · by_cases hg : g < w.heap.size
      · exact hg
      · rw [Array.getElem?_eq_none (by omega)] at hh; exact absurd hh (by simp)
    · intro i hi
      rw [Go.Joins.cell_of_block hh, Nat.zero_add]
      have e1 : (cur.toList.take (n * 1))[i]? = some (.int .i64 l[i]) := by rw [ht]; simp [hi]
      rw [List.getElem?_take] at e1
      split at e1
      · simpa using e1
      · exact absurd e1 (by simp)

theorem own_ints_pos {w : World} {base n : Nat} {e : TypeId} {v : Value} {l : List Int} (h : w.ownsRow base e 1 v n (l.map (Value.int .i64))) (hp : 1 ≤ l.length) :
    ∃ g cap, v = .slice (some ⟨g, 0, none⟩) n cap ∧ g < w.heap.size ∧ IntsAt w g 0 l := by
  obtain ⟨h1, h2⟩ := own_ints h
  rcases h2 with ⟨_, h2⟩ | ⟨g, cap, h3, _, h4, h5⟩
  · omega
  · exact ⟨g, cap, h3, h4, h5⟩

theorem blk_lt {w : World} {g : Nat} {o : Obj} (h : w.heap[g]? = some o) : g < w.heap.size := by
  by_cases hg : g < w.heap.size
  · exact hg
  · rw [Array.getElem?_eq_none (by omega)] at h; exact absurd h (by simp)

/-- an own row stays behind a call that leaves the old memory alone -/
theorem own_below {w w' : World} {base size n : Nat} {e : TypeId} {v : Value} {xs : List Value} (h : w.ownsRow base e size v n xs) (hb : Below w.heap.size w w') : w'.ownsRow base e size v n xs := by
  obtain ⟨h1, h2⟩ := h
  refine ⟨h1, ?_⟩
  rcases h2 with h2 | ⟨g, cap, cur, hv, hbs, hh, hn, hm, hs, ht⟩
  · exact Or.inl h2
  · exact Or.inr ⟨g, cap, cur, hv, hbs, by rw [hb.block g (blk_lt hh)]; exact hh, hn, hm, hs, ht⟩

/-- what an append leaves, below the base of its row -/
theorem below_grown {w w' : World} {base size n : Nat} {e : TypeId} {v : Value} {xs : List Value} (h : w.ownsRow base e size v n xs) (hB : base ≤ w.heap.size) (hg : w.grownBy w' v.ownBlock) : Below base w w' :=
  (Below.refl base w).grown hg hB (fun k hk => (h.lt k hk).1)

/-- three cells stored one behind the other, read again -/
theorem cells3 {w : World} {b : Nat} {u0 u1 u2 : Value} (v0 v1 v2 : Value) (c0 : w.cell? ⟨b, 0, none⟩ = some u0) (c1 : w.cell? ⟨b, 1, none⟩ = some u1) (c2 : w.cell? ⟨b, 2, none⟩ = some u2) :
    (w.setCell ⟨b, 0, none⟩ v0).cell? ⟨b, 0, none⟩ = some v0 ∧ ((w.setCell ⟨b, 0, none⟩ v0).setCell ⟨b, 1, none⟩ v1).cell? ⟨b, 1, none⟩ = some v1 ∧ (((w.setCell ⟨b, 0, none⟩ v0).setCell ⟨b, 1, none⟩ v1).setCell ⟨b, 2, none⟩ v2).cell? ⟨b, 2, none⟩ = some v2 := by
  refine ⟨World.cell?_setCell_same _ _ _ c0, World.cell?_setCell_same _ _ _ (u := u1) ?_, World.cell?_setCell_same _ _ _ (u := u2) ?_⟩
  · rw [World.cell?_setCell_other _ _ _ _ (by simp), c1]
  · rw [World.cell?_setCell_other _ _ _ _ (by simp), World.cell?_setCell_other _ _ _ _ (by simp), c2]

end Go.Proofs.YtmlodnamknielacDoor

/- slices.Equal and slices.Contains at ints. -/
namespace Go.Proofs.YtmlodnamknielacDoor
open Go.ChangeShapes Go.WideShapes Go.ChangeAt Go.RowKit
open Orangery (hasB)

set_option maxHeartbeats 400000 in
theorem equal_ints (w : World) (b off c b' off' c' n : Nat) (l : List Int) (hn : l.length = n) (hl : n ≤ 1000)
    (h1 : IntsAt w b off l) (h2 : IntsAt w b' off' l) :
    Calls Tryd.prog 37 #[.slice (some ⟨b, off, none⟩) n c, .slice (some ⟨b', off', none⟩) n c'] w
      fun e w' => e = .returned (.bool true) ∧ ∃ n, w' = w.drewN n := by
  subst hn
  go_enter Tryd.func37, Tryd.ntmps37
  go_wp2
  go_loopw [13] (fun i w' => ∃ k n : Nat, k ≤ l.length ∧ i = .int .i64 k ∧ w' = w.drewN n) (fun i _ => l.length - (intOf i).toNat)
  case atStart => exact ⟨0, 0, Nat.zero_le _, rfl, rfl⟩
  case round =>
    obtain ⟨k, n, hk, rfl, rfl⟩ := hrel
    by_cases hlt : k < l.length
    · have g1 := h1 k hlt
      have g2 := h2 k hlt
      go_wp2
      go_quiet (fail)
      go_wp2
      go_roundw
      case rel => exact ⟨k + 1, _, by omega, by go_num, rfl⟩
      case measure => simp [intOf]; omega
    · go_wp2
      go_ret
      exact ⟨rfl, n, rfl⟩

theorem blk_new {w : World} {o : Obj} {b : Nat} (h : b = w.heap.size) : (w.alloc o).heap[b]? = some o := by
  subst h
  show (w.heap.push o)[_]? = _
  simp

theorem blk_old {w : World} {o : Obj} {b : Nat} (h : b < w.heap.size) : (w.alloc o).heap[b]? = w.heap[b]? := by
  show (w.heap.push o)[_]? = _
  simp [Array.getElem?_push]
  omega

theorem intsAt_block {w : World} {b : Nat} {t : TypeId} {fr : Nat × Nat} (l : List Int)
    (h : w.heap[b]? = some (.cells (l.map (Value.int .i64)).toArray t fr)) : IntsAt w b 0 l := by
  intro i hi
  rw [Go.Joins.cell_of_block h, Nat.zero_add]
  simp [hi]

end Go.Proofs.YtmlodnamknielacDoor

/- Slices of places in memory of the call's own. -/
namespace Go.Proofs.YtmlodnamknielacDoor
open Go.ChangeShapes Go.WideShapes Go.ChangeAt Go.RowKit
open Orangery (Pl)

def encPl (p : Pl) : List Value := [.int .i64 p.1, .int .i64 p.2.1, .int .i64 p.2.2]

/-- places from a block's head on, that may be written -/
def HoldsP (w : World) (g : Nat) (m : List Pl) : Prop :=
  PlsAt w g 0 m ∧ ∀ i, i < m.length * 3 → w.frozen? ⟨g, i, none⟩ = false

/-- a block is a row of places with so much room -/
def RowAt (w : World) (g cap : Nat) : Prop := ∃ cur, w.heap[g]? = some (.cells cur 106 (0, 0)) ∧ cur.size = cap * 3

theorem RowAt.below {w w' : World} {g cap B : Nat} (h : RowAt w g cap) (hb : Below B w w') (hg : g < B) : RowAt w' g cap := by
  obtain ⟨cur, h1, h2⟩ := h
  exact ⟨cur, by rw [hb.block g hg]; exact h1, h2⟩

theorem RowAt.set {w : World} {g cap : Nat} (h : RowAt w g cap) (b j : Nat) (v : Value) : RowAt (w.setCell ⟨b, j, none⟩ v) g cap := by
  obtain ⟨cur, h1, h2⟩ := h
  by_cases hb : g = b
  · subst hb
    exact ⟨_, heap_setCell_same w g j cur _ v h1, by simpa using h2⟩
  · exact ⟨cur, by rw [heap_setCell_other w ⟨b, j, none⟩ g v hb]; exact h1, h2⟩

theorem RowAt.sets {g cap : Nat} (b : Nat) : ∀ (vs : List Value) (o : Nat) (w : World), RowAt w g cap → RowAt (w.setCells b o vs) g cap
  | [], _, _, h => h
  | v :: r, o, _, h => RowAt.sets b r (o + 1) _ (h.set b o v)

/-- a slice of the call's own -/
def OwnS (w : World) (base : Nat) (v : Value) (l : List Pl) : Prop :=
  (v = .slice none 0 0 ∧ l = []) ∨ ∃ g cap, v = .slice (some ⟨g, 0, none⟩) l.length cap ∧ base ≤ g ∧ g < w.heap.size ∧ l.length ≤ cap ∧ cap ≤ maxLen ∧ HoldsP w g l ∧ RowAt w g cap

theorem flat_len (l : List Pl) : (l.flatMap encPl).length = l.length * 3 := by
  induction l with
  | nil => rfl
  | cons p l ih => simp [List.flatMap_cons, ih, encPl]; omega

theorem flat_get (l : List Pl) : ∀ i, (h : i < l.length) → (l.flatMap encPl)[i * 3]? = some (.int .i64 l[i].1) ∧ (l.flatMap encPl)[i * 3 + 1]? = some (.int .i64 l[i].2.1) ∧ (l.flatMap encPl)[i * 3 + 2]? = some (.int .i64 l[i].2.2) := by
  induction l with
  | nil => intro i h; simp at h
  | cons p l ih =>
    intro i h
    cases i with
    | zero => simp [List.flatMap_cons, encPl]
    | succ i =>
      have := ih i (by simpa using h)
      rw [List.flatMap_cons]
      have e : ∀ j, (encPl p ++ l.flatMap encPl)[(i + 1) * 3 + j]? = (l.flatMap encPl)[i * 3 + j]? := by
        intro j
        rw [List.getElem?_append_right (by simp [encPl]; omega)]
        congr 1
        simp [encPl]
        omega
      have e0 := e 0
      simp only [Nat.add_zero] at e0
      rw [e0, e 1, e 2]
      simpa using this

theorem flat_one (l : List Pl) : ∀ v ∈ l.flatMap encPl, v.oneCell' = true := by
  intro v hv
  simp [encPl] at hv
  obtain ⟨_, _, _, _, rfl | rfl | rfl⟩ := hv <;> rfl

theorem pls_flat {w : World} {b off : Nat} {l : List Pl} (h : PlsAt w b off l) : ∀ j u, (l.flatMap encPl)[j]? = some u → w.cell? ((⟨b, off, none⟩ : Addr).add j) = some u := by
  intro j u hj
  have hlt : j < l.length * 3 := by
    rw [← flat_len]
    rcases Nat.lt_or_ge j (l.flatMap encPl).length with h' | h'
    · exact h'
    · rw [List.getElem?_eq_none h'] at hj; simp at hj
  have hi : j / 3 < l.length := by omega
  have hc := h (j / 3) hi
  have hg := flat_get l (j / 3) hi
  have ha : (⟨b, off, none⟩ : Addr).add j = ⟨b, off + j, none⟩ := by unfold Addr.add; by_cases hz : j = 0 <;> simp [hz]
  rw [ha]
  have hm : j % 3 = 0 ∨ j % 3 = 1 ∨ j % 3 = 2 := by omega
  rcases hm with hm | hm | hm
  · have e : j = j / 3 * 3 := by omega
    have e2 : off + j = off + j / 3 * 3 := by omega
    rw [e2, hc.1]
    rw [e, hg.1] at hj
    exact hj
  · have e : j = j / 3 * 3 + 1 := by omega
    have e2 : off + j = off + j / 3 * 3 + 1 := by omega
    rw [e2, hc.2.1]
    rw [e, hg.2.1] at hj
    exact hj
  · have e : j = j / 3 * 3 + 2 := by omega
    have e2 : off + j = off + j / 3 * 3 + 2 := by omega
    rw [e2, hc.2.2]
    rw [e, hg.2.2] at hj
    exact hj

theorem own_pls {w : World} {base : Nat} {v : Value} {l : List Pl} (h : w.ownsRow base 106 3 v l.length (l.flatMap encPl)) : OwnS w base v l := by
  obtain ⟨h1, h2⟩ := h
  rcases h2 with ⟨hv, hn⟩ | ⟨g, cap, cur, hv, hb, hh, hn, hm, hs, ht⟩
  · exact Or.inl ⟨hv, List.length_eq_zero_iff.1 hn⟩
  · refine Or.inr ⟨g, cap, hv, hb, blk_lt hh, hn, hm, ⟨?_, ?_⟩, cur, hh, hs⟩
    · intro i hi
      have hg := flat_get l i hi
      rw [← ht] at hg
      have key : ∀ j u, (cur.toList.take (l.length * 3))[j]? = some u → w.cell? ⟨g, 0 + j, none⟩ = some u := by
        intro j u hj
        rw [Go.Joins.cell_of_block hh, Nat.zero_add]
        rw [List.getElem?_take] at hj
        split at hj
        · simpa using hj
        · simp at hj
      have k0 := key _ _ hg.1
      have k1 := key _ _ hg.2.1
      have k2 := key _ _ hg.2.2
      rw [← Nat.add_assoc] at k1 k2
      exact ⟨k0, k1, k2⟩
    · intro i _
      exact Go.Joins.unfrozen_of_block hh i

theorem OwnS.slp {w : World} {base : Nat} {v : Value} {l : List Pl} (h : OwnS w base v l) : ∃ a cap, v = .slice a l.length cap ∧ SlP w a l := by
  rcases h with ⟨rfl, rfl⟩ | ⟨g, cap, rfl, _, hg, _, _, hp, _⟩
  · exact ⟨none, 0, rfl, Or.inl rfl⟩
  · exact ⟨_, cap, rfl, Or.inr ⟨g, 0, rfl, hg, hp.1⟩⟩

theorem OwnS.read {w : World} {base : Nat} {a : Option Addr} {n c : Nat} {l : List Pl} (h : OwnS w base (.slice a n c) l) : SlP w a l := by
  obtain ⟨a', c', e, h'⟩ := h.slp
  obtain ⟨rfl, _⟩ : a = a' ∧ _ := by simpa using e
  exact h'
theorem OwnS.below {w w' : World} {base : Nat} {v : Value} {l : List Pl} (h : OwnS w base v l) (hb : Below w.heap.size w w') : OwnS w' base v l := by
  rcases h with h | ⟨g, cap, rfl, h1, hg, h2, h3, ⟨hp, hf⟩, hr⟩
  · exact Or.inl h
  · refine Or.inr ⟨g, cap, rfl, h1, Nat.lt_of_lt_of_le hg hb.size, h2, h3, ⟨fun i hi => ?_, fun i hi => ?_⟩, hr.below hb hg⟩
    · rw [hb.cell hg, hb.cell hg, hb.cell hg]; exact hp i hi
    · rw [hb.frozen hg]; exact hf i hi

/-- an own slice, for an append -/
theorem OwnS.row {w : World} {base : Nat} {v : Value} {l : List Pl} (h : OwnS w base v l) : w.ownsRow base 106 3 v l.length (l.flatMap encPl) := by
  refine ⟨flat_len l, ?_⟩
  rcases h with ⟨rfl, rfl⟩ | ⟨g, cap, rfl, h1, hg, h2, h3, hp, cur, hc, hs⟩
  · exact Or.inl ⟨rfl, rfl⟩
  · refine Or.inr ⟨g, cap, cur, rfl, h1, hc, h2, h3, hs, ?_⟩
    have h4 := pls_flat hp.1
    apply List.ext_getElem?
    intro j
    by_cases hj : j < l.length * 3
    · obtain ⟨u, hu⟩ : ∃ u, (l.flatMap encPl)[j]? = some u := ⟨_, List.getElem?_eq_getElem (by rw [flat_len]; exact hj)⟩
      have h5 := h4 j u hu
      have ha : (⟨g, 0, none⟩ : Addr).add j = ⟨g, j, none⟩ := by unfold Addr.add; by_cases hz : j = 0 <;> simp [hz]
      rw [ha, Go.Joins.cell_of_block hc] at h5
      rw [List.getElem?_take_of_lt hj, hu]
      simpa using h5
    · rw [List.getElem?_eq_none (by simp; omega), List.getElem?_eq_none (by rw [flat_len]; omega)]

theorem infoPlace : (Tryd.prog.info? 106).map (fun i => (i.zero, i.size, i.bytes)) = some (some (.agg #[.int .i64 0, .int .i64 0, .int .i64 0]), 3, 24) := by kernel_rfl

end Go.Proofs.YtmlodnamknielacDoor

/- Slices of elements of several cells, whatever they are: how they lie, are owned, sorted, come in. -/
namespace Go.Proofs.YtmlodnamknielacDoor
open Go.ChangeShapes Go.WideShapes Go.ChangeAt Go.RowKit

/-- a slice's address holds these elements -/
def SlE {α : Type} (enc : α → List Value) (w : World) (a : Option Addr) (l : List α) : Prop :=
  l = [] ∨ ∃ b off, a = some ⟨b, off, none⟩ ∧ b < w.heap.size ∧ w.rangeAt b off (l.flatMap enc)

theorem SlE.below {α : Type} {enc : α → List Value} {w w' : World} {a : Option Addr} {l : List α} (h : SlE enc w a l) (hb : Below w.heap.size w w') : SlE enc w' a l := by
  rcases h with h | ⟨b, off, ha, hlt, hp⟩
  · exact Or.inl h
  · exact Or.inr ⟨b, off, ha, Nat.lt_of_lt_of_le hlt hb.size, fun j v hv => by rw [hb.cell (by exact hlt)]; exact hp j v hv⟩

theorem flatE_len {α : Type} {enc : α → List Value} {k : Nat} (hk : ∀ x, (enc x).length = k) (l : List α) : (l.flatMap enc).length = l.length * k := by
  induction l with
  | nil => simp
  | cons p l ih => rw [List.flatMap_cons, List.length_append, ih, hk, List.length_cons, Nat.succ_mul]; omega

theorem flatE_get {α : Type} {enc : α → List Value} {k : Nat} (hk : ∀ x, (enc x).length = k) (l : List α) : ∀ i, (hi : i < l.length) → ∀ c, c < k → (l.flatMap enc)[i * k + c]? = (enc l[i])[c]? := by
  induction l with
  | nil => intro i hi; simp at hi
  | cons p l ih =>
    intro i hi c hc
    rw [List.flatMap_cons]
    cases i with
    | zero => rw [Nat.zero_mul, Nat.zero_add, List.getElem?_append_left (by rw [hk]; exact hc)]; rfl
    | succ i =>
      have e : (i + 1) * k + c = (enc p).length + (i * k + c) := by rw [hk, Nat.succ_mul]; omega
      rw [e, List.getElem?_append_right (by omega), Nat.add_sub_cancel_left, ih i (by simpa using hi) c hc]
      rfl

/-- one element of them -/
theorem elemE {α : Type} {enc : α → List Value} {k : Nat} (hk : ∀ x, (enc x).length = k) {w : World} {b off : Nat} {l : List α} (h : w.rangeAt b off (l.flatMap enc)) (i : Nat) (hi : i < l.length) : w.rangeAt b (off + i * k) (enc l[i]) := by
  intro c v hv
  have hc : c < k := by rw [← hk l[i]]; exact (List.getElem?_eq_some_iff.1 hv).1
  have := h (i * k + c) v (by rw [flatE_get hk l i hi c hc]; exact hv)
  rw [Nat.add_assoc]
  exact this

/-- an own row, as an address -/
theorem own_slE {α : Type} {enc : α → List Value} {k : Nat} {w : World} {base : Nat} {e : TypeId} {v : Value} {l : List α} (h : w.ownsRow base e k v l.length (l.flatMap enc)) :
    ∃ a cap, v = .slice a l.length cap ∧ SlE enc w a l ∧ (a = none ∨ ∃ g, a = some ⟨g, 0, none⟩ ∧ base ≤ g ∧ g < w.heap.size) := by
  obtain ⟨h1, h2⟩ := h
  rcases h2 with ⟨rfl, hn⟩ | ⟨g, cap, cur, rfl, hb, hh, hn, hm, hs, ht⟩
  · have : l = [] := List.length_eq_zero_iff.1 hn
    subst this
    exact ⟨none, 0, rfl, Or.inl rfl, Or.inl rfl⟩
  · refine ⟨_, cap, rfl, Or.inr ⟨g, 0, rfl, blk_lt hh, fun j v hv => ?_⟩, Or.inr ⟨g, rfl, hb, blk_lt hh⟩⟩
    rw [← ht] at hv
    rw [Go.Joins.cell_of_block hh, Nat.zero_add]
    rw [List.getElem?_take] at hv
    split at hv
    · simpa using hv
    · simp at hv

theorem own_readE {α : Type} {enc : α → List Value} {k : Nat} {w : World} {base n c : Nat} {e : TypeId} {a : Option Addr} {l : List α} (h : w.ownsRow base e k (.slice a n c) l.length (l.flatMap enc)) : SlE enc w a l := by
  obtain ⟨a', c', e', h', _⟩ := own_slE h
  obtain ⟨rfl, _⟩ : a = a' ∧ _ := by simpa using e'
  exact h'

/-- a row of cells that was read -/
theorem cells_range {w : World} {base n : Nat} {a : Addr} {cs : List Value} (h : w.cells? base a n = some cs) : cs.length = n ∧ ∀ (j : Nat) (v : Value), cs[j]? = some v → w.cell? (a.add j) = some v := by
  unfold World.cells? at h
  split at h
  · have key : ∀ (f : Nat → Option Value) (r : List Nat) (cs : List Value), r.mapM f = some cs → cs.length = r.length ∧ ∀ (j : Nat) (v : Value), cs[j]? = some v → ∃ i : Nat, r[j]? = some i ∧ f i = some v := by
      intro f r
      induction r with
      | nil => intro cs h; simp at h; subst h; exact ⟨rfl, by intro j v hv; simp at hv⟩
      | cons i r ih =>
        intro cs h
        rw [List.mapM_cons] at h
        cases h0 : f i with
        | none => simp [h0] at h
        | some x =>
          cases h1 : r.mapM f with
          | none => simp [h0, h1] at h
          | some t =>
            simp [h0, h1] at h
            subst h
            obtain ⟨hl, hg⟩ := ih t h1
            refine ⟨by simp [hl], ?_⟩
            intro j v hv
            cases j with
            | zero => simp at hv; subst hv; exact ⟨i, rfl, h0⟩
            | succ j => exact hg j v (by simpa using hv)
    obtain ⟨hl, hg⟩ := key _ _ _ h
    refine ⟨by simpa using hl, fun j v hv => ?_⟩
    obtain ⟨i, hi, hf⟩ := hg j v hv
    have : i = j := by
      rw [List.getElem?_eq_some_iff] at hi
      obtain ⟨h1, h2⟩ := hi
      simp at h2
      exact h2.symm
    subst this
    exact hf
  · simp at h

/-- a slice of such elements that came in -/
theorem open_slE {α : Type} [Inhabited α] {enc : α → List Value} {k : Nat} {H : Type} {en : TypeId × Value → H} {w : World} {base fuel : Nat} {spare : Nat → Bool} {held : Bool} {v : Value} {x : DataW H × List MemPlace} {t e : TypeId}
    (hk : ∀ x, (enc x).length = k) (hpos : 0 < k) (ht : Tryd.prog.underlying t = some (.slice e)) (hC : Tryd.prog.cellsOf e = k)
    (hel : ∀ (n : Nat) (cs : List Value) (y : DataW H × List MemPlace), DataW.trod en Tryd.prog w base spare held n e cs = some y → ∃ z : α, cs = enc z)
    (h : DataW.trod en Tryd.prog w base spare held fuel t [v] = some x) : ∃ a c, ∃ l : List α, v = .slice a l.length c ∧ l.length ≤ maxLen ∧ SlE enc w a l := by
  rcases Go.Deep.open_slice ht h with ⟨hcs, _⟩ | ⟨a, len, cap, m, n, D, Pq, hcs, _, hle, hm, hmm, _, hx⟩
  · simp at hcs
    subst hcs
    exact ⟨none, 0, [], rfl, by simp, Or.inl rfl⟩
  · simp at hcs
    subst hcs
    have hlm : len ≤ m := by rw [hmm]; split <;> omega
    have key : ∀ i, i < len → ∃ z : α, ∀ (j : Nat) (v : Value), (enc z)[j]? = some v → w.cell? ((a.add (i * k)).add j) = some v := by
      intro i hi
      obtain ⟨cs', h1, h2⟩ := hx i (by omega)
      rw [hC] at h1
      obtain ⟨z, rfl⟩ := hel _ _ _ h2
      exact ⟨z, (cells_range h1).2⟩
    obtain ⟨f, hf⟩ := Go.Deep.choose_lt key
    refine ⟨some a, cap, (List.range len).map f, by simp, by simp; omega, ?_⟩
    by_cases hz : len = 0
    · exact Or.inl (by simp [hz])
    · right
      obtain ⟨u, hu⟩ : ∃ u, (enc (f 0))[0]? = some u := ⟨_, List.getElem?_eq_getElem (by rw [hk]; exact hpos)⟩
      have h0 := hf 0 (by omega) 0 u hu
      obtain ⟨b, off, spot⟩ := a
      have hspot : spot = none := by simpa [Addr.add] using World.cell?_spot h0
      subst hspot
      have hb : b < w.heap.size := by
        have := World.block_lt_of_cell? w _ h0
        rw [Addr.add_mid, Addr.add_mid] at this
        exact this
      refine ⟨b, off, rfl, hb, fun j v hv => ?_⟩
      have hj : j < len * k := by
        have := (List.getElem?_eq_some_iff.1 hv).1
        rw [flatE_len hk] at this
        simpa using this
      have hi : j / k < len := (Nat.div_lt_iff_lt_mul hpos).2 hj
      have hc : j % k < k := Nat.mod_lt _ hpos
      have e1 : j / k * k + j % k = j := by rw [Nat.mul_comm]; exact Nat.div_add_mod j k
      have e2 := flatE_get hk ((List.range len).map f) (j / k) (by simpa using hi) (j % k) hc
      rw [e1, hv] at e2
      have e3 := hf (j / k) hi (j % k) v (by simpa using e2.symm)
      rw [Addr.add_mid, Addr.add_mid] at e3
      rw [show off + j = off + j / k * k + j % k by omega]
      exact e3

/-- an own row, for the library's sort -/
theorem own_holdsK {α : Type} [Inhabited α] {enc : α → List Value} {k : Nat} (hk : ∀ x, (enc x).length = k) (hpos : 0 < k) {w : World} {base g cap : Nat} {e : TypeId} {l : List α} (h : w.ownsRow base e k (.slice (some ⟨g, 0, none⟩) l.length cap) l.length (l.flatMap enc)) :
    Go.Sort.HoldsK enc k w g 0 l.toArray := by
  intro j hj
  rw [Go.Sort.size_flatK] at hj
  have hj' : j < l.length * k := by simpa using hj
  have hi : j / k < l.length := (Nat.div_lt_iff_lt_mul hpos).2 hj'
  have hc : j % k < k := Nat.mod_lt _ hpos
  have e1 : j / k * k + j % k = j := by rw [Nat.mul_comm]; exact Nat.div_add_mod j k
  rw [Go.Sort.get_flatK _ _ _ _ (by simpa using hj')]
  have e : l.toArray[j / k]! = l[j / k] := by simp [hi]
  rw [e]
  have h1 := h.cellAt j hj'
  have h2 := h.frozenAt j
  have e2 := flatE_get hk l (j / k) hi (j % k) hc
  rw [e1] at e2
  rw [e2] at h1
  refine ⟨?_, by rw [Nat.zero_add]; exact h2⟩
  rw [Nat.zero_add, h1, List.getElem?_eq_getElem (by rw [hk]; exact hc)]
  simp [hk, hc]
end Go.Proofs.YtmlodnamknielacDoor

