/- 7 texts of the proof: orangeryref.CheckRoots. Plain facts on texts: words with blanks between them, decimal numbers written and read. Plain facts on records: checked, printed, read. note.Check, orangeryref.CheckRec. note.Same, orangeryref.SameRec. Plain facts on hubs: checked, told the next record, replayed. Hubs in memory: peers, each with its roots; rows of them; a hub's value. -/
import Derived.Lib.ItoaNum
import Derived.Lib.ParseIntB
import Derived.Lib.Join
import Derived.Lib.IndexMore
import Derived.Lib.ItoaLen
import Derived.Test.YthlhnokgcnieeadGreatP05
import Derived.Test.YthlhnokgcnieeadGreatP03
import Derived.Test.YthlhnokgcnieeadGreatP04
/- orangeryref.CheckRoots. -/
namespace Go.Proofs.YthlhnokgcnieeadGreat
open Go.ChangeShapes Go.WideShapes Go.ChangeAt Go.RowKit
open Orangery (isNodeB rootsE rootsOk)

set_option maxHeartbeats 1000000 in
theorem rroots_any (w : World) (a : Option Addr) (c : Nat) (l : List Int) (hl : l.length ≤ maxLen) (h : SlI w a l) :
    Calls Tryz.prog 37 #[.slice a l.length c] w fun e w' => e = .returned (.int .i64 (rootsOk l)) ∧ w' = w := by
  have hl' : l.length ≤ 9223372036854775807 := hl
  by_cases h4 : 4 < l.length
  · have d4 : decide ((l.length : Int) > 4) = true := by simp; omega
    have HE : Hid (rootsOk l = 2) := by show _ = _; unfold rootsOk; rw [if_pos h4]
    clear h4
    go_enter Tryz.func37, Tryz.ntmps37
    go_wp2
    go_ret
    exact ⟨ret_int HE.out.symm, rfl⟩
  · have d4 : decide ((l.length : Int) > 4) = false := by simp; omega
    have HE : Hid (rootsOk l = rootsE (-1) l) := by show _ = _; unfold rootsOk; rw [if_neg h4]
    go_enter Tryz.func37, Tryz.ntmps37
    go_wp2
    go_loop [3, 11] (fun x i => ∃ (k : Nat) (m : Int), k ≤ l.length ∧ x = .int .i64 m ∧ i = .int .i64 k ∧ rootsE m (l.drop k) = rootsE (-1) l) (fun _ i => l.length - (intOf i).toNat)
    case atStart => exact ⟨0, -1, Nat.zero_le _, rfl, rfl, rfl⟩
    case round =>
      obtain ⟨k, m, hk, rfl, rfl, hf⟩ := hrel
      by_cases hlt : k < l.length
      · obtain ⟨s1, s2, s3⟩ := Orangery.rootsE_step l k _ hlt hf
        have H1 : Hid (isNodeB l[k] = false → rootsE (-1) l = 5) := s1
        have H2 : Hid (isNodeB l[k] = true → l[k] ≤ m → rootsE (-1) l = 6) := s2
        have H3 : Hid (isNodeB l[k] = true → ¬ l[k] ≤ m → rootsE l[k] (l.drop (k + 1)) = rootsE (-1) l) := s3
        clear s1 s2 s3 hf
        obtain ⟨b, off, rfl, hbl, g0⟩ := h.at k hlt
        generalize l[k] = x at *
        by_cases hn : isNodeB x = true
        · have hn' := (Orangery.isNodeB_iff _).1 hn
          obtain ⟨n1, n2⟩ := hn'
          by_cases hq : x ≤ m
          · have HF : Hid (rootsE (-1) l = 6) := H2.out hn hq
            clear H1 H2 H3 hn
            go_wp2
            go_ret
            exact ⟨ret_int (by rw [HE.out, HF.out]), rfl⟩
          · have HF : Hid (rootsE x (l.drop (k + 1)) = rootsE (-1) l) := H3.out hn hq
            clear H1 H2 H3 hn
            go_wp2
            go_round
            case rel => exact ⟨k + 1, x, hlt, rfl, by go_num, HF.out⟩
            case measure => simp [intOf]; omega
        · have hn' : isNodeB x = false := by simpa using hn
          have HF : Hid (rootsE (-1) l = 5) := H1.out hn'
          have hx : ¬ (0 ≤ x ∧ x ≤ 16) := fun e => hn ((Orangery.isNodeB_iff _).2 e)
          clear H1 H2 H3 hn hn'
          by_cases h0 : 0 ≤ x
          · have h1 : ¬ x ≤ 16 := fun e => hx ⟨h0, e⟩
            clear hx
            go_wp2
            go_ret
            exact ⟨ret_int (by rw [HE.out, HF.out]), rfl⟩
          · clear hx
            go_wp2
            go_ret
            exact ⟨ret_int (by rw [HE.out, HF.out]), rfl⟩
      · have hk' : l.drop k = [] := by simp; omega
        rw [hk'] at hf
        have HF : Hid (rootsE (-1) l = 0) := hf.symm
        clear hf hk'
        go_wp2
        go_ret
        exact ⟨ret_int (by rw [HE.out, HF.out]), rfl⟩
end Go.Proofs.YthlhnokgcnieeadGreat

/- Plain facts on texts: words with blanks between them, decimal numbers written and read. -/
namespace Orangery
open Go.Lib (itoa decDigits parseIntB parseUintM parseUintB NumEnd cut index)

/-- the words of a text -/
def wordsB : List UInt8 → List (List UInt8)
  | [] => [[]]
  | c :: r => if c = 32 then [] :: wordsB r else ((wordsB r).headD [] |>.cons c) :: (wordsB r).tail
theorem wordsB_ne (s : List UInt8) : wordsB s ≠ [] := by cases s with
  | nil => simp [wordsB]
  | cons c r => unfold wordsB; split <;> simp
theorem wordsB_split (s : List UInt8) : wordsB s = (wordsB s).headD [] :: (wordsB s).tail := by
  cases h : wordsB s with
  | nil => exact absurd h (wordsB_ne s)
  | cons a l => rfl

theorem index_blank_nil : index [] [32] = -1 := rfl
theorem index_blank (c : UInt8) (r : List UInt8) : index (c :: r) [32] = if c = 32 then 0 else if index r [32] = -1 then -1 else index r [32] + 1 := by
  have e : index (c :: r) [32] = if List.isPrefixOf [32] (c :: r) then 0 else if index r [32] == -1 then -1 else index r [32] + 1 := rfl
  rw [e]
  by_cases h : c = 32
  · subst h; simp [List.isPrefixOf]
  · have h2 : (32 == c) = false := by simp; exact fun e => h e.symm
    simp [List.isPrefixOf, h, h2]

/-- strings.Cut at a blank: the first word, the others -/
theorem cut_blank (s : List UInt8) : (cut s [32]).1 = (wordsB s).headD [] ∧ (wordsB s).tail = if (cut s [32]).2.2 = true then wordsB (cut s [32]).2.1 else [] := by
  induction s with
  | nil => decide
  | cons c r ih =>
    unfold cut at ih ⊢
    rw [index_blank]
    by_cases h : c = 32
    · subst h
      simp [wordsB]
    · rw [if_neg h]
      have hw : wordsB (c :: r) = ((wordsB r).headD [] |>.cons c) :: (wordsB r).tail := by
        conv => lhs; unfold wordsB
        rw [if_neg h]
      rw [hw]
      have hge := Go.Lib.index_ge r [32]
      by_cases h2 : index r [32] = -1
      · rw [h2] at ih ⊢
        simp at ih ⊢
        exact ih
      · have h3 : 0 ≤ index r [32] := by omega
        have h4 : 0 ≤ index r [32] + 1 := by omega
        have h5 : (index r [32] + 1).toNat = (index r [32]).toNat + 1 := by omega
        rw [if_pos h3] at ih
        rw [if_neg h2, if_pos h4, h5]
        simp only [List.headD_cons, List.tail_cons]
        have e1 : List.take ((index r [32]).toNat + 1) (c :: r) = c :: List.take (index r [32]).toNat r := rfl
        have e2 : List.drop ((index r [32]).toNat + 1 + [(32 : UInt8)].length) (c :: r) = List.drop ((index r [32]).toNat + [(32 : UInt8)].length) r := by
          rw [show (index r [32]).toNat + 1 + [(32 : UInt8)].length = ((index r [32]).toNat + [(32 : UInt8)].length) + 1 by simp]
          rfl
        rw [e1, e2]
        exact ⟨congrArg (c :: ·) ih.1, ih.2⟩

def glue (ws : List (List UInt8)) : List UInt8 := Go.Lib.join ws [32]
theorem glue_one (x : List UInt8) : glue [x] = x := Go.Lib.join_one x [32]
theorem glue_cons (x y : List UInt8) (ws : List (List UInt8)) : glue (x :: y :: ws) = x ++ 32 :: glue (y :: ws) := by
  unfold glue
  rw [Go.Lib.join_cons, Go.Lib.join_cons]
  simp [Go.Lib.joinTail]
theorem glue_words (s : List UInt8) : glue (wordsB s) = s := by
  induction s with
  | nil => rfl
  | cons c r ih =>
    unfold wordsB
    rw [wordsB_split r] at ih ⊢
    generalize (wordsB r).headD [] = x at *
    generalize (wordsB r).tail = l at *
    by_cases h : c = 32
    · rw [if_pos h, glue_cons, ih, h]; rfl
    · rw [if_neg h]
      simp only [List.headD_cons, List.tail_cons]
      cases l with
      | nil => rw [glue_one] at ih ⊢; rw [ih]
      | cons y l => rw [glue_cons] at ih ⊢; rw [← ih]; rfl
theorem words_one (x : List UInt8) (hx : ∀ c ∈ x, c ≠ 32) : wordsB x = [x] := by
  induction x with
  | nil => rfl
  | cons c r ih =>
    unfold wordsB
    rw [ih (fun d hd => hx d (by simp [hd])), if_neg (hx c (by simp))]
    rfl
theorem words_app (x : List UInt8) (hx : ∀ c ∈ x, c ≠ 32) (s : List UInt8) : wordsB (x ++ 32 :: s) = x :: wordsB s := by
  induction x with
  | nil => simp [wordsB]
  | cons c r ih =>
    rw [List.cons_append]
    conv => lhs; unfold wordsB
    rw [ih (fun d hd => hx d (by simp [hd])), if_neg (hx c (by simp))]
    rfl
theorem words_glue (ws : List (List UInt8)) (hn : ws ≠ []) (h : ∀ x ∈ ws, ∀ c ∈ x, c ≠ 32) : wordsB (glue ws) = ws := by
  induction ws with
  | nil => exact absurd rfl hn
  | cons x l ih =>
    cases l with
    | nil => rw [glue_one, words_one x (h x (by simp))]
    | cons y l =>
      rw [glue_cons, words_app x (h x (by simp)), ih (by simp) (fun z hz => h z (by simp [hz]))]

/-! numbers -/
theorem digits_small {u : Nat} (h : u < 10) : decDigits u = [UInt8.ofNat (48 + u)] := Go.Lib.decDigits_one h
theorem digits_big {u : Nat} (h : ¬ u < 10) : decDigits u = decDigits (u / 10) ++ [UInt8.ofNat (48 + u % 10)] := by rw [decDigits, dif_neg h]
theorem digit_nat {d : Nat} (h : d < 10) : (UInt8.ofNat (48 + d)).toNat = 48 + d := by
  rw [UInt8.toNat_ofNat']
  omega
theorem digits_all (u : Nat) : ∀ c ∈ decDigits u, 48 ≤ c.toNat ∧ c.toNat ≤ 57 := by
  induction u using Nat.strongRecOn with
  | _ u ih =>
    intro c hc
    by_cases h : u < 10
    · rw [digits_small h] at hc
      obtain rfl := List.mem_singleton.1 hc
      rw [digit_nat h]
      omega
    · rw [digits_big h] at hc
      rcases List.mem_append.1 hc with hc | hc
      · exact ih (u / 10) (by omega) c hc
      · obtain rfl := List.mem_singleton.1 hc
        rw [digit_nat (Nat.mod_lt _ (by omega))]
        omega
theorem digits_ne (u : Nat) : decDigits u ≠ [] := by
  by_cases h : u < 10
  · rw [digits_small h]; simp
  · rw [digits_big h]; simp
theorem itoa_blank (n : Int) : ∀ c ∈ itoa n, c ≠ 32 := by
  intro c hc e
  subst e
  unfold itoa at hc
  split at hc
  · simp at hc
    have := digits_all _ _ hc
    simp at this
  · have := digits_all _ _ hc
    simp at this

theorem parse_app (M : Nat) (l : List UInt8) (c : UInt8) : ∀ acc a, parseUintM M acc l = .ok a → parseUintM M acc (l ++ [c]) = parseUintM M a [c] := by
  induction l with
  | nil =>
    intro acc a h
    have : acc = a := by simpa [parseUintM] using h
    subst this
    rfl
  | cons d r ih =>
    intro acc a h
    rw [List.cons_append]
    unfold parseUintM at h ⊢
    split at h
    · rename_i h1
      rw [if_pos h1]
      split at h
      · simp at h
      · rename_i h2
        rw [if_neg h2]
        split at h
        · simp at h
        · rename_i h3
          rw [if_neg h3]
          exact ih _ _ h
    · simp at h
theorem parse_digits (u : Nat) (h : u ≤ 18446744073709551615) : parseUintM 18446744073709551615 0 (decDigits u) = .ok u := by
  induction u using Nat.strongRecOn with
  | _ u ih =>
    by_cases hu : u < 10
    · rw [digits_small hu]
      unfold parseUintM
      rw [digit_nat hu, if_pos (by omega), if_neg (by omega), if_neg (by omega)]
      unfold parseUintM
      congr 1
      omega
    · have h1 := ih (u / 10) (by omega) (by omega)
      rw [digits_big hu, parse_app _ _ _ _ _ h1]
      unfold parseUintM
      have hm : u % 10 < 10 := Nat.mod_lt _ (by omega)
      rw [digit_nat hm, if_pos (by omega), if_neg (by omega), if_neg (by omega)]
      unfold parseUintM
      congr 1
      omega
theorem parse_itoa (n : Int) (h0 : -9223372036854775808 ≤ n) (h1 : n ≤ 9223372036854775807) : parseIntB 64 (itoa n) = .ok n := by
  unfold itoa
  by_cases hn : n < 0
  · rw [if_pos hn]
    have hp := parse_digits n.natAbs (by omega)
    have hu : parseUintB 64 (decDigits n.natAbs) = .ok n.natAbs := by
      unfold parseUintB
      rw [if_neg (digits_ne _)]
      exact hp
    unfold parseIntB
    simp only [show (45 : UInt8).toNat = 45 from rfl, or_true, if_true, hu]
    rw [if_neg (by simp), if_neg (by simp; omega)]
    congr 1
    omega
  · rw [if_neg hn]
    have hp := parse_digits n.toNat (by omega)
    have ha := digits_all n.toNat
    cases hd : decDigits n.toNat with
    | nil => exact absurd hd (digits_ne _)
    | cons c r =>
      rw [hd] at hp ha
      have hc := ha c (by simp)
      have hu : parseUintB 64 (c :: r) = .ok n.toNat := by
        unfold parseUintB
        rw [if_neg (by simp)]
        exact hp
      unfold parseIntB
      simp only
      rw [if_neg (by omega), hu]
      simp only
      rw [if_neg (by omega), if_neg (by omega), if_neg (by omega)]
      congr 1
      omega

/-- a number as it is written: none where it is written otherwise -/
def numOf (t : List UInt8) : Option Int := match parseIntB 64 t with
  | .ok v => if itoa v = t then some v else none
  | _ => none
theorem numOf_itoa (n : Int) (h0 : -9223372036854775808 ≤ n) (h1 : n ≤ 9223372036854775807) : numOf (itoa n) = some n := by
  unfold numOf
  rw [parse_itoa n h0 h1]
  simp
theorem numOf_some {t : List UInt8} {v : Int} (h : numOf t = some v) : itoa v = t := by
  unfold numOf at h
  split at h
  · split at h
    · rename_i h1; simp at h; rw [← h]; exact h1
    · simp at h
  · simp at h
theorem itoa_inj {m n : Int} (m0 : -9223372036854775808 ≤ m) (m1 : m ≤ 9223372036854775807) (n0 : -9223372036854775808 ≤ n) (n1 : n ≤ 9223372036854775807) (h : itoa m = itoa n) : m = n := by
  have e1 := numOf_itoa m m0 m1
  have e2 := numOf_itoa n n0 n1
  rw [h, e2] at e1
  simpa using e1.symm

/-- all numbers, or none -/
def numsOf : List (List UInt8) → Option (List Int)
  | [] => some []
  | t :: l => match numOf t with
    | none => none
    | some v => (numsOf l).map (v :: ·)
theorem numsOf_map (l : List Int) (h : ∀ n ∈ l, -9223372036854775808 ≤ n ∧ n ≤ 9223372036854775807) : numsOf (l.map itoa) = some l := by
  induction l with
  | nil => rfl
  | cons n l ih =>
    rw [List.map_cons]
    unfold numsOf
    rw [numOf_itoa n (h n (by simp)).1 (h n (by simp)).2, ih (fun m hm => h m (by simp [hm]))]
    rfl
theorem numsOf_some (ws : List (List UInt8)) : ∀ l, numsOf ws = some l → ws = l.map itoa := by
  induction ws with
  | nil => intro l h; simp [numsOf] at h; rw [h]; rfl
  | cons t ws ih =>
    intro l h
    unfold numsOf at h
    split at h
    · simp at h
    · rename_i v hv
      rw [Option.map_eq_some_iff] at h
      obtain ⟨l', h1, rfl⟩ := h
      rw [List.map_cons, ← ih l' h1, numOf_some hv]
end Orangery

/- Plain facts on records: checked, printed, read. -/
namespace Orangery
open Go.Lib (itoa)

/-- a record: kind, who, life, roots, operation -/
abbrev Rc := Int × Int × Int × List Int × Mv
def noRec : Rc := (0, 0, 0, [], noOp)

def checkRec (r : Rc) : Int :=
  if r.1 = 1 then (if r.2.1 ≠ 0 ∨ r.2.2.1 ≠ 0 ∨ r.2.2.2.1 ≠ [] then 4 else checkOp r.2.2.2.2)
  else if r.1 = 2 then (if r.2.2.2.2 ≠ noOp ∨ r.2.2.2.1 ≠ [] then 4 else if ¬ (0 ≤ r.2.1 ∧ r.2.1 ≤ 2) ∨ ¬ (1 ≤ r.2.2.1 ∧ r.2.2.1 ≤ 50) then 3 else 0)
  else if r.1 = 3 then (if r.2.2.2.2 ≠ noOp ∨ r.2.2.1 ≠ 0 then 4 else if ¬ (0 ≤ r.2.1 ∧ r.2.1 ≤ 2) then 3 else rootsOk r.2.2.2.1)
  else 4

def wOp : List UInt8 := [111, 112]
def wLife : List UInt8 := [108, 105, 102, 101]
def wRoots : List UInt8 := [114, 111, 111, 116, 115]
def recWord (r : Rc) : List UInt8 := if r.1 = 1 then wOp else if r.1 = 2 then wLife else wRoots
def opNums (o : Mv) : List Int := [o.1, o.2.1, o.2.2.1.1, o.2.2.1.2.1, o.2.2.1.2.2, o.2.2.2.1, o.2.2.2.2]
def recNums (r : Rc) : List Int := if r.1 = 1 then opNums r.2.2.2.2 else if r.1 = 2 then [r.2.1, r.2.2.1] else r.2.1 :: r.2.2.2.1
/-- the text of a right record -/
def recT (r : Rc) : List UInt8 := glue (recWord r :: (recNums r).map itoa)
def recText (r : Rc) : List UInt8 := if checkRec r ≠ 0 then [] else recT r

/-- what a word and numbers make -/
def recOf (w : List UInt8) (n : List Int) : Option Rc :=
  if w = wOp ∧ n.length = 7 then some (1, 0, 0, [], (n.getD 0 0, n.getD 1 0, (n.getD 2 0, n.getD 3 0, n.getD 4 0), n.getD 5 0, n.getD 6 0))
  else if w = wLife ∧ n.length = 2 then some (2, n.getD 0 0, n.getD 1 0, [], noOp)
  else if w = wRoots ∧ 1 ≤ n.length then some (3, n.getD 0 0, 0, n.tail, noOp)
  else none
def readO (s : List UInt8) : Option Rc := (numsOf (wordsB s).tail).bind (recOf ((wordsB s).headD []))
def readE (s : List UInt8) : Int := match readO s with
  | none => 1
  | some r => checkRec r
def readR (s : List UInt8) : Rc := if readE s ≠ 0 then noRec else (readO s).getD noRec
/-- chapter 6's Parse -/
def parseE (s : List UInt8) : Int := if 60000 < s.length then 2 else readE s
def parseR (s : List UInt8) : Rc := if 60000 < s.length then noRec else readR s

theorem checkRec_op {r : Rc} (h : checkRec r = 0) (h1 : r.1 = 1) : r = (1, 0, 0, [], r.2.2.2.2) ∧ checkOp r.2.2.2.2 = 0 := by
  obtain ⟨k, w, l, R, o⟩ := r
  unfold checkRec at h
  simp only at h h1 ⊢
  rw [if_pos h1] at h
  split at h
  · omega
  · rename_i h2
    simp only [not_or, Decidable.not_not, ne_eq] at h2
    obtain ⟨e1, e2, e3⟩ := h2
    subst e1 e2 e3 h1
    exact ⟨rfl, h⟩
theorem checkRec_life {r : Rc} (h : checkRec r = 0) (h1 : r.1 = 2) : r = (2, r.2.1, r.2.2.1, [], noOp) ∧ (0 ≤ r.2.1 ∧ r.2.1 ≤ 2) ∧ 1 ≤ r.2.2.1 ∧ r.2.2.1 ≤ 50 := by
  obtain ⟨k, w, l, R, o⟩ := r
  unfold checkRec at h
  simp only at h h1 ⊢
  rw [if_neg (by omega), if_pos h1] at h
  split at h
  · omega
  · rename_i h2
    simp only [not_or, Decidable.not_not, ne_eq] at h2
    obtain ⟨e1, e2⟩ := h2
    subst e1 e2 h1
    split at h
    · omega
    · rename_i h3
      exact ⟨rfl, by omega, by omega, by omega⟩
theorem checkRec_roots {r : Rc} (h : checkRec r = 0) (h1 : r.1 = 3) : r = (3, r.2.1, 0, r.2.2.2.1, noOp) ∧ (0 ≤ r.2.1 ∧ r.2.1 ≤ 2) ∧ rootsOk r.2.2.2.1 = 0 := by
  obtain ⟨k, w, l, R, o⟩ := r
  unfold checkRec at h
  simp only at h h1 ⊢
  rw [if_neg (by omega), if_neg (by omega), if_pos h1] at h
  split at h
  · omega
  · rename_i h2
    simp only [not_or, Decidable.not_not, ne_eq] at h2
    obtain ⟨e1, e2⟩ := h2
    subst e1 e2 h1
    split at h
    · omega
    · rename_i h3
      exact ⟨rfl, by omega, h⟩
theorem checkRec_kind {r : Rc} (h : checkRec r = 0) : r.1 = 1 ∨ r.1 = 2 ∨ r.1 = 3 := by
  unfold checkRec at h
  by_cases h1 : r.1 = 1
  · exact Or.inl h1
  · by_cases h2 : r.1 = 2
    · exact Or.inr (Or.inl h2)
    · by_cases h3 : r.1 = 3
      · exact Or.inr (Or.inr h3)
      · rw [if_neg h1, if_neg h2, if_neg h3] at h
        omega

theorem recNums_small {r : Rc} (h : checkRec r = 0) : (recNums r).length ≤ 7 ∧ ∀ n ∈ recNums r, 0 ≤ n ∧ n ≤ 10000 := by
  rcases checkRec_kind h with h1 | h1 | h1
  · obtain ⟨e, hc⟩ := checkRec_op h h1
    have ho := checkOp_zero hc
    simp only [opOkB, decide_eq_true_eq] at ho
    unfold recNums
    rw [if_pos h1]
    unfold opNums
    refine ⟨by simp, ?_⟩
    intro n hn
    simp only [List.mem_cons, List.not_mem_nil, or_false] at hn
    rcases hn with rfl | rfl | rfl | rfl | rfl | rfl | rfl <;> omega
  · obtain ⟨e, hw, hl⟩ := checkRec_life h h1
    unfold recNums
    rw [if_neg (by omega), if_pos h1]
    refine ⟨by simp, ?_⟩
    intro n hn
    simp only [List.mem_cons, List.not_mem_nil, or_false] at hn
    rcases hn with rfl | rfl <;> omega
  · obtain ⟨e, hw, hr⟩ := checkRec_roots h h1
    unfold recNums
    rw [if_neg (by omega), if_neg (by omega)]
    have hl := rootsOk_len hr
    refine ⟨by simp; omega, ?_⟩
    intro n hn
    rcases List.mem_cons.1 hn with rfl | hn
    · omega
    · have := (isNodeB_iff n).1 (rootsOk_node hr n hn)
      omega
theorem recWord_blank (r : Rc) : ∀ c ∈ recWord r, c ≠ 32 := by
  unfold recWord
  split
  · decide
  · split <;> decide
theorem recOf_nums {r : Rc} (h : checkRec r = 0) : recOf (recWord r) (recNums r) = some r := by
  rcases checkRec_kind h with h1 | h1 | h1
  · obtain ⟨e, _⟩ := checkRec_op h h1
    have e1 : recWord r = wOp := by unfold recWord; rw [if_pos h1]
    have e2 : recNums r = opNums r.2.2.2.2 := by unfold recNums; rw [if_pos h1]
    rw [e1, e2]
    unfold recOf
    rw [if_pos ⟨rfl, rfl⟩, e]
    rfl
  · obtain ⟨e, _⟩ := checkRec_life h h1
    have e1 : recWord r = wLife := by unfold recWord; rw [if_neg (by omega), if_pos h1]
    have e2 : recNums r = [r.2.1, r.2.2.1] := by unfold recNums; rw [if_neg (by omega), if_pos h1]
    rw [e1, e2]
    unfold recOf
    rw [if_neg (fun hh => absurd hh.1 (by decide)), if_pos ⟨rfl, rfl⟩, e]
    rfl
  · obtain ⟨e, _⟩ := checkRec_roots h h1
    have e1 : recWord r = wRoots := by unfold recWord; rw [if_neg (by omega), if_neg (by omega)]
    have e2 : recNums r = r.2.1 :: r.2.2.2.1 := by unfold recNums; rw [if_neg (by omega), if_neg (by omega)]
    rw [e1, e2]
    unfold recOf
    rw [if_neg (fun hh => absurd hh.1 (by decide)), if_neg (fun hh => absurd hh.1 (by decide)), if_pos ⟨rfl, by simp⟩, e]
    rfl

/-- what is printed is read -/
theorem read_text {r : Rc} (h : checkRec r = 0) : readO (recT r) = some r ∧ readE (recT r) = 0 ∧ readR (recT r) = r := by
  have hs := recNums_small h
  have hw : wordsB (recT r) = recWord r :: (recNums r).map itoa := by
    unfold recT
    refine words_glue _ (by simp) ?_
    intro x hx
    rcases List.mem_cons.1 hx with rfl | hx
    · exact recWord_blank r
    · obtain ⟨n, _, rfl⟩ := List.mem_map.1 hx
      exact itoa_blank n
  have h1 : readO (recT r) = some r := by
    unfold readO
    rw [hw]
    simp only [List.headD_cons, List.tail_cons]
    rw [numsOf_map _ (fun n hn => by have := hs.2 n hn; omega)]
    exact recOf_nums h
  have h2 : readE (recT r) = 0 := by unfold readE; rw [h1]; exact h
  refine ⟨h1, h2, ?_⟩
  unfold readR
  rw [if_neg (by simp [h2]), h1]
  rfl

theorem recOf_some {w : List UInt8} {n : List Int} {r : Rc} (h : recOf w n = some r) : recWord r = w ∧ recNums r = n := by
  unfold recOf at h
  split at h
  · rename_i h1
    simp at h
    subst h
    obtain ⟨e1, e2⟩ := h1
    refine ⟨by rw [e1]; rfl, ?_⟩
    match n, e2 with
    | [a, b, c, d, e, f, g], _ => rfl
  · split at h
    · rename_i h1
      simp at h
      subst h
      obtain ⟨e1, e2⟩ := h1
      refine ⟨by rw [e1]; rfl, ?_⟩
      match n, e2 with
      | [a, b], _ => rfl
    · split at h
      · rename_i h1
        simp at h
        subst h
        obtain ⟨e1, e2⟩ := h1
        refine ⟨by rw [e1]; rfl, ?_⟩
        match n, e2 with
        | a :: l, _ => rfl
      · simp at h

/-- what is read is printed as it was -/
theorem text_read {s : List UInt8} (h : readE s = 0) : checkRec (readR s) = 0 ∧ recT (readR s) = s := by
  have hR : readR s = (readO s).getD noRec := by unfold readR; rw [if_neg (by simp [h])]
  unfold readE at h
  cases hr : readO s with
  | none => rw [hr] at h; simp at h
  | some r =>
    rw [hr] at h hR
    simp only [Option.getD_some] at h hR
    rw [hR]
    refine ⟨h, ?_⟩
    unfold readO at hr
    rw [Option.bind_eq_some_iff] at hr
    obtain ⟨n, h1, h2⟩ := hr
    obtain ⟨e1, e2⟩ := recOf_some h2
    unfold recT
    rw [e1, e2, ← numsOf_some _ n h1, ← wordsB_split, glue_words]

/-- unlike records have unlike texts -/
theorem text_inj {r q : Rc} (hr : checkRec r = 0) (hq : checkRec q = 0) : recT r = recT q ↔ r = q := by
  constructor
  · intro e
    have h1 := (read_text hr).2.2
    have h2 := (read_text hq).2.2
    rw [e, h2] at h1
    exact h1.symm
  · rintro rfl; rfl

theorem glue_len (ws : List (List UInt8)) (h : ∀ x ∈ ws, x.length ≤ 21) : (glue ws).length ≤ 22 * ws.length := by
  induction ws with
  | nil => simp [glue, Go.Lib.join]
  | cons x l ih =>
    have hx := h x (by simp)
    cases l with
    | nil => rw [glue_one]; simp; omega
    | cons y l =>
      have := ih (fun z hz => h z (by simp [hz]))
      rw [glue_cons]
      simp at this ⊢
      omega
theorem recT_len {r : Rc} (h : checkRec r = 0) : (recT r).length ≤ 176 := by
  have hs := recNums_small h
  have := glue_len (recWord r :: (recNums r).map itoa) (by
    intro x hx
    rcases List.mem_cons.1 hx with rfl | hx
    · unfold recWord; split
      · decide
      · split <;> decide
    · obtain ⟨n, hn, rfl⟩ := List.mem_map.1 hx
      have := hs.2 n hn
      exact Go.Lib.itoa_length_le n (by omega) (by omega))
  unfold recT
  simp at this
  omega
/-- P6.3, with the bound on the length -/
theorem parse_text {r : Rc} (h : checkRec r = 0) : parseE (recT r) = 0 ∧ parseR (recT r) = r := by
  have hl := recT_len h
  unfold parseE parseR
  rw [if_neg (by omega), if_neg (by omega)]
  exact (read_text h).2
theorem text_parse {s : List UInt8} (h : parseE s = 0) : checkRec (parseR s) = 0 ∧ recT (parseR s) = s := by
  unfold parseE at h
  unfold parseR
  split at h
  · omega
  · rename_i h1
    rw [if_neg h1]
    exact text_read h
end Orangery

/- note.Check, orangeryref.CheckRec. -/
namespace Go.Proofs.YthlhnokgcnieeadGreat
open Go.ChangeShapes Go.WideShapes Go.ChangeAt Go.RowKit
open Orangery (Pl Mv Rc noOp checkRec checkOp rootsOk)

/-- the value of a record -/
abbrev rcV (k u f : Int) (r : Value) (o : Mv) : Value := .agg #[.int .i64 k, .int .i64 u, .int .i64 f, r, .int .i64 o.1, .int .i64 o.2.1, .int .i64 o.2.2.1.1, .int .i64 o.2.2.1.2.1, .int .i64 o.2.2.1.2.2, .int .i64 o.2.2.2.1, .int .i64 o.2.2.2.2]

def opRecE (u f : Int) (R : List Int) (o : Mv) : Int := if u ≠ 0 ∨ f ≠ 0 ∨ R ≠ [] then 4 else checkOp o
theorem opRecE_bad {u f : Int} {R : List Int} {o : Mv} (h : u ≠ 0 ∨ f ≠ 0 ∨ R ≠ []) : opRecE u f R o = 4 := if_pos h
theorem opRecE_ok {o : Mv} : opRecE 0 0 [] o = checkOp o := rfl

set_option maxHeartbeats 1000000 in
theorem ncheckOp_any (w : World) (k u f : Int) (a : Option Addr) (c : Nat) (R : List Int) (o : Mv) :
    Calls Tryz.prog 65 #[rcV k u f (.slice a R.length c) o] w fun e w' => e = .returned (.int .i64 (opRecE u f R o)) ∧ Below w.heap.size w w' := by
  by_cases hu : u = 0
  case neg =>
    have HE : Hid (opRecE u f R o = 4) := opRecE_bad (Or.inl hu)
    have d1 : (u != 0) = true := by simpa using hu
    go_enter Tryz.func65, Tryz.ntmps65
    go_wp2
    go_ret
    exact ⟨ret_int HE.out.symm, Go.Joins.below_alloc1 w _⟩
  by_cases hf : f = 0
  case neg =>
    have HE : Hid (opRecE u f R o = 4) := opRecE_bad (Or.inr (Or.inl hf))
    have d1 : (u != 0) = false := by simpa using hu
    have d2 : (f != 0) = true := by simpa using hf
    clear hu
    go_enter Tryz.func65, Tryz.ntmps65
    go_wp2
    go_ret
    exact ⟨ret_int HE.out.symm, Go.Joins.below_alloc1 w _⟩
  by_cases hr : R = []
  case neg =>
    have HE : Hid (opRecE u f R o = 4) := opRecE_bad (Or.inr (Or.inr hr))
    have d1 : (u != 0) = false := by simpa using hu
    have d2 : (f != 0) = false := by simpa using hf
    have d3 : 0 < R.length := List.length_pos_iff.2 hr
    have d4 : decide ((R.length : Int) > 0) = true := by simp; omega
    clear hu hf hr
    go_enter Tryz.func65, Tryz.ntmps65
    go_wp2
    go_ret
    exact ⟨ret_int HE.out.symm, Go.Joins.below_alloc1 w _⟩
  subst hu hf hr
  obtain ⟨o1, o2, ⟨o3, o4, o5⟩, o6, o7⟩ := o
  go_enter Tryz.func65, Tryz.ntmps65
  go_wp2_with fail
  refine (moveCheck_any _ (o1, o2, (o3, o4, o5), o6, o7)).mono ?_
  rintro e w1 ⟨rfl, hb⟩
  have hb1 : Below w.heap.size w w1 := (Go.Joins.below_alloc1 w _).trans (hb.mono (by simp))
  clear hb
  go_wp2
  go_ret
  exact ⟨rfl, hb1⟩

def cliE (k u f : Int) (R : List Int) (o : Mv) : Int :=
  if o ≠ noOp ∨ (k ≠ 2 ∧ f ≠ 0) ∨ (k = 2 ∧ R ≠ []) then 4 else if ¬ (0 ≤ u ∧ u ≤ 2) ∨ (k = 2 ∧ ¬ (1 ≤ f ∧ f ≤ 50)) then 3 else rootsOk R
theorem cliE_form {k u f : Int} {R : List Int} {o : Mv} (h : o ≠ noOp ∨ (k ≠ 2 ∧ f ≠ 0) ∨ (k = 2 ∧ R ≠ [])) : cliE k u f R o = 4 := if_pos h
theorem cliE_range {k u f : Int} {R : List Int} {o : Mv} (h : ¬ (o ≠ noOp ∨ (k ≠ 2 ∧ f ≠ 0) ∨ (k = 2 ∧ R ≠ []))) (h2 : ¬ (0 ≤ u ∧ u ≤ 2) ∨ (k = 2 ∧ ¬ (1 ≤ f ∧ f ≤ 50))) : cliE k u f R o = 3 := by
  unfold cliE; rw [if_neg h, if_pos h2]
theorem cliE_ok {k u f : Int} {R : List Int} {o : Mv} (h : ¬ (o ≠ noOp ∨ (k ≠ 2 ∧ f ≠ 0) ∨ (k = 2 ∧ R ≠ []))) (h2 : ¬ (¬ (0 ≤ u ∧ u ≤ 2) ∨ (k = 2 ∧ ¬ (1 ≤ f ∧ f ≤ 50)))) : cliE k u f R o = rootsOk R := by
  unfold cliE; rw [if_neg h, if_neg h2]

set_option maxHeartbeats 2000000 in
theorem ncheckOfClient_any (w : World) (k u f : Int) (a : Option Addr) (c : Nat) (R : List Int) (o : Mv) (hl : R.length ≤ maxLen) (h : SlI w a R) :
    Calls Tryz.prog 66 #[rcV k u f (.slice a R.length c) o] w fun e w' => e = .returned (.int .i64 (cliE k u f R o)) ∧ Below w.heap.size w w' := by
  have hne : ∀ w, (binOp .neq 35 (opV o) (.agg #[.int .i64 0, .int .i64 0, .int .i64 0, .int .i64 0, .int .i64 0, .int .i64 0, .int .i64 0])).run Tryz.prog w = .ok (.bool (!decide (o = noOp))) w := run_neq_opg o noOp
  have hgd := guard_op
  by_cases ho : o = noOp
  case neg =>
    have HE : Hid (cliE k u f R o = 4) := cliE_form (Or.inl ho)
    have d0 : decide (o = noOp) = false := by simpa using ho
    clear ho
    go_enter Tryz.func66, Tryz.ntmps66
    go_wp2
    go_ret
    exact ⟨ret_int HE.out.symm, Go.Joins.below_alloc1 w _⟩
  have d0 : decide (o = noOp) = true := by simpa using ho
  have HO : Hid (o = noOp) := ho
  clear ho
  by_cases hk : k = 2
  · have e1 : (k == 2) = true := by simpa using hk
    have HK : Hid (k = 2) := hk
    clear hk
    by_cases hr : R = []
    case neg =>
      have HE : Hid (cliE k u f R o = 4) := cliE_form (Or.inr (Or.inr ⟨HK.out, hr⟩))
      have d3 : 0 < R.length := List.length_pos_iff.2 hr
      have d4 : decide ((R.length : Int) > 0) = true := by simp; omega
      clear hr
      go_enter Tryz.func66, Tryz.ntmps66
      go_wp2
      go_ret
      exact ⟨ret_int HE.out.symm, Go.Joins.below_alloc1 w _⟩
    have HF : Hid (¬ (o ≠ noOp ∨ (k ≠ 2 ∧ f ≠ 0) ∨ (k = 2 ∧ R ≠ []))) := by
      show ¬ _
      have h1 := HO.out; have h2 := HK.out
      simp [h1, h2, hr]
    subst hr
    by_cases h0 : u < 0
    · have HE : Hid (cliE k u f [] o = 3) := cliE_range HF.out (Or.inl (by omega))
      go_enter Tryz.func66, Tryz.ntmps66
      go_wp2
      go_ret
      exact ⟨ret_int HE.out.symm, Go.Joins.below_alloc1 w _⟩
    by_cases h3 : 3 ≤ u
    · have HE : Hid (cliE k u f [] o = 3) := cliE_range HF.out (Or.inl (by omega))
      go_enter Tryz.func66, Tryz.ntmps66
      go_wp2
      go_ret
      exact ⟨ret_int HE.out.symm, Go.Joins.below_alloc1 w _⟩
    by_cases h4 : f < 1
    · have HE : Hid (cliE k u f [] o = 3) := cliE_range HF.out (Or.inr ⟨HK.out, by omega⟩)
      go_enter Tryz.func66, Tryz.ntmps66
      go_wp2
      go_ret
      exact ⟨ret_int HE.out.symm, Go.Joins.below_alloc1 w _⟩
    by_cases h5 : 50 < f
    · have HE : Hid (cliE k u f [] o = 3) := cliE_range HF.out (Or.inr ⟨HK.out, by omega⟩)
      go_enter Tryz.func66, Tryz.ntmps66
      go_wp2
      go_ret
      exact ⟨ret_int HE.out.symm, Go.Joins.below_alloc1 w _⟩
    have HE : Hid (cliE k u f [] o = rootsOk []) := cliE_ok HF.out (by omega)
    go_enter Tryz.func66, Tryz.ntmps66
    go_wp2_with fail
    refine (vroots_any _ a c [] (by simp) SlI.nil).mono ?_
    rintro e w1 ⟨rfl, rfl⟩
    go_wp2
    go_ret
    exact ⟨ret_int HE.out.symm, Go.Joins.below_alloc1 w _⟩
  · have e1 : (k == 2) = false := by simpa using hk
    have HK : Hid (k ≠ 2) := hk
    clear hk
    by_cases hf : f = 0
    case neg =>
      have HE : Hid (cliE k u f R o = 4) := cliE_form (Or.inr (Or.inl ⟨HK.out, hf⟩))
      have d3 : (f != 0) = true := by simpa using hf
      go_enter Tryz.func66, Tryz.ntmps66
      go_wp2
      go_ret
      exact ⟨ret_int HE.out.symm, Go.Joins.below_alloc1 w _⟩
    have HF : Hid (¬ (o ≠ noOp ∨ (k ≠ 2 ∧ f ≠ 0) ∨ (k = 2 ∧ R ≠ []))) := by
      show ¬ _
      have h1 := HO.out; have h2 := HK.out
      simp [h1, h2, hf]
    subst hf
    by_cases h0 : u < 0
    · have HE : Hid (cliE k u 0 R o = 3) := cliE_range HF.out (Or.inl (by omega))
      go_enter Tryz.func66, Tryz.ntmps66
      go_wp2
      go_ret
      exact ⟨ret_int HE.out.symm, Go.Joins.below_alloc1 w _⟩
    by_cases h3 : 3 ≤ u
    · have HE : Hid (cliE k u 0 R o = 3) := cliE_range HF.out (Or.inl (by omega))
      go_enter Tryz.func66, Tryz.ntmps66
      go_wp2
      go_ret
      exact ⟨ret_int HE.out.symm, Go.Joins.below_alloc1 w _⟩
    have HE : Hid (cliE k u 0 R o = rootsOk R) := cliE_ok HF.out (by have := HK.out; omega)
    go_enter Tryz.func66, Tryz.ntmps66
    go_wp2_with fail
    refine (vroots_any _ a c R hl (h.below (Go.Joins.below_alloc1 w _))).mono ?_
    rintro e w1 ⟨rfl, rfl⟩
    go_wp2
    go_ret
    exact ⟨ret_int HE.out.symm, Go.Joins.below_alloc1 w _⟩
end Go.Proofs.YthlhnokgcnieeadGreat

/- note.Same, orangeryref.SameRec. -/
namespace Go.Proofs.YthlhnokgcnieeadGreat
open Go.ChangeShapes Go.WideShapes Go.ChangeAt Go.RowKit
open Orangery (Pl Mv Rc)

def sameR (r q : Rc) : Bool := decide (r.1 = q.1 ∧ r.2.1 = q.2.1 ∧ r.2.2.1 = q.2.2.1 ∧ r.2.2.2.1 = q.2.2.2.1 ∧ r.2.2.2.2 = q.2.2.2.2)
theorem sameR_iff (r q : Rc) : sameR r q = true ↔ r = q := by
  obtain ⟨k, u, f, R, o⟩ := r
  obtain ⟨k', u', f', R', p⟩ := q
  simp only [sameR, decide_eq_true_eq, Prod.mk.injEq]
theorem sameR_yes {r q : Rc} (h : r = q) : sameR r q = true := (sameR_iff r q).2 h
theorem sameR_no {r q : Rc} (h : r ≠ q) : sameR r q = false := by
  cases hq : sameR r q
  · rfl
  · exact absurd ((sameR_iff r q).1 hq) h
theorem eqIs_ne {l m : List Int} (h : eqIs l m = false) : l ≠ m := by simpa [eqIs] using h
theorem eqIs_eq {l m : List Int} (h : eqIs l m = true) : l = m := by simpa [eqIs] using h
theorem below_drewN' (B : Nat) (w : World) (n : Nat) : Below B w (w.drewN n) := ⟨rfl, rfl, rfl, Nat.le_refl _, fun _ _ => rfl⟩


end Go.Proofs.YthlhnokgcnieeadGreat

/- Plain facts on hubs: checked, told the next record, replayed. -/
namespace Orangery

/-- a peer: life, number, roots; a hub: steps and tree, version, peers -/
abbrev Pr := Int × Int × List Int
abbrev Hb := (List Stp × List Pl) × Int × List Pr
def noHb : Hb := (([], []), 0, [])
def newHb : Hb := (([], []), 0, [(0, 0, []), (0, 0, []), (0, 0, [])])

def peerE (p : Pr) : Int := if ¬ (0 ≤ p.1 ∧ p.1 ≤ 50) ∨ ¬ (0 ≤ p.2.1 ∧ p.2.1 ≤ 30) then 3 else if p.1 = 0 ∧ (p.2.1 ≠ 0 ∨ p.2.2 ≠ []) then 4 else rootsOk p.2.2
def peersE : List Pr → Int
  | [] => 0
  | p :: l => if peerE p ≠ 0 then peerE p else peersE l
/-- chapter 8's Check -/
def hubE (h : Hb) : Int := if histE h.1.1 h.1.2 ≠ 0 then histE h.1.1 h.1.2 else if ¬ (0 ≤ h.2.1 ∧ h.2.1 ≤ 60) then 3 else if h.2.2.length ≠ 3 then 4 else peersE h.2.2

/-- the peer of a client -/
def prOf (h : Hb) (k : Int) : Pr := h.2.2.getD k.toNat (0, 0, [])
/-- a right record of a right hub: what is wrong, what it makes -/
def stepE (h : Hb) (r : Rc) : Int :=
  if h.2.1 = 60 then 2
  else if r.1 = 1 then (if r.2.2.2.2.2.2.2.1 ≠ (prOf h r.2.2.2.2.2.1).1 ∨ r.2.2.2.2.2.2.2.2 ≠ (prOf h r.2.2.2.2.2.1).2.1 + 1 then 7 else insE h.1.1 h.1.2 r.2.2.2.2)
  else if r.1 = 2 then (if (prOf h r.2.1).1 + 1 ≠ r.2.2.1 then 7 else 0)
  else (if (prOf h r.2.1).1 < 1 then 5 else 0)
def stepH (h : Hb) (r : Rc) : Hb :=
  if r.1 = 1 then ((insL h.1.1 h.1.2 r.2.2.2.2, insT h.1.1 h.1.2 r.2.2.2.2), h.2.1 + 1, h.2.2.set r.2.2.2.2.2.1.toNat ((prOf h r.2.2.2.2.2.1).1, (prOf h r.2.2.2.2.2.1).2.1 + 1, (prOf h r.2.2.2.2.2.1).2.2))
  else if r.1 = 2 then (h.1, h.2.1 + 1, h.2.2.set r.2.1.toNat (r.2.2.1, 0, []))
  else (h.1, h.2.1 + 1, h.2.2.set r.2.1.toNat ((prOf h r.2.1).1, (prOf h r.2.1).2.1, r.2.2.2.1))
/-- chapter 8's Next -/
def nextE (h : Hb) (r : Rc) : Int := if hubE h ≠ 0 then hubE h else if checkRec r ≠ 0 then checkRec r else stepE h r
def nextH (h : Hb) (r : Rc) : Hb := if nextE h r ≠ 0 then noHb else stepH h r

theorem peersE_zero (l : List Pr) : peersE l = 0 ↔ ∀ p ∈ l, peerE p = 0 := by
  induction l with
  | nil => simp [peersE]
  | cons p l ih =>
    unfold peersE
    by_cases h : peerE p = 0
    · rw [if_neg (by simp [h]), ih]; simp [h]
    · rw [if_pos h]
      constructor
      · intro h'; exact absurd h' h
      · intro h'; exact absurd (h' p (by simp)) h
theorem hubE_zero (h : Hb) : hubE h = 0 ↔ histE h.1.1 h.1.2 = 0 ∧ (0 ≤ h.2.1 ∧ h.2.1 ≤ 60) ∧ h.2.2.length = 3 ∧ ∀ p ∈ h.2.2, peerE p = 0 := by
  rw [← peersE_zero]
  unfold hubE
  constructor
  · intro hh
    split at hh
    · contradiction
    · split at hh
      · omega
      · split at hh
        · omega
        · rename_i h1 h2 h3
          exact ⟨by simpa using h1, by simpa using h2, by simpa using h3, hh⟩
  · rintro ⟨h1, h2, h3, h4⟩
    rw [if_neg (by simp [h1]), if_neg (by simp [h2]), if_neg (by simp [h3])]
    exact h4
theorem newHb_ok : hubE newHb = 0 := by
  rw [hubE_zero]
  refine ⟨hist_empty, by decide, rfl, ?_⟩
  intro p hp
  simp [newHb] at hp
  subst hp
  decide
theorem prOf_mem {h : Hb} (hh : hubE h = 0) {k : Int} (h0 : 0 ≤ k) (h1 : k ≤ 2) : prOf h k ∈ h.2.2 ∧ k.toNat < h.2.2.length := by
  obtain ⟨_, _, h3, _⟩ := (hubE_zero h).1 hh
  have hlt : k.toNat < h.2.2.length := by omega
  refine ⟨?_, hlt⟩
  unfold prOf
  rw [List.getD_eq_getElem?_getD, List.getElem?_eq_getElem hlt]
  exact List.getElem_mem hlt
theorem insE_zero {L : List Stp} {T : List Pl} {o : Mv} (h : insE L T o = 0) : histE L T = 0 ∧ checkOp o = 0 ∧ foldE (L.map (·.1) ++ [o]) = 0 := by
  unfold insE at h
  split at h
  · contradiction
  · split at h
    · contradiction
    · split at h
      · omega
      · rename_i h1 h2 h3
        exact ⟨by simpa using h1, by simpa using h2, h⟩
theorem ins_hist {L : List Stp} {T : List Pl} {o : Mv} (h : insE L T o = 0) : histE (insL L T o) (insT L T o) = 0 := by
  obtain ⟨_, _, h3⟩ := insE_zero h
  unfold insL insT
  rw [if_neg (by simp [h]), if_neg (by simp [h])]
  exact hist_fold h3

/-- a hub stays one -/
theorem next_ok {h : Hb} {r : Rc} (hn : nextE h r = 0) : hubE h = 0 ∧ checkRec r = 0 ∧ stepE h r = 0 ∧ hubE (stepH h r) = 0 := by
  have hh : hubE h = 0 ∧ checkRec r = 0 ∧ stepE h r = 0 := by
    unfold nextE at hn
    split at hn
    · contradiction
    · split at hn
      · contradiction
      · rename_i h1 h2
        exact ⟨by simpa using h1, by simpa using h2, hn⟩
  obtain ⟨h1, h2, h3⟩ := hh
  refine ⟨h1, h2, h3, ?_⟩
  obtain ⟨g1, g2, g3, g4⟩ := (hubE_zero h).1 h1
  have hv : h.2.1 ≠ 60 := by
    intro e
    unfold stepE at h3
    rw [if_pos e] at h3
    omega
  have hset : ∀ (k : Nat) (q : Pr), peerE q = 0 → ∀ p ∈ h.2.2.set k q, peerE p = 0 := by
    intro k q hq p hp
    rcases List.mem_or_eq_of_mem_set hp with hp | rfl
    · exact g4 p hp
    · exact hq
  rw [hubE_zero]
  unfold stepE at h3
  rw [if_neg hv] at h3
  rcases checkRec_kind h2 with hk | hk | hk
  · rw [if_pos hk] at h3
    obtain ⟨e, hc⟩ := checkRec_op h2 hk
    have ho := checkOp_zero hc
    simp only [opOkB, decide_eq_true_eq] at ho
    split at h3
    · omega
    · rename_i hl
      simp only [not_or, Decidable.not_not, ne_eq] at hl
      have hp := g4 _ (prOf_mem h1 (k := r.2.2.2.2.2.1) (by omega) (by omega)).1
      unfold stepH
      rw [if_pos hk]
      refine ⟨ins_hist h3, by simp only; omega, by simpa using g3, hset _ _ ?_⟩
      unfold peerE at hp ⊢
      simp only
      split at hp
      · omega
      · rename_i q1
        split at hp
        · omega
        · rename_i q2
          rw [if_neg (by simp only [not_or, Decidable.not_not] at q1 ⊢; omega), if_neg (by intro q; have := q.1; omega)]
          exact hp
  · rw [if_neg (by omega), if_pos hk] at h3
    obtain ⟨e, hw, hf⟩ := checkRec_life h2 hk
    unfold stepH
    rw [if_neg (by omega), if_pos hk]
    refine ⟨g1, by simp only; omega, by simpa using g3, hset _ _ ?_⟩
    unfold peerE
    simp only
    rw [if_neg (by simp only [not_or, Decidable.not_not]; omega), if_neg (by intro q; omega)]
    rfl
  · rw [if_neg (by omega), if_neg (by omega)] at h3
    obtain ⟨e, hw, hrt⟩ := checkRec_roots h2 hk
    have hp := g4 _ (prOf_mem h1 (k := r.2.1) (by omega) (by omega)).1
    unfold stepH
    rw [if_neg (by omega), if_neg (by omega)]
    refine ⟨g1, by simp only; omega, by simpa using g3, hset _ _ ?_⟩
    split at h3
    · omega
    · rename_i hl
      unfold peerE at hp ⊢
      simp only
      split at hp
      · omega
      · rename_i q1
        rw [if_neg q1, if_neg (by intro q; have := q.1; omega)]
        exact hrt

/-- one after the other -/
def runE : Hb → List Rc → Int
  | _, [] => 0
  | h, r :: l => if nextE h r ≠ 0 then nextE h r else runE (stepH h r) l
def runH : Hb → List Rc → Hb
  | h, [] => h
  | h, r :: l => runH (stepH h r) l
/-- chapter 8's Replay -/
def replayE (l : List Rc) : Int := if 60 < l.length then 2 else runE newHb l
def replayH (l : List Rc) : Hb := if replayE l ≠ 0 then noHb else runH newHb l

theorem runE_zero (h : Hb) (r : Rc) (l : List Rc) : runE h (r :: l) = 0 ↔ nextE h r = 0 ∧ runE (stepH h r) l = 0 := by
  have e : runE h (r :: l) = if nextE h r ≠ 0 then nextE h r else runE (stepH h r) l := rfl
  rw [e]
  by_cases hn : nextE h r = 0
  · rw [if_neg (by simp [hn])]; simp [hn]
  · rw [if_pos hn]; simp [hn]
theorem runH_app (l m : List Rc) : ∀ h, runH h (l ++ m) = runH (runH h l) m := by
  induction l with
  | nil => intro h; rfl
  | cons r l ih => intro h; exact ih _
/-- records in two parts are as in one -/
theorem runE_app (l m : List Rc) : ∀ h, runE h (l ++ m) = 0 ↔ runE h l = 0 ∧ runE (runH h l) m = 0 := by
  induction l with
  | nil => intro h; simp [runE, runH]
  | cons r l ih =>
    intro h
    rw [List.cons_append, runE_zero, runE_zero, ih]
    exact ⟨fun ⟨a, b, c⟩ => ⟨⟨a, b⟩, c⟩, fun ⟨⟨a, b⟩, c⟩ => ⟨a, b, c⟩⟩
theorem run_at {h : Hb} {l : List Rc} (hl : runE h l = 0) (j : Nat) (hj : j < l.length) : nextE (runH h (l.take j)) l[j] = 0 ∧ runH h (l.take (j + 1)) = stepH (runH h (l.take j)) l[j] := by
  have e : l.take (j + 1) = l.take j ++ [l[j]] := List.take_succ_eq_append_getElem hj
  have e2 : l = l.take (j + 1) ++ l.drop (j + 1) := (List.take_append_drop _ _).symm
  rw [e2, runE_app, e, runE_app] at hl
  have := hl.1.2
  rw [runE_zero] at this
  refine ⟨this.1, ?_⟩
  rw [e, runH_app]
  rfl
theorem run_ok {h : Hb} (hh : hubE h = 0) (l : List Rc) : runE h l = 0 → hubE (runH h l) = 0 := by
  induction l generalizing h with
  | nil => intro _; exact hh
  | cons r l ih =>
    intro hl
    obtain ⟨h1, h2⟩ := (runE_zero h r l).1 hl
    exact ih (next_ok h1).2.2.2 h2
theorem run_version (l : List Rc) : ∀ h, (runH h l).2.1 = h.2.1 + l.length := by
  induction l with
  | nil => intro h; simp [runH]
  | cons r l ih =>
    intro h
    have e : (stepH h r).2.1 = h.2.1 + 1 := by
      unfold stepH
      split
      · rfl
      · split <;> rfl
    have : runH h (r :: l) = runH (stepH h r) l := rfl
    rw [this, ih, e]
    simp
    omega

/-- the operations among records -/
def opsOfR (l : List Rc) : List Mv := l.filterMap fun r => if r.1 = 1 then some r.2.2.2.2 else none
theorem opsOfR_app (l m : List Rc) : opsOfR (l ++ m) = opsOfR l ++ opsOfR m := by simp [opsOfR]
/-- one more operation behind those that were folded -/
theorem ins_folded {l : List Mv} (h : foldE l = 0) {o : Mv} (hi : insE (foldL l) (foldT l) o = 0) : foldE (l ++ [o]) = 0 ∧ insL (foldL l) (foldT l) o = foldL (l ++ [o]) ∧ insT (foldL l) (foldT l) o = foldT (l ++ [o]) := by
  obtain ⟨_, _, h3⟩ := insE_zero hi
  obtain ⟨_, _, e3, _, _⟩ := fold_ok h
  obtain ⟨_, hp, _⟩ := srt_ok h
  rw [e3] at h3
  have hpo : (srt l ++ [o]).Perm (l ++ [o]) := hp.append_right [o]
  have hf := (foldE_perm hpo h3).1
  exact ⟨hf, (ins_fold h o hf).2⟩
/-- the history of a hub is what all operations make that were accepted -/
theorem run_hist (l : List Rc) (hl : runE newHb l = 0) : foldE (opsOfR l) = 0 ∧ (runH newHb l).1 = (foldL (opsOfR l), foldT (opsOfR l)) := by
  have key : ∀ j, j ≤ l.length → foldE (opsOfR (l.take j)) = 0 ∧ (runH newHb (l.take j)).1 = (foldL (opsOfR (l.take j)), foldT (opsOfR (l.take j))) := by
    intro j
    induction j with
    | zero => intro _; simp only [List.take_zero]; exact ⟨by decide, rfl⟩
    | succ j ih =>
      intro hj
      obtain ⟨i1, i2⟩ := ih (by omega)
      obtain ⟨n1, n2⟩ := run_at hl j (by omega)
      obtain ⟨_, c2, c3, _⟩ := next_ok n1
      have e : l.take (j + 1) = l.take j ++ [l[j]] := List.take_succ_eq_append_getElem (by omega)
      rw [n2, e, opsOfR_app]
      generalize l[j] = r at *
      by_cases hk : r.1 = 1
      · have e1 : opsOfR [r] = [r.2.2.2.2] := by simp [opsOfR, hk]
        have hs : insE (foldL (opsOfR (l.take j))) (foldT (opsOfR (l.take j))) r.2.2.2.2 = 0 := by
          unfold stepE at c3
          rw [if_pos hk, i2] at c3
          split at c3
          · omega
          · split at c3
            · omega
            · exact c3
        obtain ⟨f1, f2, f3⟩ := ins_folded i1 hs
        rw [e1]
        refine ⟨f1, ?_⟩
        unfold stepH
        rw [if_pos hk]
        simp only
        rw [i2]
        simp only
        rw [f2, f3]
      · have e1 : opsOfR [r] = [] := by simp [opsOfR, hk]
        rw [e1, List.append_nil]
        refine ⟨i1, ?_⟩
        unfold stepH
        rw [if_neg hk]
        split
        · exact i2
        · exact i2
  have := key l.length (Nat.le_refl _)
  rwa [List.take_length] at this
end Orangery

/- Hubs in memory: peers, each with its roots; rows of them; a hub's value. -/
namespace Go.Proofs.YthlhnokgcnieeadGreat
open Go.ChangeShapes Go.WideShapes Go.ChangeAt Go.RowKit
open Orangery (Pl Mv Stp Rc Pr Hb)

/-- a peer in memory: it, its roots' address, the room there -/
abbrev Pm := Pr × Option Addr × Nat
abbrev prV (f q : Int) (r : Value) : Value := .agg #[.int .i64 f, .int .i64 q, r]
abbrev Pm.val (x : Pm) : Value := prV x.1.1 x.1.2.1 (.slice x.2.1 x.1.2.2.length x.2.2)
def prC (x : Pm) : List Value := [.int .i64 x.1.1, .int .i64 x.1.2.1, .slice x.2.1 x.1.2.2.length x.2.2]
theorem prC_val (x : Pm) : x.val = .agg (prC x).toArray := rfl
theorem prC_len (x : Pm) : (prC x).length = 3 := rfl
theorem prC_one (x : Pm) : ∀ v ∈ prC x, v.oneCell' = true := by
  intro v hv
  simp [prC] at hv
  rcases hv with rfl | rfl | rfl <;> rfl
theorem pr_cells {w : World} {b o : Nat} {x : Pm} (h : w.rangeAt b o (prC x)) :
    w.cell? ⟨b, o, none⟩ = some (.int .i64 x.1.1) ∧ w.cell? ⟨b, o + 1, none⟩ = some (.int .i64 x.1.2.1) ∧ w.cell? ⟨b, o + 2, none⟩ = some (.slice x.2.1 x.1.2.2.length x.2.2) :=
  ⟨h 0 _ rfl, h 1 _ rfl, h 2 _ rfl⟩
theorem infoPeer : (Tryz.prog.info? 52).map (fun i => (i.zero, i.size, i.bytes)) = some (some (.agg #[.int .i64 0, .int .i64 0, .slice none 0 0]), 3, 40) := by kernel_rfl
theorem sizePeer : (Tryz.prog.info? 52).map (·.size) = some 3 := by kernel_rfl
theorem sizeHub : (Tryz.prog.info? 30).map (·.size) = some 4 := by kernel_rfl

/-- its roots read -/
def PIn (w : World) (x : Pm) : Prop := SlI w x.2.1 x.1.2.2 ∧ x.1.2.2.length ≤ maxLen
theorem PIn.keep {w w' : World} {x : Pm} (h : PIn w x) (hb : Below w.heap.size w w') : PIn w' x := ⟨h.1.below hb, h.2⟩
theorem PIn.nil (w : World) (f q : Int) (c : Nat) : PIn w ((f, q, []), none, c) := ⟨Or.inl rfl, by unfold maxLen; simp⟩
/-- a row of peers that is read -/
structure SlH (w : World) (a : Option Addr) (X : List Pm) : Prop where
  reads : SlE prC w a X
  roots : ∀ x ∈ X, PIn w x
theorem SlH.keep {w w' : World} {a : Option Addr} {X : List Pm} (h : SlH w a X) (hb : Below w.heap.size w w') : SlH w' a X := ⟨h.reads.below hb, fun x hx => (h.roots x hx).keep hb⟩

/-- the value of a hub -/
abbrev huV (s t : Value) (n : Int) (p : Value) : Value := .agg #[s, t, .int .i64 n, p]
/-- the value v is the hub h -/
structure HuAt (w : World) (a p q : Option Addr) (X : List Pm) (h : Hb) : Prop where
  steps : SlE stC w a h.1.1
  places : SlP w p h.1.2
  peers : SlH w q X
  are : X.map (·.1) = h.2.2
  few1 : h.1.1.length * 88 ≤ 140737488351232
  few2 : h.1.2.length ≤ maxLen
  few3 : X.length ≤ maxLen
theorem HuAt.keep {w w' : World} {a p q : Option Addr} {X : List Pm} {h : Hb} (hh : HuAt w a p q X h) (hb : Below w.heap.size w w') : HuAt w' a p q X h :=
  ⟨hh.steps.below hb, hh.places.below hb, hh.peers.keep hb, hh.are, hh.few1, hh.few2, hh.few3⟩
def HuIs (w : World) (v : Value) (h : Hb) : Prop :=
  ∃ a c p d q g X, v = huV (.slice a h.1.1.length c) (.slice p h.1.2.length d) h.2.1 (.slice q X.length g) ∧ HuAt w a p q X h
theorem HuIs.keep {w w' : World} {v : Value} {h : Hb} (hh : HuIs w v h) (hb : Below w.heap.size w w') : HuIs w' v h := by
  obtain ⟨a, c, p, d, q, g, X, e, hx⟩ := hh
  exact ⟨a, c, p, d, q, g, X, e, hx.keep hb⟩
theorem HuIs.no (w : World) : HuIs w (huV (.slice none 0 0) (.slice none 0 0) 0 (.slice none 0 0)) Orangery.noHb :=
  ⟨none, 0, none, 0, none, 0, [], rfl, ⟨Or.inl rfl, Or.inl rfl, ⟨Or.inl rfl, by intro x hx; simp at hx⟩, rfl, by simp [Orangery.noHb], by simp [Orangery.noHb, maxLen], by simp [maxLen]⟩⟩

/-- another block is written -/
theorem SlE.apartH {α : Type} {enc : α → List Value} {w w' : World} {a : Option Addr} {l : List α} (h : SlE enc w a l) (hs : w.heap.size ≤ w'.heap.size)
    (hk : ∀ b off, a = some ⟨b, off, none⟩ → b < w.heap.size → w'.heap[b]? = w.heap[b]?) : SlE enc w' a l := by
  rcases h with h | ⟨b, off, ha, hb, hr⟩
  · exact Or.inl h
  · refine Or.inr ⟨b, off, ha, by omega, fun j v hv => ?_⟩
    rw [World.cell?_of_block (w := w) (w' := w') (a := ⟨b, off + j, none⟩) (hk b off ha hb)]
    exact hr j v hv
theorem SlI.apartH {w w' : World} {a : Option Addr} {l : List Int} (h : SlI w a l) (hs : w.heap.size ≤ w'.heap.size)
    (hk : ∀ b off, a = some ⟨b, off, none⟩ → b < w.heap.size → w'.heap[b]? = w.heap[b]?) : SlI w' a l := by
  rcases h with h | ⟨b, off, ha, hb, hr⟩
  · exact Or.inl h
  · refine Or.inr ⟨b, off, ha, by omega, fun j hj => ?_⟩
    rw [World.cell?_of_block (w := w) (w' := w') (a := ⟨b, off + j, none⟩) (hk b off ha hb)]
    exact hr j hj
theorem SlP.apartH {w w' : World} {a : Option Addr} {l : List Pl} (h : SlP w a l) (hs : w.heap.size ≤ w'.heap.size)
    (hk : ∀ b off, a = some ⟨b, off, none⟩ → b < w.heap.size → w'.heap[b]? = w.heap[b]?) : SlP w' a l := by
  rcases h with h | ⟨b, off, ha, hb, hr⟩
  · exact Or.inl h
  · refine Or.inr ⟨b, off, ha, by omega, fun i hi => ?_⟩
    have hbl := hk b off ha hb
    obtain ⟨h1, h2, h3⟩ := hr i hi
    exact ⟨by rw [World.cell?_of_block (w := w) (w' := w') (by exact hbl)]; exact h1, by rw [World.cell?_of_block (w := w) (w' := w') (by exact hbl)]; exact h2, by rw [World.cell?_of_block (w := w) (w' := w') (by exact hbl)]; exact h3⟩

/-- peers held against each other -/
def sameP (x y : Pr) : Bool := decide (x = y)
def eqPs : List Pm → List Pm → Bool
  | [], [] => true
  | x :: X, y :: Y => sameP x.1 y.1 && eqPs X Y
  | _, _ => false
theorem sameP_iff (x y : Pr) : sameP x y = true ↔ x = y := by simp [sameP]
theorem eqPs_iff (X : List Pm) : ∀ Y : List Pm, eqPs X Y = true ↔ X.map (·.1) = Y.map (·.1) := by
  induction X with
  | nil =>
    intro Y
    cases Y with
    | nil => simp [eqPs]
    | cons y Y => simp [eqPs]
  | cons x X ih =>
    intro Y
    cases Y with
    | nil => simp [eqPs]
    | cons y Y =>
      rw [eqPs, Bool.and_eq_true, sameP_iff, ih Y]
      simp
theorem eqPs_yes {X Y : List Pm} (h : X.map (·.1) = Y.map (·.1)) : eqPs X Y = true := (eqPs_iff X Y).2 h
theorem eqPs_no {X Y : List Pm} (h : X.map (·.1) ≠ Y.map (·.1)) : eqPs X Y = false := by
  cases hq : eqPs X Y
  · rfl
  · exact absurd ((eqPs_iff X Y).1 hq) h
theorem mapP_ne {X Y : List Pm} {k : Nat} (hx : k < X.length) (hy : k < Y.length) (h : X[k].1 ≠ Y[k].1) : X.map (·.1) ≠ Y.map (·.1) := by
  intro e
  have h1 : (X.map (·.1))[k]? = some X[k].1 := by simp [hx]
  have h2 : (Y.map (·.1))[k]? = some Y[k].1 := by simp [hy]
  rw [e, h2] at h1
  exact h (by simpa using h1.symm)
end Go.Proofs.YthlhnokgcnieeadGreat

