/- 2 texts of the proof: Mail in memory: the blocks that its lists lie in; way.clone. way.used: all zero that a kind has no use for. -/
import Derived.Test.YtljbchkmoekpmadGreatP10
/- Mail in memory: the blocks that its lists lie in; way.clone. -/
namespace Go.Proofs.YtljbchkmoekpmadGreat
open Go.ChangeShapes Go.WideShapes Go.ChangeAt Go.RowKit
open Orangery (Pl Mv Vw Dl Ml noVw noDl noMl viewME deltaME ml1E mlsE mlE sameV sameD noOp viewE deltaE rootsOk check)

/-- its lists lie in blocks of D -/
def MlD (D : Nat → Prop) (x : Mm) : Prop :=
  InL D x.2.1.1.1 x.1.2.2.1.1 ∧ InL D x.2.1.2.1.1 x.1.2.2.1.2.1 ∧ InL D x.2.1.2.2.1 x.1.2.2.1.2.2 ∧ InL D x.2.2.1.1 x.1.2.2.2.1 ∧ InL D x.2.2.2.1.1 x.1.2.2.2.2.1 ∧ InL D x.2.2.2.2.1.1 x.1.2.2.2.2.2.1 ∧ InL D x.2.2.2.2.2.1 x.1.2.2.2.2.2.2
theorem MlD.imp {D D' : Nat → Prop} {x : Mm} (h : MlD D x) (hg : ∀ b, D b → D' b) : MlD D' x :=
  ⟨h.1.imp hg, h.2.1.imp hg, h.2.2.1.imp hg, h.2.2.2.1.imp hg, h.2.2.2.2.1.imp hg, h.2.2.2.2.2.1.imp hg, h.2.2.2.2.2.2.imp hg⟩
theorem MlD.and {D D' : Nat → Prop} {x : Mm} (h : MlD D x) (k : MlD D' x) : MlD (fun b => D b ∧ D' b) x :=
  ⟨h.1.and k.1, h.2.1.and k.2.1, h.2.2.1.and k.2.2.1, h.2.2.2.1.and k.2.2.2.1, h.2.2.2.2.1.and k.2.2.2.2.1, h.2.2.2.2.2.1.and k.2.2.2.2.2.1, h.2.2.2.2.2.2.and k.2.2.2.2.2.2⟩
theorem MlIn.isin {w : World} {x : Mm} (h : MlIn w x) : MlD (· < w.heap.size) x := ⟨h.lr.isin, h.lk.isin, h.lv.isin, h.lg.isin, h.lh.isin, h.lx.isin, h.ly.isin⟩
theorem SlI.apartL {w w' : World} {a : Option Addr} {l : List Int} {D : Nat → Prop} (h : SlI w a l) (d : InL D a l) (hs : w.heap.size ≤ w'.heap.size) (hk : ∀ b, D b → b < w.heap.size → w'.heap[b]? = w.heap[b]?) : SlI w' a l := by
  rcases d with rfl | d
  · exact Or.inl rfl
  · exact h.apartH hs (fun b off e hb => hk b (d b off e) hb)
theorem SlP.apartL {w w' : World} {a : Option Addr} {l : List Pl} {D : Nat → Prop} (h : SlP w a l) (d : InL D a l) (hs : w.heap.size ≤ w'.heap.size) (hk : ∀ b, D b → b < w.heap.size → w'.heap[b]? = w.heap[b]?) : SlP w' a l := by
  rcases d with rfl | d
  · exact Or.inl rfl
  · exact h.apartH hs (fun b off e hb => hk b (d b off e) hb)
theorem MlIn.apart {w w' : World} {x : Mm} {D : Nat → Prop} (h : MlIn w x) (d : MlD D x) (hs : w.heap.size ≤ w'.heap.size) (hk : ∀ b, D b → b < w.heap.size → w'.heap[b]? = w.heap[b]?) : MlIn w' x :=
  ⟨h.lr.apartL d.1 hs hk, h.lk.apartL d.2.1 hs hk, h.lv.apartL d.2.2.1 hs hk, h.lg.apartL d.2.2.2.1 hs hk, h.lh.apartL d.2.2.2.2.1 hs hk, h.lx.apartL d.2.2.2.2.2.1 hs hk, h.ly.apartL d.2.2.2.2.2.2 hs hk, h.few, h.nils⟩
theorem MlIn.sets {w : World} {x : Mm} {D : Nat → Prop} (h : MlIn w x) (d : MlD D x) (g : Nat) (hg : ∀ b, D b → b ≠ g) (us : List Value) (o : Nat) : MlIn (w.setCells g o us) x :=
  h.apart d (by simp [Go.Sort.size_setCells]) (fun b hb _ => sets_heap b g (hg b hb) us o w)
theorem MlIn.grown {w w' : World} {x : Mm} {D : Nat → Prop} {row : Option Nat} (h : MlIn w x) (d : MlD D x) (hg : w.grownBy w' row) (hne : ∀ b, D b → some b ≠ row) : MlIn w' x :=
  h.apart d hg.size (fun b hb hl => hg.block b hl (hne b hb))
/-- its lists are short -/
def MlFew (x : Ml) : Prop := x.2.2.1.1.length ≤ 1000 ∧ x.2.2.1.2.1.length ≤ 1000 ∧ x.2.2.1.2.2.length ≤ 1000 ∧ x.2.2.2.1.length ≤ 1000 ∧ x.2.2.2.2.1.length ≤ 1000 ∧ x.2.2.2.2.2.1.length ≤ 1000 ∧ x.2.2.2.2.2.2.length ≤ 1000

/-- what way.clone has made of its box when the view is cloned -/
def ClV (w : World) (B : Nat) (x : Mm) (W : World) : Prop :=
  ∃ p : Ad × Ad × Ad, Blk W B (mlC (x.1, p, x.2.2)) ∧ Blk W (B + 1) zeroMail ∧ SlI W p.1.1 x.1.2.2.1.1 ∧ SlP W p.2.1.1 x.1.2.2.1.2.1 ∧ SlP W p.2.2.1 x.1.2.2.1.2.2 ∧
    InL (B + 2 ≤ ·) p.1.1 x.1.2.2.1.1 ∧ InL (B + 2 ≤ ·) p.2.1.1 x.1.2.2.1.2.1 ∧ InL (B + 2 ≤ ·) p.2.2.1 x.1.2.2.1.2.2 ∧ (p.2.1.1 = none → p.2.1.2 = 0) ∧ (p.2.2.1 = none → p.2.2.2 = 0) ∧ Below w.heap.size w W
/-- .. and the delta -/
def ClD (w : World) (B : Nat) (x : Mm) (W : World) : Prop :=
  ∃ y : Mm, y.1 = x.1 ∧ Blk W B (mlC y) ∧ Blk W (B + 1) zeroMail ∧ MlIn W y ∧ MlD (B + 2 ≤ ·) y ∧ Below w.heap.size w W
theorem own_none {α : Type} {enc : α → List Value} {k : Nat} {e : TypeId} {w : World} {base : Nat} {a : Option Addr} {n c : Nat} {l : List α} (h : w.ownsRow base e k (.slice a n c) n (l.flatMap enc)) (ha : a = none) : c = 0 := by
  subst ha
  rcases h.2 with ⟨h', _⟩ | ⟨g, cap, cur, h', _⟩
  · simpa using (by simpa using h' : _ ∧ _).2
  · simp at h'
theorem ownS_none {w : World} {base : Nat} {a : Option Addr} {c : Nat} {l : List Pl} (h : OwnS w base (.slice a l.length c) l) (ha : a = none) : c = 0 := own_none h.row ha
theorem set3 (w : World) (g o : Nat) (u v x : Value) : w.setCells g o [u, v, x] = ((w.setCell ⟨g, o, none⟩ u).setCell ⟨g, o + 1, none⟩ v).setCell ⟨g, o + 1 + 1, none⟩ x := rfl
theorem set4 (w : World) (g o : Nat) (u v x y : Value) : w.setCells g o [u, v, x, y] = (((w.setCell ⟨g, o, none⟩ u).setCell ⟨g, o + 1, none⟩ v).setCell ⟨g, o + 1 + 1, none⟩ x).setCell ⟨g, o + 1 + 1 + 1, none⟩ y := rfl
theorem Blk.part {w : World} {b o : Nat} {vs us : List Value} (h : Blk w b vs) (ho : o + us.length ≤ vs.length) : w.there b o us.length := fun j hj =>
  ⟨by rw [h.at (o + j) (List.getElem?_eq_getElem (by omega))]; rfl, h.frz _⟩

set_option maxHeartbeats 4000000 in
set_option maxRecDepth 100000 in
theorem wclone_any (w : World) (x : Mm) (hx : MlIn w x) (hf : MlFew x.1) : Calls Tryz.prog 76 #[x.val] w fun e w' => ∃ y : Mm, e = .returned y.val ∧ y.1 = x.1 ∧ MlIn w' y ∧ MlD (w.heap.size ≤ ·) y ∧ Below w.heap.size w w' := by
  obtain ⟨cx, hcx⟩ : ∃ c, c = mlC x := ⟨_, rfl⟩
  have HCX : Hid (cx = mlC x) := hcx
  show Calls Tryz.prog _ #[.agg (mlC x).toArray] w _
  rw [← hcx]
  clear hcx
  obtain ⟨W0, hW, hA, hC, hB, -⟩ := laid2 w cx 74 [Value.int .i64 0, .int .i64 0, .int .i64 0, .int .i64 0, .int .i64 0, .int .i64 0, .int .i64 0, .int .i64 0, .int .i64 0, .int .i64 0, .int .i64 0, .int .i64 0, .int .i64 0, .int .i64 0, .slice none 0 0, .slice none 0 0, .slice none 0 0, .slice none 0 0, .slice none 0 0, .slice none 0 0, .slice none 0 0] 74
  rw [HCX.out] at hA
  have HA : Hid (Blk W0 w.heap.size (mlC x)) := hA
  have HC : Hid (Blk W0 (w.heap.size + 1) zeroMail) := hC
  have HX := Lib.hid hx
  have HB0 := Lib.hid hB
  have HF := Lib.hid hf
  clear hx hB hA hC hf HCX
  go_enter Tryz.func76, Tryz.ntmps76
  go_upto_region 1 with fail
  clear hW
  go_cut [1, 2] from 3 to 16 (fun p q wc => p = .pointer (some ⟨w.heap.size, 0, none⟩) ∧ q = .pointer (some ⟨w.heap.size + 1, 0, none⟩) ∧ ClV w w.heap.size x wc)
  case first =>
    refine wp_region_until 14 (S := fun w' => Blk w' w.heap.size (mlC x) ∧ Blk w' (w.heap.size + 1) zeroMail ∧ Below w.heap.size w w' ∧ Below W0.heap.size W0 w') (by kernel_rfl) ⟨HA.out, HC.out, HB0.out.drew, (Below.refl _ W0).drew⟩ (fun hHeld => ?_)
    refine takeU_yes 4 0 3 (v := ?_) rfl rfl (by kernel_rfl) (by kernel_rfl) (by kernel_rfl) (by kernel_rfl) (by decide) (by kernel_rfl) (fun _ _ _ h => h) (by rfl) ?_ hHeld ?_
    rotate_left 1
    · (intro w9 hSw; skip; go_simp; try with_reducible rfl)
    simp only [Act.put, List.setIfInBounds_toArray, List.set_cons_succ, List.set_cons_zero]
    refine takeU_yes 4 1 4 (v := ?_) rfl rfl (by kernel_rfl) (by kernel_rfl) (by kernel_rfl) (by kernel_rfl) (by decide) (by kernel_rfl) (fun _ _ _ h => h) (by rfl) ?_ hHeld ?_
    rotate_left 1
    · (intro w9 hSw; skip; go_simp; try with_reducible rfl)
    simp only [Act.put, List.setIfInBounds_toArray, List.set_cons_succ, List.set_cons_zero]
    refine takeU_yes 4 2 5 (v := ?_) rfl rfl (by kernel_rfl) (by kernel_rfl) (by kernel_rfl) (by kernel_rfl) (by decide) (by kernel_rfl) (fun _ _ _ h => h) (by rfl) ?_ hHeld ?_
    rotate_left 1
    · (intro w9 hSw; have q1 := hSw.1.at 14 rfl; go_simp; try with_reducible rfl)
    simp only [Act.put, List.setIfInBounds_toArray, List.set_cons_succ, List.set_cons_zero]
    refine takeU_yes 4 4 7 (v := ?_) rfl rfl (by kernel_rfl) (by kernel_rfl) (by kernel_rfl) (by kernel_rfl) (by decide) (by kernel_rfl) (fun _ _ _ h => h) (by rfl) ?_ hHeld ?_
    rotate_left 1
    · (intro w9 hSw; skip; go_simp; try with_reducible rfl)
    simp only [Act.put, List.setIfInBounds_toArray, List.set_cons_succ, List.set_cons_zero]
    refine takeU_yes 4 5 8 (v := ?_) rfl rfl (by kernel_rfl) (by kernel_rfl) (by kernel_rfl) (by kernel_rfl) (by decide) (by kernel_rfl) (fun _ _ _ h => h) (by rfl) ?_ hHeld ?_
    rotate_left 1
    · (intro w9 hSw; skip; go_simp; try with_reducible rfl)
    simp only [Act.put, List.setIfInBounds_toArray, List.set_cons_succ, List.set_cons_zero]
    refine takeU_yes 4 6 9 (v := ?_) rfl rfl (by kernel_rfl) (by kernel_rfl) (by kernel_rfl) (by kernel_rfl) (by decide) (by kernel_rfl) (fun _ _ _ h => h) (by rfl) ?_ hHeld ?_
    rotate_left 1
    · (intro w9 hSw; have q1 := hSw.1.at 15 rfl; go_simp; try with_reducible rfl)
    simp only [Act.put, List.setIfInBounds_toArray, List.set_cons_succ, List.set_cons_zero]
    refine takeU_yes 4 8 11 (v := ?_) rfl rfl (by kernel_rfl) (by kernel_rfl) (by kernel_rfl) (by kernel_rfl) (by decide) (by kernel_rfl) (fun _ _ _ h => h) (by rfl) ?_ hHeld ?_
    rotate_left 1
    · (intro w9 hSw; skip; go_simp; try with_reducible rfl)
    simp only [Act.put, List.setIfInBounds_toArray, List.set_cons_succ, List.set_cons_zero]
    refine takeU_yes 4 9 12 (v := ?_) rfl rfl (by kernel_rfl) (by kernel_rfl) (by kernel_rfl) (by kernel_rfl) (by decide) (by kernel_rfl) (fun _ _ _ h => h) (by rfl) ?_ hHeld ?_
    rotate_left 1
    · (intro w9 hSw; skip; go_simp; try with_reducible rfl)
    simp only [Act.put, List.setIfInBounds_toArray, List.set_cons_succ, List.set_cons_zero]
    refine takeU_yes 4 10 13 (v := ?_) rfl rfl (by kernel_rfl) (by kernel_rfl) (by kernel_rfl) (by kernel_rfl) (by decide) (by kernel_rfl) (fun _ _ _ h => h) (by rfl) ?_ hHeld ?_
    rotate_left 1
    · (intro w9 hSw; have q1 := hSw.1.at 16 rfl; go_simp; try with_reducible rfl)
    simp only [Act.put, List.setIfInBounds_toArray, List.set_cons_succ, List.set_cons_zero]
    refine wpAnyU_ready (rs := [3]) (by kernel_rfl) (by simp) ?_
    refine AllReadyU.cons rfl (fun KK hKK => ?_) AllReadyU.nil
    go_simp
    refine (cloneInts_any W0.drew x.2.1.1.1 x.2.1.1.2 x.1.2.2.1.1 HF.out.1 (HX.out.keep hHeld.2.2.1).lr).mono ?_
    rintro e w3 ⟨v, rfl, hO0, hb⟩
    obtain ⟨a0, c0, rfl, hr0⟩ := hO0.val
    have hi0 : InL (w.heap.size + 2 ≤ ·) a0 x.1.2.2.1.1 := (row_in hO0).imp (fun b hb => by have h1 := hHeld.2.1.lt; exact Nat.le_trans h1 hb)
    clear hO0
    have hHeld2 := hHeld
    refine hKK.out _ _ (⟨hHeld2.1.keep hb, hHeld2.2.1.keep hb, hHeld2.2.2.1.trans (hb.mono hHeld2.2.2.1.size), hHeld2.2.2.2.trans (hb.mono hHeld2.2.2.2.size)⟩) (fun hHeld => ?_)
    clear hKK KK hHeld2 hb
    refine wpAnyU_ready (rs := [7]) (by kernel_rfl) (by simp) ?_
    refine AllReadyU.cons rfl (fun KK hKK => ?_) AllReadyU.nil
    go_simp
    refine (clone_any w3 x.2.1.2.1.1 x.2.1.2.1.2 x.1.2.2.1.2.1 HF.out.2.1 (HX.out.keep hHeld.2.2.1).lk).mono ?_
    rintro e w4 ⟨v, rfl, hO1, hb⟩
    obtain ⟨a1, c1, rfl⟩ := hO1.val
    have hr1 := hO1.read
    have hi1 : InL (w.heap.size + 2 ≤ ·) a1 x.1.2.2.1.2.1 := (row_in hO1.row).imp (fun b hb => by have h1 := hHeld.2.1.lt; exact Nat.le_trans h1 hb)
    have hn1 : a1 = none → c1 = 0 := fun h => ownS_none hO1 h
    clear hO1
    have hr0 := hr0.below hb
    have hHeld2 := hHeld
    refine hKK.out _ _ (⟨hHeld2.1.keep hb, hHeld2.2.1.keep hb, hHeld2.2.2.1.trans (hb.mono hHeld2.2.2.1.size), hHeld2.2.2.2.trans (hb.mono hHeld2.2.2.2.size)⟩) (fun hHeld => ?_)
    clear hKK KK hHeld2 hb
    refine wpAnyU_ready (rs := [11]) (by kernel_rfl) (by simp) ?_
    refine AllReadyU.cons rfl (fun KK hKK => ?_) AllReadyU.nil
    go_simp
    refine (clone_any w4 x.2.1.2.2.1 x.2.1.2.2.2 x.1.2.2.1.2.2 HF.out.2.2.1 (HX.out.keep hHeld.2.2.1).lv).mono ?_
    rintro e w5 ⟨v, rfl, hO2, hb⟩
    obtain ⟨a2, c2, rfl⟩ := hO2.val
    have hr2 := hO2.read
    have hi2 : InL (w.heap.size + 2 ≤ ·) a2 x.1.2.2.1.2.2 := (row_in hO2.row).imp (fun b hb => by have h1 := hHeld.2.1.lt; exact Nat.le_trans h1 hb)
    have hn2 : a2 = none → c2 = 0 := fun h => ownS_none hO2 h
    clear hO2
    have hr0 := hr0.below hb
    have hr1 := hr1.below hb
    have hHeld2 := hHeld
    refine hKK.out _ _ (⟨hHeld2.1.keep hb, hHeld2.2.1.keep hb, hHeld2.2.2.1.trans (hb.mono hHeld2.2.2.1.size), hHeld2.2.2.2.trans (hb.mono hHeld2.2.2.2.size)⟩) (fun hHeld => ?_)
    clear hKK KK hHeld2 hb
    refine takeU_yes 4 12 15 (v := ?_) rfl rfl (by kernel_rfl) (by kernel_rfl) (by kernel_rfl) (by kernel_rfl) (by decide) (by kernel_rfl) (fun _ _ _ h => h) (by rfl) ?_ hHeld ?_
    rotate_left 1
    · (intro w9 hSw; skip; go_simp; try with_reducible rfl)
    simp only [Act.put, List.setIfInBounds_toArray, List.set_cons_succ, List.set_cons_zero]
    refine takeU_yes 4 13 16 (v := ?_) rfl rfl (by kernel_rfl) (by kernel_rfl) (by kernel_rfl) (by kernel_rfl) (by decide) (by kernel_rfl) (fun _ _ _ h => h) (by rfl) ?_ hHeld ?_
    rotate_left 1
    · (intro w9 hSw; skip; go_simp; try with_reducible rfl)
    simp only [Act.put, List.setIfInBounds_toArray, List.set_cons_succ, List.set_cons_zero]
    have hA5 := hHeld.1
    have hC5 := hHeld.2.1
    have hB5 := hHeld.2.2.1
    have hV5 := hHeld.2.2.2
    clear hHeld
    refine wpAnyU_last (by kernel_rfl) rfl (fun KK hKK => ?_)
    rw [if_pos (by rfl)]
    refine wp_store_mid 42 _ _ rfl w.heap.size 14 #[.slice a0 x.1.2.2.1.1.length c0, .slice a1 x.1.2.2.1.2.1.length c1, .slice a2 x.1.2.2.1.2.2.length c2] rfl rfl (hA5.part (us := [.slice a0 x.1.2.2.1.1.length c0, .slice a1 x.1.2.2.1.2.1.length c1, .slice a2 x.1.2.2.1.2.2.length c2]) (by show 14 + 3 ≤ 21; decide)) sizeView (all_oneCell_toArray (by intro v hv; simp at hv; rcases hv with rfl | rfl | rfl <;> rfl)) ?_
    refine hKK.out _ _ ?_
    clear hKK KK
    refine wpAnyU_done (by kernel_rfl) ?_ _
    have HREL : Hid (ClV w w.heap.size x (w5.setCells w.heap.size 14 [.slice a0 x.1.2.2.1.1.length c0, .slice a1 x.1.2.2.1.2.1.length c1, .slice a2 x.1.2.2.1.2.2.length c2])) := by
      refine ⟨((a0, c0), (a1, c1), (a2, c2)), ?_, hC5.others (by omega) _ _, ?_, ?_, ?_, hi0, hi1, hi2, hn1, hn2, below_sets hB5 w.heap.size (Nat.le_refl _) _ 14⟩
      · exact ((hA5.set 14 (by show _ < 21; decide) (.slice a0 x.1.2.2.1.1.length c0)).set 15 (by show _ < 21; decide) (.slice a1 x.1.2.2.1.2.1.length c1)).set 16 (by show _ < 21; decide) (.slice a2 x.1.2.2.1.2.2.length c2)
      · exact hr0.setsO (hi0.off (fun b hb => by omega)) _ _
      · exact hr1.sets (hi1.off (fun b hb => by omega)) _ _
      · exact hr2.sets (hi2.off (fun b hb => by omega)) _ _
    clear hA5 hC5 hB5 hV5 hr0 hr1 hr2 hi0 hi1 hi2 hn1 hn2
    go_wp2
    go_meet
    case rel => exact ⟨rfl, rfl, HREL.out⟩
  case rest =>
  obtain ⟨rfl, rfl, p, hA1, hC1, l0, l1, l2, d0, d1, d2, n1, n2, hb1⟩ := hcut
  have HA1 := Lib.hid hA1
  have HC1 := Lib.hid hC1
  have HL1 := Lib.hid (And.intro l0 (And.intro l1 l2))
  have HD1 := Lib.hid (And.intro d0 (And.intro d1 d2))
  have HN1 := Lib.hid (And.intro n1 n2)
  have HB1 := Lib.hid hb1
  clear hA1 hC1 l0 l1 l2 d0 d1 d2 n1 n2 hb1 HA HC HB0
  rename World => W1
  go_upto_region 2 with fail
  go_cut [1, 2] from 17 to 34 (fun p q wc => p = .pointer (some ⟨w.heap.size, 0, none⟩) ∧ q = .pointer (some ⟨w.heap.size + 1, 0, none⟩) ∧ ClD w w.heap.size x wc)
  case first =>

    refine wp_region_until 18 (S := fun w' => Blk w' w.heap.size (mlC (x.1, p, x.2.2)) ∧ Blk w' (w.heap.size + 1) zeroMail ∧ Below w.heap.size w w' ∧ Below W1.heap.size W1 w') (by kernel_rfl) ⟨HA1.out, HC1.out, HB1.out.drew, (Below.refl _ W1).drew⟩ (fun hHeld => ?_)
    refine takeU_yes 4 0 17 (v := ?_) rfl rfl (by kernel_rfl) (by kernel_rfl) (by kernel_rfl) (by kernel_rfl) (by decide) (by kernel_rfl) (fun _ _ _ h => h) (by rfl) ?_ hHeld ?_
    rotate_left 1
    · (intro w9 hSw; skip; go_simp; try with_reducible rfl)
    simp only [Act.put, List.setIfInBounds_toArray, List.set_cons_succ, List.set_cons_zero]
    refine takeU_yes 4 1 18 (v := ?_) rfl rfl (by kernel_rfl) (by kernel_rfl) (by kernel_rfl) (by kernel_rfl) (by decide) (by kernel_rfl) (fun _ _ _ h => h) (by rfl) ?_ hHeld ?_
    rotate_left 1
    · (intro w9 hSw; skip; go_simp; try with_reducible rfl)
    simp only [Act.put, List.setIfInBounds_toArray, List.set_cons_succ, List.set_cons_zero]
    refine takeU_yes 4 2 19 (v := ?_) rfl rfl (by kernel_rfl) (by kernel_rfl) (by kernel_rfl) (by kernel_rfl) (by decide) (by kernel_rfl) (fun _ _ _ h => h) (by rfl) ?_ hHeld ?_
    rotate_left 1
    · (intro w9 hSw; have q1 := hSw.1.at 17 rfl; go_simp; try with_reducible rfl)
    simp only [Act.put, List.setIfInBounds_toArray, List.set_cons_succ, List.set_cons_zero]
    refine takeU_yes 4 4 21 (v := ?_) rfl rfl (by kernel_rfl) (by kernel_rfl) (by kernel_rfl) (by kernel_rfl) (by decide) (by kernel_rfl) (fun _ _ _ h => h) (by rfl) ?_ hHeld ?_
    rotate_left 1
    · (intro w9 hSw; skip; go_simp; try with_reducible rfl)
    simp only [Act.put, List.setIfInBounds_toArray, List.set_cons_succ, List.set_cons_zero]
    refine takeU_yes 4 5 22 (v := ?_) rfl rfl (by kernel_rfl) (by kernel_rfl) (by kernel_rfl) (by kernel_rfl) (by decide) (by kernel_rfl) (fun _ _ _ h => h) (by rfl) ?_ hHeld ?_
    rotate_left 1
    · (intro w9 hSw; skip; go_simp; try with_reducible rfl)
    simp only [Act.put, List.setIfInBounds_toArray, List.set_cons_succ, List.set_cons_zero]
    refine takeU_yes 4 6 23 (v := ?_) rfl rfl (by kernel_rfl) (by kernel_rfl) (by kernel_rfl) (by kernel_rfl) (by decide) (by kernel_rfl) (fun _ _ _ h => h) (by rfl) ?_ hHeld ?_
    rotate_left 1
    · (intro w9 hSw; have q1 := hSw.1.at 18 rfl; go_simp; try with_reducible rfl)
    simp only [Act.put, List.setIfInBounds_toArray, List.set_cons_succ, List.set_cons_zero]
    refine takeU_yes 4 8 25 (v := ?_) rfl rfl (by kernel_rfl) (by kernel_rfl) (by kernel_rfl) (by kernel_rfl) (by decide) (by kernel_rfl) (fun _ _ _ h => h) (by rfl) ?_ hHeld ?_
    rotate_left 1
    · (intro w9 hSw; skip; go_simp; try with_reducible rfl)
    simp only [Act.put, List.setIfInBounds_toArray, List.set_cons_succ, List.set_cons_zero]
    refine takeU_yes 4 9 26 (v := ?_) rfl rfl (by kernel_rfl) (by kernel_rfl) (by kernel_rfl) (by kernel_rfl) (by decide) (by kernel_rfl) (fun _ _ _ h => h) (by rfl) ?_ hHeld ?_
    rotate_left 1
    · (intro w9 hSw; skip; go_simp; try with_reducible rfl)
    simp only [Act.put, List.setIfInBounds_toArray, List.set_cons_succ, List.set_cons_zero]
    refine takeU_yes 4 10 27 (v := ?_) rfl rfl (by kernel_rfl) (by kernel_rfl) (by kernel_rfl) (by kernel_rfl) (by decide) (by kernel_rfl) (fun _ _ _ h => h) (by rfl) ?_ hHeld ?_
    rotate_left 1
    · (intro w9 hSw; have q1 := hSw.1.at 19 rfl; go_simp; try with_reducible rfl)
    simp only [Act.put, List.setIfInBounds_toArray, List.set_cons_succ, List.set_cons_zero]
    refine takeU_yes 4 12 29 (v := ?_) rfl rfl (by kernel_rfl) (by kernel_rfl) (by kernel_rfl) (by kernel_rfl) (by decide) (by kernel_rfl) (fun _ _ _ h => h) (by rfl) ?_ hHeld ?_
    rotate_left 1
    · (intro w9 hSw; skip; go_simp; try with_reducible rfl)
    simp only [Act.put, List.setIfInBounds_toArray, List.set_cons_succ, List.set_cons_zero]
    refine takeU_yes 4 13 30 (v := ?_) rfl rfl (by kernel_rfl) (by kernel_rfl) (by kernel_rfl) (by kernel_rfl) (by decide) (by kernel_rfl) (fun _ _ _ h => h) (by rfl) ?_ hHeld ?_
    rotate_left 1
    · (intro w9 hSw; skip; go_simp; try with_reducible rfl)
    simp only [Act.put, List.setIfInBounds_toArray, List.set_cons_succ, List.set_cons_zero]
    refine takeU_yes 4 14 31 (v := ?_) rfl rfl (by kernel_rfl) (by kernel_rfl) (by kernel_rfl) (by kernel_rfl) (by decide) (by kernel_rfl) (fun _ _ _ h => h) (by rfl) ?_ hHeld ?_
    rotate_left 1
    · (intro w9 hSw; have q1 := hSw.1.at 20 rfl; go_simp; try with_reducible rfl)
    simp only [Act.put, List.setIfInBounds_toArray, List.set_cons_succ, List.set_cons_zero]
    refine wpAnyU_ready (rs := [3]) (by kernel_rfl) (by simp) ?_
    refine AllReadyU.cons rfl (fun KK hKK => ?_) AllReadyU.nil
    go_simp
    refine (cloneInts_any W1.drew x.2.2.1.1 x.2.2.1.2 x.1.2.2.2.1 HF.out.2.2.2.1 (HX.out.keep hHeld.2.2.1).lg).mono ?_
    rintro e w3 ⟨v, rfl, hO3, hb⟩
    obtain ⟨a3, c3, rfl, hr3⟩ := hO3.val
    have hi3 : InL (w.heap.size + 2 ≤ ·) a3 x.1.2.2.2.1 := (row_in hO3).imp (fun b hb => by have h1 := hHeld.2.1.lt; exact Nat.le_trans h1 hb)
    clear hO3
    have hHeld2 := hHeld
    refine hKK.out _ _ (⟨hHeld2.1.keep hb, hHeld2.2.1.keep hb, hHeld2.2.2.1.trans (hb.mono hHeld2.2.2.1.size), hHeld2.2.2.2.trans (hb.mono hHeld2.2.2.2.size)⟩) (fun hHeld => ?_)
    clear hKK KK hHeld2 hb
    refine wpAnyU_ready (rs := [7]) (by kernel_rfl) (by simp) ?_
    refine AllReadyU.cons rfl (fun KK hKK => ?_) AllReadyU.nil
    go_simp
    refine (clone_any w3 x.2.2.2.1.1 x.2.2.2.1.2 x.1.2.2.2.2.1 HF.out.2.2.2.2.1 (HX.out.keep hHeld.2.2.1).lh).mono ?_
    rintro e w4 ⟨v, rfl, hO4, hb⟩
    obtain ⟨a4, c4, rfl⟩ := hO4.val
    have hr4 := hO4.read
    have hi4 : InL (w.heap.size + 2 ≤ ·) a4 x.1.2.2.2.2.1 := (row_in hO4.row).imp (fun b hb => by have h1 := hHeld.2.1.lt; exact Nat.le_trans h1 hb)
    have hn4 : a4 = none → c4 = 0 := fun h => ownS_none hO4 h
    clear hO4
    have hr3 := hr3.below hb
    have hHeld2 := hHeld
    refine hKK.out _ _ (⟨hHeld2.1.keep hb, hHeld2.2.1.keep hb, hHeld2.2.2.1.trans (hb.mono hHeld2.2.2.1.size), hHeld2.2.2.2.trans (hb.mono hHeld2.2.2.2.size)⟩) (fun hHeld => ?_)
    clear hKK KK hHeld2 hb
    refine wpAnyU_ready (rs := [11]) (by kernel_rfl) (by simp) ?_
    refine AllReadyU.cons rfl (fun KK hKK => ?_) AllReadyU.nil
    go_simp
    refine (cloneInts_any w4 x.2.2.2.2.1.1 x.2.2.2.2.1.2 x.1.2.2.2.2.2.1 HF.out.2.2.2.2.2.1 (HX.out.keep hHeld.2.2.1).lx).mono ?_
    rintro e w5 ⟨v, rfl, hO5, hb⟩
    obtain ⟨a5, c5, rfl, hr5⟩ := hO5.val
    have hi5 : InL (w.heap.size + 2 ≤ ·) a5 x.1.2.2.2.2.2.1 := (row_in hO5).imp (fun b hb => by have h1 := hHeld.2.1.lt; exact Nat.le_trans h1 hb)
    clear hO5
    have hr3 := hr3.below hb
    have hr4 := hr4.below hb
    have hHeld2 := hHeld
    refine hKK.out _ _ (⟨hHeld2.1.keep hb, hHeld2.2.1.keep hb, hHeld2.2.2.1.trans (hb.mono hHeld2.2.2.1.size), hHeld2.2.2.2.trans (hb.mono hHeld2.2.2.2.size)⟩) (fun hHeld => ?_)
    clear hKK KK hHeld2 hb
    refine wpAnyU_ready (rs := [15]) (by kernel_rfl) (by simp) ?_
    refine AllReadyU.cons rfl (fun KK hKK => ?_) AllReadyU.nil
    go_simp
    refine (clone_any w5 x.2.2.2.2.2.1 x.2.2.2.2.2.2 x.1.2.2.2.2.2.2 HF.out.2.2.2.2.2.2 (HX.out.keep hHeld.2.2.1).ly).mono ?_
    rintro e w6 ⟨v, rfl, hO6, hb⟩
    obtain ⟨a6, c6, rfl⟩ := hO6.val
    have hr6 := hO6.read
    have hi6 : InL (w.heap.size + 2 ≤ ·) a6 x.1.2.2.2.2.2.2 := (row_in hO6.row).imp (fun b hb => by have h1 := hHeld.2.1.lt; exact Nat.le_trans h1 hb)
    have hn6 : a6 = none → c6 = 0 := fun h => ownS_none hO6 h
    clear hO6
    have hr3 := hr3.below hb
    have hr4 := hr4.below hb
    have hr5 := hr5.below hb
    have hHeld2 := hHeld
    refine hKK.out _ _ (⟨hHeld2.1.keep hb, hHeld2.2.1.keep hb, hHeld2.2.2.1.trans (hb.mono hHeld2.2.2.1.size), hHeld2.2.2.2.trans (hb.mono hHeld2.2.2.2.size)⟩) (fun hHeld => ?_)
    clear hKK KK hHeld2 hb
    refine takeU_yes 4 16 33 (v := ?_) rfl rfl (by kernel_rfl) (by kernel_rfl) (by kernel_rfl) (by kernel_rfl) (by decide) (by kernel_rfl) (fun _ _ _ h => h) (by rfl) ?_ hHeld ?_
    rotate_left 1
    · (intro w9 hSw; skip; go_simp; try with_reducible rfl)
    simp only [Act.put, List.setIfInBounds_toArray, List.set_cons_succ, List.set_cons_zero]
    refine takeU_yes 4 17 34 (v := ?_) rfl rfl (by kernel_rfl) (by kernel_rfl) (by kernel_rfl) (by kernel_rfl) (by decide) (by kernel_rfl) (fun _ _ _ h => h) (by rfl) ?_ hHeld ?_
    rotate_left 1
    · (intro w9 hSw; skip; go_simp; try with_reducible rfl)
    simp only [Act.put, List.setIfInBounds_toArray, List.set_cons_succ, List.set_cons_zero]
    have hA5 := hHeld.1
    have hC5 := hHeld.2.1
    have hB5 := hHeld.2.2.1
    have hV5 := hHeld.2.2.2
    clear hHeld
    refine wpAnyU_last (by kernel_rfl) rfl (fun KK hKK => ?_)
    rw [if_pos (by rfl)]
    refine wp_store_mid 72 _ _ rfl w.heap.size 17 #[.slice a3 x.1.2.2.2.1.length c3, .slice a4 x.1.2.2.2.2.1.length c4, .slice a5 x.1.2.2.2.2.2.1.length c5, .slice a6 x.1.2.2.2.2.2.2.length c6] rfl rfl (hA5.part (us := [.slice a3 x.1.2.2.2.1.length c3, .slice a4 x.1.2.2.2.2.1.length c4, .slice a5 x.1.2.2.2.2.2.1.length c5, .slice a6 x.1.2.2.2.2.2.2.length c6]) (by show 17 + 4 ≤ 21; decide)) sizeDelta (all_oneCell_toArray (by intro v hv; simp at hv; rcases hv with rfl | rfl | rfl | rfl <;> rfl)) ?_
    refine hKK.out _ _ ?_
    clear hKK KK
    refine wpAnyU_done (by kernel_rfl) ?_ _
    obtain ⟨l0, l1, l2⟩ := HL1.out
    obtain ⟨d0, d1, d2⟩ := HD1.out
    have HY : Hid (MlIn w6 (x.1, p, ((a3, c3), (a4, c4), (a5, c5), (a6, c6)))) := ⟨l0.below hV5, l1.below hV5, l2.below hV5, hr3, hr4, hr5, hr6, (HX.out).few, HN1.out⟩
    have HDY : Hid (MlD (w.heap.size + 2 ≤ ·) (x.1, p, ((a3, c3), (a4, c4), (a5, c5), (a6, c6)))) := ⟨d0, d1, d2, hi3, hi4, hi5, hi6⟩
    have HREL : Hid (ClD w w.heap.size x (w6.setCells w.heap.size 17 [.slice a3 x.1.2.2.2.1.length c3, .slice a4 x.1.2.2.2.2.1.length c4, .slice a5 x.1.2.2.2.2.2.1.length c5, .slice a6 x.1.2.2.2.2.2.2.length c6])) := by
      refine ⟨(x.1, p, ((a3, c3), (a4, c4), (a5, c5), (a6, c6))), rfl, ?_, hC5.others (by omega) _ _, HY.out.sets HDY.out _ (fun b hb => by omega) _ _, HDY.out, below_sets hB5 w.heap.size (Nat.le_refl _) _ 17⟩
      exact (((hA5.set 17 (by show _ < 21; decide) (.slice a3 x.1.2.2.2.1.length c3)).set 18 (by show _ < 21; decide) (.slice a4 x.1.2.2.2.2.1.length c4)).set 19 (by show _ < 21; decide) (.slice a5 x.1.2.2.2.2.2.1.length c5)).set 20 (by show _ < 21; decide) (.slice a6 x.1.2.2.2.2.2.2.length c6)
    clear hA5 hC5 hB5 hV5 hr3 hr4 hr5 hr6 hi3 hi4 hi5 hi6 hn4 hn6 l0 l1 l2 d0 d1 d2
    go_wp2
    go_meet
    case rel => exact ⟨rfl, rfl, HREL.out⟩
  case rest =>
  obtain ⟨rfl, rfl, y, hyx, hA2, hC2, hyI, hyD, hb2⟩ := hcut
  have HYX := Lib.hid hyx
  have HYI := Lib.hid hyI
  have HYD := Lib.hid hyD
  have HB2 := Lib.hid hb2
  rename World => W2
  have hrg : W2.rangeAt w.heap.size 0 (mlC y) := hA2.range
  have HRG := Lib.hid hrg
  have HC2 := Lib.hid hC2
  have HT : Hid (W2.there (w.heap.size + 1) 0 (mlC y).toArray.size) := by show World.there _ _ _ _; have := hC2.there; exact this
  have HO : Hid ((mlC y).toArray.all (·.oneCell') = true) := all_oneCell_toArray (mlC_one y)
  have HS : Hid ((Tryz.prog.info? 74).map (·.size) = some (mlC y).toArray.size) := sizeMail
  clear hrg hA2 hC2 hyI hyD hb2 hyx HA1 HC1 HL1 HD1 HN1 HB1 HX
  go_wp2_with (first | (refine wpList_load_mid rfl 74 _ rfl w.heap.size 0 rfl (mlC y) _ HRG.out Tryz.underlying74 rfl (sizeMailC y) ?_) | (with_reducible refine at_store 74 ?_; refine wpList_store_mid rfl 74 _ _ rfl (w.heap.size + 1) 0 (mlC y).toArray rfl rfl HT.out HS.out HO.out ?_) | fail)
  have hR := HC2.out.sets (mlC y) rfl
  refine ret_cell Tryz.results76 rfl (hR.load Tryz.underlying74 rfl (sizeMailC y)) ?_
  exact ⟨y, rfl, HYX.out, HYI.out.sets HYD.out _ (fun b hb => by omega) _ _, HYD.out.imp (fun b hb => by omega), below_sets HB2.out (w.heap.size + 1) (by omega) _ _⟩
end Go.Proofs.YtljbchkmoekpmadGreat

/- way.used: all zero that a kind has no use for. -/
namespace Go.Proofs.YtljbchkmoekpmadGreat
open Go.ChangeShapes Go.WideShapes Go.ChangeAt Go.RowKit
open Orangery (Pl Mv Vw Dl Ml noVw noDl noMl noOp)

def nilV : Ad × Ad × Ad := ((none, 0), (none, 0), (none, 0))
def nilD : Ad × Ad × Ad × Ad := ((none, 0), (none, 0), (none, 0), (none, 0))
def useOp (x : Mm) : Mm := (((x.1.1.1, x.1.1.2.1, 0, 0, 0, 0, 0), x.1.2.1, noVw, noDl), nilV, nilD)
def useNo (x : Mm) : Mm := (((x.1.1.1, x.1.1.2.1, x.1.1.2.2.1, x.1.1.2.2.2.1, x.1.1.2.2.2.2.1, x.1.1.2.2.2.2.2.1, 0), noOp, noVw, noDl), nilV, nilD)
def useV (x : Mm) : Mm := (((x.1.1.1, x.1.1.2.1, x.1.1.2.2.1, x.1.1.2.2.2.1, x.1.1.2.2.2.2.1, x.1.1.2.2.2.2.2.1, 0), noOp, x.1.2.2.1, noDl), x.2.1, nilD)
def useD (x : Mm) : Mm := (((x.1.1.1, x.1.1.2.1, x.1.1.2.2.1, x.1.1.2.2.2.1, x.1.1.2.2.2.2.1, x.1.1.2.2.2.2.2.1, x.1.1.2.2.2.2.2.2), noOp, noVw, x.1.2.2.2), nilV, x.2.2)
def usedM (x : Mm) : Mm := if x.1.1.1 = 1 then useOp x else if x.1.1.1 = 2 then useV x else useD x
theorem MlIn.useOp {w : World} {x : Mm} (_h : MlIn w x) : MlIn w (useOp x) :=
  ⟨Or.inl rfl, Or.inl rfl, Or.inl rfl, Or.inl rfl, Or.inl rfl, Or.inl rfl, Or.inl rfl, by simp [Go.Proofs.YtljbchkmoekpmadGreat.useOp, noVw, noDl], ⟨fun _ => rfl, fun _ => rfl⟩⟩
theorem MlIn.useV {w : World} {x : Mm} (h : MlIn w x) : MlIn w (useV x) :=
  ⟨h.lr, h.lk, h.lv, Or.inl rfl, Or.inl rfl, Or.inl rfl, Or.inl rfl, ⟨h.few.1, h.few.2.1, h.few.2.2.1, by simp [Go.Proofs.YtljbchkmoekpmadGreat.useV, noDl]⟩, h.nils⟩
theorem MlIn.useD {w : World} {x : Mm} (h : MlIn w x) : MlIn w (useD x) :=
  ⟨Or.inl rfl, Or.inl rfl, Or.inl rfl, h.lg, h.lh, h.lx, h.ly, ⟨by simp [Go.Proofs.YtljbchkmoekpmadGreat.useD, noVw], by simp [Go.Proofs.YtljbchkmoekpmadGreat.useD, noVw], by simp [Go.Proofs.YtljbchkmoekpmadGreat.useD, noVw], h.few.2.2.2⟩, ⟨fun _ => rfl, fun _ => rfl⟩⟩

set_option maxHeartbeats 4000000 in
set_option maxRecDepth 100000 in
theorem wused_op (w : World) (x : Mm) (hx : MlIn w x) (hk : x.1.1.1 = 1) : Calls Tryz.prog 114 #[x.val] w fun e w' => ∃ y : Mm, e = .returned y.val ∧ y = usedM x ∧ MlIn w' y ∧ Below w.heap.size w w' := by
  obtain ⟨cx, hcx⟩ : ∃ c, c = mlC x := ⟨_, rfl⟩
  have HCX : Hid (cx = mlC x) := hcx
  show Calls Tryz.prog _ #[.agg (mlC x).toArray] w _
  rw [← hcx]
  clear hcx
  have HX := Lib.hid hx
  obtain ⟨W0, hW, hA, hC, hB, -⟩ := laid2 w cx 74 [Value.int .i64 0, .int .i64 0, .int .i64 0, .int .i64 0, .int .i64 0, .int .i64 0, .int .i64 0, .int .i64 0, .int .i64 0, .int .i64 0, .int .i64 0, .int .i64 0, .int .i64 0, .int .i64 0, .slice none 0 0, .slice none 0 0, .slice none 0 0, .slice none 0 0, .slice none 0 0, .slice none 0 0, .slice none 0 0] 74
  rw [HCX.out] at hA
  have HC : Hid (Blk W0 (w.heap.size + 1) zeroMail) := hC
  have HB0 := Lib.hid hB
  have HU : Hid (useOp x = usedM x) := by show _ = _; unfold usedM; rw [if_pos hk]
  have d1 : (x.1.1.1 == 1) = true := by simpa using hk
  have x0 := hA.at 0 rfl
  have x1 := hA.at 1 rfl
  have x7 := hA.at 7 rfl
  have x8 := hA.at 8 rfl
  have x9 := hA.at 9 rfl
  have x10 := hA.at 10 rfl
  have x11 := hA.at 11 rfl
  have x12 := hA.at 12 rfl
  have x13 := hA.at 13 rfl
  have HT : Hid (W0.there (w.heap.size + 1) 0 (mlC (useOp x)).toArray.size) := HC.out.there
  have HS : Hid ((Tryz.prog.info? 74).map (·.size) = some (mlC (useOp x)).toArray.size) := sizeMail
  have HO : Hid ((mlC (useOp x)).toArray.all (·.oneCell') = true) := all_oneCell_toArray (mlC_one (useOp x))
  clear hx hk hA hC hB HCX
  go_enter Tryz.func114, Tryz.ntmps114
  go_wp2_with (first | (with_reducible refine at_store 74 ?_; refine wpList_store_mid rfl 74 _ _ rfl (w.heap.size + 1) 0 (mlC (useOp x)).toArray rfl rfl HT.out HS.out HO.out ?_) | fail)
  have hR := HC.out.sets (mlC (useOp x)) rfl
  refine ret_cell Tryz.results114 rfl (hR.load Tryz.underlying74 rfl (sizeMailC (useOp x))) ?_
  have hb := below_sets HB0.out (w.heap.size + 1) (by omega) (mlC (useOp x)) 0
  exact ⟨useOp x, rfl, HU.out, (HX.out.keep hb).useOp, hb⟩

set_option maxHeartbeats 4000000 in
set_option maxRecDepth 100000 in
theorem wused_view (w : World) (x : Mm) (hx : MlIn w x) (hk : x.1.1.1 = 2) : Calls Tryz.prog 114 #[x.val] w fun e w' => ∃ y : Mm, e = .returned y.val ∧ y = usedM x ∧ MlIn w' y ∧ Below w.heap.size w w' := by
  obtain ⟨cx, hcx⟩ : ∃ c, c = mlC x := ⟨_, rfl⟩
  have HCX : Hid (cx = mlC x) := hcx
  show Calls Tryz.prog _ #[.agg (mlC x).toArray] w _
  rw [← hcx]
  clear hcx
  have HX := Lib.hid hx
  obtain ⟨W1, hW, hA, hC, hB, -⟩ := laid2 w cx 74 [Value.int .i64 0, .int .i64 0, .int .i64 0, .int .i64 0, .int .i64 0, .int .i64 0, .int .i64 0, .int .i64 0, .int .i64 0, .int .i64 0, .int .i64 0, .int .i64 0, .int .i64 0, .int .i64 0, .slice none 0 0, .slice none 0 0, .slice none 0 0, .slice none 0 0, .slice none 0 0, .slice none 0 0, .slice none 0 0] 74
  rw [HCX.out] at hA
  have HU : Hid (useV x = usedM x) := by show _ = _; unfold usedM; rw [if_neg (by omega), if_pos hk]
  have d1 : (x.1.1.1 == 1) = false := by simp; omega
  have d2 : (x.1.1.1 == 2) = true := by simp; omega
  have x0 := hA.at 0 rfl
  have x1 := hA.at 1 rfl
  have x2 := hA.at 2 rfl
  have x3 := hA.at 3 rfl
  have x4 := hA.at 4 rfl
  have x5 := hA.at 5 rfl
  obtain ⟨W0, hW0, hE, hB1, -⟩ := laid1 W1 [Value.int .i64 0, .int .i64 0, .int .i64 0, .int .i64 0, .int .i64 0, .int .i64 0, .int .i64 0, .int .i64 0, .int .i64 0, .int .i64 0, .int .i64 0, .int .i64 0, .int .i64 0, .int .i64 0, .slice none 0 0, .slice none 0 0, .slice none 0 0, .slice none 0 0, .slice none 0 0, .slice none 0 0, .slice none 0 0] 74
  have HA : Hid (Blk W0 w.heap.size (mlC x)) := hA.keep hB1
  have HC : Hid (Blk W0 (w.heap.size + 1) zeroMail) := hC.keep hB1
  have HEE : Hid (Blk W0 W1.heap.size zeroMail) := hE
  have HB0 := Lib.hid (hB.trans (hB1.mono hB.size))
  have HGL : Hid (w.heap.size + 1 < W1.heap.size) := hC.lt
  have HT : Hid (W0.there W1.heap.size 0 (mlC (useNo x)).toArray.size) := HEE.out.there
  have HS : Hid ((Tryz.prog.info? 74).map (·.size) = some (mlC (useNo x)).toArray.size) := sizeMail
  have HO : Hid ((mlC (useNo x)).toArray.all (·.oneCell') = true) := all_oneCell_toArray (mlC_one (useNo x))
  obtain ⟨W9, hW9⟩ : ∃ W9, W0.setCells W1.heap.size 0 (mlC (useNo x)) = W9 := ⟨_, rfl⟩
  have HW9 := Lib.hid hW9
  have hA9 : Blk W9 w.heap.size (mlC x) := by rw [← hW9]; exact HA.out.others (by have := HGL.out; omega) _ _
  have HC9 : Hid (Blk W9 (w.heap.size + 1) zeroMail) := by show Blk _ _ _; rw [← hW9]; exact HC.out.others (by have := HGL.out; omega) _ _
  have HE9 : Hid (Blk W9 W1.heap.size (mlC (useNo x))) := by show Blk _ _ _; rw [← hW9]; exact HEE.out.sets (mlC (useNo x)) rfl
  have HB9 : Hid (Below w.heap.size w W9) := by show Below _ _ _; rw [← hW9]; exact below_sets HB0.out W1.heap.size (by have := HGL.out; omega) _ _
  have HA9 := Lib.hid hA9
  have y0 := hA9.at 0 rfl
  clear hx hk hA hC hE hB hB1 HCX hW9 hA9 HA HC HEE HB0
  go_enter Tryz.func114, Tryz.ntmps114
  go_upto_region 3 with fail
  clear hW
  go_cut [3] from 14 to 26 (fun p wc => p = .pointer (some ⟨W1.heap.size, 0, none⟩) ∧ wc = W9)
  case first =>
    go_wp2_with (first | (with_reducible refine at_store 74 ?_; refine wpList_store_mid rfl 74 _ _ rfl W1.heap.size 0 (mlC (useNo x)).toArray rfl rfl HT.out HS.out HO.out ?_; rw [show W0.setCells W1.heap.size 0 (mlC (useNo x)).toArray.toList = W9 from HW9.out]) | fail)
    go_meet
    case rel => exact ⟨rfl, rfl⟩
  case rest =>
  obtain ⟨rfl, hwc⟩ := hcut
  subst hwc
  clear HT HS HO HW9 hW0 x0 x1 x2 x3 x4 x5
  have y14 := HA9.out.at 14 rfl
  have y15 := HA9.out.at 15 rfl
  have y16 := HA9.out.at 16 rfl
  have z14 := HE9.out.at 14 rfl
  have z15 := HE9.out.at 15 rfl
  have z16 := HE9.out.at 16 rfl
  have fz := HE9.out.frz
  have HGL9 : Hid (w.heap.size ≤ W1.heap.size) := by show _ ≤ _; have := HGL.out; omega
  go_upto_region 5 with fail
  obtain ⟨W5, hW5⟩ : ∃ W5, ((wc.setCell ⟨W1.heap.size, 14, none⟩ (.slice x.2.1.1.1 x.1.2.2.1.1.length x.2.1.1.2)).setCell ⟨W1.heap.size, 15, none⟩ (.slice x.2.1.2.1.1 x.1.2.2.1.2.1.length x.2.1.2.1.2)).setCell ⟨W1.heap.size, 16, none⟩ (.slice x.2.1.2.2.1 x.1.2.2.1.2.2.length x.2.1.2.2.2) = W5 := ⟨_, rfl⟩
  have hE5 : Blk W5 W1.heap.size (mlC (useV x)) := by
    rw [← hW5]
    exact ((HE9.out.set 14 (by show _ < 21; decide) (.slice x.2.1.1.1 x.1.2.2.1.1.length x.2.1.1.2)).set 15 (by show _ < 21; decide) (.slice x.2.1.2.1.1 x.1.2.2.1.2.1.length x.2.1.2.1.2)).set 16 (by show _ < 21; decide) (.slice x.2.1.2.2.1 x.1.2.2.1.2.2.length x.2.1.2.2.2)
  have HC5 : Hid (Blk W5 (w.heap.size + 1) zeroMail) := by show Blk _ _ _; rw [← hW5]; have := HGL.out; exact ((HC9.out.other (by omega) _ _).other (by omega) _ _).other (by omega) _ _
  have HB5 : Hid (Below w.heap.size w W5) := by show Below _ _ _; rw [← hW5]; have h9 := HGL9.out; exact ((HB9.out.setCell (by exact h9) _).setCell (by exact h9) _).setCell (by exact h9) _
  have HR5 := Lib.hid hE5.range
  have HT5 : Hid (W5.there (w.heap.size + 1) 0 (mlC (useV x)).toArray.size) := HC5.out.there
  have HS5 : Hid ((Tryz.prog.info? 74).map (·.size) = some (mlC (useV x)).toArray.size) := sizeMail
  have HO5 : Hid ((mlC (useV x)).toArray.all (·.oneCell') = true) := all_oneCell_toArray (mlC_one (useV x))
  clear hE5 HE9 HA9 HC9 HB9 y0
  go_wp2_with (first | (refine wpList_load_mid rfl 74 _ rfl W1.heap.size 0 rfl (mlC (useV x)) _ HR5.out Tryz.underlying74 rfl (sizeMailC (useV x)) ?_) | (with_reducible refine at_store 74 ?_; refine wpList_store_mid rfl 74 _ _ rfl (w.heap.size + 1) 0 (mlC (useV x)).toArray rfl rfl HT5.out HS5.out HO5.out ?_) | fail)
  have hR := HC5.out.sets (mlC (useV x)) rfl
  refine ret_cell Tryz.results114 rfl (hR.load Tryz.underlying74 rfl (sizeMailC (useV x))) ?_
  have hb := below_sets HB5.out (w.heap.size + 1) (by omega) (mlC (useV x)) 0
  exact ⟨useV x, rfl, HU.out, (HX.out.keep hb).useV, hb⟩

set_option maxHeartbeats 4000000 in
set_option maxRecDepth 100000 in
theorem wused_diff (w : World) (x : Mm) (hx : MlIn w x) (hk : x.1.1.1 = 3) : Calls Tryz.prog 114 #[x.val] w fun e w' => ∃ y : Mm, e = .returned y.val ∧ y = usedM x ∧ MlIn w' y ∧ Below w.heap.size w w' := by
  obtain ⟨cx, hcx⟩ : ∃ c, c = mlC x := ⟨_, rfl⟩
  have HCX : Hid (cx = mlC x) := hcx
  show Calls Tryz.prog _ #[.agg (mlC x).toArray] w _
  rw [← hcx]
  clear hcx
  have HX := Lib.hid hx
  obtain ⟨W1, hW, hA, hC, hB, -⟩ := laid2 w cx 74 [Value.int .i64 0, .int .i64 0, .int .i64 0, .int .i64 0, .int .i64 0, .int .i64 0, .int .i64 0, .int .i64 0, .int .i64 0, .int .i64 0, .int .i64 0, .int .i64 0, .int .i64 0, .int .i64 0, .slice none 0 0, .slice none 0 0, .slice none 0 0, .slice none 0 0, .slice none 0 0, .slice none 0 0, .slice none 0 0] 74
  rw [HCX.out] at hA
  have HU : Hid (useD x = usedM x) := by show _ = _; unfold usedM; rw [if_neg (by omega), if_neg (by omega)]
  have d1 : (x.1.1.1 == 1) = false := by simp; omega
  have d2 : (x.1.1.1 == 2) = false := by simp; omega
  have x0 := hA.at 0 rfl
  have x1 := hA.at 1 rfl
  have x2 := hA.at 2 rfl
  have x3 := hA.at 3 rfl
  have x4 := hA.at 4 rfl
  have x5 := hA.at 5 rfl
  obtain ⟨W0, hW0, hE, hB1, -⟩ := laid1 W1 [Value.int .i64 0, .int .i64 0, .int .i64 0, .int .i64 0, .int .i64 0, .int .i64 0, .int .i64 0, .int .i64 0, .int .i64 0, .int .i64 0, .int .i64 0, .int .i64 0, .int .i64 0, .int .i64 0, .slice none 0 0, .slice none 0 0, .slice none 0 0, .slice none 0 0, .slice none 0 0, .slice none 0 0, .slice none 0 0] 74
  have HA : Hid (Blk W0 w.heap.size (mlC x)) := hA.keep hB1
  have HC : Hid (Blk W0 (w.heap.size + 1) zeroMail) := hC.keep hB1
  have HEE : Hid (Blk W0 W1.heap.size zeroMail) := hE
  have HB0 := Lib.hid (hB.trans (hB1.mono hB.size))
  have HGL : Hid (w.heap.size + 1 < W1.heap.size) := hC.lt
  have HT : Hid (W0.there W1.heap.size 0 (mlC (useNo x)).toArray.size) := HEE.out.there
  have HS : Hid ((Tryz.prog.info? 74).map (·.size) = some (mlC (useNo x)).toArray.size) := sizeMail
  have HO : Hid ((mlC (useNo x)).toArray.all (·.oneCell') = true) := all_oneCell_toArray (mlC_one (useNo x))
  obtain ⟨W9, hW9⟩ : ∃ W9, W0.setCells W1.heap.size 0 (mlC (useNo x)) = W9 := ⟨_, rfl⟩
  have HW9 := Lib.hid hW9
  have hA9 : Blk W9 w.heap.size (mlC x) := by rw [← hW9]; exact HA.out.others (by have := HGL.out; omega) _ _
  have HC9 : Hid (Blk W9 (w.heap.size + 1) zeroMail) := by show Blk _ _ _; rw [← hW9]; exact HC.out.others (by have := HGL.out; omega) _ _
  have HE9 : Hid (Blk W9 W1.heap.size (mlC (useNo x))) := by show Blk _ _ _; rw [← hW9]; exact HEE.out.sets (mlC (useNo x)) rfl
  have HB9 : Hid (Below w.heap.size w W9) := by show Below _ _ _; rw [← hW9]; exact below_sets HB0.out W1.heap.size (by have := HGL.out; omega) _ _
  have HA9 := Lib.hid hA9
  have y0 := hA9.at 0 rfl
  clear hx hk hA hC hE hB hB1 HCX hW9 hA9 HA HC HEE HB0
  go_enter Tryz.func114, Tryz.ntmps114
  go_upto_region 3 with fail
  clear hW
  go_cut [3] from 14 to 26 (fun p wc => p = .pointer (some ⟨W1.heap.size, 0, none⟩) ∧ wc = W9)
  case first =>
    go_wp2_with (first | (with_reducible refine at_store 74 ?_; refine wpList_store_mid rfl 74 _ _ rfl W1.heap.size 0 (mlC (useNo x)).toArray rfl rfl HT.out HS.out HO.out ?_; rw [show W0.setCells W1.heap.size 0 (mlC (useNo x)).toArray.toList = W9 from HW9.out]) | fail)
    go_meet
    case rel => exact ⟨rfl, rfl⟩
  case rest =>
  obtain ⟨rfl, hwc⟩ := hcut
  subst hwc
  clear HT HS HO HW9 hW0 x0 x1 x2 x3 x4 x5
  have HGL9 : Hid (w.heap.size ≤ W1.heap.size) := by show _ ≤ _; have := HGL.out; omega
  have HNE : Hid (¬ w.heap.size = W1.heap.size) := by show ¬ _; have := HGL.out; omega
  go_upto_region 7 with fail
  clear y0
  refine wp_region_held_drew (S := fun w' => Blk w' w.heap.size (mlC x) ∧ Below w.heap.size w w') (by kernel_rfl) ⟨HA9.out.drew, HB9.out.drew⟩ (fun hHeld => ?_)
  refine take_yes 0 34 (v := ?_) rfl rfl (by kernel_rfl) (by kernel_rfl) (by kernel_rfl) (fun _ _ _ h => h) (by rfl) ?_ hHeld ?_
  rotate_left 1
  · (intro w9 hSw; skip; go_simp; try with_reducible rfl)
  simp only [Act.put, List.setIfInBounds_toArray, List.set_cons_succ, List.set_cons_zero]
  refine take_yes 1 35 (v := ?_) rfl rfl (by kernel_rfl) (by kernel_rfl) (by kernel_rfl) (fun _ _ _ h => h) (by rfl) ?_ hHeld ?_
  rotate_left 1
  · (intro w9 hSw; have q1 := hSw.1.at 6 rfl; go_simp; try with_reducible rfl)
  simp only [Act.put, List.setIfInBounds_toArray, List.set_cons_succ, List.set_cons_zero]
  refine take_yes 2 36 (v := ?_) rfl rfl (by kernel_rfl) (by kernel_rfl) (by kernel_rfl) (fun _ _ _ h => h) (by rfl) ?_ hHeld ?_
  rotate_left 1
  · (intro w9 hSw; skip; go_simp; try with_reducible rfl)
  simp only [Act.put, List.setIfInBounds_toArray, List.set_cons_succ, List.set_cons_zero]
  refine take_yes 3 37 (v := ?_) rfl rfl (by kernel_rfl) (by kernel_rfl) (by kernel_rfl) (fun _ _ _ h => h) (by rfl) ?_ hHeld ?_
  rotate_left 1
  · (intro w9 hSw; have q1 := hSw.1.at 17 rfl; have q2 := hSw.1.at 18 rfl; have q3 := hSw.1.at 19 rfl; have q4 := hSw.1.at 20 rfl; go_simp; try with_reducible rfl)
  simp only [Act.put, List.setIfInBounds_toArray, List.set_cons_succ, List.set_cons_zero]
  refine take_yes 4 38 (v := ?_) rfl rfl (by kernel_rfl) (by kernel_rfl) (by kernel_rfl) (fun _ _ _ h => h) (by rfl) ?_ hHeld ?_
  rotate_left 1
  · (intro w9 hSw; skip; go_simp; try with_reducible rfl)
  simp only [Act.put, List.setIfInBounds_toArray, List.set_cons_succ, List.set_cons_zero]
  have hE9 := HE9.out.drew
  have z6 := hE9.at 6 rfl
  have fz := hE9.frz 6
  refine wpAnyH_ready (rs := [5]) (by kernel_rfl) (by simp) ?_
  refine AllReadyH.cons rfl (fun KK hKK => ?_) AllReadyH.nil
  go_simp
  have hne := HNE.out
  refine hKK.out _ _ ⟨HA9.out.drew.other hne _ _, HB9.out.drew.setCell (by exact HGL9.out) _⟩ (fun hHeld => ?_)
  clear hKK KK z6 fz
  have hE6 := hE9.set 6 (by show _ < 21; decide) (.int .i64 x.1.1.2.2.2.2.2.2)
  clear hE9
  refine take_yes 6 39 (v := ?_) rfl rfl (by kernel_rfl) (by kernel_rfl) (by kernel_rfl) (fun _ _ _ h => h) (by rfl) ?_ hHeld ?_
  rotate_left 1
  · (intro w9 hSw; skip; go_simp; try with_reducible rfl)
  simp only [Act.put, List.setIfInBounds_toArray, List.set_cons_succ, List.set_cons_zero]
  refine wpAnyH_ready (rs := [7]) (by kernel_rfl) (by simp) ?_
  refine AllReadyH.cons rfl (fun KK hKK => ?_) AllReadyH.nil
  rw [if_pos (by rfl)]
  refine wp_store_mid 72 _ _ rfl W1.heap.size 17 #[Value.slice x.2.2.1.1 x.1.2.2.2.1.length x.2.2.1.2, .slice x.2.2.2.1.1 x.1.2.2.2.2.1.length x.2.2.2.1.2, .slice x.2.2.2.2.1.1 x.1.2.2.2.2.2.1.length x.2.2.2.2.1.2, .slice x.2.2.2.2.2.1 x.1.2.2.2.2.2.2.length x.2.2.2.2.2.2] rfl rfl (hE6.part (us := [Value.slice x.2.2.1.1 x.1.2.2.2.1.length x.2.2.1.2, .slice x.2.2.2.1.1 x.1.2.2.2.2.1.length x.2.2.2.1.2, .slice x.2.2.2.2.1.1 x.1.2.2.2.2.2.1.length x.2.2.2.2.1.2, .slice x.2.2.2.2.2.1 x.1.2.2.2.2.2.2.length x.2.2.2.2.2.2]) (by show 17 + 4 ≤ 21; decide)) sizeDelta (all_oneCell_toArray (by intro v hv; simp at hv; rcases hv with rfl | rfl | rfl | rfl <;> rfl)) ?_
  refine hKK.out _ _ ⟨hHeld.1.others hne _ _, below_sets hHeld.2 W1.heap.size HGL9.out _ _⟩ (fun hHeld => ?_)
  clear hKK KK
  refine wpAnyH_done (by kernel_rfl) ?_ _
  have hE7 := (((hE6.set 17 (by show _ < 21; decide) (.slice x.2.2.1.1 x.1.2.2.2.1.length x.2.2.1.2)).set 18 (by show _ < 21; decide) (.slice x.2.2.2.1.1 x.1.2.2.2.2.1.length x.2.2.2.1.2)).set 19 (by show _ < 21; decide) (.slice x.2.2.2.2.1.1 x.1.2.2.2.2.2.1.length x.2.2.2.2.1.2)).set 20 (by show _ < 21; decide) (.slice x.2.2.2.2.2.1 x.1.2.2.2.2.2.2.length x.2.2.2.2.2.2)
  have HB5 := Lib.hid hHeld.2
  have hne2 : ¬ w.heap.size + 1 = W1.heap.size := by have := HGL.out; omega
  have HC5 := Lib.hid ((HC9.out.drew.other hne2 6 (.int .i64 x.1.1.2.2.2.2.2.2)).others hne2 [Value.slice x.2.2.1.1 x.1.2.2.2.1.length x.2.2.1.2, .slice x.2.2.2.1.1 x.1.2.2.2.2.1.length x.2.2.2.1.2, .slice x.2.2.2.2.1.1 x.1.2.2.2.2.2.1.length x.2.2.2.2.1.2, .slice x.2.2.2.2.2.1 x.1.2.2.2.2.2.2.length x.2.2.2.2.2.2] 17)
  have HE7 : Hid (Blk (((wc.drew.setCell ⟨W1.heap.size, 6, none⟩ (.int .i64 x.1.1.2.2.2.2.2.2)).setCells W1.heap.size 17 [Value.slice x.2.2.1.1 x.1.2.2.2.1.length x.2.2.1.2, .slice x.2.2.2.1.1 x.1.2.2.2.2.1.length x.2.2.2.1.2, .slice x.2.2.2.2.1.1 x.1.2.2.2.2.2.1.length x.2.2.2.2.1.2, .slice x.2.2.2.2.2.1 x.1.2.2.2.2.2.2.length x.2.2.2.2.2.2])) W1.heap.size (mlC (useD x))) := hE7
  clear hHeld hE6 hE7 HE9 HC9 HA9 HB9 hne hne2
  have HWW : Hid (∀ (P : World → Prop), P ((wc.drew.setCell ⟨W1.heap.size, 6, none⟩ (.int .i64 x.1.1.2.2.2.2.2.2)).setCells W1.heap.size 17 [Value.slice x.2.2.1.1 x.1.2.2.2.1.length x.2.2.1.2, .slice x.2.2.2.1.1 x.1.2.2.2.2.1.length x.2.2.2.1.2, .slice x.2.2.2.2.1.1 x.1.2.2.2.2.2.1.length x.2.2.2.2.1.2, .slice x.2.2.2.2.2.1 x.1.2.2.2.2.2.2.length x.2.2.2.2.2.2]) → P ((wc.drew.setCell ⟨W1.heap.size, 6, none⟩ (.int .i64 x.1.1.2.2.2.2.2.2)).setCells W1.heap.size 17 [Value.slice x.2.2.1.1 x.1.2.2.2.1.length x.2.2.1.2, .slice x.2.2.2.1.1 x.1.2.2.2.2.1.length x.2.2.2.1.2, .slice x.2.2.2.2.1.1 x.1.2.2.2.2.2.1.length x.2.2.2.2.1.2, .slice x.2.2.2.2.2.1 x.1.2.2.2.2.2.2.length x.2.2.2.2.2.2])) := fun P h => h
  change Hid (Below w.heap.size w ((wc.drew.setCell ⟨W1.heap.size, 6, none⟩ (.int .i64 x.1.1.2.2.2.2.2.2)).setCells W1.heap.size 17 [Value.slice x.2.2.1.1 x.1.2.2.2.1.length x.2.2.1.2, .slice x.2.2.2.1.1 x.1.2.2.2.2.1.length x.2.2.2.1.2, .slice x.2.2.2.2.1.1 x.1.2.2.2.2.2.1.length x.2.2.2.2.1.2, .slice x.2.2.2.2.2.1 x.1.2.2.2.2.2.2.length x.2.2.2.2.2.2])) at HB5
  show Exit.then _ _ _ _ ((wc.drew.setCell ⟨W1.heap.size, 6, none⟩ (.int .i64 x.1.1.2.2.2.2.2.2)).setCells W1.heap.size 17 [Value.slice x.2.2.1.1 x.1.2.2.2.1.length x.2.2.1.2, .slice x.2.2.2.1.1 x.1.2.2.2.2.1.length x.2.2.2.1.2, .slice x.2.2.2.2.1.1 x.1.2.2.2.2.2.1.length x.2.2.2.2.1.2, .slice x.2.2.2.2.2.1 x.1.2.2.2.2.2.2.length x.2.2.2.2.2.2])
  clear HWW
  generalize (wc.drew.setCell ⟨W1.heap.size, 6, none⟩ (.int .i64 x.1.1.2.2.2.2.2.2)).setCells W1.heap.size 17 [Value.slice x.2.2.1.1 x.1.2.2.2.1.length x.2.2.1.2, .slice x.2.2.2.1.1 x.1.2.2.2.2.1.length x.2.2.2.1.2, .slice x.2.2.2.2.1.1 x.1.2.2.2.2.2.1.length x.2.2.2.2.1.2, .slice x.2.2.2.2.2.1 x.1.2.2.2.2.2.2.length x.2.2.2.2.2.2] = W5 at *
  have HR5 := Lib.hid HE7.out.range
  have HT5 : Hid (W5.there (w.heap.size + 1) 0 (mlC (useD x)).toArray.size) := HC5.out.there
  have HS5 : Hid ((Tryz.prog.info? 74).map (·.size) = some (mlC (useD x)).toArray.size) := sizeMail
  have HO5 : Hid ((mlC (useD x)).toArray.all (·.oneCell') = true) := all_oneCell_toArray (mlC_one (useD x))
  clear HE7
  go_wp2_with (first | (refine wpList_load_mid rfl 74 _ rfl W1.heap.size 0 rfl (mlC (useD x)) _ HR5.out Tryz.underlying74 rfl (sizeMailC (useD x)) ?_) | (with_reducible refine at_store 74 ?_; refine wpList_store_mid rfl 74 _ _ rfl (w.heap.size + 1) 0 (mlC (useD x)).toArray rfl rfl HT5.out HS5.out HO5.out ?_) | fail)
  have hR := HC5.out.sets (mlC (useD x)) rfl
  refine ret_cell Tryz.results114 rfl (hR.load Tryz.underlying74 rfl (sizeMailC (useD x))) ?_
  have hb := below_sets HB5.out (w.heap.size + 1) (by omega) (mlC (useD x)) 0
  exact ⟨useD x, rfl, HU.out, (HX.out.keep hb).useD, hb⟩

theorem wused_any (w : World) (x : Mm) (hx : MlIn w x) (hk : 1 ≤ x.1.1.1 ∧ x.1.1.1 ≤ 3) : Calls Tryz.prog 114 #[x.val] w fun e w' => ∃ y : Mm, e = .returned y.val ∧ y = usedM x ∧ MlIn w' y ∧ Below w.heap.size w w' := by
  have h : x.1.1.1 = 1 ∨ x.1.1.1 = 2 ∨ x.1.1.1 = 3 := by omega
  rcases h with h | h | h
  · exact wused_op w x hx h
  · exact wused_view w x hx h
  · exact wused_diff w x hx h
end Go.Proofs.YtljbchkmoekpmadGreat

