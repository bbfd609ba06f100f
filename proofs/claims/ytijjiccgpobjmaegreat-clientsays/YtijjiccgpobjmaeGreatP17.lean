/- 3 texts of the proof: The program's client: views and clients in new memory; the view behind news. way.within, way.headOf; heads held against each other. way.alike: mail held against mail by the program. -/
import Derived.Test.YtijjiccgpobjmaeGreatP13
import Derived.Test.YtijjiccgpobjmaeGreatP15
import Derived.Test.YtijjiccgpobjmaeGreatP16
import Derived.Test.YtijjiccgpobjmaeGreatP06
import Derived.Test.YtijjiccgpobjmaeGreatP10
/- The program's client: views and clients in new memory; the view behind news. -/
namespace Go.Proofs.YtijjiccgpobjmaeGreat
open Go.ChangeShapes Go.WideShapes Go.ChangeAt Go.RowKit
open Orangery (Pl Mv Vw Dl Ml Cl noVw viewE deltaE apE apR apL apME apMV)

/-- a view in memory from block B on -/
structure VwNew (B : Nat) (R : List Int) (K V : List Pl) (p : Ad × Ad × Ad) (W : World) : Prop where
  lr : SlI W p.1.1 R
  lk : SlP W p.2.1.1 K
  lv : SlP W p.2.2.1 V
  ir : InL (B ≤ ·) p.1.1 R
  ik : InL (B ≤ ·) p.2.1.1 K
  iv : InL (B ≤ ·) p.2.2.1 V
  nk : p.2.1.1 = none → p.2.1.2 = 0
  nv : p.2.2.1 = none → p.2.2.2 = 0
theorem VwNew.keep {B : Nat} {R : List Int} {K V : List Pl} {p : Ad × Ad × Ad} {W W' : World} (h : VwNew B R K V p W) (hb : Below W.heap.size W W') : VwNew B R K V p W' :=
  ⟨h.lr.below hb, h.lk.below hb, h.lv.below hb, h.ir, h.ik, h.iv, h.nk, h.nv⟩
theorem VwNew.sets {B : Nat} {R : List Int} {K V : List Pl} {p : Ad × Ad × Ad} {W : World} (h : VwNew B R K V p W) (g : Nat) (hg : g < B) (us : List Value) (o : Nat) : VwNew B R K V p (W.setCells g o us) :=
  ⟨h.lr.setsO (h.ir.off (fun b hb => by omega)) us o, h.lk.sets (h.ik.off (fun b hb => by omega)) us o, h.lv.sets (h.iv.off (fun b hb => by omega)) us o, h.ir, h.ik, h.iv, h.nk, h.nv⟩
theorem VwNew.mono {B B' : Nat} {R : List Int} {K V : List Pl} {p : Ad × Ad × Ad} {W : World} (h : VwNew B R K V p W) (hb : B' ≤ B) : VwNew B' R K V p W :=
  ⟨h.lr, h.lk, h.lv, h.ir.imp (fun b hb => by omega), h.ik.imp (fun b hb => by omega), h.iv.imp (fun b hb => by omega), h.nk, h.nv⟩
/-- a view that lies off a block -/
def VwOff (g : Nat) (R : List Int) (K V : List Pl) (p : Ad × Ad × Ad) : Prop := OffL g p.1.1 R ∧ OffL g p.2.1.1 K ∧ OffL g p.2.2.1 V
theorem VwNew.grown {B : Nat} {R : List Int} {K V : List Pl} {p : Ad × Ad × Ad} {W W' : World} {row : Option Nat} (h : VwNew B R K V p W) (hg : W.grownBy W' row) (hs : ∀ g, row = some g → VwOff g R K V p) : VwNew B R K V p W' := by
  cases row with
  | none =>
    have hk : ∀ b, True → b < W.heap.size → W'.heap[b]? = W.heap[b]? := fun b _ hl => hg.block b hl (by simp)
    exact ⟨h.lr.apartL (D := fun _ => True) (Or.inr fun _ _ _ => trivial) hg.size hk, h.lk.apartL (D := fun _ => True) (Or.inr fun _ _ _ => trivial) hg.size hk, h.lv.apartL (D := fun _ => True) (Or.inr fun _ _ _ => trivial) hg.size hk, h.ir, h.ik, h.iv, h.nk, h.nv⟩
  | some g =>
    have hk : ∀ b, b ≠ g → b < W.heap.size → W'.heap[b]? = W.heap[b]? := fun b hb hl => hg.block b hl (fun e => hb (by simpa using e))
    obtain ⟨h1, h2, h3⟩ := hs g rfl
    exact ⟨h.lr.apartL (D := (· ≠ g)) h1 hg.size hk, h.lk.apartL (D := (· ≠ g)) h2 hg.size hk, h.lv.apartL (D := (· ≠ g)) h3 hg.size hk, h.ir, h.ik, h.iv, h.nk, h.nv⟩
theorem VwNew.setsO {B g : Nat} {R : List Int} {K V : List Pl} {p : Ad × Ad × Ad} {W : World} (h : VwNew B R K V p W) (ho : VwOff g R K V p) (us : List Value) (o : Nat) : VwNew B R K V p (W.setCells g o us) :=
  ⟨h.lr.setsO ho.1 us o, h.lk.sets ho.2.1 us o, h.lv.sets ho.2.2 us o, h.ir, h.ik, h.iv, h.nk, h.nv⟩
theorem VwNew.offW {B : Nat} {R : List Int} {K V : List Pl} {p : Ad × Ad × Ad} {W : World} (h : VwNew B R K V p W) : VwOff W.heap.size R K V p :=
  ⟨h.lr.off (Nat.le_refl _), h.lk.off (Nat.le_refl _), h.lv.off (Nat.le_refl _)⟩
theorem VwNew.drew {B : Nat} {R : List Int} {K V : List Pl} {p : Ad × Ad × Ad} {W : World} (h : VwNew B R K V p W) : VwNew B R K V p W.drew := ⟨h.lr, h.lk, h.lv, h.ir, h.ik, h.iv, h.nk, h.nv⟩
theorem VwNew.offs {B g : Nat} {R : List Int} {K V : List Pl} {p : Ad × Ad × Ad} {W : World} (h : VwNew B R K V p W) (hg : g < B) : VwOff g R K V p :=
  ⟨h.ir.off (fun b hb => by omega), h.ik.off (fun b hb => by omega), h.iv.off (fun b hb => by omega)⟩
/-- where an own row is read -/
theorem row_block {α : Type} {w : World} {base n k c : Nat} {e : TypeId} {a : Option Addr} {cs : List Value} {l : List α} {D : Nat → Prop} (h : w.ownsRow base e k (.slice a n c) n cs) (hD : ∀ g, (Value.slice a n c).ownBlock = some g → D g) : InL D a l := by
  rcases h.2 with ⟨h', _⟩ | ⟨g, cap, cur, h', _⟩
  · obtain ⟨rfl, _⟩ : a = none ∧ _ := by simpa using h'
    exact Or.inr (fun b off e => by simp at e)
  · obtain ⟨rfl, _⟩ : a = some ⟨g, 0, none⟩ ∧ _ := by simpa using h'
    refine Or.inr (fun b off e => ?_)
    obtain ⟨rfl, _⟩ : g = b ∧ _ := by simpa using e
    exact hD g rfl
abbrev vwV (R : List Int) (K V : List Pl) (p : Ad × Ad × Ad) : Value := viV (.slice p.1.1 R.length p.1.2) (.slice p.2.1.1 K.length p.2.1.2) (.slice p.2.2.1 V.length p.2.2.2)

set_option maxHeartbeats 4000000 in
set_option maxRecDepth 100000 in
theorem ccloneView_any (w : World) (p : Ad × Ad × Ad) (R : List Int) (K V : List Pl) (hf : R.length ≤ 1000 ∧ K.length ≤ 1000 ∧ V.length ≤ 1000) (h1 : SlI w p.1.1 R) (h2 : SlP w p.2.1.1 K) (h3 : SlP w p.2.2.1 V) :
    Calls Tryz.prog 59 #[vwV R K V p] w fun e w' => ∃ q : Ad × Ad × Ad, e = .returned (vwV R K V q) ∧ VwNew w.heap.size R K V q w' ∧ Below w.heap.size w w' := by
  obtain ⟨⟨aR, cR⟩, ⟨aK, cK⟩, ⟨aV, cV⟩⟩ := p
  simp only at h1 h2 h3
  obtain ⟨W0, hW, hA, hC, hB, hS⟩ := laid2 w [Value.slice aR R.length cR, Value.slice aK K.length cK, Value.slice aV V.length cV] 26 [Value.slice none 0 0, Value.slice none 0 0, Value.slice none 0 0] 26
  have HA := Lib.hid hA
  have HC := Lib.hid hC
  have HX : Hid (∀ W, Below W0.heap.size W0 W → SlI W aR R ∧ SlP W aK K ∧ SlP W aV V) := fun W hb => ⟨(h1.below hB).below hb, (h2.below hB).below hb, (h3.below hB).below hb⟩
  have HB0 := Lib.hid hB
  have HF := Lib.hid hf
  have HS0 : Hid (w.heap.size + 2 ≤ W0.heap.size) := by show _ ≤ _; omega
  clear hB hA hC hf h1 h2 h3 hS
  go_enter Tryz.func59, Tryz.ntmps59
  go_upto_region 1 with fail
  clear hW
  refine wp_region_until 10 (S := fun w' => Blk w' w.heap.size [Value.slice aR R.length cR, Value.slice aK K.length cK, Value.slice aV V.length cV] ∧ Blk w' (w.heap.size + 1) [Value.slice none 0 0, Value.slice none 0 0, Value.slice none 0 0] ∧ Below w.heap.size w w' ∧ Below W0.heap.size W0 w') (by kernel_rfl) ⟨HA.out, HC.out, HB0.out.drew, (Below.refl _ W0).drew⟩ (fun hHeld => ?_)
  refine takeU_yes 6 0 3 (v := ?_) rfl rfl (by kernel_rfl) (by kernel_rfl) (by kernel_rfl) (by kernel_rfl) (by decide) (by kernel_rfl) (fun _ _ _ h => h) (by rfl) ?_ hHeld ?_
  rotate_left 1
  · (intro w9 hSw; skip; go_simp; try with_reducible rfl)
  simp only [Act.put, List.setIfInBounds_toArray, List.set_cons_succ, List.set_cons_zero]
  refine takeU_yes 6 1 4 (v := ?_) rfl rfl (by kernel_rfl) (by kernel_rfl) (by kernel_rfl) (by kernel_rfl) (by decide) (by kernel_rfl) (fun _ _ _ h => h) (by rfl) ?_ hHeld ?_
  rotate_left 1
  · (intro w9 hSw; have q1 := hSw.1.at 0 rfl; go_simp; try with_reducible rfl)
  simp only [Act.put, List.setIfInBounds_toArray, List.set_cons_succ, List.set_cons_zero]
  refine takeU_yes 6 3 6 (v := ?_) rfl rfl (by kernel_rfl) (by kernel_rfl) (by kernel_rfl) (by kernel_rfl) (by decide) (by kernel_rfl) (fun _ _ _ h => h) (by rfl) ?_ hHeld ?_
  rotate_left 1
  · (intro w9 hSw; skip; go_simp; try with_reducible rfl)
  simp only [Act.put, List.setIfInBounds_toArray, List.set_cons_succ, List.set_cons_zero]
  refine takeU_yes 6 4 7 (v := ?_) rfl rfl (by kernel_rfl) (by kernel_rfl) (by kernel_rfl) (by kernel_rfl) (by decide) (by kernel_rfl) (fun _ _ _ h => h) (by rfl) ?_ hHeld ?_
  rotate_left 1
  · (intro w9 hSw; have q1 := hSw.1.at 1 rfl; go_simp; try with_reducible rfl)
  simp only [Act.put, List.setIfInBounds_toArray, List.set_cons_succ, List.set_cons_zero]
  refine takeU_yes 6 6 9 (v := ?_) rfl rfl (by kernel_rfl) (by kernel_rfl) (by kernel_rfl) (by kernel_rfl) (by decide) (by kernel_rfl) (fun _ _ _ h => h) (by rfl) ?_ hHeld ?_
  rotate_left 1
  · (intro w9 hSw; skip; go_simp; try with_reducible rfl)
  simp only [Act.put, List.setIfInBounds_toArray, List.set_cons_succ, List.set_cons_zero]
  refine takeU_yes 6 7 10 (v := ?_) rfl rfl (by kernel_rfl) (by kernel_rfl) (by kernel_rfl) (by kernel_rfl) (by decide) (by kernel_rfl) (fun _ _ _ h => h) (by rfl) ?_ hHeld ?_
  rotate_left 1
  · (intro w9 hSw; have q1 := hSw.1.at 2 rfl; go_simp; try with_reducible rfl)
  simp only [Act.put, List.setIfInBounds_toArray, List.set_cons_succ, List.set_cons_zero]
  refine wpAnyU_ready (rs := [2]) (by kernel_rfl) (by simp) ?_
  refine AllReadyU.cons rfl (fun KK hKK => ?_) AllReadyU.nil
  go_simp
  refine (cloneInts_any W0.drew aR cR R HF.out.1 (HX.out _ hHeld.2.2.2).1).mono ?_
  rintro e w3 ⟨v, rfl, hO0, hb⟩
  obtain ⟨a0, c0, rfl, hr0⟩ := hO0.val
  have hi0 : InL (w.heap.size + 2 ≤ ·) a0 R := (row_in hO0).imp (fun b hb => by have h1 := hHeld.2.2.2.size; have h2 := HS0.out; omega)
  clear hO0
  have hHeld2 := hHeld
  refine hKK.out _ _ (⟨hHeld2.1.keep hb, hHeld2.2.1.keep hb, hHeld2.2.2.1.trans (hb.mono hHeld2.2.2.1.size), hHeld2.2.2.2.trans (hb.mono hHeld2.2.2.2.size)⟩) (fun hHeld => ?_)
  clear hKK KK hHeld2 hb
  refine wpAnyU_ready (rs := [5]) (by kernel_rfl) (by simp) ?_
  refine AllReadyU.cons rfl (fun KK hKK => ?_) AllReadyU.nil
  go_simp
  refine (clone_any w3 aK cK K HF.out.2.1 (HX.out _ hHeld.2.2.2).2.1).mono ?_
  rintro e w4 ⟨v, rfl, hO1, hb⟩
  obtain ⟨a1, c1, rfl⟩ := hO1.val
  have hr1 := hO1.read
  have hi1 : InL (w.heap.size + 2 ≤ ·) a1 K := (row_in hO1.row).imp (fun b hb => by have h1 := hHeld.2.2.2.size; have h2 := HS0.out; omega)
  have hn1 : a1 = none → c1 = 0 := fun h => ownS_none hO1 h
  clear hO1
  have hr0 := hr0.below hb
  have hHeld2 := hHeld
  refine hKK.out _ _ (⟨hHeld2.1.keep hb, hHeld2.2.1.keep hb, hHeld2.2.2.1.trans (hb.mono hHeld2.2.2.1.size), hHeld2.2.2.2.trans (hb.mono hHeld2.2.2.2.size)⟩) (fun hHeld => ?_)
  clear hKK KK hHeld2 hb
  refine wpAnyU_ready (rs := [8]) (by kernel_rfl) (by simp) ?_
  refine AllReadyU.cons rfl (fun KK hKK => ?_) AllReadyU.nil
  go_simp
  refine (clone_any w4 aV cV V HF.out.2.2 (HX.out _ hHeld.2.2.2).2.2).mono ?_
  rintro e w5 ⟨v, rfl, hO2, hb⟩
  obtain ⟨a2, c2, rfl⟩ := hO2.val
  have hr2 := hO2.read
  have hi2 : InL (w.heap.size + 2 ≤ ·) a2 V := (row_in hO2.row).imp (fun b hb => by have h1 := hHeld.2.2.2.size; have h2 := HS0.out; omega)
  have hn2 : a2 = none → c2 = 0 := fun h => ownS_none hO2 h
  clear hO2
  have hr0 := hr0.below hb
  have hr1 := hr1.below hb
  have hHeld2 := hHeld
  refine hKK.out _ _ (⟨hHeld2.1.keep hb, hHeld2.2.1.keep hb, hHeld2.2.2.1.trans (hb.mono hHeld2.2.2.1.size), hHeld2.2.2.2.trans (hb.mono hHeld2.2.2.2.size)⟩) (fun hHeld => ?_)
  clear hKK KK hHeld2 hb
  refine takeU_yes 6 9 12 (v := ?_) rfl rfl (by kernel_rfl) (by kernel_rfl) (by kernel_rfl) (by kernel_rfl) (by decide) (by kernel_rfl) (fun _ _ _ h => h) (by rfl) ?_ hHeld ?_
  rotate_left 1
  · (intro w9 hSw; skip; go_simp; try with_reducible rfl)
  simp only [Act.put, List.setIfInBounds_toArray, List.set_cons_succ, List.set_cons_zero]
  have hC5 := hHeld.2.1
  have hB5 := hHeld.2.2.1
  clear hHeld
  refine wpAnyU_last (by kernel_rfl) rfl (fun KK hKK => ?_)
  rw [if_pos (by rfl)]
  refine wp_store_mid 26 _ _ rfl (w.heap.size + 1) 0 #[.slice a0 R.length c0, .slice a1 K.length c1, .slice a2 V.length c2] rfl rfl (hC5.part (us := [.slice a0 R.length c0, .slice a1 K.length c1, .slice a2 V.length c2]) (by show 0 + 3 ≤ 3; decide)) sizeView (all_oneCell_toArray (by intro v hv; simp at hv; rcases hv with rfl | rfl | rfl <;> rfl)) ?_
  refine hKK.out _ _ ?_
  clear hKK KK
  refine wpAnyU_done (by kernel_rfl) ?_ _
  have HN : Hid (VwNew w.heap.size R K V ((a0, c0), (a1, c1), (a2, c2)) (w5.setCells (w.heap.size + 1) 0 [.slice a0 R.length c0, .slice a1 K.length c1, .slice a2 V.length c2])) := by
    have h0 : VwNew (w.heap.size + 2) R K V ((a0, c0), (a1, c1), (a2, c2)) w5 := ⟨hr0, hr1, hr2, hi0, hi1, hi2, hn1, hn2⟩
    exact (h0.sets (w.heap.size + 1) (by omega) _ _).mono (by omega)
  have HR := Lib.hid (hC5.sets [.slice a0 R.length c0, .slice a1 K.length c1, .slice a2 V.length c2] rfl)
  have HBf := Lib.hid (below_sets hB5 (w.heap.size + 1) (by omega) [.slice a0 R.length c0, .slice a1 K.length c1, .slice a2 V.length c2] 0)
  clear hB5 hC5 hr0 hr1 hr2 hi0 hi1 hi2 hn1 hn2
  go_wp2
  exact ret_cell Tryz.results59 rfl (HR.out.load Tryz.underlying26 rfl sizeView) ⟨((a0, c0), (a1, c1), (a2, c2)), rfl, HN.out, HBf.out⟩

theorem clC_one (x : Cm) : ∀ v ∈ clC x, v.oneCell' = true := by
  intro v hv
  simp [clC] at hv
  rcases hv with rfl | rfl | rfl | rfl | rfl | rfl | rfl | rfl <;> rfl
theorem sizeClientC (x : Cm) : (Tryz.prog.info? 28).map (·.size) = some (clC x).length := sizeClient
/-- a client in new memory, what isn't accepted an own row of it -/
structure ClNew (B : Nat) (x : Cm) (W : World) : Prop where
  own : OwnE opC 7 32 W B (.slice x.2.1.1 x.1.2.1.length x.2.1.2) x.1.2.1
  view : VwNew B x.1.2.2.1 x.1.2.2.2.1 x.1.2.2.2.2 x.2.2 W
  sep : ∀ g, (Value.slice x.2.1.1 x.1.2.1.length x.2.1.2).ownBlock = some g → VwOff g x.1.2.2.1 x.1.2.2.2.1 x.1.2.2.2.2 x.2.2
theorem ClNew.keep {B : Nat} {x : Cm} {W W' : World} (h : ClNew B x W) (hb : Below W.heap.size W W') : ClNew B x W' := ⟨h.own.keep hb, h.view.keep hb, h.sep⟩
theorem ClNew.sets {B : Nat} {x : Cm} {W : World} (h : ClNew B x W) (g : Nat) (hg : g < B) (us : List Value) (o : Nat) : ClNew B x (W.setCells g o us) := ⟨h.own.others g hg us o W, h.view.sets g hg us o, h.sep⟩
theorem ClNew.mono {B B' : Nat} {x : Cm} {W : World} (h : ClNew B x W) (hb : B' ≤ B) : ClNew B' x W := ⟨h.own.mono hb, h.view.mono hb, h.sep⟩
def ClFew (x : Cl) : Prop := x.2.1.length ≤ 1000 ∧ x.2.2.1.length ≤ 1000 ∧ x.2.2.2.1.length ≤ 1000 ∧ x.2.2.2.2.length ≤ 1000
theorem ClNew.inn {B : Nat} {x : Cm} {W : World} (h : ClNew B x W) (hf : ClFew x.1) : ClIn W x :=
  ⟨h.own.read, h.view.lr, h.view.lk, h.view.lv, ⟨by have := hf.1; omega, by have := hf.2.1; omega, by have := hf.2.2.1; omega, by have := hf.2.2.2; omega⟩, ⟨h.view.nk, h.view.nv⟩⟩

set_option maxHeartbeats 4000000 in
set_option maxRecDepth 100000 in
theorem cclone_any (w : World) (x : Cm) (hx : ClIn w x) (hf : ClFew x.1) :
    Calls Tryz.prog 29 #[x.val] w fun e w' => ∃ y : Cm, e = .returned y.val ∧ y.1 = x.1 ∧ ClNew w.heap.size y w' ∧ Below w.heap.size w w' := by
  obtain ⟨⟨⟨f, t, s, v⟩, P, R, K, V⟩, ⟨aP, cP⟩, ⟨aR, cR⟩, ⟨aK, cK⟩, ⟨aV, cV⟩⟩ := x
  show Calls Tryz.prog _ #[.agg #[Value.int .i64 f, .int .i64 t, .int .i64 s, .slice aP P.length cP, .int .i64 v, .slice aR R.length cR, .slice aK K.length cK, .slice aV V.length cV]] w _
  obtain ⟨W0, hW, hN, hR, hB, hS⟩ := laid2 w [Value.int .i64 f, .int .i64 t, .int .i64 s, .slice aP P.length cP, .int .i64 v, .slice aR R.length cR, .slice aK K.length cK, .slice aV V.length cV] 28 [Value.int .i64 0, .int .i64 0, .int .i64 0, .slice none 0 0, .int .i64 0, .slice none 0 0, .slice none 0 0, .slice none 0 0] 28
  have HB := Lib.hid hB
  have HX := Lib.hid (hx.keep hB)
  have hX0 := hx
  have HN := Lib.hid hN
  have HR := Lib.hid hR
  have HF := Lib.hid hf
  have HS0 : Hid (w.heap.size + 2 ≤ W0.heap.size) := by show _ ≤ _; omega
  have x3 := hN.at 3 rfl
  clear hB hx hR hN hf hS
  go_enter Tryz.func29, Tryz.ntmps29
  go_wp2_with fail
  clear hW x3
  refine (cloneOps_any W0 aP cP P HF.out.1 HX.out.lp).mono ?_
  rintro e w1 ⟨vP, rfl, hO, hb1⟩
  obtain ⟨a0, c0, rfl, -, -⟩ := hO.val
  obtain ⟨W2, hW2⟩ : ∃ W2, w1.setCell ⟨w.heap.size, 3, none⟩ (.slice a0 P.length c0) = W2 := ⟨_, rfl⟩
  have hN1 := HN.out.keep hb1
  have y3 := hN1.at 3 rfl
  have yf := hN1.frz
  have hN2 : Blk W2 w.heap.size [Value.int .i64 f, .int .i64 t, .int .i64 s, .slice a0 P.length c0, .int .i64 v, .slice aR R.length cR, .slice aK K.length cK, .slice aV V.length cV] := by rw [← hW2]; exact hN1.set 3 (by show 3 < 8; decide) (.slice a0 P.length c0)
  have hO2 : OwnE opC 7 32 W2 W0.heap.size (.slice a0 P.length c0) P := by rw [← hW2]; exact hO.other w.heap.size (by have := HS0.out; omega) 3 (.slice a0 P.length c0)
  have hB2 : Below w.heap.size w W2 := by rw [← hW2]; exact below_sets (HB.out.trans (hb1.mono HB.out.size)) w.heap.size (Nat.le_refl _) [.slice a0 P.length c0] 3
  have hR2 : Blk W2 (w.heap.size + 1) [Value.int .i64 0, .int .i64 0, .int .i64 0, .slice none 0 0, .int .i64 0, .slice none 0 0, .slice none 0 0, .slice none 0 0] := by rw [← hW2]; exact (HR.out.keep hb1).others (by omega) [.slice a0 P.length c0] 3
  have hX1 := HX.out.keep hb1
  have hlr : SlI W2 aR R := by rw [← hW2]; exact (hX0.lr.below (HB.out.trans (hb1.mono HB.out.size))).setsO (hX0.lr.off (Nat.le_refl _)) [.slice a0 P.length c0] 3
  have hlk : SlP W2 aK K := by rw [← hW2]; exact (hX0.lk.below (HB.out.trans (hb1.mono HB.out.size))).sets (hX0.lk.off (Nat.le_refl _)) [.slice a0 P.length c0] 3
  have hlv : SlP W2 aV V := by rw [← hW2]; exact (hX0.lv.below (HB.out.trans (hb1.mono HB.out.size))).sets (hX0.lv.off (Nat.le_refl _)) [.slice a0 P.length c0] 3
  have hsz : W2.heap.size = w1.heap.size := by rw [← hW2]; simp
  have HSZ : Hid (W0.heap.size ≤ W2.heap.size) := by show _ ≤ _; rw [hsz]; exact hb1.size
  have x5 := hN2.at 5 rfl
  have x6 := hN2.at 6 rfl
  have x7 := hN2.at 7 rfl
  have HN2 := Lib.hid hN2
  have HO2 := Lib.hid hO2
  have HB2 := Lib.hid hB2
  have HR2 := Lib.hid hR2
  have HL2 := Lib.hid (And.intro hlr (And.intro hlk hlv))
  clear hN2 hO2 hB2 hR2 hX1 hlr hlk hlv hsz hO hb1 hN1 HB HX HN HR hX0
  go_wp2_with fail
  clear x5 x6 x7 y3 yf hW2
  refine (ccloneView_any W2 ((aR, cR), (aK, cK), (aV, cV)) R K V ⟨HF.out.2.1, HF.out.2.2.1, HF.out.2.2.2⟩ HL2.out.1 HL2.out.2.1 HL2.out.2.2).mono ?_
  rintro e w3 ⟨⟨⟨b0, d0⟩, ⟨b1, d1⟩, ⟨b2, d2⟩⟩, rfl, hv3, hb3⟩
  have hN3 := HN2.out.keep hb3
  have HT3 := Lib.hid (hN3.part (o := 5) (us := [Value.slice b0 R.length d0, .slice b1 K.length d1, .slice b2 V.length d2]) (by show 5 + 3 ≤ 8; decide))
  have hlo : w.heap.size + 2 ≤ W2.heap.size := by have := HS0.out; have := HSZ.out; omega
  have hN4 : Blk (w3.setCells w.heap.size 5 [Value.slice b0 R.length d0, .slice b1 K.length d1, .slice b2 V.length d2]) w.heap.size (clC (((f, t, s, v), P, R, K, V), (a0, c0), (b0, d0), (b1, d1), (b2, d2))) := by
    exact ((hN3.set 5 (by show 5 < 8; decide) (.slice b0 R.length d0)).set 6 (by show 6 < 8; decide) (.slice b1 K.length d1)).set 7 (by show 7 < 8; decide) (.slice b2 V.length d2)
  have hC4 : ClNew (w.heap.size + 2) (((f, t, s, v), P, R, K, V), (a0, c0), (b0, d0), (b1, d1), (b2, d2)) (w3.setCells w.heap.size 5 [Value.slice b0 R.length d0, .slice b1 K.length d1, .slice b2 V.length d2]) := by
    exact (ClNew.mk ((HO2.out.keep hb3).mono HS0.out) (hv3.mono hlo) (fun g hg => hv3.offs (HO2.out.row.lt g hg).2)).sets w.heap.size (by omega) _ _
  have hR4 : Blk (w3.setCells w.heap.size 5 [Value.slice b0 R.length d0, .slice b1 K.length d1, .slice b2 V.length d2]) (w.heap.size + 1) [Value.int .i64 0, .int .i64 0, .int .i64 0, .slice none 0 0, .int .i64 0, .slice none 0 0, .slice none 0 0, .slice none 0 0] := by
    exact (HR2.out.keep hb3).others (by omega) _ _
  have hB4 : Below w.heap.size w (w3.setCells w.heap.size 5 [Value.slice b0 R.length d0, .slice b1 K.length d1, .slice b2 V.length d2]) := by
    exact below_sets (HB2.out.trans (hb3.mono HB2.out.size)) w.heap.size (Nat.le_refl _) _ 5
  obtain ⟨y, hy⟩ : ∃ y : Cm, y = (((f, t, s, v), P, R, K, V), (a0, c0), (b0, d0), (b1, d1), (b2, d2)) := ⟨_, rfl⟩
  have HY : Hid (y.1 = ((f, t, s, v), P, R, K, V)) := by show _ = _; rw [hy]
  rw [← hy] at hN4 hC4
  have HRG := Lib.hid hN4.range
  have HC4 := Lib.hid hC4
  have HR4 := Lib.hid hR4
  have HB4 := Lib.hid hB4
  have HT4 : Hid ((w3.setCells w.heap.size 5 [Value.slice b0 R.length d0, .slice b1 K.length d1, .slice b2 V.length d2]).there (w.heap.size + 1) 0 (clC y).toArray.size) := hR4.there
  have HO : Hid ((clC y).toArray.all (·.oneCell') = true) := all_oneCell_toArray (clC_one y)
  have HS : Hid ((Tryz.prog.info? 28).map (·.size) = some (clC y).toArray.size) := sizeClient
  have HOV : Hid ((#[Value.slice b0 R.length d0, .slice b1 K.length d1, .slice b2 V.length d2] : Array Value).all (·.oneCell') = true) := all_oneCell_toArray (cs := [Value.slice b0 R.length d0, .slice b1 K.length d1, .slice b2 V.length d2]) (by intro v hv; simp at hv; rcases hv with rfl | rfl | rfl <;> rfl)
  have HSV : Hid ((Tryz.prog.info? 26).map (·.size) = some (#[Value.slice b0 R.length d0, .slice b1 K.length d1, .slice b2 V.length d2] : Array Value).size) := sizeView
  clear hN4 hC4 hR4 hB4 hv3 hb3 hN3 hlo hy HN2 HO2 HB2 HR2 HL2
  go_wp2_with (first | (with_reducible refine at_store 26 ?_; refine wpList_store_mid ?c1 26 (Operand.tmp 10) (Operand.tmp 9) ?c2 w.heap.size 5 #[Value.slice b0 R.length d0, .slice b1 K.length d1, .slice b2 V.length d2] ?c3 ?c4 ?c5 ?c6 ?c7 ?_) | (refine wpList_load_mid rfl 28 _ rfl w.heap.size 0 rfl (clC y) _ HRG.out Tryz.underlying28 rfl (sizeClientC y) ?_) | (with_reducible refine at_store 28 ?_; refine wpList_store_mid rfl 28 _ _ rfl (w.heap.size + 1) 0 (clC y).toArray rfl rfl HT4.out HS.out HO.out ?_) | fail)
  case c1 => rfl
  case c2 => rfl
  case c3 => rfl
  case c4 => rfl
  case c5 => exact HT3.out
  case c6 => exact sizeView
  case c7 => exact HOV.out
  have hRf := HR4.out.sets (clC y) rfl
  refine ret_cell Tryz.results29 rfl (hRf.load Tryz.underlying28 rfl (sizeClientC y)) ?_
  exact ⟨y, rfl, HY.out, (HC4.out.sets (w.heap.size + 1) (by omega) _ _).mono (by omega), below_sets HB4.out (w.heap.size + 1) (by omega) _ _⟩
/-- room of nil in a mail's delta -/
def MlNil (x : Mm) : Prop := (x.2.2.2.1.1 = none → x.2.2.2.1.2 = 0) ∧ (x.2.2.2.2.2.1 = none → x.2.2.2.2.2.2 = 0)
theorem Fresh.inl {α : Type} {B : Nat} {a : Option Addr} {l : List α} (h : Fresh B a) : InL (B ≤ ·) a l := Or.inr h
/-- what news make of a view: the error -/
def aftE (v : Vw) (m : Ml) : Int := if m.1.1 = 3 then apME v m.2.2.2 else 0
def aftV (v : Vw) (m : Ml) : Vw := if m.1.1 = 3 then (apR (apME v m.2.2.2) v.1, apL (apME v m.2.2.2) v.2.1 m.2.2.2.1 m.2.2.2.2.1, apL (apME v m.2.2.2) v.2.2 m.2.2.2.2.2.1 m.2.2.2.2.2.2) else m.2.2.1
/-- a view in memory that is newer than a world's, but for its roots -/
structure VwAft (B : Nat) (a : Option Addr) (R0 : List Int) (v : Vw) (q : Ad × Ad × Ad) (W : World) : Prop where
  lr : SlI W q.1.1 v.1
  lk : SlP W q.2.1.1 v.2.1
  lv : SlP W q.2.2.1 v.2.2
  ir : (q.1.1 = a ∧ (v.1 = R0 ∨ v.1 = [])) ∨ InL (B ≤ ·) q.1.1 v.1
  ik : InL (B ≤ ·) q.2.1.1 v.2.1
  iv : InL (B ≤ ·) q.2.2.1 v.2.2
  nk : q.2.1.1 = none → q.2.1.2 = 0
  nv : q.2.2.1 = none → q.2.2.2 = 0

set_option maxHeartbeats 4000000 in
set_option maxRecDepth 100000 in
theorem cviewAfter_any (w : World) (v : Vw) (p : Ad × Ad × Ad) (y : Mm) (h1 : SlI w p.1.1 v.1) (h2 : SlP w p.2.1.1 v.2.1) (h3 : SlP w p.2.2.1 v.2.2) (hf : v.1.length ≤ 1000 ∧ v.2.1.length ≤ 1000 ∧ v.2.2.length ≤ 1000) (hnv : p.2.2.1 = none → p.2.2.2 = 0) (hy : MlIn w y) (hn : MlNil y) (hfy : MlFew y.1) :
    Calls Tryz.prog 47 #[vwV v.1 v.2.1 v.2.2 p, y.val] w fun e w' => ∃ q : Ad × Ad × Ad, e = .returned (.tuple #[vwV (aftV v y.1).1 (aftV v y.1).2.1 (aftV v y.1).2.2 q, .int .i64 (aftE v y.1)]) ∧ VwAft w.heap.size p.1.1 v.1 (aftV v y.1) q w' ∧ Below w.heap.size w w' := by
  obtain ⟨⟨aR, cR⟩, ⟨aK, cK⟩, ⟨aV, cV⟩⟩ := p
  obtain ⟨R, K, V⟩ := v
  simp only at h1 h2 h3 hf hnv
  obtain ⟨cy, hcy⟩ : ∃ c, c = mlC y := ⟨_, rfl⟩
  show Calls Tryz.prog _ #[_, .agg (mlC y).toArray] w _
  rw [← hcy]
  obtain ⟨W0, hW, hA, hM, hC, hB, hS⟩ := laid3 w [Value.slice aR R.length cR, Value.slice aK K.length cK, Value.slice aV V.length cV] 26 cy 52 [Value.slice none 0 0, Value.slice none 0 0, Value.slice none 0 0] 26
  rw [hcy] at hM
  clear hcy
  have HY0 := Lib.hid (hy.keep hB)
  obtain ⟨⟨⟨k, u, g, q, z, n, t⟩, o, ⟨R2, K2, V2⟩, G, H, X, Y⟩, ⟨⟨bR, dR⟩, ⟨bK, dK⟩, ⟨bV, dV⟩⟩, ⟨bG, dG⟩, ⟨bH, dH⟩, ⟨bX, dX⟩, ⟨bY, dY⟩⟩ := y
  have HS0 : Hid (w.heap.size + 3 ≤ W0.heap.size) := by show _ ≤ _; omega
  have HX := Lib.hid (And.intro (h1.below hB) (And.intro (h2.below hB) (h3.below hB)))
  have HXR := Lib.hid h1
  have HB := Lib.hid hB
  have HC := Lib.hid hC
  have HF := Lib.hid hf
  have HFY := Lib.hid hfy
  have HNV := Lib.hid hnv
  have HN := Lib.hid hn
  have y0 := hM.at 0 rfl
  have y14 := hM.at 14 rfl
  have y15 := hM.at 15 rfl
  have y16 := hM.at 16 rfl
  have y17 := hM.at 17 rfl
  have y18 := hM.at 18 rfl
  have y19 := hM.at 19 rfl
  have y20 := hM.at 20 rfl
  have x0 := hA.at 0 rfl
  have x1 := hA.at 1 rfl
  have x2 := hA.at 2 rfl
  simp only at y0 y14 y15 y16 y17 y18 y19 y20
  clear h1 h2 h3 hf hnv hy hn hfy hB hA hM hC hS
  have FIN : Hid (∀ (W W1 : World) (v' : Vw) (q : Ad × Ad × Ad), Blk W (w.heap.size + 1 + 1) [Value.slice none 0 0, Value.slice none 0 0, Value.slice none 0 0] → VwAft (w.heap.size + 3) aR R v' q W → SlI w q.1.1 v'.1 ∨ InL (w.heap.size + 3 ≤ ·) q.1.1 v'.1 → Below w.heap.size w W → W1 = W.setCells (w.heap.size + 1 + 1) 0 [Value.slice q.1.1 v'.1.length q.1.2, .slice q.2.1.1 v'.2.1.length q.2.1.2, .slice q.2.2.1 v'.2.2.length q.2.2.2] →
      Blk W1 (w.heap.size + 1 + 1) [Value.slice q.1.1 v'.1.length q.1.2, .slice q.2.1.1 v'.2.1.length q.2.1.2, .slice q.2.2.1 v'.2.2.length q.2.2.2] ∧ VwAft w.heap.size aR R v' q W1 ∧ Below w.heap.size w W1) := by
    rintro W W1 v' q hb h hr hbw rfl
    refine ⟨hb.sets _ rfl, ⟨?_, h.lk.sets (h.ik.off (fun b hb => by omega)) _ _, h.lv.sets (h.iv.off (fun b hb => by omega)) _ _, ?_, h.ik.imp (fun b hb => by omega), h.iv.imp (fun b hb => by omega), h.nk, h.nv⟩, below_sets hbw _ (by omega) _ 0⟩
    · rcases hr with hr | hr
      · exact h.lr.setsO (hr.off (by omega)) _ _
      · exact h.lr.setsO (hr.off (fun b hb => by omega)) _ _
    · rcases h.ir with hi | hi
      · exact Or.inl hi
      · exact Or.inr (hi.imp (fun b hb => by omega))
  by_cases hk : k = 3
  · have d1 : (k == 3) = true := by simpa using hk
    obtain ⟨E, hE⟩ : ∃ E, E = apE R K V G H X Y := ⟨_, rfl⟩
    have hE1 : aftE (R, K, V) ((k, u, g, q, z, n, t), o, (R2, K2, V2), G, H, X, Y) = E := by rw [hE]; exact if_pos hk
    have hV1 : aftV (R, K, V) ((k, u, g, q, z, n, t), o, (R2, K2, V2), G, H, X, Y) = (apR E R, apL E K G H, apL E V X Y) := by rw [hE]; exact if_pos hk
    rw [hE1, hV1]
    clear hE1 hV1 hk
    go_enter Tryz.func47, Tryz.ntmps47
    go_wp2_with fail
    clear x0 x1 x2 y0 y14 y15 y16 y17 y18 y19 y20 d1 hW
    have hq1 := HF.out
    have hq2 := HFY.out
    simp only [MlFew] at hq1 hq2
    have hap := apply_any W0 aR aK aV bG bH bX bY cR cK cV dG dH dX dY R K V G H X Y (by unfold maxLen; omega) ⟨HNV.out, HN.out.1, HN.out.2⟩ HX.out.1 HX.out.2.1 HX.out.2.2 HY0.out.lg HY0.out.lh HY0.out.lx HY0.out.ly
    rw [← hE] at hap
    clear hq1 hq2 hE HF HFY HNV HN HX HY0
    refine hap.mono ?_
    rintro e w1 ⟨r1, r2, r3, s1, s2, s3, rfl, ⟨n2, n3⟩, ⟨f2, f3, f1⟩, l1, l2, l3, hb1⟩
    have hC1 := HC.out.keep hb1
    have c0 := hC1.at 0 rfl
    have c1 := hC1.at 1 rfl
    have c2 := hC1.at 2 rfl
    have cf := hC1.frz
    have hlo := HS0.out
    have hir : SlI w r1 (apR E R) ∨ InL (w.heap.size + 3 ≤ ·) r1 (apR E R) := by
      rcases f1 with rfl | f1
      · left
        unfold apR
        split
        · exact Or.inl rfl
        · exact HXR.out
      · exact Or.inr ((Fresh.inl f1).imp (fun b hb => by omega))
    have hfin := Lib.hid (FIN.out w1 _ (apR E R, apL E K G H, apL E V X Y) ((r1, s1), (r2, s2), (r3, s3)) hC1 ⟨l1, l2, l3, f1.elim (fun h => Or.inl ⟨h, by unfold apR; split; exact Or.inr rfl; exact Or.inl rfl⟩) (fun h => Or.inr ((Fresh.inl h).imp (fun b hb => by omega))), (Fresh.inl f2).imp (fun b hb => by omega), (Fresh.inl f3).imp (fun b hb => by omega), n2, n3⟩ hir (HB.out.trans (hb1.mono HB.out.size)) rfl)
    clear FIN hC1 hlo hir l1 l2 l3 f1 f2 f3 n2 n3 hb1 HC HB HS0 HXR
    go_wp2
    refine ret_cell_tmp Tryz.results47 rfl rfl (hfin.out.1.load Tryz.underlying26 rfl sizeView) ?_
    exact ⟨((r1, s1), (r2, s2), (r3, s3)), rfl, hfin.out.2.1, hfin.out.2.2⟩
  · have d1 : (k == 3) = false := by simpa using hk
    have hE1 : aftE (R, K, V) ((k, u, g, q, z, n, t), o, (R2, K2, V2), G, H, X, Y) = 0 := if_neg hk
    have hV1 : aftV (R, K, V) ((k, u, g, q, z, n, t), o, (R2, K2, V2), G, H, X, Y) = (R2, K2, V2) := if_neg hk
    rw [hE1, hV1]
    clear hE1 hV1 hk
    go_enter Tryz.func47, Tryz.ntmps47
    go_wp2_with fail
    clear x0 x1 x2 y0 y14 y15 y16 y17 y18 y19 y20 d1 hW
    have hq2 := HFY.out
    simp only [MlFew] at hq2
    refine (ccloneView_any W0 ((bR, dR), (bK, dK), (bV, dV)) R2 K2 V2 ⟨hq2.1, hq2.2.1, hq2.2.2.1⟩ HY0.out.lr HY0.out.lk HY0.out.lv).mono ?_
    rintro e w1 ⟨⟨⟨r1, s1⟩, ⟨r2, s2⟩, ⟨r3, s3⟩⟩, rfl, hv, hb1⟩
    have hC1 := HC.out.keep hb1
    have c0 := hC1.at 0 rfl
    have c1 := hC1.at 1 rfl
    have c2 := hC1.at 2 rfl
    have cf := hC1.frz
    have hlo := HS0.out
    have hv3 := hv.mono (B' := w.heap.size + 3) (by omega)
    have hfin := Lib.hid (FIN.out w1 _ (R2, K2, V2) ((r1, s1), (r2, s2), (r3, s3)) hC1 ⟨hv3.lr, hv3.lk, hv3.lv, Or.inr hv3.ir, hv3.ik, hv3.iv, hv3.nk, hv3.nv⟩ (Or.inr hv3.ir) (HB.out.trans (hb1.mono HB.out.size)) rfl)
    clear FIN hC1 hlo hv hv3 hb1 HC HB HS0 hq2 HY0 HX HNV HN HF HFY HXR
    go_wp2
    refine ret_cell_tmp Tryz.results47 rfl rfl (hfin.out.1.load Tryz.underlying26 rfl sizeView) ?_
    exact ⟨((r1, s1), (r2, s2), (r3, s3)), rfl, hfin.out.2.1, hfin.out.2.2⟩
end Go.Proofs.YtijjiccgpobjmaeGreat

/- way.within, way.headOf; heads held against each other. -/
namespace Go.Proofs.YtijjiccgpobjmaeGreat
open Go.ChangeShapes Go.WideShapes Go.ChangeAt Go.RowKit
open Orangery (Pl Mv Vw Dl Ml noVw noDl noMl)

set_option maxHeartbeats 1000000 in
theorem wwithin_any (w : World) (n a b : Int) : Calls Tryz.prog 104 #[.int .i64 n, .agg #[.int .i64 a, .int .i64 b]] w fun e w' => e = .returned (.bool (inB n a b)) ∧ Below w.heap.size w w' := by
  obtain ⟨W0, hW, hA, hB, -⟩ := laid1 w [Value.int .i64 a, .int .i64 b] 129
  have x0 := hA.at 0 rfl
  have x1 := hA.at 1 rfl
  have HB := Lib.hid hB
  clear hA hB
  by_cases h1 : a ≤ n
  case neg =>
    have HE : Hid (inB n a b = false) := by show _ = _; simp [inB]; omega
    go_enter Tryz.func104, Tryz.ntmps104
    go_wp2
    go_ret
    exact ⟨ret_bool HE.out.symm, HB.out⟩
  by_cases h2 : n ≤ b
  · have HE : Hid (inB n a b = true) := by show _ = _; simp [inB]; omega
    go_enter Tryz.func104, Tryz.ntmps104
    go_wp2
    go_ret
    exact ⟨ret_bool HE.out.symm, HB.out⟩
  · have HE : Hid (inB n a b = false) := by show _ = _; simp [inB]; omega
    go_enter Tryz.func104, Tryz.ntmps104
    go_wp2
    go_ret
    exact ⟨ret_bool HE.out.symm, HB.out⟩

/-- all of a mail that has no lists -/
def hdC (m : Ml) : List Value := [.int .i64 m.1.1, .int .i64 m.1.2.1, .int .i64 m.1.2.2.1, .int .i64 m.1.2.2.2.1, .int .i64 m.1.2.2.2.2.1, .int .i64 m.1.2.2.2.2.2.1, .int .i64 m.1.2.2.2.2.2.2, .int .i64 m.2.1.1, .int .i64 m.2.1.2.1, .int .i64 m.2.1.2.2.1.1, .int .i64 m.2.1.2.2.1.2.1, .int .i64 m.2.1.2.2.1.2.2, .int .i64 m.2.1.2.2.2.1, .int .i64 m.2.1.2.2.2.2]
theorem sizeHead : (Tryz.prog.info? 157).map (·.size) = some 14 := by kernel_rfl
set_option maxHeartbeats 2000000 in
set_option maxRecDepth 100000 in
theorem whead_any (w : World) (x : Mm) : Calls Tryz.prog 127 #[x.val] w fun e w' => e = .returned (.agg (hdC x.1).toArray) ∧ Below w.heap.size w w' := by
  obtain ⟨cx, hcx⟩ : ∃ c, c = mlC x := ⟨_, rfl⟩
  have HCX : Hid (cx = mlC x) := hcx
  show Calls Tryz.prog _ #[.agg (mlC x).toArray] w _
  rw [← hcx]
  clear hcx
  obtain ⟨W0, hW, hA, hC, hB, -⟩ := laid2 w cx 52 [Value.int .i64 0, .int .i64 0, .int .i64 0, .int .i64 0, .int .i64 0, .int .i64 0, .int .i64 0, .int .i64 0, .int .i64 0, .int .i64 0, .int .i64 0, .int .i64 0, .int .i64 0, .int .i64 0] 157
  rw [HCX.out] at hA
  have x0 := hA.at 0 rfl
  have x1 := hA.at 1 rfl
  have x2 := hA.at 2 rfl
  have x3 := hA.at 3 rfl
  have x4 := hA.at 4 rfl
  have x5 := hA.at 5 rfl
  have x6 := hA.at 6 rfl
  have x7 := hA.at 7 rfl
  have x8 := hA.at 8 rfl
  have x9 := hA.at 9 rfl
  have x10 := hA.at 10 rfl
  have x11 := hA.at 11 rfl
  have x12 := hA.at 12 rfl
  have x13 := hA.at 13 rfl
  have HC := Lib.hid hC
  have HB := Lib.hid hB
  clear hA hB hC HCX
  have HT : Hid (W0.there (w.heap.size + 1) 0 (hdC x.1).toArray.size) := HC.out.there
  have HO : Hid ((hdC x.1).toArray.all (·.oneCell') = true) := all_oneCell_toArray (by intro v hv; simp only [hdC, List.mem_cons, List.not_mem_nil, or_false] at hv; rcases hv with rfl | rfl | rfl | rfl | rfl | rfl | rfl | rfl | rfl | rfl | rfl | rfl | rfl | rfl <;> rfl)
  have HS : Hid ((Tryz.prog.info? 157).map (·.size) = some (hdC x.1).toArray.size) := sizeHead
  go_enter Tryz.func127, Tryz.ntmps127
  go_wp2_with (first | (with_reducible refine at_store 157 ?_; refine wpList_store_mid rfl 157 _ _ rfl (w.heap.size + 1) 0 (hdC x.1).toArray rfl rfl HT.out HS.out HO.out ?_) | fail)
  have hR := HC.out.sets (hdC x.1) rfl
  refine ret_cell Tryz.results127 rfl (hR.load Tryz.underlying157 rfl sizeHead) ?_
  exact ⟨rfl, below_sets HB.out (w.heap.size + 1) (by omega) _ _⟩

theorem eqg_head (n : Nat) (a b : Ml) (w : World) :
    (Op.equalIn (n + 4) 157 (.agg (hdC a).toArray) (.agg (hdC b).toArray)).run Tryz.prog w = .ok (decide (a.1 = b.1 ∧ a.2.1 = b.2.1)) w := by
  obtain ⟨⟨a1, a2, a3, a4, a5, a6, a7⟩, o, -⟩ := a
  obtain ⟨⟨b1, b2, b3, b4, b5, b6, b7⟩, p, -⟩ := b
  have u3 := Tryz.underlying3
  have a3' := Tryz.isAgg3
  have z3 := Tryz.sizeOf3
  have a4' := Tryz.isAgg32
  have z4 := Tryz.sizeOf32
  have hS : Tryz.prog.underlying 157 = some (.struct (Tryz.prog.fieldsOf 157)) := by kernel_rfl
  have hp : Tryz.prog.stoodInHeld 157 = false := by kernel_rfl
  have hop := eqg_op n o p
  simp only [hdC]
  rw [run_equalIn_agg w (n + 3) 157 _ _ hS hp]
  simp only [Program.fieldsOf, Tryz.underlying157]
  go_simp
  by_cases h1 : a1 = b1
  case neg => simp [h1]
  by_cases h2 : a2 = b2
  case neg => simp [h1, h2]
  by_cases h3 : a3 = b3
  case neg => simp [h1, h2, h3]
  by_cases h4 : a4 = b4
  case neg => simp [h1, h2, h3, h4]
  by_cases h5 : a5 = b5
  case neg => simp [h1, h2, h3, h4, h5]
  by_cases h6 : a6 = b6
  case neg => simp [h1, h2, h3, h4, h5, h6]
  by_cases h7 : a7 = b7
  case neg => simp [h1, h2, h3, h4, h5, h6, h7]
  by_cases h8 : o = p <;> simp [h1, h2, h3, h4, h5, h6, h7, h8]
theorem run_eql_head (a b : Ml) (w : World) : (binOp .eql 157 (.agg (hdC a).toArray) (.agg (hdC b).toArray)).run Tryz.prog w = .ok (.bool (decide (a.1 = b.1 ∧ a.2.1 = b.2.1))) w := by
  have e1 := eqg_head 9996 a b w
  rw [run_eql_struct, show (10000 : Nat) = 9996 + 4 from rfl, e1]
  rfl
theorem guard_head (op : BinOp) (x y : Operand) (xs ys : Array Value) (w : World) : (eqGuard op 157 x y (.agg xs) (.agg ys)).run Tryz.prog w = .ok () w :=
  run_eqGuard_agg w op 157 x y xs ys (by kernel_rfl)
end Go.Proofs.YtijjiccgpobjmaeGreat

/- way.alike: mail held against mail by the program. -/
namespace Go.Proofs.YtijjiccgpobjmaeGreat
open Go.ChangeShapes Go.WideShapes Go.ChangeAt Go.RowKit
open Orangery (Pl Mv Vw Dl Ml noVw noDl noMl sameV sameD)

theorem sameMl_parts (x y : Ml) : sameMl x y = (decide (x.1 = y.1 ∧ x.2.1 = y.2.1) && sameV x.2.2.1.1 y.2.2.1.1 x.2.2.1.2.1 y.2.2.1.2.1 x.2.2.1.2.2 y.2.2.1.2.2 && sameD x.2.2.2.1 y.2.2.2.1 x.2.2.2.2.1 y.2.2.2.2.1 x.2.2.2.2.2.1 y.2.2.2.2.2.1 x.2.2.2.2.2.2 y.2.2.2.2.2.2) := by
  obtain ⟨x1, x2, ⟨x3, x4, x5⟩, x6, x7, x8, x9⟩ := x
  obtain ⟨y1, y2, ⟨y3, y4, y5⟩, y6, y7, y8, y9⟩ := y
  rw [Bool.eq_iff_iff, sameMl_iff]
  simp [sameV, sameD, and_assoc]

set_option maxHeartbeats 4000000 in
set_option maxRecDepth 100000 in
theorem walike_any (w : World) (x y : Mm) (hx : MlIn w x) (hy : MlIn w y) : Calls Tryz.prog 105 #[x.val, y.val] w fun e w' => e = .returned (.bool (sameMl x.1 y.1)) ∧ Below w.heap.size w w' := by
  have HE : Hid (sameMl x.1 y.1 = _) := sameMl_parts x.1 y.1
  obtain ⟨cx, hcx⟩ : ∃ c, c = mlC x := ⟨_, rfl⟩
  obtain ⟨cy, hcy⟩ : ∃ c, c = mlC y := ⟨_, rfl⟩
  have HH : Hid (∀ W (z : Mm) (c : List Value), c = mlC z → Calls Tryz.prog 127 #[.agg c.toArray] W fun e w' => e = .returned (.agg (hdC z.1).toArray) ∧ Below W.heap.size W w') := fun W z c hc => by subst hc; exact whead_any W z
  show Calls Tryz.prog _ #[.agg (mlC x).toArray, .agg (mlC y).toArray] w _
  rw [← hcx, ← hcy]
  obtain ⟨W0, hW, hA, hC, hB, -⟩ := laid2 w cx 52 cy 52
  have HAX : Hid (∀ W, Blk W w.heap.size cx → Blk W w.heap.size (mlC x)) := fun W h => by rw [← hcx]; exact h
  have HCY : Hid (∀ W, Blk W (w.heap.size + 1) cy → Blk W (w.heap.size + 1) (mlC y)) := fun W h => by rw [← hcy]; exact h
  have HA := Lib.hid hA
  have HC := Lib.hid hC
  have HX := Lib.hid hx
  have HY := Lib.hid hy
  have HB0 := Lib.hid hB
  have HCX := Lib.hid hcx
  have HCW := Lib.hid hcy
  have HI1 : Hid ((Tryz.prog.info? 52).map (·.size) = some cx.length) := by show _ = _; rw [hcx]; exact sizeMailC x
  have HI2 : Hid ((Tryz.prog.info? 52).map (·.size) = some cy.length) := by show _ = _; rw [hcy]; exact sizeMailC y
  have hrh := run_eql_head x.1 y.1
  have hgd := guard_head
  clear hx hy hB hA hC hcx hcy
  go_enter Tryz.func105, Tryz.ntmps105
  go_upto_region 1 with fail
  clear hW
  refine wp_region_held_drew (S := fun w' => Blk w' w.heap.size cx ∧ Blk w' (w.heap.size + 1) cy ∧ Below w.heap.size w w') (by kernel_rfl) ⟨HA.out.drew, HC.out.drew, HB0.out.drew⟩ (fun hHeld => ?_)
  refine take_load 0 5 52 w.heap.size cx rfl rfl (by kernel_rfl) (by kernel_rfl) (by kernel_rfl) (fun _ _ _ h => h) (by rfl) (by rfl) (by rfl) (fun w hw => hw.1.range) Tryz.underlying52 rfl HI1.out hHeld ?_
  simp only [Act.put, List.setIfInBounds_toArray, List.set_cons_succ, List.set_cons_zero]
  refine take_load 2 7 52 (w.heap.size + 1) cy rfl rfl (by kernel_rfl) (by kernel_rfl) (by kernel_rfl) (fun _ _ _ h => h) (by rfl) (by rfl) (by rfl) (fun w hw => hw.2.1.range) Tryz.underlying52 rfl HI2.out hHeld ?_
  simp only [Act.put, List.setIfInBounds_toArray, List.set_cons_succ, List.set_cons_zero]
  refine wpAnyH_ready (rs := [1]) (by kernel_rfl) (by simp) ?_
  refine AllReadyH.cons rfl (fun KK hKK => ?_) AllReadyH.nil
  go_simp
  refine (HH.out W0.drew x cx HCX.out).mono ?_
  rintro e w2 ⟨rfl, hb⟩
  have hHeld2 := hHeld
  refine hKK.out _ _ ⟨hHeld2.1.keep hb, hHeld2.2.1.keep hb, hHeld2.2.2.trans (hb.mono hHeld2.2.2.size)⟩ (fun hHeld => ?_)
  clear hKK KK hHeld2 hb
  refine wpAnyH_ready (rs := [3]) (by kernel_rfl) (by simp) ?_
  refine AllReadyH.cons rfl (fun KK hKK => ?_) AllReadyH.nil
  go_simp
  refine (HH.out w2 y cy HCW.out).mono ?_
  rintro e w3 ⟨rfl, hb⟩
  have hHeld2 := hHeld
  refine hKK.out _ _ ⟨hHeld2.1.keep hb, hHeld2.2.1.keep hb, hHeld2.2.2.trans (hb.mono hHeld2.2.2.size)⟩ (fun hHeld => ?_)
  clear hKK KK hHeld2 hb
  obtain ⟨hq, hhq⟩ : ∃ b : Bool, b = decide (x.1.1 = y.1.1 ∧ x.1.2.1 = y.1.2.1) := ⟨_, rfl⟩
  rw [← hhq] at hrh HE
  clear hhq
  refine take_yes 4 9 (v := ?_) rfl rfl (by kernel_rfl) (by kernel_rfl) (by kernel_rfl) (fun _ _ _ h => h) (by rfl) ?_ hHeld ?_
  rotate_left 1
  · (intro w9 hSw; skip; go_simp; try with_reducible rfl)
  simp only [Act.put, List.setIfInBounds_toArray, List.set_cons_succ, List.set_cons_zero]
  refine take_yes 5 10 (v := ?_) rfl rfl (by kernel_rfl) (by kernel_rfl) (by kernel_rfl) (fun _ _ _ h => h) (by rfl) ?_ hHeld ?_
  rotate_left 1
  · (intro w9 hSw; skip; go_simp; try with_reducible rfl)
  simp only [Act.put, List.setIfInBounds_toArray, List.set_cons_succ, List.set_cons_zero]
  cases hq
  case false =>
    refine take_no 6 11 rfl rfl (by kernel_rfl) (by kernel_rfl) (by kernel_rfl) (fun _ _ _ h => h) (by rfl) hHeld ?_
    simp only [Act.put, List.setIfInBounds_toArray, List.set_cons_succ, List.set_cons_zero]
    refine take_no 7 12 rfl rfl (by kernel_rfl) (by kernel_rfl) (by kernel_rfl) (fun _ _ _ h => h) (by rfl) hHeld ?_
    simp only [Act.put, List.setIfInBounds_toArray, List.set_cons_succ, List.set_cons_zero]
    refine take_no 8 13 rfl rfl (by kernel_rfl) (by kernel_rfl) (by kernel_rfl) (fun _ _ _ h => h) (by rfl) hHeld ?_
    simp only [Act.put, List.setIfInBounds_toArray, List.set_cons_succ, List.set_cons_zero]
    refine take_no 9 14 rfl rfl (by kernel_rfl) (by kernel_rfl) (by kernel_rfl) (fun _ _ _ h => h) (by rfl) hHeld ?_
    simp only [Act.put, List.setIfInBounds_toArray, List.set_cons_succ, List.set_cons_zero]
    refine take_no 10 15 rfl rfl (by kernel_rfl) (by kernel_rfl) (by kernel_rfl) (fun _ _ _ h => h) (by rfl) hHeld ?_
    simp only [Act.put, List.setIfInBounds_toArray, List.set_cons_succ, List.set_cons_zero]
    refine take_yes 11 16 (v := ?_) rfl rfl (by kernel_rfl) (by kernel_rfl) (by kernel_rfl) (fun _ _ _ h => h) (by rfl) ?_ hHeld ?_
    rotate_left 1
    · (intro w9 hSw; skip; go_simp; try with_reducible rfl)
    simp only [Act.put, List.setIfInBounds_toArray, List.set_cons_succ, List.set_cons_zero]
    refine take_yes 12 17 (v := ?_) rfl rfl (by kernel_rfl) (by kernel_rfl) (by kernel_rfl) (fun _ _ _ h => h) (by rfl) ?_ hHeld ?_
    rotate_left 1
    · (intro w9 hSw; skip; go_simp; try with_reducible rfl)
    simp only [Act.put, List.setIfInBounds_toArray, List.set_cons_succ, List.set_cons_zero]
    refine take_no 13 18 rfl rfl (by kernel_rfl) (by kernel_rfl) (by kernel_rfl) (fun _ _ _ h => h) (by rfl) hHeld ?_
    simp only [Act.put, List.setIfInBounds_toArray, List.set_cons_succ, List.set_cons_zero]
    refine take_no 14 19 rfl rfl (by kernel_rfl) (by kernel_rfl) (by kernel_rfl) (fun _ _ _ h => h) (by rfl) hHeld ?_
    simp only [Act.put, List.setIfInBounds_toArray, List.set_cons_succ, List.set_cons_zero]
    refine take_no 15 20 rfl rfl (by kernel_rfl) (by kernel_rfl) (by kernel_rfl) (fun _ _ _ h => h) (by rfl) hHeld ?_
    simp only [Act.put, List.setIfInBounds_toArray, List.set_cons_succ, List.set_cons_zero]
    refine take_no 16 21 rfl rfl (by kernel_rfl) (by kernel_rfl) (by kernel_rfl) (fun _ _ _ h => h) (by rfl) hHeld ?_
    simp only [Act.put, List.setIfInBounds_toArray, List.set_cons_succ, List.set_cons_zero]
    refine take_no 17 22 rfl rfl (by kernel_rfl) (by kernel_rfl) (by kernel_rfl) (fun _ _ _ h => h) (by rfl) hHeld ?_
    simp only [Act.put, List.setIfInBounds_toArray, List.set_cons_succ, List.set_cons_zero]
    refine take_yes 18 23 (v := ?_) rfl rfl (by kernel_rfl) (by kernel_rfl) (by kernel_rfl) (fun _ _ _ h => h) (by rfl) ?_ hHeld ?_
    rotate_left 1
    · (intro w9 hSw; skip; go_simp; try with_reducible rfl)
    simp only [Act.put, List.setIfInBounds_toArray, List.set_cons_succ, List.set_cons_zero]
    refine take_yes 19 4 (v := ?_) rfl rfl (by kernel_rfl) (by kernel_rfl) (by kernel_rfl) (fun _ _ _ h => h) (by rfl) ?_ hHeld ?_
    rotate_left 1
    · (intro w9 hSw; skip; go_simp; try with_reducible rfl)
    simp only [Act.put, List.setIfInBounds_toArray, List.set_cons_succ, List.set_cons_zero]
    refine wpAnyH_done (by kernel_rfl) ?_ _
    have HB9 := Lib.hid hHeld.2.2
    clear hHeld hrh
    go_wp2
    go_ret
    exact ⟨ret_bool (by rw [HE.out]; rfl), HB9.out⟩
  clear hrh hgd
  refine take_yes 6 11 (v := ?_) rfl rfl (by kernel_rfl) (by kernel_rfl) (by kernel_rfl) (fun _ _ _ h => h) (by rfl) ?_ hHeld ?_
  rotate_left 1
  · (intro w9 hSw; skip; go_simp; try with_reducible rfl)
  simp only [Act.put, List.setIfInBounds_toArray, List.set_cons_succ, List.set_cons_zero]
  refine take_yes 7 12 (v := ?_) rfl rfl (by kernel_rfl) (by kernel_rfl) (by kernel_rfl) (fun _ _ _ h => h) (by rfl) ?_ hHeld ?_
  rotate_left 1
  · (intro w9 hSw; have q1 := (HAX.out _ hSw.1).at 14 rfl; have q2 := (HAX.out _ hSw.1).at 15 rfl; have q3 := (HAX.out _ hSw.1).at 16 rfl; go_simp; try with_reducible rfl)
  simp only [Act.put, List.setIfInBounds_toArray, List.set_cons_succ, List.set_cons_zero]
  refine take_yes 8 13 (v := ?_) rfl rfl (by kernel_rfl) (by kernel_rfl) (by kernel_rfl) (fun _ _ _ h => h) (by rfl) ?_ hHeld ?_
  rotate_left 1
  · (intro w9 hSw; skip; go_simp; try with_reducible rfl)
  simp only [Act.put, List.setIfInBounds_toArray, List.set_cons_succ, List.set_cons_zero]
  refine take_yes 9 14 (v := ?_) rfl rfl (by kernel_rfl) (by kernel_rfl) (by kernel_rfl) (fun _ _ _ h => h) (by rfl) ?_ hHeld ?_
  rotate_left 1
  · (intro w9 hSw; have q1 := (HCY.out _ hSw.2.1).at 14 rfl; have q2 := (HCY.out _ hSw.2.1).at 15 rfl; have q3 := (HCY.out _ hSw.2.1).at 16 rfl; go_simp; try with_reducible rfl)
  simp only [Act.put, List.setIfInBounds_toArray, List.set_cons_succ, List.set_cons_zero]
  have HXk : Hid (∀ W, Below w.heap.size w W → MlIn W x ∧ MlIn W y) := fun W hb => ⟨HX.out.keep hb, HY.out.keep hb⟩
  refine wpAnyH_ready (rs := [10]) (by kernel_rfl) (by simp) ?_
  refine AllReadyH.cons rfl (fun KK hKK => ?_) AllReadyH.nil
  go_simp
  refine (vsame_any w3 x.2.1.1.1 x.2.1.2.1.1 x.2.1.2.2.1 y.2.1.1.1 y.2.1.2.1.1 y.2.1.2.2.1 x.2.1.1.2 x.2.1.2.1.2 x.2.1.2.2.2 y.2.1.1.2 y.2.1.2.1.2 y.2.1.2.2.2 x.1.2.2.1.1 y.1.2.2.1.1 x.1.2.2.1.2.1 y.1.2.2.1.2.1 x.1.2.2.1.2.2 y.1.2.2.1.2.2 HX.out.max.1.1 HX.out.max.1.2.1 HX.out.max.1.2.2 (HXk.out _ hHeld.2.2).1.lr (HXk.out _ hHeld.2.2).1.lk (HXk.out _ hHeld.2.2).1.lv (HXk.out _ hHeld.2.2).2.lr (HXk.out _ hHeld.2.2).2.lk (HXk.out _ hHeld.2.2).2.lv).mono ?_
  rintro e w4 ⟨rfl, hb⟩
  have hHeld2 := hHeld
  refine hKK.out _ _ ⟨hHeld2.1.keep hb, hHeld2.2.1.keep hb, hHeld2.2.2.trans (hb.mono hHeld2.2.2.size)⟩ (fun hHeld => ?_)
  clear hKK KK hHeld2 hb
  obtain ⟨hv, hhv⟩ : ∃ b : Bool, b = sameV x.1.2.2.1.1 y.1.2.2.1.1 x.1.2.2.1.2.1 y.1.2.2.1.2.1 x.1.2.2.1.2.2 y.1.2.2.1.2.2 := ⟨_, rfl⟩
  rw [← hhv] at HE
  rw [← hhv]
  clear hhv
  refine take_yes 11 16 (v := ?_) rfl rfl (by kernel_rfl) (by kernel_rfl) (by kernel_rfl) (fun _ _ _ h => h) (by rfl) ?_ hHeld ?_
  rotate_left 1
  · (intro w9 hSw; skip; go_simp; try with_reducible rfl)
  simp only [Act.put, List.setIfInBounds_toArray, List.set_cons_succ, List.set_cons_zero]
  refine take_yes 12 17 (v := ?_) rfl rfl (by kernel_rfl) (by kernel_rfl) (by kernel_rfl) (fun _ _ _ h => h) (by rfl) ?_ hHeld ?_
  rotate_left 1
  · (intro w9 hSw; skip; go_simp; try with_reducible rfl)
  simp only [Act.put, List.setIfInBounds_toArray, List.set_cons_succ, List.set_cons_zero]
  cases hv
  case false =>
    refine take_no 13 18 rfl rfl (by kernel_rfl) (by kernel_rfl) (by kernel_rfl) (fun _ _ _ h => h) (by rfl) hHeld ?_
    simp only [Act.put, List.setIfInBounds_toArray, List.set_cons_succ, List.set_cons_zero]
    refine take_no 14 19 rfl rfl (by kernel_rfl) (by kernel_rfl) (by kernel_rfl) (fun _ _ _ h => h) (by rfl) hHeld ?_
    simp only [Act.put, List.setIfInBounds_toArray, List.set_cons_succ, List.set_cons_zero]
    refine take_no 15 20 rfl rfl (by kernel_rfl) (by kernel_rfl) (by kernel_rfl) (fun _ _ _ h => h) (by rfl) hHeld ?_
    simp only [Act.put, List.setIfInBounds_toArray, List.set_cons_succ, List.set_cons_zero]
    refine take_no 16 21 rfl rfl (by kernel_rfl) (by kernel_rfl) (by kernel_rfl) (fun _ _ _ h => h) (by rfl) hHeld ?_
    simp only [Act.put, List.setIfInBounds_toArray, List.set_cons_succ, List.set_cons_zero]
    refine take_no 17 22 rfl rfl (by kernel_rfl) (by kernel_rfl) (by kernel_rfl) (fun _ _ _ h => h) (by rfl) hHeld ?_
    simp only [Act.put, List.setIfInBounds_toArray, List.set_cons_succ, List.set_cons_zero]
    refine take_yes 18 23 (v := ?_) rfl rfl (by kernel_rfl) (by kernel_rfl) (by kernel_rfl) (fun _ _ _ h => h) (by rfl) ?_ hHeld ?_
    rotate_left 1
    · (intro w9 hSw; skip; go_simp; try with_reducible rfl)
    simp only [Act.put, List.setIfInBounds_toArray, List.set_cons_succ, List.set_cons_zero]
    refine take_yes 19 4 (v := ?_) rfl rfl (by kernel_rfl) (by kernel_rfl) (by kernel_rfl) (fun _ _ _ h => h) (by rfl) ?_ hHeld ?_
    rotate_left 1
    · (intro w9 hSw; skip; go_simp; try with_reducible rfl)
    simp only [Act.put, List.setIfInBounds_toArray, List.set_cons_succ, List.set_cons_zero]
    refine wpAnyH_done (by kernel_rfl) ?_ _
    have HB9 := Lib.hid hHeld.2.2
    clear hHeld
    go_wp2
    go_ret
    exact ⟨ret_bool (by rw [HE.out]; rfl), HB9.out⟩
  refine take_yes 13 18 (v := ?_) rfl rfl (by kernel_rfl) (by kernel_rfl) (by kernel_rfl) (fun _ _ _ h => h) (by rfl) ?_ hHeld ?_
  rotate_left 1
  · (intro w9 hSw; skip; go_simp; try with_reducible rfl)
  simp only [Act.put, List.setIfInBounds_toArray, List.set_cons_succ, List.set_cons_zero]
  refine take_yes 14 19 (v := ?_) rfl rfl (by kernel_rfl) (by kernel_rfl) (by kernel_rfl) (fun _ _ _ h => h) (by rfl) ?_ hHeld ?_
  rotate_left 1
  · (intro w9 hSw; have q17 := (HAX.out _ hSw.1).at 17 rfl; have q18 := (HAX.out _ hSw.1).at 18 rfl; have q19 := (HAX.out _ hSw.1).at 19 rfl; have q20 := (HAX.out _ hSw.1).at 20 rfl; go_simp; try with_reducible rfl)
  simp only [Act.put, List.setIfInBounds_toArray, List.set_cons_succ, List.set_cons_zero]
  refine take_yes 15 20 (v := ?_) rfl rfl (by kernel_rfl) (by kernel_rfl) (by kernel_rfl) (fun _ _ _ h => h) (by rfl) ?_ hHeld ?_
  rotate_left 1
  · (intro w9 hSw; skip; go_simp; try with_reducible rfl)
  simp only [Act.put, List.setIfInBounds_toArray, List.set_cons_succ, List.set_cons_zero]
  refine take_yes 16 21 (v := ?_) rfl rfl (by kernel_rfl) (by kernel_rfl) (by kernel_rfl) (fun _ _ _ h => h) (by rfl) ?_ hHeld ?_
  rotate_left 1
  · (intro w9 hSw; have q17 := (HCY.out _ hSw.2.1).at 17 rfl; have q18 := (HCY.out _ hSw.2.1).at 18 rfl; have q19 := (HCY.out _ hSw.2.1).at 19 rfl; have q20 := (HCY.out _ hSw.2.1).at 20 rfl; go_simp; try with_reducible rfl)
  simp only [Act.put, List.setIfInBounds_toArray, List.set_cons_succ, List.set_cons_zero]
  refine wpAnyH_ready (rs := [17]) (by kernel_rfl) (by simp) ?_
  refine AllReadyH.cons rfl (fun KK hKK => ?_) AllReadyH.nil
  go_simp
  refine (dsame_any w4 x.2.2.1.1 x.2.2.2.1.1 x.2.2.2.2.1.1 x.2.2.2.2.2.1 y.2.2.1.1 y.2.2.2.1.1 y.2.2.2.2.1.1 y.2.2.2.2.2.1 x.2.2.1.2 x.2.2.2.1.2 x.2.2.2.2.1.2 x.2.2.2.2.2.2 y.2.2.1.2 y.2.2.2.1.2 y.2.2.2.2.1.2 y.2.2.2.2.2.2 x.1.2.2.2.1 y.1.2.2.2.1 x.1.2.2.2.2.1 y.1.2.2.2.2.1 x.1.2.2.2.2.2.1 y.1.2.2.2.2.2.1 x.1.2.2.2.2.2.2 y.1.2.2.2.2.2.2 HX.out.max.2 (HXk.out _ hHeld.2.2).1.lg (HXk.out _ hHeld.2.2).1.lh (HXk.out _ hHeld.2.2).1.lx (HXk.out _ hHeld.2.2).1.ly (HXk.out _ hHeld.2.2).2.lg (HXk.out _ hHeld.2.2).2.lh (HXk.out _ hHeld.2.2).2.lx (HXk.out _ hHeld.2.2).2.ly).mono ?_
  rintro e w5 ⟨rfl, hb⟩
  have hHeld2 := hHeld
  refine hKK.out _ _ ⟨hHeld2.1.keep hb, hHeld2.2.1.keep hb, hHeld2.2.2.trans (hb.mono hHeld2.2.2.size)⟩ (fun hHeld => ?_)
  clear hKK KK hHeld2 hb
  obtain ⟨hd, hhd⟩ : ∃ b : Bool, b = sameD x.1.2.2.2.1 y.1.2.2.2.1 x.1.2.2.2.2.1 y.1.2.2.2.2.1 x.1.2.2.2.2.2.1 y.1.2.2.2.2.2.1 x.1.2.2.2.2.2.2 y.1.2.2.2.2.2.2 := ⟨_, rfl⟩
  rw [← hhd] at HE
  rw [← hhd]
  clear hhd
  refine take_yes 18 23 (v := ?_) rfl rfl (by kernel_rfl) (by kernel_rfl) (by kernel_rfl) (fun _ _ _ h => h) (by rfl) ?_ hHeld ?_
  rotate_left 1
  · (intro w9 hSw; skip; go_simp; try with_reducible rfl)
  simp only [Act.put, List.setIfInBounds_toArray, List.set_cons_succ, List.set_cons_zero]
  refine take_yes 19 4 (v := ?_) rfl rfl (by kernel_rfl) (by kernel_rfl) (by kernel_rfl) (fun _ _ _ h => h) (by rfl) ?_ hHeld ?_
  rotate_left 1
  · (intro w9 hSw; skip; go_simp; try with_reducible rfl)
  simp only [Act.put, List.setIfInBounds_toArray, List.set_cons_succ, List.set_cons_zero]
  refine wpAnyH_done (by kernel_rfl) ?_ _
  have HB9 := Lib.hid hHeld.2.2
  clear hHeld
  go_wp2
  go_ret
  exact ⟨ret_bool (by rw [HE.out]; rfl), HB9.out⟩
end Go.Proofs.YtijjiccgpobjmaeGreat

