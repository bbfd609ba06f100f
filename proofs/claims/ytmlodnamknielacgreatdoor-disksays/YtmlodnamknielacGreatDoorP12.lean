/- 4 texts of the proof: orangeryref.CheckDisk, orangeryref.SameDisk, orangeryref.Synced. orangeryref.RecText's closure: texts of numbers behind a list of texts. orangeryref.RecText. orangeryref.PutOn. -/
import Derived.Deep.RegionHeld3
import Derived.Deep.DeepCutAuto
import Derived.Lib.ConvBytes
import Derived.Test.YtmlodnamknielacGreatDoorP11
import Derived.Test.YtmlodnamknielacGreatDoorP08
import Derived.Test.YtmlodnamknielacGreatDoorP09
import Derived.Test.YtmlodnamknielacGreatDoorP05
import Derived.Test.YtmlodnamknielacGreatDoorP04
/- orangeryref.CheckDisk, orangeryref.SameDisk, orangeryref.Synced. -/
namespace Go.Proofs.YtmlodnamknielacGreatDoor
open Go.ChangeShapes Go.WideShapes Go.ChangeAt Go.RowKit
open Orangery (Mv Rc noRec noOp lnL lnN lnE diskE)

set_option maxHeartbeats 1000000 in
set_option maxRecDepth 100000 in
theorem rcheckDisk_any (w : World) (v : Value) (s t : List UInt8) (h : DkIs w v s t) (hv : Vars w) :
    Calls Tryz.prog 8 #[v] w fun e w' => e = .returned (.int .i64 (diskE s t)) ∧ Below w.heap.size w w' := by
  obtain ⟨a, c, a', c', rfl, h1, h2⟩ := h
  have f1 := h1.few
  have f2 := h2.few
  have hB := Go.Joins.below_alloc1 w (Obj.cells [Value.slice a s.length c, .slice a' t.length c'].toArray 24)
  have kT := SlB.text (h1.keep hB).reads c
  have HV := Lib.hid (hv.on hB)
  have HB := Lib.hid hB
  clear h1 h2 hv hB
  by_cases hs : 60000 < s.length
  · have d1 : decide ((s.length : Int) > 60000) = true := by simp; omega
    have HE : Hid (diskE s t = 2) := disk_big (by omega)
    clear hs kT
    go_enter Tryz.func8, Tryz.ntmps8
    go_wp2
    go_ret
    exact ⟨ret_int HE.out.symm, HB.out⟩
  have d1 : decide ((s.length : Int) > 60000) = false := by simp; omega
  by_cases ht : 60000 < s.length + t.length
  · have d2 : decide ((t.length : Int) > 60000 - (s.length : Int)) = true := by simp; omega
    have HE : Hid (diskE s t = 2) := disk_big ht
    clear ht kT
    go_enter Tryz.func8, Tryz.ntmps8
    go_wp2
    go_ret
    exact ⟨ret_int HE.out.symm, HB.out⟩
  have d2 : decide ((t.length : Int) > 60000 - (s.length : Int)) = false := by simp; omega
  have HE : Hid (diskE s t = lnE 60 s) := disk_small ht
  have hs' : s.length ≤ 60000 := by omega
  clear ht hs
  go_enter Tryz.func8, Tryz.ntmps8
  go_wp2_with fail
  refine (rlines_any _ s 60 hs' (by omega) HV.out).mono ?_
  rintro e w2 ⟨⟨v2, X, rfl, -, -, -⟩, hb⟩
  have HB2 := Lib.hid (HB.out.trans (hb.mono HB.out.size))
  clear hb kT
  go_wp2
  go_ret
  exact ⟨ret_int HE.out.symm, HB2.out⟩

set_option maxHeartbeats 1000000 in
set_option maxRecDepth 100000 in
theorem rsameDisk_any (w : World) (v v' : Value) (s t s' t' : List UInt8) (h : DkIs w v s t) (h' : DkIs w v' s' t') :
    Calls Tryz.prog 12 #[v, v'] w fun e w' => e = .returned (.bool (eqB s s' && eqB t t')) ∧ Below w.heap.size w w' := by
  obtain ⟨a, c, b, d, rfl, h1, h2⟩ := h
  obtain ⟨a', c', b', d', rfl, h3, h4⟩ := h'
  have f1 : s.length ≤ maxLen := by have := h1.few; unfold maxLen; omega
  have f2 : t.length ≤ maxLen := by have := h2.few; unfold maxLen; omega
  have H1 := Lib.hid h1
  have H2 := Lib.hid h2
  have H3 := Lib.hid h3
  have H4 := Lib.hid h4
  clear h1 h2 h3 h4
  go_enter Tryz.func12, Tryz.ntmps12
  go_wp2_with fail
  obtain ⟨W0, hW, hA, hC, hB, -⟩ := laid2 w [.slice a s.length c, .slice b t.length d] 24 [.slice a' s'.length c', .slice b' t'.length d'] 24
  rw [hW]
  clear hW
  refine (equalB_any W0 a a' c c' s s' f1 (H1.out.keep hB).reads (H3.out.keep hB).reads).mono ?_
  rintro e w1 ⟨rfl, n, hw⟩
  have hb : Below W0.heap.size W0 w1 := by rw [hw]; exact ⟨rfl, rfl, rfl, Nat.le_refl _, fun _ _ => rfl⟩
  have hA1 := hA.keep hb
  have hC1 := hC.keep hb
  have hB1 := hB.trans (hb.mono hB.size)
  have x1 := hA1.at 1 rfl
  have y1 := hC1.at 1 rfl
  clear hA hC hw hb hB hA1 hC1
  have HB := Lib.hid hB1
  have HC := Lib.hid (equalB_any w1 b b' d d' t t' f2 (H2.out.keep hB1).reads (H4.out.keep hB1).reads)
  clear hB1
  by_cases hq : eqB s s' = true
  · rw [hq]
    go_wp2_with fail
    refine HC.out.mono ?_
    rintro e w2 ⟨rfl, n2, hw⟩
    have HB2 : Hid (Below w.heap.size w w2) := by
      show Below _ _ _
      rw [hw]
      exact HB.out.trans ⟨rfl, rfl, rfl, Nat.le_refl _, fun _ _ => rfl⟩
    clear hw
    go_wp2
    go_ret
    exact ⟨ret_bool (by simp [hq]), HB2.out⟩
  · have hq' : eqB s s' = false := by simpa using hq
    rw [hq']
    go_wp2
    go_ret
    exact ⟨ret_bool (by simp [hq']), HB.out⟩

set_option maxHeartbeats 2000000 in
set_option maxRecDepth 100000 in
theorem rsynced_any (w : World) (v : Value) (s t : List UInt8) (h : DkIs w v s t) (hd : diskE s t = 0) (hv : Vars w) :
    Calls Tryz.prog 14 #[v] w fun e w' => (∃ v', e = .returned (.tuple #[v', .int .i64 (syncE s t)]) ∧ DkIs w' v' (syncS s t) []) ∧ Below w.heap.size w w' := by
  obtain ⟨a, c, a', c', rfl, h1, h2⟩ := h
  have hfit := disk_fits hd
  have HD : Hid (diskE s t = 0) := hd
  have H1 := Lib.hid h1
  have H2 := Lib.hid h2
  have HV := Lib.hid hv
  clear h1 h2 hv hd
  obtain ⟨W0, hW0, hA, hR, hB, -⟩ := laid2 w [.slice a s.length c, .slice a' t.length c'] 24 [.slice none 0 0, .slice none 0 0] 24
  have x0 := hA.at 0 rfl
  have x1 := hA.at 1 rfl
  go_enter Tryz.func14, Tryz.ntmps14
  go_wp2_with fail
  obtain ⟨W2, hW, hQ, hB2, -⟩ := laid1 W0 [.slice a s.length c, .slice a' t.length c'] 22
  rw [hW]
  clear hW x0 x1 hW0
  have HB2 := Lib.hid (hB.trans (hB2.mono hB.size))
  have hA2 := hA.keep hB2
  have hR2 := hR.keep hB2
  have hz2 : w.heap.size + 1 < W2.heap.size := hR2.lt
  refine (concatBts_any W2 W0.heap.size a a' c c' s t (by omega) (by omega) (H1.out).none (H2.out).none (hQ.at 0 rfl) (hQ.at 1 rfl) (H1.out.keep HB2.out).reads (H2.out.keep HB2.out).reads).mono ?_
  rintro e w3 ⟨v3, rfl, hO, hb⟩
  have hA3 := hA2.keep hb
  have hR3 := hR2.keep hb
  have HB3 := Lib.hid (HB2.out.trans (hb.mono HB2.out.size))
  obtain ⟨q, hq⟩ : ∃ q, q = s ++ t := ⟨_, rfl⟩
  rw [← hq] at hO
  have hl3 : q.length ≤ 60000 := by rw [hq]; simp; omega
  have HQ : Hid (q = s ++ t) := hq
  clear hq
  obtain ⟨a3, c3, rfl, -⟩ := OwnB.bs hO (by omega)
  have HO3 := Lib.hid (OwnE.others w.heap.size (by omega) [.slice a3 q.length c3, .slice none 0 0] 0 _ hO)
  have hA4 := hA3.sets [.slice a3 q.length c3, .slice none 0 0] rfl
  have hR4 := hR3.others (g := w.heap.size) (by omega) [.slice a3 q.length c3, .slice none 0 0] 0
  have HB4 := Lib.hid (below_sets HB3.out w.heap.size (Nat.le_refl _) [.slice a3 q.length c3, .slice none 0 0] 0)
  have x0 := hA3.at 0 rfl
  have x1 := hA3.at 1 rfl
  have xf := hA3.frz
  clear hb hO hA hR hB hA2 hR2 HB2 hB2 hQ hR3 HB3
  go_wp2_with fail
  rw [two_cells]
  clear x0 x1 xf hA3
  generalize w3.setCells w.heap.size 0 [.slice a3 q.length c3, .slice none 0 0] = W4 at *
  refine (rcheckDisk_any W4 _ q [] ⟨a3, c3, none, 0, rfl, OwnB.bsi HO3.out (by omega), bsIs_nil _⟩ (HV.out.on HB4.out)).mono ?_
  rintro e w5 ⟨rfl, hb⟩
  have hA5 := hA4.keep hb
  have hR5 := hR4.keep hb
  have HB5 := Lib.hid (HB4.out.trans (hb.mono HB4.out.size))
  have HO5 := Lib.hid (OwnE.keep HO3.out hb)
  clear hb hA4 hR4 HB4 HO3
  have r0 := hR5.at 0 rfl
  have r1 := hR5.at 1 rfl
  have rf := hR5.frz
  by_cases he : diskE q [] = 0
  case neg =>
    have HE : Hid (syncE s t = diskE q [] ∧ syncS s t = []) := by
      have := HQ.out
      subst this
      exact sync_many HD.out he
    have d1 : (diskE q [] != 0) = true := by simpa using he
    generalize diskE q [] = E at *
    clear he
    go_wp2
    refine ret_cell_tmp Tryz.results14 rfl rfl ((hR5.sets [.slice none 0 0, .slice none 0 0] rfl).load Tryz.underlying24 rfl sizeDisk) ?_
    rw [HE.out.1, HE.out.2]
    exact ⟨⟨_, rfl, dkIs_none _⟩, below_sets HB5.out (w.heap.size + 1) (by omega) [.slice none 0 0, .slice none 0 0] 0⟩
  have HE : Hid (syncE s t = 0 ∧ syncS s t = q) := by
    have := HQ.out
    subst this
    exact sync_ok HD.out he
  rw [he]
  clear he
  have x0 := hA5.at 0 rfl
  have x1 := hA5.at 1 rfl
  go_wp2
  refine ret_cell_tmp Tryz.results14 rfl rfl ((hR5.sets [.slice a3 q.length c3, .slice none 0 0] rfl).load Tryz.underlying24 rfl sizeDisk) ?_
  rw [HE.out.1, HE.out.2]
  refine ⟨⟨_, rfl, a3, c3, none, 0, rfl, ?_, bsIs_nil _⟩, below_sets HB5.out (w.heap.size + 1) (by omega) [.slice a3 q.length c3, .slice none 0 0] 0⟩
  exact OwnB.bsi (OwnE.others (w.heap.size + 1) (by omega) [.slice a3 q.length c3, .slice none 0 0] 0 _ HO5.out) (by omega)
end Go.Proofs.YtmlodnamknielacGreatDoor

/- orangeryref.RecText's closure: texts of numbers behind a list of texts. -/
namespace Go.Proofs.YtmlodnamknielacGreatDoor
open Go.ChangeShapes Go.WideShapes Go.ChangeAt Go.RowKit

theorem infoString : (Tryz.prog.info? 9).map (fun i => (i.zero, i.size, i.bytes)) = some (some (.string ByteArray.empty), 1, 16) := by kernel_rfl

/-- a slice's memory is not that of a row of texts from block base on -/
def Apart (w : World) (base : Nat) (a : Option Addr) : Prop := ∀ b off, a = some ⟨b, off, none⟩ → b < w.heap.size ∧ (b < base ∨ ∃ cs e fr, w.heap[b]? = some (.cells cs e fr) ∧ e ≠ 9)
theorem Apart.keep {w w' : World} {base : Nat} {a : Option Addr} (h : Apart w base a) (hb : Below w.heap.size w w') : Apart w' base a := by
  intro b off e
  obtain ⟨h1, h2⟩ := h b off e
  refine ⟨Nat.lt_of_lt_of_le h1 hb.size, ?_⟩
  rcases h2 with h2 | ⟨cs, ty, fr, h3, h4⟩
  · exact Or.inl h2
  · exact Or.inr ⟨cs, ty, fr, by rw [hb.block b h1]; exact h3, h4⟩
theorem OwnE.block {α : Type} {enc : α → List Value} {k : Nat} {e : TypeId} {w : World} {base : Nat} {v : Value} {l : List α} (h : OwnE enc k e w base v l) (g : Nat) (hg : v.ownBlock = some g) : base ≤ g ∧ ∃ cur, w.heap[g]? = some (.cells cur e (0, 0)) := by
  rcases h.2 with ⟨e2, _⟩ | ⟨g', cap, cur, e2, hb, hh, _⟩
  · rw [e2] at hg; simp [Value.ownBlock] at hg
  · rw [e2] at hg
    simp [Value.ownBlock] at hg
    subst hg
    exact ⟨hb, cur, hh⟩
theorem Apart.ne {w : World} {base : Nat} {a : Option Addr} {v : Value} {l : List (List UInt8)} (h : Apart w base a) (ho : OwnE txC 1 9 w base v l) (b off : Nat) (e : a = some ⟨b, off, none⟩) : some b ≠ v.ownBlock := by
  intro hg
  obtain ⟨h1, cur, h2⟩ := ho.block b hg.symm
  rcases (h b off e).2 with h3 | ⟨cs, ty, fr, h3, h4⟩
  · omega
  · rw [h2] at h3
    simp at h3
    exact h4 h3.2.1.symm
theorem Apart.grown {w w' : World} {base : Nat} {a : Option Addr} {v : Value} {l : List (List UInt8)} (h : Apart w base a) (ho : OwnE txC 1 9 w base v l) (hg : w.grownBy w' v.ownBlock) : Apart w' base a := by
  intro b off e
  have hne := h.ne ho b off e
  obtain ⟨h1, h2⟩ := h b off e
  refine ⟨Nat.lt_of_lt_of_le h1 hg.size, ?_⟩
  rcases h2 with h2 | ⟨cs, ty, fr, h3, h4⟩
  · exact Or.inl h2
  · exact Or.inr ⟨cs, ty, fr, by rw [hg.block b h1 hne]; exact h3, h4⟩
theorem Apart.reads {w w' : World} {base : Nat} {a : Option Addr} {v : Value} {l : List (List UInt8)} {N : List Int} (h : Apart w base a) (ho : OwnE txC 1 9 w base v l) (hg : w.grownBy w' v.ownBlock) (hs : SlI w a N) : SlI w' a N := by
  rcases hs with hs | ⟨b, off, e, hlt, hp⟩
  · exact Or.inl hs
  · refine Or.inr ⟨b, off, e, Nat.lt_of_lt_of_le hlt hg.size, fun i hi => ?_⟩
    have := hg.block b hlt (h.ne ho b off e)
    have e2 : w'.cell? ⟨b, off + i, none⟩ = w.cell? ⟨b, off + i, none⟩ := by simp only [World.cell?, this]
    rw [e2]
    exact hp i hi
/-- the one cell of a variable is written: slices of ints elsewhere stay -/
theorem Apart.set {w : World} {base g : Nat} {a : Option Addr} (h : Apart w base a) (hne : ∀ b off, a = some ⟨b, off, none⟩ → b ≠ g) (u : Value) : Apart (w.setCell ⟨g, 0, none⟩ u) base a := by
  intro b off e
  obtain ⟨h1, h2⟩ := h b off e
  refine ⟨by simpa using h1, ?_⟩
  rcases h2 with h2 | ⟨cs, ty, fr, h3, h4⟩
  · exact Or.inl h2
  · refine Or.inr ⟨cs, ty, fr, ?_, h4⟩
    rw [heap_setCell_other w ⟨g, 0, none⟩ b u (hne b off e)]
    exact h3
theorem SlI.keep0 {w : World} {a : Option Addr} {l : List Int} (h : SlI w a l) (g : Nat) (hne : ∀ b off, a = some ⟨b, off, none⟩ → b ≠ g) (u : Value) : SlI (w.setCell ⟨g, 0, none⟩ u) a l := by
  rcases h with h | ⟨b, off, e, hlt, hp⟩
  · exact Or.inl h
  · refine Or.inr ⟨b, off, e, by simpa using hlt, fun i hi => ?_⟩
    have := hne b off e
    rw [World.cell?_setCell_other _ _ _ _ (by simp <;> omega)]
    exact hp i hi

set_option maxHeartbeats 2000000 in
set_option maxRecDepth 100000 in
theorem say_any (w : World) (bq : Nat) (v : Value) (ws : List (List UInt8)) (a : Option Addr) (c : Nat) (N : List Int) (hws : ws.length ≤ 100) (hl : N.length ≤ 100) (hr : ∀ n ∈ N, 0 ≤ n ∧ n ≤ 10000)
    (hbq : 8 ≤ bq) (hQ : Blk w bq [v]) (hO : OwnE txC 1 9 w (bq + 1) v ws) (hI : SlI w a N) (hA : Apart w (bq + 1) a) (hne : ∀ b off, a = some ⟨b, off, none⟩ → b ≠ bq) (hv : Vars w) :
    Calls Tryz.prog 41 #[.slice a N.length c, .pointer (some ⟨bq, 0, none⟩)] w
      fun e w' => e = .returned (.tuple #[]) ∧ (∃ v', Blk w' bq [v'] ∧ OwnE txC 1 9 w' (bq + 1) v' (ws ++ N.map Lib.itoa)) ∧ Below bq w w' := by
  obtain ⟨i0, hi, hz0, hz1, hz2⟩ := info_parts infoString
  have HV := Lib.hid hv
  have HR := Lib.hid hr
  have HNE := Lib.hid hne
  have hl' : N.length ≤ 9223372036854775807 := by omega
  clear hv hr hne
  have HQ := Lib.hid hQ
  have HO := Lib.hid hO
  have HI := Lib.hid hI
  have HA := Lib.hid hA
  clear hQ hO hI hA
  go_enter Tryz.func41, Tryz.ntmps41
  go_wp2
  go_loopw [7] (fun i W => ∃ (j : Nat) (v : Value), j ≤ N.length ∧ i = .int .i64 j ∧ Blk W bq [v] ∧ OwnE txC 1 9 W (bq + 1) v (ws ++ (N.take j).map Lib.itoa) ∧ SlI W a N ∧ Apart W (bq + 1) a ∧ Below bq w W) (fun i _ => N.length - (intOf i).toNat)
  case atStart => exact ⟨0, v, Nat.zero_le _, rfl, HQ.out, by simpa using HO.out, HI.out, HA.out, Below.refl _ _⟩
  case round =>
    clear HQ HO HI HA
    obtain ⟨j, v, hj, rfl, hQ, hO, hI, hA, hb⟩ := hrel
    by_cases hlt : j < N.length
    · obtain ⟨b, off, rfl, hbl, g0⟩ := hI.at j hlt
      have HX : Hid ((N.take (j + 1)).map Lib.itoa = (N.take j).map Lib.itoa ++ [Lib.itoa N[j]]) := by
        show _ = _
        rw [List.take_succ_eq_append_getElem hlt, List.map_append]
        rfl
      have hsm := HR.out _ (List.getElem_mem hlt)
      have hwl : (ws ++ (N.take j).map Lib.itoa).length ≤ 200 := by simp; omega
      have HVr := Lib.hid (HV.out.keep hb hbq)
      generalize N[j] = n at *
      obtain ⟨aS, cS, rfl, _, hcS⟩ := hO.val
      have hbs : bq < wr.heap.size := hQ.lt
      have HB := Lib.hid hb
      have HI := Lib.hid hI
      have HA := Lib.hid hA
      have HO := Lib.hid hO
      clear hb hI hA hO
      generalize hwk : ws ++ (N.take j).map Lib.itoa = wk at *
      have HWK := Lib.hid hwk
      clear hwk
      go_upto_region 3 with fail
      have q0 := hQ.at 0 rfl
      refine wp_region_held_drew (S := fun w' => True) (by kernel_rfl) trivial (fun hHeld => ?_)
      refine take_yes 1 12 (v := ?_) rfl rfl (by kernel_rfl) (by kernel_rfl) (by kernel_rfl) (fun _ _ _ h => h) (by rfl) ?_ hHeld ?_
      rotate_left 1
      · (intro w hSw; go_simp; try with_reducible rfl)
      simp only [Act.put, List.setIfInBounds_toArray, List.set_cons_succ, List.set_cons_zero]
      refine wpAnyH_ready (rs := [0, 2]) (by kernel_rfl) (by simp) ?_
      refine AllReadyH.cons rfl (fun KK hKK => ?_) (AllReadyH.cons rfl (fun KK hKK => ?_) AllReadyH.nil)
      · skip
        go_simp
        refine hKK.out _ _ (trivial) (fun hHeld => ?_)
        clear hKK KK
        refine wpAnyH_ready (rs := [2]) (by kernel_rfl) (by simp) ?_
        refine AllReadyH.cons rfl (fun KK hKK => ?_) AllReadyH.nil
        go_simp
        refine (itoa_any _ n (by omega) (by omega) (HVr.out.on ((Below.refl _ wr).drew))).mono ?_
        rintro e w1 ⟨rfl, hb1⟩
        have hb1' : Below wr.heap.size wr w1 := ((Below.refl _ wr).drew).trans hb1
        have hQ1 := hQ.keep hb1'
        have q1 := hQ1.at 0 rfl
        go_wp2_with fail
        refine hKK.out _ _ (trivial) (fun hHeld => ?_)
        clear hKK KK
        refine wpAnyH_ready (rs := [3]) (by kernel_rfl) (by simp) ?_
        refine AllReadyH.cons rfl (fun KK hKK => ?_) AllReadyH.nil
        go_simp
        refine hKK.out _ _ (trivial) (fun hHeld => ?_)
        clear hKK KK
        have hN2 := Blk.new w1 [txV (Lib.itoa n)] 9
        have hbn := Go.Joins.below_alloc1 w1 (Obj.cells [txV (Lib.itoa n)].toArray 9)
        have hO2 := (HO.out.keep hb1').keep hbn
        have hA2 := (HA.out.keep hb1').keep hbn
        have hI2 := (HI.out.below hb1').below hbn
        have hQ2 := hQ1.keep hbn
        have hsz2 : bq + 1 ≤ (w1.alloc (Obj.cells [txV (Lib.itoa n)].toArray 9)).heap.size := by have := hQ2.lt; omega
        refine step_append (s := Operand.tmp 11) (x := Operand.tmp 14) 4 15 78 ?x0 rfl ?x2 ?x3 ?x4 (bq + 1) 9 i0 _ 1 16 Tryz.underlying78 hi hz0 hz1 hz2 ?x5 ?x6 (.slice aS wk.length cS) wk.length (wk.flatMap txC) ?x7 hO2.row ⟨w1.heap.size, 0, none⟩ 1 1 [txV (Lib.itoa n)] ?x8 ?x9 ?xa ?xb ?xc ?xd ?xe ?_
        case x0 => kernel_rfl
        case x2 => rfl
        case x3 => rfl
        case x4 => rfl
        case x5 => rfl
        case x6 => decide
        case x7 => rfl
        case x8 => rfl
        case x9 => rfl
        case xa => intro j u hj; rw [Addr.add_mid, Nat.zero_add]; exact hN2.at j hj
        case xb => intro u hu; simp at hu; subst hu; rfl
        case xc => unfold maxLen; omega
        case xd => omega
        case xe => exact hsz2
        intro v3 w3 hown' hgrow
        have hO3 : OwnE txC 1 9 w3 (bq + 1) v3 (wk ++ [Lib.itoa n]) := by
          show World.ownsRow _ _ _ _ _ _ _
          simpa [txC] using hown'
        obtain ⟨wn, hwn⟩ : ∃ wn, wn = wk ++ [Lib.itoa n] := ⟨_, rfl⟩
        rw [← hwn] at hO3
        have HWN := Lib.hid hwn
        clear hwn
        have hI3 := hA2.reads hO2 hgrow hI2
        have hA3 := hA2.grown hO2 hgrow
        have hQ3 := hQ2.grown hgrow (fun e => by have := (hO2.block bq e.symm).1; omega)
        have hB3 : Below bq w w3 := ((HB.out.trans (hb1'.mono (by omega))).trans (hbn.mono (by have := hb1'.size; omega))).grown hgrow (by omega) (fun g hg => by have := (hO2.block g hg).1; omega)
        obtain ⟨a3, c3, rfl, _, _⟩ := hO3.val
        have q3 := hQ3.at 0 rfl
        have qf := hQ3.frz 0
        refine ⟨trivial, ?_⟩
        simp only [Act.put, List.setIfInBounds_toArray, List.set_cons_succ, List.set_cons_zero]
        refine wpAnyH_ready (rs := [5]) (by kernel_rfl) (by simp) ?_
        refine AllReadyH.cons rfl (fun KK hKK => ?_) AllReadyH.nil
        go_simp
        refine hKK.out _ _ (trivial) (fun hHeld => ?_)
        clear hKK KK
        refine wpAnyH_done (by kernel_rfl) ?_ _
        have HQf := Lib.hid (hQ3.set 0 (by simp) (.slice a3 wn.length c3))
        have HOf := Lib.hid (hO3.other bq (by omega) 0 (.slice a3 wn.length c3))
        have HIf := Lib.hid (hI3.keep0 bq HNE.out (.slice a3 wn.length c3))
        have HAf := Lib.hid (hA3.set HNE.out (.slice a3 wn.length c3))
        have HBf := Lib.hid (hB3.setCell (p := ⟨bq, 0, none⟩) (Nat.le_refl _) (.slice a3 wn.length c3))
        clear hQ3 hO3 hI3 hA3 hB3 hown' hgrow hO2 hA2 hI2 hQ2 hQ1 hN2 hbn hb1 hb1' q1 q3 qf hsz2
        go_wp2
        go_roundw
        case rel =>
          refine ⟨j + 1, _, hlt, by go_num, HQf.out, ?_, HIf.out, HAf.out, HBf.out⟩
          rw [HX.out, ← List.append_assoc, HWK.out, ← HWN.out]
          exact HOf.out
        case measure => simp [intOf]; omega
      · skip
        go_simp
        refine (itoa_any _ n (by omega) (by omega) (HVr.out.on ((Below.refl _ wr).drew))).mono ?_
        rintro e w1 ⟨rfl, hb1⟩
        have hb1' : Below wr.heap.size wr w1 := ((Below.refl _ wr).drew).trans hb1
        have hQ1 := hQ.keep hb1'
        have q1 := hQ1.at 0 rfl
        go_wp2_with fail
        refine hKK.out _ _ (trivial) (fun hHeld => ?_)
        clear hKK KK
        refine wpAnyH_ready (rs := [0, 3]) (by kernel_rfl) (by simp) ?_
        refine AllReadyH.cons rfl (fun KK hKK => ?_) (AllReadyH.cons rfl (fun KK hKK => ?_) AllReadyH.nil)
        · skip
          go_simp
          refine hKK.out _ _ (trivial) (fun hHeld => ?_)
          clear hKK KK
          refine wpAnyH_ready (rs := [3]) (by kernel_rfl) (by simp) ?_
          refine AllReadyH.cons rfl (fun KK hKK => ?_) AllReadyH.nil
          go_simp
          refine hKK.out _ _ (trivial) (fun hHeld => ?_)
          clear hKK KK
          have hN2 := Blk.new w1 [txV (Lib.itoa n)] 9
          have hbn := Go.Joins.below_alloc1 w1 (Obj.cells [txV (Lib.itoa n)].toArray 9)
          have hO2 := (HO.out.keep hb1').keep hbn
          have hA2 := (HA.out.keep hb1').keep hbn
          have hI2 := (HI.out.below hb1').below hbn
          have hQ2 := hQ1.keep hbn
          have hsz2 : bq + 1 ≤ (w1.alloc (Obj.cells [txV (Lib.itoa n)].toArray 9)).heap.size := by have := hQ2.lt; omega
          refine step_append (s := Operand.tmp 11) (x := Operand.tmp 14) 4 15 78 ?y0 rfl ?y2 ?y3 ?y4 (bq + 1) 9 i0 _ 1 16 Tryz.underlying78 hi hz0 hz1 hz2 ?y5 ?y6 (.slice aS wk.length cS) wk.length (wk.flatMap txC) ?y7 hO2.row ⟨w1.heap.size, 0, none⟩ 1 1 [txV (Lib.itoa n)] ?y8 ?y9 ?ya ?yb ?yc ?yd ?ye ?_
          case y0 => kernel_rfl
          case y2 => rfl
          case y3 => rfl
          case y4 => rfl
          case y5 => rfl
          case y6 => decide
          case y7 => rfl
          case y8 => rfl
          case y9 => rfl
          case ya => intro j u hj; rw [Addr.add_mid, Nat.zero_add]; exact hN2.at j hj
          case yb => intro u hu; simp at hu; subst hu; rfl
          case yc => unfold maxLen; omega
          case yd => omega
          case ye => exact hsz2
          intro v3 w3 hown' hgrow
          have hO3 : OwnE txC 1 9 w3 (bq + 1) v3 (wk ++ [Lib.itoa n]) := by
            show World.ownsRow _ _ _ _ _ _ _
            simpa [txC] using hown'
          obtain ⟨wn, hwn⟩ : ∃ wn, wn = wk ++ [Lib.itoa n] := ⟨_, rfl⟩
          rw [← hwn] at hO3
          have HWN := Lib.hid hwn
          clear hwn
          have hI3 := hA2.reads hO2 hgrow hI2
          have hA3 := hA2.grown hO2 hgrow
          have hQ3 := hQ2.grown hgrow (fun e => by have := (hO2.block bq e.symm).1; omega)
          have hB3 : Below bq w w3 := ((HB.out.trans (hb1'.mono (by omega))).trans (hbn.mono (by have := hb1'.size; omega))).grown hgrow (by omega) (fun g hg => by have := (hO2.block g hg).1; omega)
          obtain ⟨a3, c3, rfl, _, _⟩ := hO3.val
          have q3 := hQ3.at 0 rfl
          have qf := hQ3.frz 0
          refine ⟨trivial, ?_⟩
          simp only [Act.put, List.setIfInBounds_toArray, List.set_cons_succ, List.set_cons_zero]
          refine wpAnyH_ready (rs := [5]) (by kernel_rfl) (by simp) ?_
          refine AllReadyH.cons rfl (fun KK hKK => ?_) AllReadyH.nil
          go_simp
          refine hKK.out _ _ (trivial) (fun hHeld => ?_)
          clear hKK KK
          refine wpAnyH_done (by kernel_rfl) ?_ _
          have HQf := Lib.hid (hQ3.set 0 (by simp) (.slice a3 wn.length c3))
          have HOf := Lib.hid (hO3.other bq (by omega) 0 (.slice a3 wn.length c3))
          have HIf := Lib.hid (hI3.keep0 bq HNE.out (.slice a3 wn.length c3))
          have HAf := Lib.hid (hA3.set HNE.out (.slice a3 wn.length c3))
          have HBf := Lib.hid (hB3.setCell (p := ⟨bq, 0, none⟩) (Nat.le_refl _) (.slice a3 wn.length c3))
          clear hQ3 hO3 hI3 hA3 hB3 hown' hgrow hO2 hA2 hI2 hQ2 hQ1 hN2 hbn hb1 hb1' q1 q3 qf hsz2
          go_wp2
          go_roundw
          case rel =>
            refine ⟨j + 1, _, hlt, by go_num, HQf.out, ?_, HIf.out, HAf.out, HBf.out⟩
            rw [HX.out, ← List.append_assoc, HWK.out, ← HWN.out]
            exact HOf.out
          case measure => simp [intOf]; omega
        · skip
          go_simp
          refine hKK.out _ _ (trivial) (fun hHeld => ?_)
          clear hKK KK
          have q1 := (hQ1.alloc (Obj.cells #[txV (Lib.itoa n)] 9)).at 0 rfl
          refine wpAnyH_ready (rs := [0]) (by kernel_rfl) (by simp) ?_
          refine AllReadyH.cons rfl (fun KK hKK => ?_) AllReadyH.nil
          go_simp
          refine hKK.out _ _ (trivial) (fun hHeld => ?_)
          clear hKK KK
          have hN2 := Blk.new w1 [txV (Lib.itoa n)] 9
          have hbn := Go.Joins.below_alloc1 w1 (Obj.cells [txV (Lib.itoa n)].toArray 9)
          have hO2 := (HO.out.keep hb1').keep hbn
          have hA2 := (HA.out.keep hb1').keep hbn
          have hI2 := (HI.out.below hb1').below hbn
          have hQ2 := hQ1.keep hbn
          have hsz2 : bq + 1 ≤ (w1.alloc (Obj.cells [txV (Lib.itoa n)].toArray 9)).heap.size := by have := hQ2.lt; omega
          refine step_append (s := Operand.tmp 11) (x := Operand.tmp 14) 4 15 78 ?z0 rfl ?z2 ?z3 ?z4 (bq + 1) 9 i0 _ 1 16 Tryz.underlying78 hi hz0 hz1 hz2 ?z5 ?z6 (.slice aS wk.length cS) wk.length (wk.flatMap txC) ?z7 hO2.row ⟨w1.heap.size, 0, none⟩ 1 1 [txV (Lib.itoa n)] ?z8 ?z9 ?za ?zb ?zc ?zd ?ze ?_
          case z0 => kernel_rfl
          case z2 => rfl
          case z3 => rfl
          case z4 => rfl
          case z5 => rfl
          case z6 => decide
          case z7 => rfl
          case z8 => rfl
          case z9 => rfl
          case za => intro j u hj; rw [Addr.add_mid, Nat.zero_add]; exact hN2.at j hj
          case zb => intro u hu; simp at hu; subst hu; rfl
          case zc => unfold maxLen; omega
          case zd => omega
          case ze => exact hsz2
          intro v3 w3 hown' hgrow
          have hO3 : OwnE txC 1 9 w3 (bq + 1) v3 (wk ++ [Lib.itoa n]) := by
            show World.ownsRow _ _ _ _ _ _ _
            simpa [txC] using hown'
          obtain ⟨wn, hwn⟩ : ∃ wn, wn = wk ++ [Lib.itoa n] := ⟨_, rfl⟩
          rw [← hwn] at hO3
          have HWN := Lib.hid hwn
          clear hwn
          have hI3 := hA2.reads hO2 hgrow hI2
          have hA3 := hA2.grown hO2 hgrow
          have hQ3 := hQ2.grown hgrow (fun e => by have := (hO2.block bq e.symm).1; omega)
          have hB3 : Below bq w w3 := ((HB.out.trans (hb1'.mono (by omega))).trans (hbn.mono (by have := hb1'.size; omega))).grown hgrow (by omega) (fun g hg => by have := (hO2.block g hg).1; omega)
          obtain ⟨a3, c3, rfl, _, _⟩ := hO3.val
          have q3 := hQ3.at 0 rfl
          have qf := hQ3.frz 0
          refine ⟨trivial, ?_⟩
          simp only [Act.put, List.setIfInBounds_toArray, List.set_cons_succ, List.set_cons_zero]
          refine wpAnyH_ready (rs := [5]) (by kernel_rfl) (by simp) ?_
          refine AllReadyH.cons rfl (fun KK hKK => ?_) AllReadyH.nil
          go_simp
          refine hKK.out _ _ (trivial) (fun hHeld => ?_)
          clear hKK KK
          refine wpAnyH_done (by kernel_rfl) ?_ _
          have HQf := Lib.hid (hQ3.set 0 (by simp) (.slice a3 wn.length c3))
          have HOf := Lib.hid (hO3.other bq (by omega) 0 (.slice a3 wn.length c3))
          have HIf := Lib.hid (hI3.keep0 bq HNE.out (.slice a3 wn.length c3))
          have HAf := Lib.hid (hA3.set HNE.out (.slice a3 wn.length c3))
          have HBf := Lib.hid (hB3.setCell (p := ⟨bq, 0, none⟩) (Nat.le_refl _) (.slice a3 wn.length c3))
          clear hQ3 hO3 hI3 hA3 hB3 hown' hgrow hO2 hA2 hI2 hQ2 hQ1 hN2 hbn hb1 hb1' q1 q3 qf hsz2
          go_wp2
          go_roundw
          case rel =>
            refine ⟨j + 1, _, hlt, by go_num, HQf.out, ?_, HIf.out, HAf.out, HBf.out⟩
            rw [HX.out, ← List.append_assoc, HWK.out, ← HWN.out]
            exact HOf.out
          case measure => simp [intOf]; omega
    · have hj' : j = N.length := by omega
      subst hj'
      rw [List.take_length] at hO
      have HR1 := Lib.hid hQ
      have HR2 := Lib.hid hO
      have HR3 := Lib.hid hb
      clear hQ hO hb hI hA
      go_wp2
      refine bodyPost_end (v := .tuple #[]) (by simp [results, Tryz.results41, go_sem]) rfl ?_
      exact ⟨rfl, ⟨v, HR1.out, HR2.out⟩, HR3.out⟩

/-- the same, of memory that matters only where there are numbers -/
theorem say_any0 (w : World) (bq : Nat) (v : Value) (ws : List (List UInt8)) (a : Option Addr) (c : Nat) (N : List Int) (hws : ws.length ≤ 100) (hl : N.length ≤ 100) (hr : ∀ n ∈ N, 0 ≤ n ∧ n ≤ 10000)
    (hbq : 8 ≤ bq) (hQ : Blk w bq [v]) (hO : OwnE txC 1 9 w (bq + 1) v ws) (hI : SlI w a N) (hA : N ≠ [] → Apart w (bq + 1) a) (hne : N ≠ [] → ∀ b off, a = some ⟨b, off, none⟩ → b ≠ bq) (hv : Vars w) :
    Calls Tryz.prog 41 #[.slice a N.length c, .pointer (some ⟨bq, 0, none⟩)] w
      fun e w' => e = .returned (.tuple #[]) ∧ (∃ v', Blk w' bq [v'] ∧ OwnE txC 1 9 w' (bq + 1) v' (ws ++ N.map Lib.itoa)) ∧ Below bq w w' := by
  by_cases hN : N = []
  · subst hN
    have HQ := Lib.hid hQ
    have HO := Lib.hid hO
    clear hQ hO hI hA hne hv hr
    go_enter Tryz.func41, Tryz.ntmps41
    go_wp2
    go_loopw [7] (fun i W => i = .int .i64 0 ∧ W = w) (fun _ _ => 0)
    case atStart => exact ⟨rfl, rfl⟩
    case round =>
      obtain ⟨rfl, rfl⟩ := hrel
      go_wp2
      refine bodyPost_end (v := .tuple #[]) (by simp [results, Tryz.results41, go_sem]) rfl ?_
      exact ⟨rfl, ⟨v, HQ.out, by simpa using HO.out⟩, Below.refl _ _⟩
  · exact say_any w bq v ws a c N hws hl hr hbq hQ hO hI (hA hN) (hne hN) hv
end Go.Proofs.YtmlodnamknielacGreatDoor

/- orangeryref.RecText. -/
namespace Go.Proofs.YtmlodnamknielacGreatDoor
open Go.ChangeShapes Go.WideShapes Go.ChangeAt Go.RowKit
open Orangery (Mv Rc recWord recNums recText recT checkRec wOp wLife wRoots opNums glue)

theorem int_ne_string : (3 : TypeId) ≠ 9 := by decide

theorem says (w : World) (word : List UInt8) (N : List Int) :
    ∃ W, ((w.alloc (Obj.cells [Value.slice (some ⟨w.heap.size + 1, 0, none⟩) 1 1].toArray 78)).alloc (Obj.cells [txV word].toArray 9)).alloc (Obj.cells (N.map (Value.int .i64)).toArray 3) = W ∧
      Blk W w.heap.size [.slice (some ⟨w.heap.size + 1, 0, none⟩) 1 1] ∧ OwnE txC 1 9 W (w.heap.size + 1) (.slice (some ⟨w.heap.size + 1, 0, none⟩) 1 1) [word] ∧
      SlI W (some ⟨w.heap.size + 1 + 1, 0, none⟩) N ∧ Apart W (w.heap.size + 1) (some ⟨w.heap.size + 1 + 1, 0, none⟩) ∧ Below w.heap.size w W ∧ W.heap.size = w.heap.size + 3 := by
  refine ⟨_, rfl, ?_, ?_, ?_, ?_, ?_, ?_⟩
  · exact ((Blk.new w _ _).alloc _).alloc _
  · have h1 : OwnE txC 1 9 ((w.alloc (Obj.cells [Value.slice (some ⟨w.heap.size + 1, 0, none⟩) 1 1].toArray 78)).alloc (Obj.cells [txV word].toArray 9)) (w.heap.size + 1) (.slice (some ⟨w.heap.size + 1, 0, none⟩) 1 1) [word] :=
      ⟨rfl, Or.inr ⟨w.heap.size + 1, 1, [txV word].toArray, rfl, Nat.le_refl _, blk_new (by simp), Nat.le_refl _, by unfold maxLen; omega, rfl, rfl⟩⟩
    exact h1.alloc _
  · cases N with
    | nil => exact Or.inl rfl
    | cons n N =>
      refine Or.inr ⟨_, 0, rfl, by simp, fun i hi => ?_⟩
      rw [Go.Joins.cell_of_block (blk_new (by simp)), Nat.zero_add, List.getElem?_toArray, List.getElem?_map, List.getElem?_eq_getElem hi]
      rfl
  · intro b off e
    simp at e
    obtain ⟨rfl, _⟩ := e
    exact ⟨by simp, Or.inr ⟨_, _, _, blk_new (by simp), int_ne_string⟩⟩
  · exact ((Below.refl _ w).alloc (Nat.le_refl _) _ |>.alloc (by simp) _).alloc (by simp; omega) _
  · simp

set_option maxHeartbeats 4000000 in
set_option maxRecDepth 100000 in
theorem rrecText_any (w : World) (k u f : Int) (a : Option Addr) (c : Nat) (R : List Int) (o : Mv) (hl : R.length ≤ maxLen) (h : SlI w a R) (hv : Vars w) :
    Calls Tryz.prog 27 #[rcV k u f (.slice a R.length c) o] w fun e w' => e = .returned (.tuple #[txV (recText (k, u, f, R, o)), .int .i64 (checkRec (k, u, f, R, o))]) ∧ Below w.heap.size w w' := by
  have HH := Lib.hid h
  go_enter Tryz.func27, Tryz.ntmps27
  go_wp2_with fail
  obtain ⟨W0, hW, hA, hB, -⟩ := laid1 w [Value.int IntKind.i64 k, .int .i64 u, .int .i64 f, .slice a R.length c, .int .i64 o.1, .int .i64 o.2.1, .int .i64 o.2.2.1.1, .int .i64 o.2.2.1.2.1, .int .i64 o.2.2.1.2.2, .int .i64 o.2.2.2.1, .int .i64 o.2.2.2.2] 31
  rw [hW]
  clear hW
  refine (rcheckRec_any W0 k u f a c R o hl (h.below hB)).mono ?_
  rintro e w1 ⟨rfl, hb1⟩
  have hA1 := hA.keep hb1
  have h1 := (h.below hB).below hb1
  have hB1 : Below w.heap.size w w1 := hB.trans (hb1.mono hB.size)
  have hv1 := hv.on hB1
  clear hA hB hb1 h hv
  by_cases hc : checkRec (k, u, f, R, o) = 0
  case neg =>
    have HT : Hid (recText (k, u, f, R, o) = []) := recText_bad hc
    have d1 : (checkRec (k, u, f, R, o) != 0) = true := by simpa using hc
    have HB := Lib.hid hB1
    clear hc hA1 h1 hv1 hB1
    go_wp2
    go_ret2
    rw [HT.out]
    exact ⟨rfl, HB.out⟩
  have HT : Hid (recText (k, u, f, R, o) = recT (k, u, f, R, o)) := recText_ok hc
  have HL : Hid ((recT (k, u, f, R, o)).length ≤ 176) := Orangery.recT_len hc
  have HS := Lib.hid (Orangery.recNums_small hc)
  have HC : Hid (checkRec (k, u, f, R, o) = 0) := hc
  have hr4 := roots_few hc
  have hk := Orangery.checkRec_kind hc
  have hlt : w.heap.size < w1.heap.size := hA1.lt
  have hlo := hv1.lo
  have HV1 := Lib.hid hv1
  have HB1 := Lib.hid hB1
  have HI1 := Lib.hid h1
  rw [hc]
  clear hc hv1 hB1 h1
  have x0 := hA1.at 0 rfl
  have x1 := hA1.at 1 rfl
  have x2 := hA1.at 2 rfl
  have x3 := hA1.at 3 rfl
  have x4 := hA1.at 4 rfl
  have x5 := hA1.at 5 rfl
  have x6 := hA1.at 6 rfl
  have x7 := hA1.at 7 rfl
  have x8 := hA1.at 8 rfl
  have x9 := hA1.at 9 rfl
  have x10 := hA1.at 10 rfl
  have hne : ¬ w1.heap.size = w.heap.size := by omega
  rcases hk with hk | hk | hk
  · subst hk
    have HSM : Hid (∀ n ∈ [o.1, o.2.1, o.2.2.1.1, o.2.2.1.2.1, o.2.2.1.2.2, o.2.2.2.1, o.2.2.2.2], 0 ≤ n ∧ n ≤ 10000) := HS.out.2
    have HW := Lib.hid (says w1 wOp [o.1, o.2.1, o.2.2.1.1, o.2.2.1.2.1, o.2.2.1.2.2, o.2.2.2.1, o.2.2.2.2])
    go_wp2_with fail
    obtain ⟨W, hW, hQ, hO, hI, hP, hb, -⟩ := HW.out
    simp only [List.map_cons, List.map_nil, wOp] at hW
    rw [hW]
    clear hW HW x0 x1 x2 x3 x4 x5 x6 x7 x8 x9 x10
    have hA2 := hA1.keep hb
    have HB2 : Hid (Below w.heap.size w W) := HB1.out.trans (hb.mono HB1.out.size)
    have hv2 := HV1.out.on hb
    refine (say_any W w1.heap.size _ [wOp] _ _ [o.1, o.2.1, o.2.2.1.1, o.2.2.1.2.1, o.2.2.1.2.2, o.2.2.2.1, o.2.2.2.2] (by simp) (by simp) HSM.out hlo hQ hO hI hP (fun b off e => by simp at e; omega) hv2).mono ?_
    rintro e w3 ⟨rfl, ⟨v3, hQ3, hO3⟩, hb3⟩
    have HB3 : Hid (Below w.heap.size w w3) := HB2.out.trans (hb3.mono (by omega))
    clear hA1 hA2 hb3 hv2 hQ hO hI hP HB2
    obtain ⟨wj, hwj⟩ : ∃ wj, wj = [wOp] ++ ([o.1, o.2.1, o.2.2.1.1, o.2.2.1.2.1, o.2.2.1.2.2, o.2.2.2.1, o.2.2.2.2]).map Lib.itoa := ⟨_, rfl⟩
    rw [← hwj] at hO3
    have HGL : Hid (recT (1, u, f, R, o) = glue wj) := by rw [hwj]; rfl
    have HNN : Hid (wj ≠ []) := by show _ ≠ _; rw [hwj]; simp
    have HLN : Hid (wj.length ≤ 1000) := by rw [hwj]; show _ ≤ _; simp
    clear hwj
    obtain ⟨aJ, cJ, rfl, hJ, hcJ⟩ := hO3.val
    have q3 := hQ3.at 0 rfl
    have HJ := Lib.hid hJ
    clear hJ hO3 hQ3
    have HG : Hid (recT (1, u, f, R, o) = glue wj) := HGL.out
    generalize hwl : wj.length = wl at *
    have HWL := Lib.hid hwl
    clear hwl
    go_wp2_with fail
    have hjoin := join_any w3 aJ cJ wj HNN.out (by rw [HWL.out]; exact hcJ) (by rw [HWL.out]; exact HLN.out) (by rw [← HG.out]; have := HL.out; omega) HJ.out
    rw [HWL.out] at hjoin
    refine hjoin.mono ?_
    rintro e w4 ⟨rfl, hb4⟩
    have HB4 : Hid (Below w.heap.size w w4) := HB3.out.trans (hb4.mono HB3.out.size)
    clear hb4 hjoin
    go_wp2
    go_ret2
    rw [HT.out, HC.out, HG.out]
    exact ⟨rfl, HB4.out⟩
  · subst hk
    have HSM : Hid (∀ n ∈ [u, f], 0 ≤ n ∧ n ≤ 10000) := HS.out.2
    have HW := Lib.hid (says w1 wLife [u, f])
    go_wp2_with fail
    obtain ⟨W, hW, hQ, hO, hI, hP, hb, -⟩ := HW.out
    simp only [List.map_cons, List.map_nil, wLife] at hW
    rw [hW]
    clear hW HW x0 x1 x2 x3 x4 x5 x6 x7 x8 x9 x10
    have hA2 := hA1.keep hb
    have HB2 : Hid (Below w.heap.size w W) := HB1.out.trans (hb.mono HB1.out.size)
    have hv2 := HV1.out.on hb
    refine (say_any W w1.heap.size _ [wLife] _ _ [u, f] (by simp) (by simp) HSM.out hlo hQ hO hI hP (fun b off e => by simp at e; omega) hv2).mono ?_
    rintro e w3 ⟨rfl, ⟨v3, hQ3, hO3⟩, hb3⟩
    have HB3 : Hid (Below w.heap.size w w3) := HB2.out.trans (hb3.mono (by omega))
    clear hA1 hA2 hb3 hv2 hQ hO hI hP HB2
    obtain ⟨wj, hwj⟩ : ∃ wj, wj = [wLife] ++ ([u, f]).map Lib.itoa := ⟨_, rfl⟩
    rw [← hwj] at hO3
    have HGL : Hid (recT (2, u, f, R, o) = glue wj) := by rw [hwj]; rfl
    have HNN : Hid (wj ≠ []) := by show _ ≠ _; rw [hwj]; simp
    have HLN : Hid (wj.length ≤ 1000) := by rw [hwj]; show _ ≤ _; simp
    clear hwj
    obtain ⟨aJ, cJ, rfl, hJ, hcJ⟩ := hO3.val
    have q3 := hQ3.at 0 rfl
    have HJ := Lib.hid hJ
    clear hJ hO3 hQ3
    have HG : Hid (recT (2, u, f, R, o) = glue wj) := HGL.out
    generalize hwl : wj.length = wl at *
    have HWL := Lib.hid hwl
    clear hwl
    go_wp2_with fail
    have hjoin := join_any w3 aJ cJ wj HNN.out (by rw [HWL.out]; exact hcJ) (by rw [HWL.out]; exact HLN.out) (by rw [← HG.out]; have := HL.out; omega) HJ.out
    rw [HWL.out] at hjoin
    refine hjoin.mono ?_
    rintro e w4 ⟨rfl, hb4⟩
    have HB4 : Hid (Below w.heap.size w w4) := HB3.out.trans (hb4.mono HB3.out.size)
    clear hb4 hjoin
    go_wp2
    go_ret2
    rw [HT.out, HC.out, HG.out]
    exact ⟨rfl, HB4.out⟩
  · subst hk
    have HSM : Hid (∀ n ∈ [u], 0 ≤ n ∧ n ≤ 10000) := fun n hn => HS.out.2 n (by simp at hn; subst hn; simp [recNums])
    have HSR : Hid (∀ n ∈ R, 0 ≤ n ∧ n ≤ 10000) := fun n hn => HS.out.2 n (by simp [recNums, hn])
    have HW := Lib.hid (says w1 wRoots [u])
    go_wp2_with fail
    obtain ⟨W, hW, hQ, hO, hI, hP, hb, -⟩ := HW.out
    simp only [List.map_cons, List.map_nil, wRoots] at hW
    rw [hW]
    clear hW HW x0 x1 x2 x3 x4 x5 x6 x7 x8 x9 x10
    have hA2 := hA1.keep hb
    have HB2 : Hid (Below w.heap.size w W) := HB1.out.trans (hb.mono HB1.out.size)
    have hv2 := HV1.out.on hb
    have hIR := HI1.out.below hb
    have hltW : w1.heap.size < W.heap.size := hQ.lt
    refine (say_any W w1.heap.size _ [wRoots] _ _ [u] (by simp) (by simp) HSM.out hlo hQ hO hI hP (fun b off e => by simp at e; omega) hv2).mono ?_
    rintro e w3 ⟨rfl, ⟨v3, hQ3, hO3⟩, hb3⟩
    have hA3 := hA2.below hb3 hlt
    have x3 := hA3.at 3 rfl
    have hv3 := hv2.keep hb3 hlo
    have hI3 : SlI w3 a R := by
      rcases HI1.out with hI | ⟨b, off, e, hbl, hp⟩
      · exact Or.inl hI
      · refine Or.inr ⟨b, off, e, by have := hb3.size; omega, fun i hi => ?_⟩
        rw [hb3.cell (p := ⟨b, off + i, none⟩) hbl, hb.cell (p := ⟨b, off + i, none⟩) hbl]
        exact hp i hi
    have hP3 : R ≠ [] → Apart w3 (w1.heap.size + 1) a := by
      intro hR b off e
      rcases HI1.out with hI | ⟨b', off', e', hbl, _⟩
      · exact absurd hI hR
      · rw [e] at e'
        simp at e'
        exact ⟨by have := hb3.size; omega, Or.inl (by omega)⟩
    have hN3 : R ≠ [] → ∀ b off, a = some ⟨b, off, none⟩ → b ≠ w1.heap.size := by
      intro hR b off e
      rcases HI1.out with hI | ⟨b', off', e', hbl, _⟩
      · exact absurd hI hR
      · rw [e] at e'
        simp at e'
        omega
    have HB3' : Hid (Below w.heap.size w w3) := HB2.out.trans (hb3.mono (by omega))
    clear hA1 hA2 hb3 hv2 hQ hO hI hP HB2 hIR
    obtain ⟨aQ, cQ, rfl, _, _⟩ := hO3.val
    have q3 := hQ3.at 0 rfl
    have HS3 := Lib.hid (say_any0 w3 w1.heap.size _ _ a c R (by simp) (by omega) HSR.out hlo hQ3 hO3 hI3 hP3 hN3 hv3)
    clear hQ3 hO3 hI3 hP3 hN3 hv3 hA3

    go_wp2_with fail
    refine HS3.out.mono ?_
    rintro e w5 ⟨rfl, ⟨v5, hQ5, hO5⟩, hb5⟩
    have HB5 : Hid (Below w.heap.size w w5) := HB3'.out.trans (hb5.mono (by omega))
    clear HS3 HB3' hb5 q3 x3
    obtain ⟨wj, hwj⟩ : ∃ wj, wj = ([wRoots] ++ [u].map Lib.itoa) ++ R.map Lib.itoa := ⟨_, rfl⟩
    rw [← hwj] at hO5
    have HGL : Hid (recT (3, u, f, R, o) = glue wj) := by rw [hwj]; rfl
    have HNN : Hid (wj ≠ []) := by show _ ≠ _; rw [hwj]; simp
    have HLN : Hid (wj.length ≤ 1000) := by rw [hwj]; show _ ≤ _; simp; omega
    clear hwj
    obtain ⟨aJ, cJ, rfl, hJ, hcJ⟩ := hO5.val
    have q3 := hQ5.at 0 rfl
    have HJ := Lib.hid hJ
    clear hJ hO5 hQ5
    have HG : Hid (recT (3, u, f, R, o) = glue wj) := HGL.out
    generalize hwl : wj.length = wl at *
    have HWL := Lib.hid hwl
    clear hwl
    go_wp2_with fail
    have hjoin := join_any w5 aJ cJ wj HNN.out (by rw [HWL.out]; exact hcJ) (by rw [HWL.out]; exact HLN.out) (by rw [← HG.out]; have := HL.out; omega) HJ.out
    rw [HWL.out] at hjoin
    refine hjoin.mono ?_
    rintro e w4 ⟨rfl, hb4⟩
    have HB4 : Hid (Below w.heap.size w w4) := HB5.out.trans (hb4.mono HB5.out.size)
    clear hb4 hjoin
    go_wp2
    go_ret2
    rw [HT.out, HC.out, HG.out]
    exact ⟨rfl, HB4.out⟩
end Go.Proofs.YtmlodnamknielacGreatDoor

/- orangeryref.PutOn. -/
namespace Go.Proofs.YtmlodnamknielacGreatDoor
open Go.ChangeShapes Go.WideShapes Go.ChangeAt Go.RowKit
open Orangery (Mv Rc noRec noOp lnL lnN lnE diskE putE recT recText checkRec)

/-- the bytes of a text, in a row of their own -/
theorem bytes_of (w : World) (Z : List UInt8) :
    ∃ W c, (convert 9 22 (txV Z)).run Tryz.prog w = .ok (.slice (some ⟨w.heap.size, 0, none⟩) Z.length c) W ∧ Below w.heap.size w W ∧ SlB W (some ⟨w.heap.size, 0, none⟩) Z := by
  have hsz : (⟨Z.toArray⟩ : ByteArray).size = Z.length := Orangery.bytes_size Z
  have h := Lib.run_convert_string_bytes (P := Tryz.prog) w 9 22 5 ⟨Z.toArray⟩ Tryz.underlying9 Tryz.underlying22 Tryz.underlying5
  rw [hsz] at h
  refine ⟨_, _, h, Lib.bytesWorld_below _ _ _, ?_⟩
  refine SlB.of_cells (by rw [Lib.bytesWorld_size]; omega) fun j hj => ?_
  have hc := Lib.bytesWorld_cell w 5 ⟨Z.toArray⟩ j (by rw [hsz]; exact hj)
  rw [Nat.zero_add, hc]
  simp [List.getD, List.getElem?_eq_getElem hj]

set_option maxHeartbeats 4000000 in
set_option maxRecDepth 100000 in
theorem rputOn_any (w : World) (v : Value) (s t : List UInt8) (k u f : Int) (a3 : Option Addr) (c3 : Nat) (R : List Int) (o : Mv) (h : DkIs w v s t) (hd : diskE s t = 0) (hl : R.length ≤ maxLen) (hI : SlI w a3 R) (hv : Vars w) :
    Calls Tryz.prog 13 #[v, rcV k u f (.slice a3 R.length c3) o] w fun e w' => (∃ v', e = .returned (.tuple #[v', .int .i64 (putAll s t (k, u, f, R, o))]) ∧ DkIs w' v' (putS s t (k, u, f, R, o)) (putT s t (k, u, f, R, o))) ∧ Below w.heap.size w w' := by
  obtain ⟨a, c, a', c', rfl, h1, h2⟩ := h
  have H1 := Lib.hid h1
  have H2 := Lib.hid h2
  have HV := Lib.hid hv
  have HI := Lib.hid hI
  have HL := Lib.hid hl
  have hfit := disk_fits hd
  have HD : Hid (diskE s t = 0) := hd
  clear h1 h2 hv hI hl hd
  go_enter Tryz.func13, Tryz.ntmps13
  go_wp2_with fail
  obtain ⟨W0, hW, hA, hC, hR, hB, -⟩ := laid3 w [.slice a s.length c, .slice a' t.length c'] 24 [Value.int IntKind.i64 k, .int .i64 u, .int .i64 f, .slice a3 R.length c3, .int .i64 o.1, .int .i64 o.2.1, .int .i64 o.2.2.1.1, .int .i64 o.2.2.1.2.1, .int .i64 o.2.2.1.2.2, .int .i64 o.2.2.2.1, .int .i64 o.2.2.2.2] 31 [.slice none 0 0, .slice none 0 0] 24
  rw [hW]
  clear hW hC
  refine (rrecText_any W0 k u f a3 c3 R o HL.out (HI.out.below hB) (HV.out.on hB)).mono ?_
  rintro e w2 ⟨rfl, hb⟩
  have hA2 := hA.keep hb
  have hR2 := hR.keep hb
  have HB2 := Lib.hid (hB.trans (hb.mono hB.size))
  clear hA hR hB hb
  by_cases hc : checkRec (k, u, f, R, o) = 0
  case neg =>
    have HP := Lib.hid (put_rec HD.out hc)
    have HE := Lib.hid (put_not HP.out hc)
    have d1 : (checkRec (k, u, f, R, o) != 0) = true := by simpa using hc
    generalize checkRec (k, u, f, R, o) = E at *
    generalize recText (k, u, f, R, o) = T at *
    have r0 := hR2.at 0 rfl
    have r1 := hR2.at 1 rfl
    have rf := hR2.frz
    clear hc
    go_wp2
    refine ret_cell_tmp Tryz.results13 rfl rfl ((hR2.sets [.slice none 0 0, .slice none 0 0] rfl).load Tryz.underlying24 rfl sizeDisk) ?_
    rw [HE.out.1, HE.out.2, HP.out]
    exact ⟨⟨_, rfl, dkIs_none _⟩, below_sets HB2.out (w.heap.size + 1 + 1) (by omega) [.slice none 0 0, .slice none 0 0] 0⟩
  have HC : Hid (checkRec (k, u, f, R, o) = 0) := hc
  have hT := Orangery.recT_len hc
  rw [hc, recText_ok hc]
  obtain ⟨T, hTe⟩ : ∃ T, recT (k, u, f, R, o) = T := ⟨_, rfl⟩
  have HT : Hid (recT (k, u, f, R, o) = T) := hTe
  rw [hTe] at hT ⊢
  clear hc hTe
  have x0 := hA2.at 0 rfl
  have x1 := hA2.at 1 rfl
  have hTs : (⟨T.toArray⟩ : ByteArray).size = T.length := Orangery.bytes_size T
  by_cases hbig : 60000 < s.length + t.length + T.length + 1
  · have HP : Hid (putAll s t (k, u, f, R, o) = 2) := put_many HD.out HC.out (by rw [HT.out]; simp; omega)
    have HE := Lib.hid (put_not HP.out (by decide))
    have d1 : decide ((s.length : Int) + (t.length : Int) + (T.length : Int) + 1 > 60000) = true := by simp; omega
    have r0 := hR2.at 0 rfl
    have r1 := hR2.at 1 rfl
    have rf := hR2.frz
    clear hbig
    go_wp2
    refine ret_cell_tmp Tryz.results13 rfl rfl ((hR2.sets [.slice none 0 0, .slice none 0 0] rfl).load Tryz.underlying24 rfl sizeDisk) ?_
    rw [HE.out.1, HE.out.2, HP.out]
    exact ⟨⟨_, rfl, dkIs_none _⟩, below_sets HB2.out (w.heap.size + 1 + 1) (by omega) [.slice none 0 0, .slice none 0 0] 0⟩
  have d1 : decide ((s.length : Int) + (t.length : Int) + (T.length : Int) + 1 > 60000) = false := by simp; omega
  have HP := Lib.hid (put_ok HD.out HC.out (by rw [HT.out]; simp; omega))
  rw [HT.out] at HP
  have hbig' : s.length + t.length + T.length + 1 ≤ 60000 := by omega
  have d9 : ¬ 9223372036854775807 < T.length + 1 := by omega
  clear hbig
  go_upto_region 6 with fail
  have HA : Hid (Blk w2 w.heap.size [.slice a s.length c, .slice a' t.length c']) := hA2
  have HR : Hid (Blk w2 (w.heap.size + 1 + 1) [.slice none 0 0, .slice none 0 0]) := hR2
  have hz2 : w.heap.size + 1 + 1 < w2.heap.size := hR2.lt
  clear hA2 hR2 x0 x1
  have hS' : Blk w2.drew w.heap.size [.slice a s.length c, .slice a' t.length c'] ∧ Below w.heap.size w w2.drew := ⟨HA.out.drew, HB2.out.drew⟩
  refine wp_region_held_drew (S := fun w' => Blk w' w.heap.size [.slice a s.length c, .slice a' t.length c'] ∧ Below w.heap.size w w') (by kernel_rfl) hS' (fun hHeld => ?_)
  refine take_yes 0 30 (v := ?_) rfl rfl (by kernel_rfl) (by kernel_rfl) (by kernel_rfl) (fun _ _ _ h => h) (by rfl) ?_ hHeld ?_
  rotate_left 1
  · (intro w hSw; go_simp; try with_reducible rfl)
  simp only [Act.put, List.setIfInBounds_toArray, List.set_cons_succ, List.set_cons_zero]
  refine take_yes 1 31 (v := ?_) rfl rfl (by kernel_rfl) (by kernel_rfl) (by kernel_rfl) (fun _ _ _ h => h) (by rfl) ?_ hHeld ?_
  rotate_left 1
  · (intro w hSw; have z0 := hSw.1.at 0 rfl; go_simp; try with_reducible rfl)
  simp only [Act.put, List.setIfInBounds_toArray, List.set_cons_succ, List.set_cons_zero]
  refine take_yes 2 32 (v := ?_) rfl rfl (by kernel_rfl) (by kernel_rfl) (by kernel_rfl) (fun _ _ _ h => h) (by rfl) ?_ hHeld ?_
  rotate_left 1
  · (intro w hSw; go_simp; try with_reducible rfl)
  simp only [Act.put, List.setIfInBounds_toArray, List.set_cons_succ, List.set_cons_zero]
  refine take_yes 3 33 (v := ?_) rfl rfl (by kernel_rfl) (by kernel_rfl) (by kernel_rfl) (fun _ _ _ h => h) (by rfl) ?_ hHeld ?_
  rotate_left 1
  · (intro w hSw; have z1 := hSw.1.at 1 rfl; go_simp; try with_reducible rfl)
  simp only [Act.put, List.setIfInBounds_toArray, List.set_cons_succ, List.set_cons_zero]
  refine take_yes 4 34 (v := ?_) rfl rfl (by kernel_rfl) (by kernel_rfl) (by kernel_rfl) (fun _ _ _ h => h) (by rfl) ?_ hHeld ?_
  rotate_left 1
  · (intro w hSw; go_simp; try with_reducible rfl)
  simp only [Act.put, List.setIfInBounds_toArray, List.set_cons_succ, List.set_cons_zero]
  refine take_yes 5 35 (v := ?_) rfl rfl (by kernel_rfl) (by kernel_rfl) (by kernel_rfl) (fun _ _ _ h => h) (by rfl) ?_ hHeld ?_
  rotate_left 1
  · (intro w hSw; go_simp; try with_reducible rfl)
  simp only [Act.put, List.setIfInBounds_toArray, List.set_cons_succ, List.set_cons_zero]
  rw [show Value.string ((⟨T.toArray⟩ : ByteArray) ++ ⟨#[10]⟩) = txV (T ++ [10]) from congrArg Value.string (Orangery.bytes_app T [10])]
  obtain ⟨Z, hZ⟩ : ∃ Z, T ++ [10] = Z := ⟨_, rfl⟩
  have hZl : Z.length = T.length + 1 := by rw [← hZ]; simp
  rw [hZ] at HP ⊢
  have hZ60 : s.length + t.length + Z.length ≤ 60000 := by omega
  clear hZ hZl
  refine wpAnyH_ready (rs := [6]) (by kernel_rfl) (by simp) ?_
  refine AllReadyH.cons rfl (fun K hK => ?_) AllReadyH.nil
  obtain ⟨w3, cZ, hcv, hb3, hSZ⟩ := bytes_of w2.drew Z
  go_simp
  have hS3 : Blk w3 w.heap.size [.slice a s.length c, .slice a' t.length c'] ∧ Below w.heap.size w w3 := ⟨hS'.1.keep hb3, hS'.2.trans (hb3.mono (Below.size hS'.2))⟩
  have hR3 := (HR.out.drew).keep hb3
  have hz3 : w2.heap.size ≤ w3.heap.size := hb3.size
  refine hK.out _ _ hS3 (fun hHeld => ?_)
  clear hK K hcv hb3 hS' HR HB2
  refine wpAnyH_ready (rs := [7]) (by kernel_rfl) (by simp) ?_
  refine AllReadyH.cons rfl (fun K hK => ?_) AllReadyH.nil
  go_simp
  obtain ⟨W4, hW, hQ, hB4, -⟩ := laid1 w3 [.slice a' t.length c', .slice (some ⟨w2.heap.size, 0, none⟩) Z.length cZ] 22
  rw [hW]
  clear hW
  have hS4 : Blk W4 w.heap.size [.slice a s.length c, .slice a' t.length c'] ∧ Below w.heap.size w W4 := ⟨hS3.1.keep hB4, hS3.2.trans (hB4.mono (Below.size hS3.2))⟩
  have hR4 := hR3.keep hB4
  have HZ4 := Lib.hid (SlE.below hSZ hB4)
  have hz4 : w3.heap.size < W4.heap.size := hQ.lt
  refine hK.out _ _ hS4 (fun hHeld => ?_)
  clear hK K hSZ hB4 hR3 hS3
  refine wpAnyH_ready (rs := [8]) (by kernel_rfl) (by simp) ?_
  refine AllReadyH.cons rfl (fun K hK => ?_) AllReadyH.nil
  go_simp
  refine (concatBts_any W4 w3.heap.size a' (some ⟨w2.heap.size, 0, none⟩) c' cZ t Z (by omega) (by omega) (H2.out).none (fun e => by simp at e) (hQ.at 0 rfl) (hQ.at 1 rfl) (H2.out.keep hS4.2).reads HZ4.out).mono ?_
  rintro e w5 ⟨v5, rfl, hO, hb⟩
  have hS5 : Blk w5 w.heap.size [.slice a s.length c, .slice a' t.length c'] ∧ Below w.heap.size w w5 := ⟨hS4.1.keep hb, hS4.2.trans (hb.mono (Below.size hS4.2))⟩
  have hR5 := hR4.keep hb
  obtain ⟨q, hq⟩ : ∃ q, q = t ++ Z := ⟨_, rfl⟩
  rw [← hq] at hO
  have hql : q.length ≤ 60000 := by rw [hq]; simp; omega
  have HQ : Hid (t ++ Z = q) := hq.symm
  obtain ⟨a5, c5, rfl, -⟩ := OwnB.bs hO (by omega)
  have HO5 := Lib.hid hO
  clear hq hO hb hQ hR4 hS4 HZ4
  go_wp2_with fail
  refine hK.out _ _ hS5 (fun hHeld => ?_)
  clear hK K
  refine take_yes 9 39 (v := ?_) rfl rfl (by kernel_rfl) (by kernel_rfl) (by kernel_rfl) (fun _ _ _ h => h) (by rfl) ?_ hHeld ?_
  rotate_left 1
  · (intro w hSw; go_simp; try with_reducible rfl)
  simp only [Act.put, List.setIfInBounds_toArray, List.set_cons_succ, List.set_cons_zero]
  refine step_store 10 24 (w.heap.size + 1 + 1) [.slice a s.length c, .slice a5 q.length c5] (by kernel_rfl) rfl rfl (by rfl) (by rfl) (by rfl) (by rfl) hR5.there sizeDisk ?_ ?_ ?_
  · intro v hv; simp at hv; rcases hv with rfl | rfl <;> rfl
  · exact (show Blk (w5.setCells (w.heap.size + 1 + 1) 0 [.slice a s.length c, .slice a5 q.length c5]) w.heap.size [.slice a s.length c, .slice a' t.length c'] ∧ Below w.heap.size w (w5.setCells (w.heap.size + 1 + 1) 0 [.slice a s.length c, .slice a5 q.length c5]) from ⟨hS5.1.others (by omega) _ 0, below_sets hS5.2 (w.heap.size + 1 + 1) (by omega) _ 0⟩)
  have hHeld := (show Blk (w5.setCells (w.heap.size + 1 + 1) 0 [.slice a s.length c, .slice a5 q.length c5]) w.heap.size [.slice a s.length c, .slice a' t.length c'] ∧ Below w.heap.size w (w5.setCells (w.heap.size + 1 + 1) 0 [.slice a s.length c, .slice a5 q.length c5]) from ⟨hS5.1.others (by omega) _ 0, below_sets hS5.2 (w.heap.size + 1 + 1) (by omega) _ 0⟩)
  refine take_yes 11 5 (v := ?_) rfl rfl (by kernel_rfl) (by kernel_rfl) (by kernel_rfl) (fun _ _ _ h => h) (by rfl) ?_ hHeld ?_
  rotate_left 1
  · (intro w hSw; go_simp; try with_reducible rfl)
  simp only [Act.put, List.setIfInBounds_toArray, List.set_cons_succ, List.set_cons_zero]
  refine wpAnyH_done (by kernel_rfl) ?_ _
  have hRf := hR5.sets [.slice a s.length c, .slice a5 q.length c5] rfl
  go_wp2
  refine ret_cell_tmp Tryz.results13 rfl rfl (hRf.load Tryz.underlying24 rfl sizeDisk) ?_
  rw [HP.out.1, HP.out.2.1, HP.out.2.2, HQ.out]
  have hbf := below_sets hS5.2 (w.heap.size + 1 + 1) (by omega) [.slice a s.length c, .slice a5 q.length c5] 0
  exact ⟨⟨_, rfl, a, c, a5, c5, rfl, H1.out.keep hbf, OwnB.bsi (OwnE.others (w.heap.size + 1 + 1) (by omega) [.slice a s.length c, .slice a5 q.length c5] 0 _ HO5.out) (by omega)⟩, hbf⟩
end Go.Proofs.YtmlodnamknielacGreatDoor

