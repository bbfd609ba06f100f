/- 2 texts of the proof: orangeryref.Seen. orangeryref.CheckView. -/
import Derived.Test.YtijjiccgpobjmaeGreatP11
/- orangeryref.Seen. -/
namespace Go.Proofs.YtijjiccgpobjmaeGreat
open Go.ChangeShapes Go.WideShapes Go.ChangeAt Go.RowKit
open Orangery (Pl isNodeB check checkR rootsOk hasB chain upL outOk knB wyB viewK viewW ofE ofR ofK ofW orI)

theorem grown_below {w w' : World} (h : Below w.heap.size w w') (row : Option Nat) : w.grownBy w' row := ⟨h.os, h.tape, h.output, h.size, fun k hk _ => h.block k hk⟩
theorem grown_then {w w1 w2 : World} {b : Nat} {row : Option Nat} (h : w.grownBy w1 (some b)) (k : w1.grownBy w2 row) (hr : ∀ g, row = some g → w.heap.size ≤ g) : w.grownBy w2 (some b) :=
  ⟨k.os.trans h.os, k.tape.trans h.tape, k.output.trans h.output, Nat.le_trans h.size k.size, fun i hi hne => (k.block i (Nat.lt_of_lt_of_le hi h.size) (fun e => by have := hr i e.symm; omega)).trans (h.block i hi hne)⟩
theorem grown_set {w w1 : World} {b : Nat} (h : w.grownBy w1 (some b)) (j : Nat) (v : Value) : w.grownBy (w1.setCell ⟨b, j, none⟩ v) (some b) :=
  ⟨h.os, h.tape, h.output, by simpa using h.size, fun i hi hne => (heap_setCell_other w1 ⟨b, j, none⟩ i v (fun e => hne (by rw [e]))).trans (h.block i hi hne)⟩
theorem SlI.grown {w w' : World} {a : Option Addr} {l : List Int} {b : Nat} (h : SlI w a l) (hg : w.grownBy w' (some b)) (hf : Fresh (b + 1) a) : SlI w' a l := by
  rcases h with h | ⟨c, off, ha, hlt, hp⟩
  · exact Or.inl h
  · have := hf c off ha
    have hb := hg.block c hlt (by simp; omega)
    refine Or.inr ⟨c, off, ha, Nat.lt_of_lt_of_le hlt hg.size, fun i hi => ?_⟩
    rw [World.cell?_of_block (w := w) (w' := w') (a := ⟨c, off + i, none⟩) hb]
    exact hp i hi

theorem own_ints_cap {w : World} {base : Nat} {v : Value} {l : List Int} (h : OwnI w base v l) (hp : 1 ≤ l.length) :
    ∃ g cap, v = .slice (some ⟨g, 0, none⟩) l.length cap ∧ l.length ≤ cap ∧ cap ≤ maxLen ∧ base ≤ g ∧ g < w.heap.size ∧ IntsAt w g 0 l := by
  obtain ⟨h1, h2⟩ := own_ints h
  rcases h.2 with ⟨_, h3⟩ | ⟨g, cap, cur, e, hb, hh, hn, hm, _⟩
  · omega
  · rcases h2 with ⟨h3, h4⟩ | ⟨g', cap', h3, _, h5, h6⟩
    · omega
    · rw [e] at h3
      simp at h3
      obtain ⟨rfl, rfl⟩ := h3
      exact ⟨g, cap, e, hn, hm, hb, h5, h6⟩
theorem OwnI.nil (w : World) (base : Nat) : OwnI w base (.slice none 0 0) [] := World.ownsRow_nil _ _ _ _
theorem ints_drop {w : World} {g : Nat} {l : List Int} (h : IntsAt w g 0 l) : ∀ j u, ((l.drop 1).map (Value.int .i64))[j]? = some u → w.cell? ((⟨g, 1, none⟩ : Addr).add j) = some u := by
  intro j u hj
  have hlt : j < (l.drop 1).length := by
    have := (List.getElem?_eq_some_iff.1 hj).1
    simpa using this
  have hlt' : j + 1 < l.length := by simp at hlt; omega
  rw [List.getElem?_map, List.getElem?_eq_getElem hlt] at hj
  simp at hj
  rw [Addr.add_mid]
  have := h (1 + j) (by omega)
  rw [Nat.zero_add] at this
  rw [this, ← hj]
  simp [Nat.add_comm]

set_option maxHeartbeats 4000000 in
set_option maxRecDepth 100000 in
theorem rseen_any (w : World) (a a' : Option Addr) (c c' : Nat) (l : List Pl) (R : List Int) (hl : l.length ≤ maxLen) (hR : R.length ≤ maxLen) (h : SlP w a l) (h' : SlI w a' R) :
    Calls Tryz.prog 78 #[.agg #[.slice a l.length c], .slice a' R.length c'] w (Views w a' (ofR l R) (ofK l R) (ofW l R) (ofE l R)) := by
  obtain ⟨i0, hi, hz0, hz1, hz2⟩ := info_parts infoPlace
  obtain ⟨j0, hj, hy0, hy1, hy2⟩ := info_parts infoInt
  obtain ⟨W0, hW, hT, hV, hB, hS⟩ := laid2 w [Value.slice a l.length c] 37 [Value.slice none 0 0, Value.slice none 0 0, Value.slice none 0 0] 26
  have t0 := hT.at 0 rfl
  have HP : Hid (SlP w a l) := h
  have HI : Hid (SlI w a' R) := h'
  have HB0 : Hid (Below w.heap.size w W0) := hB
  clear h h'
  go_enter Tryz.func78, Tryz.ntmps78
  go_wp2_with fail
  clear hW
  refine (checkTree_any W0 a c l hl (HP.out.below hB)).mono ?_
  rintro e w1 ⟨rfl, hb1⟩
  rw [← Orangery.check_eq l]
  have HB1 : Hid (Below w.heap.size w w1) := HB0.out.trans (hb1.mono HB0.out.size)
  have hT1 := hT.keep hb1
  have hV1 := hV.keep hb1
  clear hB hb1 hT hV t0 HB0
  by_cases hz : check l = 0
  · have HZ : Hid (check l = 0) := hz
    rw [hz]
    clear hz
    go_wp2_with fail
    refine (rroots_any w1 a' c' R hR (HI.out.below HB1.out)).mono ?_
    rintro e w1 ⟨rfl, rfl⟩
    by_cases hr : rootsOk R = 0
    · have HR0 : Hid (rootsOk R = 0) := hr
      have HO : Hid (ofE l R = 0) := by show _ = _; unfold ofE orI; rw [if_neg (by simp [HZ.out]), hr]
      have hRl := Orangery.rootsOk_len hr
      have hll := Orangery.check_len l HZ.out
      have HRN : Hid (∀ r ∈ R, isNodeB r = true) := Orangery.rootsOk_node hr
      rw [hr]
      clear hr
      go_wp2
      obtain ⟨W3, hW3, hX3, hB3, hS3⟩ := laid1 w1 [Value.slice a' R.length c', Value.slice none 0 0, Value.slice none 0 0] 26
      rw [hW3]
      have HS3 : Hid (W3.heap.size = w1.heap.size + 1) := hS3
      have hle3 : w1.heap.size + 1 ≤ W3.heap.size := by omega
      clear hS3
      have HX3 : Hid (Blk W3 w1.heap.size [Value.slice a' R.length c', Value.slice none 0 0, Value.slice none 0 0]) := hX3
      have HB13 : Hid (Below w1.heap.size w1 W3) := hB3
      have HT1 : Hid (Blk w1 w.heap.size [Value.slice a l.length c]) := hT1
      have HV1 : Hid (Blk w1 (w.heap.size + 1) [Value.slice none 0 0, Value.slice none 0 0, Value.slice none 0 0]) := hV1
      have hlt1 : w.heap.size + 1 < w1.heap.size := hV1.lt
      clear hX3 hB3 hT1 hV1
      clear hW3
      go_loopw [9, 33] (fun v i W => ∃ k : Nat, k ≤ R.length ∧ i = .int .i64 k ∧ OwnI W W3.heap.size v (upL l (R.take k)) ∧ Below W3.heap.size W3 W) (fun _ i _ => R.length - (intOf i).toNat)
      case atStart => exact ⟨0, Nat.zero_le _, rfl, OwnI.nil _ _, Below.refl _ _⟩
      case round =>
        obtain ⟨k, hk, rfl, hown, hb⟩ := hrel
        have hb1r : Below w1.heap.size w1 wr := HB13.out.trans (hb.mono HB13.out.size)
        have hbwr : Below w.heap.size w wr := HB1.out.trans (hb1r.mono (by omega))
        have hTr := HT1.out.keep hb1r
        have t0 := hTr.at 0 rfl
        by_cases hlt : k < R.length
        · obtain ⟨b, off, rfl, hbl, g0⟩ := (HI.out.below hbwr).at k hlt
          have hn := HRN.out R[k] (List.getElem_mem hlt)
          have HU : Hid (upL l (R.take (k + 1)) = upL l (R.take k) ++ (chain l R[k]).drop 1) := Orangery.upL_take l R k hlt
          have hclen : (chain l R[k]).length ≤ 17 := Orangery.chain_len l _ HZ.out hn
          have hulen : (upL l (R.take k)).length ≤ 64 := by
            have h1 := Orangery.upL_len l (R.take k) (fun r hr => Orangery.chain_len l r HZ.out (HRN.out r (List.mem_of_mem_take hr)))
            have h2 : (R.take k).length ≤ 4 := by simp; omega
            omega
          have hn2 := (Orangery.isNodeB_iff _).1 hn
          have HC : Hid (∀ W, SlP W a l → Calls Tryz.prog 94 #[.slice a l.length c, .int .i64 R[k]] W fun e w' => ∃ v, e = .returned v ∧ w'.ownsRow W.heap.size 3 1 v (chain l R[k]).length ((chain l R[k]).map (Value.int .i64)) ∧ outOk (chain l R[k]) ∧ Below W.heap.size W w') :=
            fun W hW => chain_any W a c l R[k] hl hW (Orangery.scan_up (Orangery.check_scan l HZ.out)) hn2.1 hn2.2
          generalize R[k] = x at *
          generalize upL l (R.take k) = U at *
          clear hn hn2
          go_wp2_with fail
          refine (HC.out wr (HP.out.below hbwr)).mono ?_
          rintro e w4 ⟨vch, rfl, hch, hok, hb4⟩
          have hch' : OwnI w4 wr.heap.size vch (chain l x) := hch
          obtain ⟨g, cap, rfl, hnc, hcm, _, hgl, hints⟩ := own_ints_cap hch' hok.2.2
          have hpos : 1 ≤ (chain l x).length := hok.2.2
          clear hch hch' HC hok g0 t0
          have HN : Hid (∀ j u, (((chain l x).drop 1).map (Value.int .i64))[j]? = some u → w4.cell? ((⟨g, 1, none⟩ : Addr).add j) = some u) := ints_drop hints
          have hdl : ((chain l x).drop 1).length = (chain l x).length - 1 := by simp
          have hown4 : OwnI w4 W3.heap.size u9 U := hown.keep hb4
          have HB4 : Hid (Below W3.heap.size W3 w4) := hb.trans (hb4.mono hb.size)
          generalize (chain l x).length = n at *
          generalize (chain l x).drop 1 = D at *
          have q1 : (1 : Int) ≤ (n : Int) := by omega
          have q2 : (n : Int) ≤ (cap : Int) := by omega
          have q3 : ((1 : Int) ≤ (n : Int) ∧ (n : Int) ≤ (cap : Int)) := ⟨q1, q2⟩
          clear hints hown hb4 hb hb1r hbwr hTr
          have hownr : w4.ownsRow W3.heap.size 3 1 u9 U.length (U.map (Value.int .i64)) := hown4
          have hsz4 : W3.heap.size ≤ w4.heap.size := HB4.out.size
          by_cases hcap : cap - 1 = 0
          · obtain rfl : n = 1 := by omega
            have HD : Hid (D = []) := List.length_eq_zero_iff.1 (by omega)
            clear hdl
            go_wp2_with (at_builtin; refine wpList_append_own _ rfl _ _ 23 rfl W3.heap.size 3 j0 _ 1 8 Tryz.underlying23 hj hy0 hy1 hy2 rfl (by decide) _ _ _ rfl hownr ⟨g, 0, none⟩ 0 _ [] rfl rfl ?c1 ?c2 ?c3 ?c4 ?c5 ?_)
            case c1 => intro j u hj'; simp at hj'
            case c2 => intro u hu; simp at hu
            case c3 => unfold maxLen; omega
            case c4 => omega
            case c5 => exact hsz4
            intro v' w5 hown' hgrow _
            have HB5 : Hid (Below W3.heap.size W3 w5) := HB4.out.trans (below_grown hownr hsz4 hgrow)
            have HO5 : Hid (OwnI w5 W3.heap.size v' (U ++ D)) := by
              show OwnI _ _ _ _
              rw [HD.out, List.append_nil]
              simpa [OwnI] using hown'
            clear hgrow hown' hownr hown4 HB4
            go_wp2
            go_roundw
            case rel => exact ⟨k + 1, hlt, by go_num, by rw [HU.out]; exact HO5.out, HB5.out⟩
            case measure => simp [intOf]; omega
          · go_wp2_with (at_builtin; refine wpList_append_own _ rfl _ _ 23 rfl W3.heap.size 3 j0 _ 1 8 Tryz.underlying23 hj hy0 hy1 hy2 rfl (by decide) _ _ _ rfl hownr ⟨g, 1, none⟩ (n - 1) _ ((D).map (Value.int .i64)) rfl ?c0 ?c1 ?c2 ?c3 ?c4 ?c5 ?_)
            case c0 => rw [List.length_map, hdl, Nat.mul_one]
            case c1 => exact HN.out
            case c2 => exact map_one _
            case c3 => unfold maxLen; omega
            case c4 => omega
            case c5 => exact hsz4
            intro v' w5 hown' hgrow _
            have HB5 : Hid (Below W3.heap.size W3 w5) := HB4.out.trans (below_grown hownr hsz4 hgrow)
            have HO5 : Hid (OwnI w5 W3.heap.size v' (U ++ D)) := by
              show World.ownsRow _ _ _ _ _ _ _
              rw [List.length_append, List.map_append, hdl]
              exact hown'
            clear hgrow hown' hownr hown4 HB4
            go_wp2
            go_roundw
            case rel => exact ⟨k + 1, hlt, by go_num, by rw [HU.out]; exact HO5.out, HB5.out⟩
            case measure => simp [intOf]; omega
        · have hkR : k = R.length := by omega
          subst hkR
          rw [List.take_of_length_le (Nat.le_refl _)] at hown
          obtain ⟨au, cu, rfl, hIu⟩ := hown.val
          have hfu := hown.fresh
          have hulen : (upL l R).length ≤ 64 := by
            have h1 := Orangery.upL_len l R (fun r hr => Orangery.chain_len l r HZ.out (HRN.out r hr))
            omega
          have HW : Hid (∀ n, isNodeB n = true → knB l R n = false → wyB l R n = hasB n (upL l R)) := fun n hn hk => by rw [Orangery.has_up]; exact Orangery.wy_chain l R HZ.out HRN.out n hn hk
          have HK : Hid (∀ n, isNodeB n = true → knB l R n = (chain l n).any fun m => hasB m R) := fun n hn => Orangery.kn_chain l R HZ.out HRN.out n hn
          generalize upL l R = U at *
          have HU4 : Hid (SlI wr au U) := hIu
          have HF4 : Hid (Fresh (w1.heap.size + 1) au) := hfu.mono (by omega)
          have HB14 : Hid (Below w1.heap.size w1 wr) := hb1r
          have HX4 : Hid (Blk wr w1.heap.size [Value.slice a' R.length c', Value.slice none 0 0, Value.slice none 0 0]) := HX3.out.keep hb
          have hsz4 : w1.heap.size + 1 ≤ wr.heap.size := by have := hb.size; omega
          clear hown hIu hfu hb1r hb hbwr hTr HX3 HB13 HS3 hle3
          rename World => W4
          go_wp2
          clear t0
          go_loopw [48] (fun i W => ∃ (k : Nat) (v u : Value), k ≤ l.length ∧ i = .int .i64 k ∧ Blk W w1.heap.size [Value.slice a' R.length c', v, u] ∧ Two W W4.heap.size v u ((l.take k).filter fun p => knB l R p.1) ((l.take k).filter fun p => wyB l R p.1) ∧ W4.grownBy W (some w1.heap.size)) (fun i _ => l.length - (intOf i).toNat)
          case atStart => exact ⟨0, _, _, Nat.zero_le _, rfl, HX4.out, Two.nil _ _, ⟨rfl, rfl, rfl, Nat.le_refl _, fun _ _ _ => rfl⟩⟩
          case round =>
            obtain ⟨k, v, u, hk, rfl, hblk, htwo, hg⟩ := hrel
            have hb1r : Below w1.heap.size w1 wr := HB14.out.grown hg (by omega) (fun g e => by simp at e; omega)
            have hbwr : Below w.heap.size w wr := HB1.out.trans (hb1r.mono (by omega))
            have hgs := hg.size
            by_cases hlt : k < l.length
            · have hTr := HT1.out.keep hb1r
              have hUr : SlI wr au U := HU4.out.grown hg HF4.out
              have hIr : SlI wr a' R := HI.out.below hbwr
              have hPr := HP.out.below hbwr
              rcases hPr with h9 | ⟨b, off, rfl, hbl, hp⟩
              · exact absurd hlt (by simp [h9])
              obtain ⟨g0, g1, g2⟩ := hp k hlt
              have hn := (Orangery.mem_node l HZ.out l[k] (List.getElem_mem hlt)).1
              have HKN : Hid (knB l R l[k].1 = (chain l l[k].1).any fun m => hasB m R) := HK.out _ hn
              have HWN : Hid (knB l R l[k].1 = false → wyB l R l[k].1 = hasB l[k].1 U) := HW.out _ hn
              have HK1 : Hid ((l.take (k + 1)).filter (fun p => knB l R p.1) = (l.take k).filter (fun p => knB l R p.1) ++ if knB l R l[k].1 = true then [l[k]] else []) := Orangery.viewK_take l R k hlt
              have HW1 : Hid ((l.take (k + 1)).filter (fun p => wyB l R p.1) = (l.take k).filter (fun p => wyB l R p.1) ++ if wyB l R l[k].1 = true then [l[k]] else []) := Orangery.viewW_take l R k hlt
              have HAP : Hid (knB l R l[k].1 = true → wyB l R l[k].1 = false) := fun hh => Orangery.view_apart l R _ hh
              have hkl : ((l.take k).filter fun p => knB l R p.1).length ≤ 1000 := Nat.le_trans (List.length_filter_le _ _) (by simp; omega)
              have hwl : ((l.take k).filter fun p => wyB l R p.1).length ≤ 1000 := Nat.le_trans (List.length_filter_le _ _) (by simp; omega)
              have hn2 := (Orangery.isNodeB_iff _).1 hn
              have hcl : (chain l l[k].1).length ≤ 17 := Orangery.chain_len l _ HZ.out hn
              have HC : Hid (∀ W, SlP W (some ⟨b, off, none⟩) l → Calls Tryz.prog 94 #[.slice (some ⟨b, off, none⟩) l.length c, .int .i64 l[k].1] W fun e w' => ∃ v, e = .returned v ∧ w'.ownsRow W.heap.size 3 1 v (chain l l[k].1).length ((chain l l[k].1).map (Value.int .i64)) ∧ outOk (chain l l[k].1) ∧ Below W.heap.size W w') :=
                fun W hW => chain_any W _ c l l[k].1 hl hW (Orangery.scan_up (Orangery.check_scan l HZ.out)) hn2.1 hn2.2
              generalize l[k] = q at *
              obtain ⟨q0, q1, q2⟩ := q
              simp only at g0 g1 g2 HK1 HW1 HKN HWN HAP HC hcl
              generalize (l.take k).filter (fun p => knB l R p.1) = K at *
              generalize (l.take k).filter (fun p => wyB l R p.1) = V at *
              generalize chain l q0 = C at *
              obtain ⟨W5, hW5, hN, hBn, hS5⟩ := laid1 wr [Value.int IntKind.i64 q0, Value.int IntKind.i64 q1, Value.int IntKind.i64 q2] 47
              have n0 := hN.at 0 rfl
              have t0 := (hTr.keep hBn).at 0 rfl
              clear hn hn2 hp hS5
              go_wp2_with fail
              clear hW5 g0 g1 g2 n0 t0
              refine (HC.out W5 ((HP.out.below hbwr).below hBn)).mono ?_
              rintro e w6 ⟨vch, rfl, hch, _, hb6⟩
              have hch' : OwnI w6 W5.heap.size vch C := hch
              obtain ⟨ac, cc, rfl, hIc⟩ := hch'.val
              have hb5 : Below wr.heap.size wr w6 := hBn.trans (hb6.mono hBn.size)
              have HN6 : Hid (Blk w6 wr.heap.size [Value.int IntKind.i64 q0, Value.int IntKind.i64 q1, Value.int IntKind.i64 q2]) := hN.keep hb6
              have HX6 : Hid (Blk w6 w1.heap.size [Value.slice a' R.length c', v, u]) := hblk.keep hb5
              have HT6 : Hid (Two w6 W4.heap.size v u K V) := htwo.keep hb5
              have HG6 : Hid (W4.grownBy w6 (some w1.heap.size)) := grown_then hg (grown_below hb5 none) (fun g e => by simp at e)
              have HU6 : Hid (SlI w6 au U) := hUr.below hb5
              have HI6 : Hid (SlI w6 a' R) := hIr.below hb5
              have hs6 : wr.heap.size < w6.heap.size := HN6.out.lt
              clear hch hch' HC hN hblk htwo hg hUr hIr hTr hb1r hbwr hb5 hb6 hBn
              go_wp2
              go_loop [14, 58] (fun kn i => ∃ j : Nat, j ≤ C.length ∧ kn = .bool ((C.take j).any fun m => hasB m R) ∧ i = .int .i64 j) (fun _ i => C.length - (intOf i).toNat)
              case atStart => exact ⟨0, Nat.zero_le _, rfl, rfl⟩
              case round =>
                obtain ⟨j, hj2, rfl, rfl⟩ := hrel
                by_cases hjl : j < C.length
                · obtain ⟨b', off', rfl, hbl', g0⟩ := hIc.at j hjl
                  have HA : Hid ((C.take (j + 1)).any (fun m => hasB m R) = ((C.take j).any (fun m => hasB m R) || hasB C[j] R)) := Orangery.any_take _ C j hjl
                  generalize C[j] = x at *
                  cases hq : (C.take j).any fun m => hasB m R
                  · have HQ : Hid ((C.take j).any (fun m => hasB m R) = false) := hq
                    clear hq
                    go_wp2_with fail
                    refine (containsI_any w6 a' c' x R hR HI6.out).mono ?_
                    rintro e w6 ⟨rfl, rfl⟩
                    have HA2 : Hid ((C.take (j + 1)).any (fun m => hasB m R) = hasB x R) := by show _ = _; rw [HA.out, HQ.out]; rfl
                    clear HA HQ
                    generalize hasB x R = hb at *
                    go_wp2
                    go_round
                    case rel => exact ⟨j + 1, hjl, by rw [HA2.out], by go_num⟩
                    case measure => simp [intOf]; omega
                  · have HA2 : Hid ((C.take (j + 1)).any (fun m => hasB m R) = true) := by show _ = _; rw [HA.out, hq]; rfl
                    clear HA hq
                    go_wp2
                    go_round
                    case rel => exact ⟨j + 1, hjl, by rw [HA2.out], by go_num⟩
                    case measure => simp [intOf]; omega
                · have hjC : j = C.length := by omega
                  subst hjC
                  rw [List.take_of_length_le (Nat.le_refl _), ← HKN.out]
                  cases hkn : knB l R q0
                  · have HKE : Hid ((l.take (k + 1)).filter (fun p => knB l R p.1) = K) := by show _ = _; rw [HK1.out, hkn]; simp
                    have HWE : Hid (wyB l R q0 = hasB q0 U) := HWN.out hkn
                    have n0 := HN6.out.at 0 rfl
                    clear hkn HK1 HKN HWN HAP
                    go_wp2_with fail
                    refine (containsI_any w6 au cu q0 U (by unfold maxLen; omega) HU6.out).mono ?_
                    rintro e w6 ⟨rfl, rfl⟩
                    clear n0
                    cases hq : hasB q0 U
                    · have HVE : Hid ((l.take (k + 1)).filter (fun p => wyB l R p.1) = V) := by show _ = _; rw [HW1.out, HWE.out, hq]; simp
                      clear hq HWE HW1
                      go_wp2
                      go_roundw
                      case rel => exact ⟨k + 1, v, u, hlt, by go_num, HX6.out, by rw [HKE.out, HVE.out]; exact HT6.out, HG6.out⟩
                      case measure => simp [intOf]; omega
                    · have HVE : Hid ((l.take (k + 1)).filter (fun p => wyB l R p.1) = V ++ [(q0, q1, q2)]) := by show _ = _; rw [HW1.out, HWE.out, hq]; simp
                      clear hq HWE HW1
                      obtain ⟨WW, hWW, hZ, hBz, hSz⟩ := laid1 w6 [Value.int IntKind.i64 q0, Value.int IntKind.i64 q1, Value.int IntKind.i64 q2] 47
                      have hN6 := HN6.out
                      have hX6 := HX6.out
                      have m0 := hN6.at 0 rfl
                      have m1 := hN6.at 1 rfl
                      have m2 := hN6.at 2 rfl
                      have x1 := hX6.at 2 rfl
                      have HTZ : Hid (Two WW W4.heap.size v u K V) := HT6.out.keep hBz
                      have hown : WW.ownsRow W4.heap.size 47 3 u V.length (V.flatMap encPl) := HTZ.out.2.1
                      have HXZ : Hid (Blk WW w1.heap.size [Value.slice a' R.length c', v, u]) := hX6.keep hBz
                      have HGZ : Hid (W4.grownBy WW (some w1.heap.size)) := grown_then HG6.out (grown_below hBz none) (fun g e => by simp at e)
                      have HZZ : Hid (Blk WW w6.heap.size [Value.int IntKind.i64 q0, Value.int IntKind.i64 q1, Value.int IntKind.i64 q2]) := hZ
                      have HSz : Hid (WW.heap.size = w6.heap.size + 1) := hSz
                      have hszz : W4.heap.size ≤ WW.heap.size := HGZ.out.size
                      clear hN6 hX6 hBz hZ hSz
                      go_wp2_with (at_builtin; refine wpList_append_own_at _ rfl _ _ 24 rfl W4.heap.size 47 i0 _ 3 24 Tryz.underlying24 hi hz0 hz1 hz2 rfl (by decide) _ _ _ rfl hown ⟨w6.heap.size, 0, none⟩ 1 1 [.int .i64 q0, .int .i64 q1, .int .i64 q2] rfl rfl ?c1 ?c2 ?c3 ?c4 ?c5 ?_)
                      case c1 => intro j y hj; rw [Addr.add_mid, Nat.zero_add]; exact HZZ.out.at j hj
                      case c2 => exact encPl_one (q0, q1, q2)
                      case c3 => unfold maxLen; omega
                      case c4 => omega
                      case c5 => exact hszz
                      intro v' w7 hown' hgrow _ hat
                      have hlo : ∀ g, u.ownBlock = some g → W4.heap.size ≤ g := fun g hg => (World.ownsRow.lt hown g hg).1
                      have hO' : OwnE encPl 3 47 w7 W4.heap.size v' (V ++ [(q0, q1, q2)]) := by simpa [OwnE, encPl] using hown'
                      obtain ⟨a4, c4, rfl, _⟩ := hO'.val
                      rw [List.length_append, List.length_singleton] at hO' hat
                      have HTW : Hid (Two w7 W4.heap.size v (.slice a4 (V.length + 1) c4) K (V ++ [(q0, q1, q2)])) := (HTZ.out.swap.grew hO' hgrow hat).swap
                      have hX7 := HXZ.out.grown hgrow (fun e => by have := hlo _ e.symm; omega)
                      have HG7 : Hid (W4.grownBy w7 (some w1.heap.size)) := grown_then HGZ.out hgrow hlo
                      have y1 := hX7.at 2 rfl
                      have yf := hX7.frz
                      have HX7 : Hid (Blk w7 w1.heap.size [Value.slice a' R.length c', v, u]) := hX7
                      clear hown hown' hgrow hat hO' hlo HTZ HXZ HGZ HZZ HSz hX7 hWW m0 m1 m2 x1 hszz
                      go_wp2
                      go_roundw
                      case rel => exact ⟨k + 1, v, _, hlt, by go_num, HX7.out.set 2 (by simp) (.slice a4 (V.length + 1) c4), by rw [HKE.out, HVE.out]; exact HTW.out.other _ (by omega) _ _, grown_set HG7.out _ _⟩
                      case measure => simp [intOf]; omega
                  · have HKE : Hid ((l.take (k + 1)).filter (fun p => knB l R p.1) = K ++ [(q0, q1, q2)]) := by show _ = _; rw [HK1.out, hkn]; simp
                    have HVE : Hid ((l.take (k + 1)).filter (fun p => wyB l R p.1) = V) := by show _ = _; rw [HW1.out, HAP.out hkn]; simp
                    clear hkn HK1 HKN HWN HAP HW1
                    obtain ⟨WW, hWW, hZ, hBz, hSz⟩ := laid1 w6 [Value.int IntKind.i64 q0, Value.int IntKind.i64 q1, Value.int IntKind.i64 q2] 47
                    have hN6 := HN6.out
                    have hX6 := HX6.out
                    have m0 := hN6.at 0 rfl
                    have m1 := hN6.at 1 rfl
                    have m2 := hN6.at 2 rfl
                    have x1 := hX6.at 1 rfl
                    have HTZ : Hid (Two WW W4.heap.size v u K V) := HT6.out.keep hBz
                    have hown : WW.ownsRow W4.heap.size 47 3 v K.length (K.flatMap encPl) := HTZ.out.1
                    have HXZ : Hid (Blk WW w1.heap.size [Value.slice a' R.length c', v, u]) := hX6.keep hBz
                    have HGZ : Hid (W4.grownBy WW (some w1.heap.size)) := grown_then HG6.out (grown_below hBz none) (fun g e => by simp at e)
                    have HZZ : Hid (Blk WW w6.heap.size [Value.int IntKind.i64 q0, Value.int IntKind.i64 q1, Value.int IntKind.i64 q2]) := hZ
                    have HSz : Hid (WW.heap.size = w6.heap.size + 1) := hSz
                    have hszz : W4.heap.size ≤ WW.heap.size := HGZ.out.size
                    clear hN6 hX6 hBz hZ hSz
                    go_wp2_with (at_builtin; refine wpList_append_own_at _ rfl _ _ 24 rfl W4.heap.size 47 i0 _ 3 24 Tryz.underlying24 hi hz0 hz1 hz2 rfl (by decide) _ _ _ rfl hown ⟨w6.heap.size, 0, none⟩ 1 1 [.int .i64 q0, .int .i64 q1, .int .i64 q2] rfl rfl ?c1 ?c2 ?c3 ?c4 ?c5 ?_)
                    case c1 => intro j y hj; exact HZZ.out.at j hj
                    case c2 => exact ⟨rfl, rfl, rfl⟩
                    case c3 => unfold maxLen; omega
                    case c4 => omega
                    intro v' w7 hown' hgrow _ hat
                    have hlo : ∀ g, v.ownBlock = some g → W4.heap.size ≤ g := fun g hg => (World.ownsRow.lt hown g hg).1
                    have hO' : OwnE encPl 3 47 w7 W4.heap.size v' (K ++ [(q0, q1, q2)]) := by simpa [OwnE, encPl] using hown'
                    obtain ⟨a4, c4, rfl, _⟩ := hO'.val
                    rw [List.length_append, List.length_singleton] at hO' hat
                    have HTW : Hid (Two w7 W4.heap.size (.slice a4 (K.length + 1) c4) u (K ++ [(q0, q1, q2)]) V) := HTZ.out.grew hO' hgrow hat
                    have hX7 := HXZ.out.grown hgrow (fun e => by have := hlo _ e.symm; omega)
                    have HG7 : Hid (W4.grownBy w7 (some w1.heap.size)) := grown_then HGZ.out hgrow hlo
                    have y1 := hX7.at 1 rfl
                    have yf := hX7.frz
                    have HX7 : Hid (Blk w7 w1.heap.size [Value.slice a' R.length c', v, u]) := hX7
                    clear hown hown' hgrow hat hO' hlo HTZ HXZ HGZ HZZ HSz hX7 hWW m0 m1 m2 x1 hszz
                    go_wp2
                    go_roundw
                    case rel => exact ⟨k + 1, _, u, hlt, by go_num, HX7.out.set 1 (by simp) (.slice a4 (K.length + 1) c4), by rw [HKE.out, HVE.out]; exact HTW.out.other _ (by omega) _ _, grown_set HG7.out _ _⟩
                    case measure => simp [intOf]; omega
            · have hkl : k = l.length := by omega
              subst hkl
              rw [List.take_of_length_le (Nat.le_refl _)] at htwo
              have htwo : Two wr W4.heap.size v u (viewK l R) (viewW l R) := htwo
              obtain ⟨a5, c5, rfl, _⟩ := htwo.1.val
              obtain ⟨a6, c6, rfl, _⟩ := htwo.2.1.val
              have hVr := HV1.out.keep hb1r
              have HVf : Hid (Blk (wr.setCells (w.heap.size + 1) 0 [.slice a' R.length c', .slice a5 (viewK l R).length c5, .slice a6 (viewW l R).length c6]) (w.heap.size + 1) [.slice a' R.length c', .slice a5 (viewK l R).length c5, .slice a6 (viewW l R).length c6]) := hVr.sets _ rfl
              have HTf : Hid (Two (wr.setCells (w.heap.size + 1) 0 [.slice a' R.length c', .slice a5 (viewK l R).length c5, .slice a6 (viewW l R).length c6]) W4.heap.size (.slice a5 (viewK l R).length c5) (.slice a6 (viewW l R).length c6) (viewK l R) (viewW l R)) := Two.others (w.heap.size + 1) (by omega) _ 0 _ htwo
              have HBf : Hid (Below w.heap.size w (wr.setCells (w.heap.size + 1) 0 [.slice a' R.length c', .slice a5 (viewK l R).length c5, .slice a6 (viewW l R).length c6])) := below_sets hbwr (w.heap.size + 1) (by omega) _ 0
              have x0 := hblk.at 0 rfl
              have x1 := hblk.at 1 rfl
              have x2 := hblk.at 2 rfl
              have y0 := hVr.at 0 rfl
              have y1 := hVr.at 1 rfl
              have y2 := hVr.at 2 rfl
              have yf := hVr.frz
              clear htwo hblk hVr hg hb1r hbwr
              go_wp2
              refine ret_cell_tmp Tryz.results78 rfl rfl (HVf.out.load Tryz.underlying26 rfl sizeView) ?_
              obtain ⟨e1, e2, e3⟩ := Orangery.of_ok HO.out
              unfold Views
              rw [e1, e2, e3, HO.out]
              exact ⟨a', a5, a6, c', c5, c6, rfl, ⟨HTf.out.1.reads.2.1, HTf.out.2.1.reads.2.1⟩, ⟨HTf.out.1.reads.2.2.mono (by omega), HTf.out.2.1.reads.2.2.mono (by omega), Or.inl rfl⟩, HI.out.below HBf.out, HTf.out.1.reads.1, HTf.out.2.1.reads.1, HBf.out⟩
    · have hr' : (rootsOk R != 0) = true := by simpa using hr
      have HO : Hid (ofE l R = rootsOk R) := by show _ = _; unfold ofE orI; rw [if_neg (by simp [HZ.out])]
      have HNZ : Hid (ofE l R ≠ 0) := by show _ ≠ _; rw [HO.out]; exact hr
      have HVf : Hid (Blk (w1.setCells (w.heap.size + 1) 0 [Value.slice none 0 0, Value.slice none 0 0, Value.slice none 0 0]) (w.heap.size + 1) [Value.slice none 0 0, Value.slice none 0 0, Value.slice none 0 0]) := hV1.sets _ rfl
      have y0 := hV1.at 0 rfl
      have y1 := hV1.at 1 rfl
      have y2 := hV1.at 2 rfl
      have yf := hV1.frz
      generalize rootsOk R = E at *
      clear hr hT1 hV1
      go_wp2
      refine ret_cell_tmp Tryz.results78 rfl rfl (HVf.out.load Tryz.underlying26 rfl sizeView) ?_
      obtain ⟨e1, e2, e3⟩ := Orangery.of_bad HNZ.out
      unfold Views
      rw [e1, e2, e3, HO.out]
      exact ⟨none, none, none, 0, 0, 0, rfl, ⟨fun _ => rfl, fun _ => rfl⟩, ⟨Fresh.none, Fresh.none, Or.inr Fresh.none⟩, Or.inl rfl, Or.inl rfl, Or.inl rfl, below_sets HB1.out (w.heap.size + 1) (by omega) [Value.slice none 0 0, Value.slice none 0 0, Value.slice none 0 0] 0⟩
  · have hz' : (check l != 0) = true := by simpa using hz
    have HO : Hid (ofE l R = check l) := by show _ = _; unfold ofE orI; rw [if_pos hz]
    have HNZ : Hid (ofE l R ≠ 0) := by show _ ≠ _; rw [HO.out]; exact hz
    have HVf : Hid (Blk (w1.setCells (w.heap.size + 1) 0 [Value.slice none 0 0, Value.slice none 0 0, Value.slice none 0 0]) (w.heap.size + 1) [Value.slice none 0 0, Value.slice none 0 0, Value.slice none 0 0]) := hV1.sets _ rfl
    have y0 := hV1.at 0 rfl
    have y1 := hV1.at 1 rfl
    have y2 := hV1.at 2 rfl
    have yf := hV1.frz
    generalize check l = E at *
    clear hz hT1 hV1
    go_wp2
    refine ret_cell_tmp Tryz.results78 rfl rfl (HVf.out.load Tryz.underlying26 rfl sizeView) ?_
    obtain ⟨e1, e2, e3⟩ := Orangery.of_bad HNZ.out
    unfold Views
    rw [e1, e2, e3, HO.out]
    exact ⟨none, none, none, 0, 0, 0, rfl, ⟨fun _ => rfl, fun _ => rfl⟩, ⟨Fresh.none, Fresh.none, Or.inr Fresh.none⟩, Or.inl rfl, Or.inl rfl, Or.inl rfl, below_sets HB1.out (w.heap.size + 1) (by omega) [Value.slice none 0 0, Value.slice none 0 0, Value.slice none 0 0] 0⟩
end Go.Proofs.YtijjiccgpobjmaeGreat

/- orangeryref.CheckView. -/
namespace Go.Proofs.YtijjiccgpobjmaeGreat
open Go.ChangeShapes Go.WideShapes Go.ChangeAt Go.RowKit
open Orangery (Pl check scan rootsOk togL sameV viewE ofE ofR ofK ofW)

set_option maxHeartbeats 4000000 in
set_option maxRecDepth 100000 in
theorem rcheckV_any (w : World) (aR aK aV : Option Addr) (cR cK cV : Nat) (R : List Int) (K V : List Pl) (hR : R.length ≤ maxLen) (hK : K.length ≤ maxLen) (hV : V.length ≤ maxLen) (hc1 : aK = none → cK = 0) (hc : aV = none → cV = 0)
    (h1 : SlI w aR R) (h2 : SlP w aK K) (h3 : SlP w aV V) :
    Calls Tryz.prog 42 #[viV (.slice aR R.length cR) (.slice aK K.length cK) (.slice aV V.length cV)] w
      fun e w' => e = .returned (.int .i64 (viewE R K V)) ∧ Below w.heap.size w w' := by
  obtain ⟨W0, hW, hX, hB, hS⟩ := laid1 w [Value.slice aR R.length cR, Value.slice aK K.length cK, Value.slice aV V.length cV] 26
  have x0 := hX.at 0 rfl
  have g1 := h1.below hB
  have g2 := h2.below hB
  have g3 := h3.below hB
  have HB : Hid (Below w.heap.size w W0) := hB
  clear h1 h2 h3 hB
  go_enter Tryz.func42, Tryz.ntmps42
  go_wp2_with fail
  clear hW
  refine (rroots_any W0 aR cR R hR g1).mono ?_
  rintro e W0 ⟨rfl, rfl⟩
  by_cases hr : rootsOk R = 0
  · have HR0 : Hid (rootsOk R = 0) := hr
    rw [hr]
    clear hr
    have x1 := hX.at 1 rfl
    clear x0
    go_wp2_with fail
    refine (checkTree_any W0 aK cK K hK g2).mono ?_
    rintro e w1 ⟨rfl, hb1⟩
    rw [← Orangery.check_eq K]
    have hX1 := hX.keep hb1
    have k1 := g1.below hb1
    have k2 := g2.below hb1
    have k3 := g3.below hb1
    have HB1 : Hid (Below w.heap.size w w1) := HB.out.trans (hb1.mono HB.out.size)
    clear hX g1 g2 g3 HB hb1 x1
    by_cases hz : check K = 0
    · have HZK : Hid (check K = 0) := hz
      rw [hz]
      clear hz
      have x2 := hX1.at 2 rfl
      go_wp2_with fail
      refine (checkTree_any w1 aV cV V hV k3).mono ?_
      rintro e w2 ⟨rfl, hb2⟩
      rw [← Orangery.check_eq V]
      have hXr := hX1.keep hb2
      have hIr := k1.below hb2
      have hKr := k2.below hb2
      have hVr := k3.below hb2
      have HBr : Hid (Below w.heap.size w w2) := HB1.out.trans (hb2.mono HB1.out.size)
      clear hX1 k1 k2 k3 HB1 hb2 x2
      by_cases hy : check V = 0
      · have HZV : Hid (check V = 0) := hy
        rw [hy]
        clear hy
        have HE : Hid (viewE R K V = if ofE (togL K V) R ≠ 0 then ofE (togL K V) R else if sameV R (ofR (togL K V) R) K (ofK (togL K V) R) V (ofW (togL K V) R) = true then 0 else 4) := viewE_eq HR0.out HZK.out HZV.out
        have CALL1 : Hid (∀ w', Below w2.heap.size w2 w' → Calls Tryz.prog 34 #[viV (.slice aR R.length cR) (.slice aK K.length cK) (.slice aV V.length cV)] w' fun e w'' => ∃ v, e = .returned (.agg #[v]) ∧ OwnS w'' w'.heap.size v (togL K V) ∧ Below w'.heap.size w' w'') :=
          fun w' hb' => rallof_any w' aK aV cK cV K V _ (Orangery.check_scan K HZK.out) (Orangery.check_scan V HZV.out) hc1 hc (hKr.below hb') (hVr.below hb')
        have CALL2 : Hid (∀ w' a c, Below w2.heap.size w2 w' → SlP w' a (togL K V) → Calls Tryz.prog 78 #[.agg #[.slice a (togL K V).length c], .slice aR R.length cR] w' (Views w' aR (ofR (togL K V) R) (ofK (togL K V) R) (ofW (togL K V) R) (ofE (togL K V) R))) :=
          fun w' a c hb' hp => rseen_any w' a aR c cR (togL K V) R (by have := tog_len HZK.out HZV.out; unfold maxLen; omega) hR hp (hIr.below hb')
        have HRR : Hid (ofR (togL K V) R = R ∨ ofR (togL K V) R = []) := ofR_or _ _
        have HI0 : Hid (SlI w2 aR R) := hIr
        generalize ofR (togL K V) R = R1 at *
        generalize ofK (togL K V) R = K1 at *
        generalize ofW (togL K V) R = V1 at *
        generalize ofE (togL K V) R = E at *
        generalize togL K V = T at *
        clear HR0 HZK HZV hc hc1
        go_upto_region 10 with fail
        go_cut [6, 7] from 28 to 44 (fun r e4 wc => ∃ bs bR bK bV dR dK dV, r = .pointer (some ⟨bs, 0, none⟩) ∧ e4 = .int .i64 E ∧ Blk wc bs [.slice bR R1.length dR, .slice bK K1.length dK, .slice bV V1.length dV] ∧ SlI wc bR R1 ∧ SlP wc bK K1 ∧ SlP wc bV V1 ∧ Below w2.heap.size w2 wc)
        case first =>
          refine wp_region_held_drew (S := fun w' => Below w2.heap.size w2 w') (by kernel_rfl) ((Below.refl _ w2).drew) (fun hHeld => ?_)
          refine take_load 0 29 26 w.heap.size [Value.slice aR R.length cR, Value.slice aK K.length cK, Value.slice aV V.length cV] rfl rfl (by kernel_rfl) (by kernel_rfl) (by kernel_rfl) (fun _ _ _ h => h) (by rfl) (by rfl) (by rfl) (fun w hw => (hXr.keep hw).range) Tryz.underlying26 rfl sizeView hHeld ?_
          simp only [Act.put, List.setIfInBounds_toArray, List.set_cons_succ, List.set_cons_zero]
          refine take_yes 2 31 (v := ?_) rfl rfl (by kernel_rfl) (by kernel_rfl) (by kernel_rfl) (fun _ _ _ h => h) (by rfl) ?_ hHeld ?_
          rotate_left 1
          · (intro w hSw; go_simp; try with_reducible rfl)
          simp only [Act.put, List.setIfInBounds_toArray, List.set_cons_succ, List.set_cons_zero]
          refine take_yes 3 32 (v := ?_) rfl rfl (by kernel_rfl) (by kernel_rfl) (by kernel_rfl) (fun _ _ _ h => h) (by rfl) ?_ hHeld ?_
          rotate_left 1
          · (intro w hSw; have cc := (hXr.keep hSw).at 0 rfl; go_simp; try with_reducible rfl)
          simp only [Act.put, List.setIfInBounds_toArray, List.set_cons_succ, List.set_cons_zero]
          refine wpAnyH_ready (rs := [1, 8]) (by kernel_rfl) (by simp) ?_
          refine AllReadyH.cons rfl (fun K hK => ?_) (AllReadyH.cons rfl (fun K hK => ?_) AllReadyH.nil)
          · skip
            go_simp
            refine (CALL1.out _ hHeld).mono ?_
            rintro e w6 ⟨v6, rfl, hO6, hb6⟩
            obtain ⟨a6, c6, rfl⟩ := hO6.val
            have hP6 : SlP w6 a6 T := hO6.read
            have hS6 : Below w2.heap.size w2 w6 := hHeld.trans (hb6.mono hHeld.size)
            go_wp2_with fail
            refine hK.out _ _ hS6 (fun hHeld => ?_)
            clear hK K
            refine wpAnyH_ready (rs := [4, 8]) (by kernel_rfl) (by simp) ?_
            refine AllReadyH.cons rfl (fun K hK => ?_) (AllReadyH.cons rfl (fun K hK => ?_) AllReadyH.nil)
            · skip
              go_simp
              refine (CALL2.out _ a6 c6 hHeld hP6).mono ?_
              rintro e w7 ⟨bR, bK, bV, dR, dK, dV, rfl, ⟨z1, z2⟩, ⟨f1, f2, f3⟩, hI7, hK7, hV7, hb7⟩
              have hS7 : Below w2.heap.size w2 w7 := hHeld.trans (hb7.mono hHeld.size)
              have hsz7 := hb7.size
              have hgt7 : w2.heap.size ≤ w7.heap.size := hS7.size
              go_wp2_with fail
              refine hK.out _ _ hS7 (fun hHeld => ?_)
              clear hK K
              refine take_yes 5 28 (v := ?_) rfl rfl (by kernel_rfl) (by kernel_rfl) (by kernel_rfl) (fun _ _ _ h => h) (by rfl) ?_ hHeld ?_
              rotate_left 1
              · (intro w hSw; go_simp; try with_reducible rfl)
              simp only [Act.put, List.setIfInBounds_toArray, List.set_cons_succ, List.set_cons_zero]
              refine take_yes 6 34 (v := ?_) rfl rfl (by kernel_rfl) (by kernel_rfl) (by kernel_rfl) (fun _ _ _ h => h) (by rfl) ?_ hHeld ?_
              rotate_left 1
              · (intro w hSw; go_simp; try with_reducible rfl)
              simp only [Act.put, List.setIfInBounds_toArray, List.set_cons_succ, List.set_cons_zero]
              refine take_yes 7 35 (v := ?_) rfl rfl (by kernel_rfl) (by kernel_rfl) (by kernel_rfl) (fun _ _ _ h => h) (by rfl) ?_ hHeld ?_
              rotate_left 1
              · (intro w hSw; go_simp; try with_reducible rfl)
              simp only [Act.put, List.setIfInBounds_toArray, List.set_cons_succ, List.set_cons_zero]
              refine wpAnyH_ready (rs := [8]) (by kernel_rfl) (by simp) ?_
              refine AllReadyH.cons rfl (fun K hK => ?_) AllReadyH.nil
              go_simp
              have hN := (Blk.new w7 [Value.slice none 0 0, Value.slice none 0 0, Value.slice none 0 0] 26)
              refine hK.out _ _ (hHeld.alloc hHeld.size _) (fun hHeld => ?_)
              clear hK K
              refine step_store 9 26 w7.heap.size [Value.slice bR R1.length dR, Value.slice bK K1.length dK, Value.slice bV V1.length dV] (by kernel_rfl) rfl rfl (by rfl) (by rfl) (by rfl) (by rfl) hN.there sizeView ?_ ?_ ?_
              · intro v hv; simp at hv; rcases hv with rfl | rfl | rfl <;> rfl
              · exact below_sets hHeld w7.heap.size (by omega) [Value.slice bR R1.length dR, Value.slice bK K1.length dK, Value.slice bV V1.length dV] 0
              have hHeld := below_sets hHeld w7.heap.size (by omega) [Value.slice bR R1.length dR, Value.slice bK K1.length dK, Value.slice bV V1.length dV] 0
              refine take_yes 10 7 (v := ?_) rfl rfl (by kernel_rfl) (by kernel_rfl) (by kernel_rfl) (fun _ _ _ h => h) (by rfl) ?_ hHeld ?_
              rotate_left 1
              · (intro w hSw; go_simp; try with_reducible rfl)
              simp only [Act.put, List.setIfInBounds_toArray, List.set_cons_succ, List.set_cons_zero]
              refine wpAnyH_done (by kernel_rfl) ?_ _
              have HHeld : Hid (Below w2.heap.size w2 ((w7.alloc (Obj.cells #[Value.slice none 0 0, Value.slice none 0 0, Value.slice none 0 0] 26)).setCells w7.heap.size 0 [Value.slice bR R1.length dR, Value.slice bK K1.length dK, Value.slice bV V1.length dV])) := hHeld
              clear hHeld
              go_wp2
              go_meet
              case rel =>
                have hbw := below_sets (Go.Joins.below_alloc1 w7 (Obj.cells #[Value.slice none 0 0, Value.slice none 0 0, Value.slice none 0 0] 26)) w7.heap.size (Nat.le_refl _) [Value.slice bR R1.length dR, Value.slice bK K1.length dK, Value.slice bV V1.length dV] 0
                exact ⟨_, bR, bK, bV, dR, dK, dV, rfl, rfl, hN.sets [Value.slice bR R1.length dR, Value.slice bK K1.length dK, Value.slice bV V1.length dV] rfl, hI7.below hbw, hK7.below hbw, hV7.below hbw, HHeld.out⟩
            · skip
              go_simp
              have hN := (Blk.new w6 [Value.slice none 0 0, Value.slice none 0 0, Value.slice none 0 0] 26)
              refine hK.out _ _ (hHeld.alloc hHeld.size _) (fun hHeld => ?_)
              clear hK K
              refine wpAnyH_ready (rs := [4]) (by kernel_rfl) (by simp) ?_
              refine AllReadyH.cons rfl (fun K hK => ?_) AllReadyH.nil
              go_simp
              refine (CALL2.out _ a6 c6 hHeld (hP6.below (Go.Joins.below_alloc1 w6 _))).mono ?_
              rintro e w7 ⟨bR, bK, bV, dR, dK, dV, rfl, ⟨z1, z2⟩, ⟨f1, f2, f3⟩, hI7, hK7, hV7, hb7⟩
              have hS7 : Below w2.heap.size w2 w7 := hHeld.trans (hb7.mono hHeld.size)
              have hN7 := hN.keep hb7
              have hsz7 := hb7.size
              have hgt7 : w2.heap.size ≤ w7.heap.size := hS7.size
              go_wp2_with fail
              refine hK.out _ _ hS7 (fun hHeld => ?_)
              clear hK K
              refine take_yes 5 28 (v := ?_) rfl rfl (by kernel_rfl) (by kernel_rfl) (by kernel_rfl) (fun _ _ _ h => h) (by rfl) ?_ hHeld ?_
              rotate_left 1
              · (intro w hSw; go_simp; try with_reducible rfl)
              simp only [Act.put, List.setIfInBounds_toArray, List.set_cons_succ, List.set_cons_zero]
              refine take_yes 6 34 (v := ?_) rfl rfl (by kernel_rfl) (by kernel_rfl) (by kernel_rfl) (fun _ _ _ h => h) (by rfl) ?_ hHeld ?_
              rotate_left 1
              · (intro w hSw; go_simp; try with_reducible rfl)
              simp only [Act.put, List.setIfInBounds_toArray, List.set_cons_succ, List.set_cons_zero]
              refine take_yes 7 35 (v := ?_) rfl rfl (by kernel_rfl) (by kernel_rfl) (by kernel_rfl) (fun _ _ _ h => h) (by rfl) ?_ hHeld ?_
              rotate_left 1
              · (intro w hSw; go_simp; try with_reducible rfl)
              simp only [Act.put, List.setIfInBounds_toArray, List.set_cons_succ, List.set_cons_zero]
              have hlt7 : w6.heap.size < w7.heap.size := hN7.lt
              have hgt6 : w2.heap.size ≤ w6.heap.size := hS6.size
              refine step_store 9 26 w6.heap.size [Value.slice bR R1.length dR, Value.slice bK K1.length dK, Value.slice bV V1.length dV] (by kernel_rfl) rfl rfl (by rfl) (by rfl) (by rfl) (by rfl) hN7.there sizeView ?_ ?_ ?_
              · intro v hv; simp at hv; rcases hv with rfl | rfl | rfl <;> rfl
              · exact below_sets hHeld w6.heap.size (by omega) [Value.slice bR R1.length dR, Value.slice bK K1.length dK, Value.slice bV V1.length dV] 0
              have hHeld := below_sets hHeld w6.heap.size (by omega) [Value.slice bR R1.length dR, Value.slice bK K1.length dK, Value.slice bV V1.length dV] 0
              refine take_yes 10 7 (v := ?_) rfl rfl (by kernel_rfl) (by kernel_rfl) (by kernel_rfl) (fun _ _ _ h => h) (by rfl) ?_ hHeld ?_
              rotate_left 1
              · (intro w hSw; go_simp; try with_reducible rfl)
              simp only [Act.put, List.setIfInBounds_toArray, List.set_cons_succ, List.set_cons_zero]
              refine wpAnyH_done (by kernel_rfl) ?_ _
              have HHeld : Hid (Below w2.heap.size w2 (w7.setCells w6.heap.size 0 [Value.slice bR R1.length dR, Value.slice bK K1.length dK, Value.slice bV V1.length dV])) := hHeld
              clear hHeld
              go_wp2
              go_meet
              case rel =>
                exact ⟨_, bR, bK, bV, dR, dK, dV, rfl, rfl, hN7.sets [Value.slice bR R1.length dR, Value.slice bK K1.length dK, Value.slice bV V1.length dV] rfl, SlI.apart HI0.out HRR.out hI7 f3 (by omega) (by first | omega | (simp; try omega)) _ _, SlP.apart hK7 f1 (by first | omega | (simp; try omega)) _ _, SlP.apart hV7 f2 (by first | omega | (simp; try omega)) _ _, HHeld.out⟩
          · skip
            go_simp
            have hN := (Blk.new w2 [Value.slice none 0 0, Value.slice none 0 0, Value.slice none 0 0] 26).drew
            refine hK.out _ _ (hHeld.alloc hHeld.size _) (fun hHeld => ?_)
            clear hK K
            refine wpAnyH_ready (rs := [1]) (by kernel_rfl) (by simp) ?_
            refine AllReadyH.cons rfl (fun K hK => ?_) AllReadyH.nil
            go_simp
            refine (CALL1.out _ hHeld).mono ?_
            rintro e w6 ⟨v6, rfl, hO6, hb6⟩
            obtain ⟨a6, c6, rfl⟩ := hO6.val
            have hP6 : SlP w6 a6 T := hO6.read
            have hS6 : Below w2.heap.size w2 w6 := hHeld.trans (hb6.mono hHeld.size)
            have hN6 := hN.keep hb6
            go_wp2_with fail
            refine hK.out _ _ hS6 (fun hHeld => ?_)
            clear hK K
            refine wpAnyH_ready (rs := [4]) (by kernel_rfl) (by simp) ?_
            refine AllReadyH.cons rfl (fun K hK => ?_) AllReadyH.nil
            go_simp
            refine (CALL2.out _ a6 c6 hHeld hP6).mono ?_
            rintro e w7 ⟨bR, bK, bV, dR, dK, dV, rfl, ⟨z1, z2⟩, ⟨f1, f2, f3⟩, hI7, hK7, hV7, hb7⟩
            have hS7 : Below w2.heap.size w2 w7 := hHeld.trans (hb7.mono hHeld.size)
            have hN7 := hN6.keep hb7
            have hsz7 := hb7.size
            have hgt7 : w2.heap.size ≤ w7.heap.size := hS7.size
            go_wp2_with fail
            refine hK.out _ _ hS7 (fun hHeld => ?_)
            clear hK K
            refine take_yes 5 28 (v := ?_) rfl rfl (by kernel_rfl) (by kernel_rfl) (by kernel_rfl) (fun _ _ _ h => h) (by rfl) ?_ hHeld ?_
            rotate_left 1
            · (intro w hSw; go_simp; try with_reducible rfl)
            simp only [Act.put, List.setIfInBounds_toArray, List.set_cons_succ, List.set_cons_zero]
            refine take_yes 6 34 (v := ?_) rfl rfl (by kernel_rfl) (by kernel_rfl) (by kernel_rfl) (fun _ _ _ h => h) (by rfl) ?_ hHeld ?_
            rotate_left 1
            · (intro w hSw; go_simp; try with_reducible rfl)
            simp only [Act.put, List.setIfInBounds_toArray, List.set_cons_succ, List.set_cons_zero]
            refine take_yes 7 35 (v := ?_) rfl rfl (by kernel_rfl) (by kernel_rfl) (by kernel_rfl) (fun _ _ _ h => h) (by rfl) ?_ hHeld ?_
            rotate_left 1
            · (intro w hSw; go_simp; try with_reducible rfl)
            simp only [Act.put, List.setIfInBounds_toArray, List.set_cons_succ, List.set_cons_zero]
            have hlt6 : w2.heap.size < w6.heap.size := hN6.lt
            refine step_store 9 26 w2.heap.size [Value.slice bR R1.length dR, Value.slice bK K1.length dK, Value.slice bV V1.length dV] (by kernel_rfl) rfl rfl (by rfl) (by rfl) (by rfl) (by rfl) hN7.there sizeView ?_ ?_ ?_
            · intro v hv; simp at hv; rcases hv with rfl | rfl | rfl <;> rfl
            · exact below_sets hHeld w2.heap.size (by omega) [Value.slice bR R1.length dR, Value.slice bK K1.length dK, Value.slice bV V1.length dV] 0
            have hHeld := below_sets hHeld w2.heap.size (by omega) [Value.slice bR R1.length dR, Value.slice bK K1.length dK, Value.slice bV V1.length dV] 0
            refine take_yes 10 7 (v := ?_) rfl rfl (by kernel_rfl) (by kernel_rfl) (by kernel_rfl) (fun _ _ _ h => h) (by rfl) ?_ hHeld ?_
            rotate_left 1
            · (intro w hSw; go_simp; try with_reducible rfl)
            simp only [Act.put, List.setIfInBounds_toArray, List.set_cons_succ, List.set_cons_zero]
            refine wpAnyH_done (by kernel_rfl) ?_ _
            have HHeld : Hid (Below w2.heap.size w2 (w7.setCells w2.heap.size 0 [Value.slice bR R1.length dR, Value.slice bK K1.length dK, Value.slice bV V1.length dV])) := hHeld
            clear hHeld
            go_wp2
            go_meet
            case rel =>
              exact ⟨_, bR, bK, bV, dR, dK, dV, rfl, rfl, hN7.sets [Value.slice bR R1.length dR, Value.slice bK K1.length dK, Value.slice bV V1.length dV] rfl, SlI.apart HI0.out HRR.out hI7 f3 (by omega) (by first | omega | (simp; try omega)) _ _, SlP.apart hK7 f1 (by first | omega | (simp; try omega)) _ _, SlP.apart hV7 f2 (by first | omega | (simp; try omega)) _ _, HHeld.out⟩
        case rest =>
          obtain ⟨bs, bR, bK, bV, dR, dK, dV, rfl, rfl, hblk, hIc, hKc, hVc, hbc⟩ := hcut
          have HBc : Hid (Below w.heap.size w wc) := HBr.out.trans (hbc.mono HBr.out.size)
          by_cases hz : E = 0
          · subst hz
            have hXc := hXr.keep hbc
            have x0 := hXc.at 0 rfl
            have x1 := hXc.at 1 rfl
            have x2 := hXc.at 2 rfl
            have y0 := hblk.at 0 rfl
            have y1 := hblk.at 1 rfl
            have y2 := hblk.at 2 rfl
            have m1 := hIr.below hbc
            have m2 := hKr.below hbc
            have m3 := hVr.below hbc
            clear hbc hblk hXr hXc hIr hKr hVr CALL1 CALL2 HI0 HRR HBr
            go_wp2_with fail
            refine (rsameV_any wc aR aK aV bR bK bV cR cK cV dR dK dV R R1 K K1 V V1 hR hK hV m1 m2 m3 hIc hKc hVc).mono ?_
            rintro e w5 ⟨rfl, hb5⟩
            have HB5 : Hid (Below w.heap.size w w5) := HBc.out.trans (hb5.mono HBc.out.size)
            clear hb5 m1 m2 m3 hIc hKc hVc x0 x1 x2 y0 y1 y2
            cases hq : sameV R R1 K K1 V V1
            · have HF : Hid (viewE R K V = 4) := by show _ = _; rw [HE.out, hq]; rfl
              go_wp2
              go_ret
              exact ⟨ret_int HF.out.symm, HB5.out⟩
            · have HF : Hid (viewE R K V = 0) := by show _ = _; rw [HE.out, hq]; rfl
              go_wp2
              go_ret
              exact ⟨ret_int HF.out.symm, HB5.out⟩
          · have hz' : (E == 0) = false := by simpa using hz
            have HF : Hid (viewE R K V = E) := by show _ = _; rw [HE.out, if_pos hz]
            clear hz
            go_wp2
            go_ret
            exact ⟨ret_int HF.out.symm, HBc.out⟩
      · have hy' : (check V != 0) = true := by simpa using hy
        have HE : Hid (viewE R K V = check V) := by show _ = _; unfold viewE; rw [if_neg (by simp [HR0.out]), if_neg (by simp [HZK.out]), if_pos hy]
        clear hy
        go_wp2
        go_ret
        exact ⟨ret_int HE.out.symm, HBr.out⟩
    · have hz' : (check K != 0) = true := by simpa using hz
      have HE : Hid (viewE R K V = check K) := by show _ = _; unfold viewE; rw [if_neg (by simp [HR0.out]), if_pos hz]
      clear hz
      go_wp2
      go_ret
      exact ⟨ret_int HE.out.symm, HB1.out⟩
  · have hr' : (rootsOk R != 0) = true := by simpa using hr
    have HE : Hid (viewE R K V = rootsOk R) := by show _ = _; unfold viewE; rw [if_pos hr]
    clear hr
    go_wp2
    go_ret
    exact ⟨ret_int HE.out.symm, HB.out⟩
end Go.Proofs.YtijjiccgpobjmaeGreat

