/- orangeryref.chain: a node, its parent, and so on; orangeryref.IsUnder. -/
import Derived.Test.YtphameoibnimmaaRefA
import Derived.Test.YtphameoibnimmaaInts
namespace Go.Proofs.Ytphameoibnimmaa
open Go.ChangeShapes Go.WideShapes Go.ChangeAt Go.RowKit
open Orangery (Pl find isNodeB inRangeB meetsN scan ringAt check idxF chain chainN hasB outOk)

theorem infoInt : (Try.prog.info? 3).map (fun i => (i.zero, i.size, i.bytes)) = some (some (.int .i64 0), 1, 8) := by kernel_rfl

set_option maxHeartbeats 2000000 in
theorem chain_any (w : World) (a : Option Addr) (c : Nat) (l : List Pl) (n : Int) (hl : l.length ≤ maxLen) (h : SlP w a l)
    (hr : ∀ p ∈ l, 0 ≤ p.2.1 ∧ p.2.1 ≤ 16) (hn0 : 0 ≤ n) (hn1 : n ≤ 16) :
    Calls Try.prog 48 #[.slice a l.length c, .int .i64 n] w
      fun e w' => ∃ v, e = .returned v ∧ w'.ownsRow w.heap.size 3 1 v (chain l n).length ((chain l n).map (Value.int .i64)) ∧ outOk (chain l n) ∧ Below w.heap.size w w' := by
  obtain ⟨i0, hi, hz0, hz1, hz2⟩ := info_parts infoInt
  have HR : Hid (∀ p ∈ l, 0 ≤ p.2.1 ∧ p.2.1 ≤ 16) := hr
  clear hr
  go_enter Try.func48, Try.ntmps48
  go_wp2
  have hown : (w.alloc (Obj.cells #[Value.int IntKind.i64 n] 3)).ownsRow w.heap.size 3 1 (.slice (some ⟨w.heap.size, 0, none⟩) 1 1) 1 [.int .i64 n] :=
    ⟨rfl, Or.inr ⟨w.heap.size, 1, #[.int .i64 n], rfl, Nat.le_refl _, blk_new rfl, Nat.le_refl _, by unfold maxLen; omega, rfl, rfl⟩⟩
  have hB := Go.Joins.below_alloc1 w (Obj.cells #[Value.int IntKind.i64 n] 3)
  generalize hW : w.alloc (Obj.cells #[Value.int IntKind.i64 n] 3) = W0 at hB hown
  clear hW
  go_loopw [1, 5] (fun x v W => ∃ (m : Int) (out : List Int), x = .int .i64 m ∧ W.ownsRow w.heap.size 3 1 v out.length (out.map (Value.int .i64)) ∧ outOk out ∧ chainN l (18 - out.length) out m = chain l n ∧ Below w.heap.size w W) (fun _ v _ => 18 - lenOf v)
  case atStart => exact ⟨n, [n], rfl, hown, Orangery.outOk_one hn0 hn1, rfl, hB⟩
  case round =>
    obtain ⟨m, out, rfl, hown, hok, hch, hb⟩ := hrel
    have HOK : Hid (outOk out) := hok
    have hlen := Orangery.outOk_len hok
    have HCH : Hid (chainN l (18 - out.length) out m = chain l n) := hch
    have S1 := Orangery.chainN_stop l out m hok
    have S2 := Orangery.chainN_go l out m HR.out hok
    have hpos : 1 ≤ out.length := hok.2.2
    clear hok hch
    go_wp2_with fail
    refine (findIn_any wr a c l m hl (h.below hb)).mono ?_
    rintro e w1 ⟨rfl, hb1⟩
    generalize hq : find l m = q at *
    obtain ⟨q0, q1, q2⟩ := q
    have HQ : Hid (find l m = (q0, q1, q2)) := hq
    clear hq
    simp only at S1 S2
    have H1 : Hid (q0 = 0 ∨ q1 ∈ out → chainN l (18 - out.length) out m = out) := S1
    have H2 : Hid (q0 ≠ 0 → q1 ∉ out → outOk (out ++ [q1]) ∧ chainN l (18 - out.length) out m = chainN l (18 - (out ++ [q1]).length) (out ++ [q1]) q1) := S2
    clear S1 S2
    obtain ⟨_, hv⟩ := own_ints hown
    rcases hv with ⟨rfl, hv⟩ | ⟨g, cap, rfl, hgb, hgl, hints⟩
    · exact absurd hpos (by omega)
    have hown1 := own_below hown hb1
    have hints1 : IntsAt w1 g 0 out := fun i hi => by rw [hb1.cell hgl]; exact hints i hi
    have hgl1 : g < w1.heap.size := Nat.lt_of_lt_of_le hgl hb1.size
    have hb2 : Below w.heap.size w w1 := hb.trans (hb1.mono hb.size)
    clear hints hgl hown hb1 hb
    by_cases hz : q0 = 0
    · have hz' : (q0 == 0) = true := by simpa using hz
      have e := H1.out (Or.inl hz)
      have HE : Hid (chainN l (18 - out.length) out m = out) := e
      clear hz e
      go_wp2
      go_ret
      refine ⟨_, rfl, ?_, ?_, hb2.alloc hb2.size _⟩
      · rw [← HCH.out, HE.out]; exact hown1.alloc _
      · rw [← HCH.out, HE.out]; exact HOK.out
    · have hz' : (q0 == 0) = false := by simpa using hz
      have HZ : Hid (q0 ≠ 0) := hz
      clear hz
      go_wp2_with fail
      refine (contains_ints _ g 0 cap out.length q1 out rfl (by unfold maxLen; omega) ?_).mono ?_
      · intro i hi
        rw [(Go.Joins.below_alloc1 w1 _).cell hgl1]
        exact hints1 i hi
      rintro e w2 ⟨rfl, rfl⟩
      by_cases hm : q1 ∈ out
      · have e : hasB q1 out = true := by simp [hasB, hm]
        have e2 := H1.out (Or.inr hm)
        have HE : Hid (chainN l (18 - out.length) out m = out) := e2
        rw [e]
        clear hm e e2
        go_wp2
        go_ret
        refine ⟨_, rfl, ?_, ?_, hb2.alloc hb2.size _⟩
        · rw [← HCH.out, HE.out]; exact hown1.alloc _
        · rw [← HCH.out, HE.out]; exact HOK.out
      · have e : hasB q1 out = false := by simp [hasB, hm]
        have e2 := H2.out HZ.out hm
        have HE : Hid (outOk (out ++ [q1]) ∧ chainN l (18 - out.length) out m = chainN l (18 - (out ++ [q1]).length) (out ++ [q1]) q1) := e2
        rw [e]
        clear hm e e2
        have hown2 := (hown1.alloc (Obj.cells #[Value.int IntKind.i64 q0, Value.int IntKind.i64 q1, Value.int IntKind.i64 q2] 36)).alloc (Obj.cells #[Value.int IntKind.i64 q1] 3)
        have hb3 := (hb2.alloc hb2.size (Obj.cells #[Value.int IntKind.i64 q0, Value.int IntKind.i64 q1, Value.int IntKind.i64 q2] 36)).alloc (by simp; exact Nat.le_succ_of_le hb2.size) (Obj.cells #[Value.int IntKind.i64 q1] 3)
        go_wp2_with (at_builtin; refine wpList_append_own _ rfl _ _ 24 rfl w.heap.size 3 i0 (.int .i64 0) 1 8 Try.underlying24 hi hz0 hz1 hz2 rfl (by decide) _ _ _ rfl hown2 ⟨w1.heap.size + 1, 0, none⟩ 1 1 [.int .i64 q1] rfl rfl ?c1 ?c2 ?c3 ?c4 ?c5 ?_)
        case c1 =>
          intro j u hj
          match j, hj with
          | 0, hj => simp at hj; subst hj; simp [Addr.add]
        case c2 => intro u hu; simp at hu; subst hu; rfl
        case c3 => unfold maxLen; omega
        case c4 => omega
        case c5 => exact hb3.size
        · intro v' w4 hown' hgrow _
          have hb4 := hb3.trans (below_grown hown2 hb3.size hgrow)
          clear hgrow hown2
          go_wp2
          go_roundw
          case rel => exact ⟨q1, out ++ [q1], rfl, by simpa using hown', HE.out.1, by rw [← HCH.out, HE.out.2], hb4⟩
          case measure =>
            have : lenOf v' = out.length + 1 := by
              obtain ⟨_, hv'⟩ := own_ints (l := out ++ [q1]) (by simpa using hown')
              rcases hv' with ⟨_, hv'⟩ | ⟨g', cap', rfl, _⟩
              · exact absurd hv' (by omega)
              · rfl
            show 18 - lenOf v' < 18 - out.length
            rw [this]
            omega

set_option maxHeartbeats 400000 in
theorem isUnder_any (w : World) (a : Option Addr) (c : Nat) (l : List Pl) (n t : Int) (hl : l.length ≤ maxLen) (h : SlP w a l)
    (hr : ∀ p ∈ l, 0 ≤ p.2.1 ∧ p.2.1 ≤ 16) (hn0 : 0 ≤ n) (hn1 : n ≤ 16) :
    Calls Try.prog 18 #[.slice a l.length c, .int .i64 n, .int .i64 t] w
      fun e w' => e = .returned (.bool (hasB t (chain l n))) ∧ Below w.heap.size w w' := by
  have hc := chain_any w a c l n hl h hr hn0 hn1
  clear hr
  go_enter Try.func18, Try.ntmps18
  go_wp2_with fail
  refine hc.mono ?_
  rintro e w1 ⟨v, rfl, hown, hok, hb⟩
  have hlen := Orangery.outOk_len hok
  have hpos := hok.2.2
  obtain ⟨_, hv⟩ := own_ints hown
  rcases hv with ⟨rfl, hv⟩ | ⟨g, cap, rfl, hgb, hgl, hints⟩
  · exact absurd hpos (by omega)
  clear hown hok hc
  generalize hch : chain l n = ch at *
  have HC : Hid (chain l n = ch) := hch
  clear hch
  go_wp2_with fail
  refine (contains_ints _ g 0 cap ch.length t ch rfl (by unfold maxLen; omega) hints).mono ?_
  rintro e w2 ⟨rfl, rfl⟩
  go_wp2
  go_ret
  exact ⟨by rw [HC.out]; rfl, hb⟩
end Go.Proofs.Ytphameoibnimmaa
