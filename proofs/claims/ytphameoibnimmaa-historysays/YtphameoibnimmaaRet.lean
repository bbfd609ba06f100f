/- Results that lie in cells: how a call hands them back. -/
import Derived.Test.YtphameoibnimmaaBlk
namespace Go.Proofs.Ytphameoibnimmaa
open Go.ChangeShapes Go.WideShapes Go.ChangeAt Go.RowKit

theorem Blk.range {w : World} {b : Nat} {vs : List Value} (h : Blk w b vs) : w.rangeAt b 0 vs := fun j v hv => by rw [Nat.zero_add]; exact h.at j hv
theorem Blk.there {w : World} {b : Nat} {vs : List Value} (h : Blk w b vs) : w.there b 0 vs.length := fun j hj =>
  ⟨by rw [Nat.zero_add, h.at j (List.getElem?_eq_getElem hj)]; rfl, by rw [Nat.zero_add]; exact h.frz j⟩

theorem Blk.load {w : World} {b : Nat} {vs : List Value} {ty : TypeId} {d : TypeDesc} (h : Blk w b vs) (hu : Try.prog.underlying ty = some d) (hd : d.isRow = true)
    (hi : (Try.prog.info? ty).map (·.size) = some vs.length) : (loadVar ty ⟨b, 0, none⟩).run Try.prog w = .ok (.agg vs.toArray) w :=
  run_loadVar_mid w b 0 ty vs d h.range hu hd hi

theorem ret_cell {fn : Func} {R : Ending → World → Prop} {tmps : Array Value} {W : World} {p : Tmp} {ty : TypeId} {b : Nat} {vs : List Value}
    (h : fn.results = #[.cell p ty]) (hp : tmps.getD p undef = .pointer (some ⟨b, 0, none⟩)) (hl : (loadVar ty ⟨b, 0, none⟩).run Try.prog W = .ok (.agg vs.toArray) W)
    (hR : R (.returned (.agg vs.toArray)) W) : bodyPost Try.prog fn R .ret { tmps := tmps, defers := [] } W := by
  refine bodyPost_ret ?_ rfl hR
  have hp' : tmps[p]?.getD undef = .pointer (some ⟨b, 0, none⟩) := by simpa using hp
  simp [results, h, hp', asAddr, hl]

theorem ret_cell_tmp {fn : Func} {R : Ending → World → Prop} {tmps : Array Value} {W : World} {p u : Tmp} {ty : TypeId} {b : Nat} {vs : List Value} {v : Value}
    (h : fn.results = #[.cell p ty, .tmp u]) (hp : tmps.getD p undef = .pointer (some ⟨b, 0, none⟩)) (hv : tmps.getD u undef = v) (hl : (loadVar ty ⟨b, 0, none⟩).run Try.prog W = .ok (.agg vs.toArray) W)
    (hR : R (.returned (.tuple #[.agg vs.toArray, v])) W) : bodyPost Try.prog fn R .ret { tmps := tmps, defers := [] } W := by
  refine bodyPost_ret ?_ rfl hR
  have hp' : tmps[p]?.getD undef = .pointer (some ⟨b, 0, none⟩) := by simpa using hp
  have hv' : tmps[u]?.getD undef = v := by simpa using hv
  simp [results, h, hp', hv', asAddr, hl]

theorem ret_tmp_cell {fn : Func} {R : Ending → World → Prop} {tmps : Array Value} {W : World} {p u : Tmp} {ty : TypeId} {b : Nat} {vs : List Value} {v : Value}
    (h : fn.results = #[.tmp u, .cell p ty]) (hp : tmps.getD p undef = .pointer (some ⟨b, 0, none⟩)) (hv : tmps.getD u undef = v) (hl : (loadVar ty ⟨b, 0, none⟩).run Try.prog W = .ok (.agg vs.toArray) W)
    (hR : R (.returned (.tuple #[v, .agg vs.toArray])) W) : bodyPost Try.prog fn R .ret { tmps := tmps, defers := [] } W := by
  refine bodyPost_ret ?_ rfl hR
  have hp' : tmps[p]?.getD undef = .pointer (some ⟨b, 0, none⟩) := by simpa using hp
  have hv' : tmps[u]?.getD undef = v := by simpa using hv
  simp [results, h, hp', hv', asAddr, hl]

theorem ret_cell_cell_tmp {fn : Func} {R : Ending → World → Prop} {tmps : Array Value} {W : World} {p q u : Tmp} {ty tz : TypeId} {b b' : Nat} {vs us : List Value} {v : Value}
    (h : fn.results = #[.cell p ty, .cell q tz, .tmp u]) (hp : tmps.getD p undef = .pointer (some ⟨b, 0, none⟩)) (hq : tmps.getD q undef = .pointer (some ⟨b', 0, none⟩)) (hv : tmps.getD u undef = v)
    (hl : (loadVar ty ⟨b, 0, none⟩).run Try.prog W = .ok (.agg vs.toArray) W) (hm : (loadVar tz ⟨b', 0, none⟩).run Try.prog W = .ok (.agg us.toArray) W)
    (hR : R (.returned (.tuple #[.agg vs.toArray, .agg us.toArray, v])) W) : bodyPost Try.prog fn R .ret { tmps := tmps, defers := [] } W := by
  refine bodyPost_ret ?_ rfl hR
  have hp' : tmps[p]?.getD undef = .pointer (some ⟨b, 0, none⟩) := by simpa using hp
  have hq' : tmps[q]?.getD undef = .pointer (some ⟨b', 0, none⟩) := by simpa using hq
  have hv' : tmps[u]?.getD undef = v := by simpa using hv
  simp [results, h, hp', hq', hv', asAddr, hl, hm]

theorem sizeTree : (Try.prog.info? 29).map (·.size) = some 1 := by kernel_rfl
theorem sizeStep : (Try.prog.info? 51).map (·.size) = some 11 := by kernel_rfl
theorem sizeOp : (Try.prog.info? 49).map (·.size) = some 7 := by kernel_rfl
theorem Blk.tree {w : World} {b : Nat} {v : Value} (h : Blk w b [v]) : (loadVar 29 ⟨b, 0, none⟩).run Try.prog w = .ok (.agg [v].toArray) w := h.load Try.underlying29 rfl sizeTree
end Go.Proofs.Ytphameoibnimmaa
