/-
  No cell of these rows narrows 'for every input' (looked for: loops, veiled, ifaces, maps, wideKeys, modest, calm, conditions, laid).
  DERIVED. THE GIVEN ROWS OF THIS SEAT. 5 by the template 'for every input the law returns true; each argument reads behind the call as it read before'; 0 by the template 'total and deterministic' (their statements: YtljbchkmoekpmadGreatTotals.lean).
  GIVEN WITH THE SEED: the statements are not yours to turn. If you find one false, say at which input.
  Laid BY PROGRAM, IN A SANDBOX (cutbox-rows.mjs): the forced cells as the released guide's own fill.sh prints them over the translation 387ef0787db099c4… (all of the seat's roots in one cut). By AI agents, Wed Nov 11 2026. No macro, syntax, notation, axiom, sorry.
-/
import Derived.Test.YtljbchkmoekpmadGreatChecked
import GoSem.Claim
import GoSem.ClaimJoined
import GoSem.ClaimMapViews
import Derived.JoinedTies
import Derived.KernelRfl
namespace Go.Proofs.YtljbchkmoekpmadGreat
/- THE CELL 'sum', in the pinned program and in every row, IS THE sha256 OF THE DUMP (.gsa) THAT YtljbchkmoekpmadGreatProg.lean LOADS. Nothing in Lean hashes anything: it is a label: what it is worth is what the hold of that sum in a sandbox is worth. -/
noncomputable def Tryz.pinned : Pinned := { name := "ytljbchkmoekpmadgreat", sum := "387ef0787db099c42f2718c4ade4b6c3773f4094aafa0086f8dc0fb405001e4f", checked := Tryz.checked }
namespace Rows
def none {H : Type} : Left H := { results := [], args := [] }

/-- 'orangerylaw.HubSays': WHATEVER THE INPUT: true; the input reads as it did. -/
def hubSaysSpec : ChangeSpec := { name := "hubSays", fn := fun _ => fun
  | [d1, d2, d3, d4] => { results := [.lit (.bool true)], args := [d1, d2, d3, d4] }
  | _ => none }
def hubSaysRow : OpenClaim := { program := "ytljbchkmoekpmadgreat", sum := "387ef0787db099c42f2718c4ade4b6c3773f4094aafa0086f8dc0fb405001e4f", func := "orangery/orangerylaw.HubSays", spec := "hubSays", unfollowed := true, recurses := true, apart := false }
def HubSaysSaid : Prop := hubSaysRow.holds Tryz.pinned (OpenSpec.ofChange hubSaysSpec)

/-- ITS FALSE NEIGHBOUR: 'it returns false'. Refute it at one input. -/
def hubSaysWrong : ChangeSpec := { name := "hubSays", fn := fun _ => fun
  | [d1, d2, d3, d4] => { results := [.lit (.bool false)], args := [d1, d2, d3, d4] }
  | _ => none }
def HubSaysWrongFalsely : Prop := hubSaysRow.holds Tryz.pinned (OpenSpec.ofChange hubSaysWrong)

/-- 'orangerylaw.HubReplays': WHATEVER THE INPUT: true; the input reads as it did. -/
def hubReplaysSpec : ChangeSpec := { name := "hubReplays", fn := fun _ => fun
  | [d] => { results := [.lit (.bool true)], args := [d] }
  | _ => none }
def hubReplaysRow : OpenClaim := { program := "ytljbchkmoekpmadgreat", sum := "387ef0787db099c42f2718c4ade4b6c3773f4094aafa0086f8dc0fb405001e4f", func := "orangery/orangerylaw.HubReplays", spec := "hubReplays", unfollowed := true, recurses := true, apart := false }
def HubReplaysSaid : Prop := hubReplaysRow.holds Tryz.pinned (OpenSpec.ofChange hubReplaysSpec)

/-- ITS FALSE NEIGHBOUR: 'it returns false'. Refute it at one input. -/
def hubReplaysWrong : ChangeSpec := { name := "hubReplays", fn := fun _ => fun
  | [d] => { results := [.lit (.bool false)], args := [d] }
  | _ => none }
def HubReplaysWrongFalsely : Prop := hubReplaysRow.holds Tryz.pinned (OpenSpec.ofChange hubReplaysWrong)

/-- 'orangerylaw.HubInOrder': WHATEVER THE INPUT: true; the input reads as it did. -/
def hubInOrderSpec : ChangeSpec := { name := "hubInOrder", fn := fun _ => fun
  | [d] => { results := [.lit (.bool true)], args := [d] }
  | _ => none }
def hubInOrderRow : OpenClaim := { program := "ytljbchkmoekpmadgreat", sum := "387ef0787db099c42f2718c4ade4b6c3773f4094aafa0086f8dc0fb405001e4f", func := "orangery/orangerylaw.HubInOrder", spec := "hubInOrder", unfollowed := true, recurses := true, apart := false }
def HubInOrderSaid : Prop := hubInOrderRow.holds Tryz.pinned (OpenSpec.ofChange hubInOrderSpec)

/-- ITS FALSE NEIGHBOUR: 'it returns false'. Refute it at one input. -/
def hubInOrderWrong : ChangeSpec := { name := "hubInOrder", fn := fun _ => fun
  | [d] => { results := [.lit (.bool false)], args := [d] }
  | _ => none }
def HubInOrderWrongFalsely : Prop := hubInOrderRow.holds Tryz.pinned (OpenSpec.ofChange hubInOrderWrong)

/-- 'orangerylaw.HubSees': WHATEVER THE INPUT: true; the input reads as it did. -/
def hubSeesSpec : ChangeSpec := { name := "hubSees", fn := fun _ => fun
  | [d1, d2] => { results := [.lit (.bool true)], args := [d1, d2] }
  | _ => none }
def hubSeesRow : OpenClaim := { program := "ytljbchkmoekpmadgreat", sum := "387ef0787db099c42f2718c4ade4b6c3773f4094aafa0086f8dc0fb405001e4f", func := "orangery/orangerylaw.HubSees", spec := "hubSees", unfollowed := true, recurses := true, apart := false }
def HubSeesSaid : Prop := hubSeesRow.holds Tryz.pinned (OpenSpec.ofChange hubSeesSpec)

/-- ITS FALSE NEIGHBOUR: 'it returns false'. Refute it at one input. -/
def hubSeesWrong : ChangeSpec := { name := "hubSees", fn := fun _ => fun
  | [d1, d2] => { results := [.lit (.bool false)], args := [d1, d2] }
  | _ => none }
def HubSeesWrongFalsely : Prop := hubSeesRow.holds Tryz.pinned (OpenSpec.ofChange hubSeesWrong)

/-- 'orangerylaw.WaySays': WHATEVER THE INPUT: true; the input reads as it did. -/
def waySaysSpec : ChangeSpec := { name := "waySays", fn := fun _ => fun
  | [d1, d2, d3, d4, d5] => { results := [.lit (.bool true)], args := [d1, d2, d3, d4, d5] }
  | _ => none }
def waySaysRow : OpenClaim := { program := "ytljbchkmoekpmadgreat", sum := "387ef0787db099c42f2718c4ade4b6c3773f4094aafa0086f8dc0fb405001e4f", func := "orangery/orangerylaw.WaySays", spec := "waySays", unfollowed := true, recurses := true, apart := false }
def WaySaysSaid : Prop := waySaysRow.holds Tryz.pinned (OpenSpec.ofChange waySaysSpec)

/-- ITS FALSE NEIGHBOUR: 'it returns false'. Refute it at one input. -/
def waySaysWrong : ChangeSpec := { name := "waySays", fn := fun _ => fun
  | [d1, d2, d3, d4, d5] => { results := [.lit (.bool false)], args := [d1, d2, d3, d4, d5] }
  | _ => none }
def WaySaysWrongFalsely : Prop := waySaysRow.holds Tryz.pinned (OpenSpec.ofChange waySaysWrong)

/- THE SECOND FORM. 'bulk': how many values and letters a reading holds, each counted each time it is reached (what is shared counts as often as it is met; a slice's spare places count too). A statement '..UptoSaid' is the law's where the arguments, and the package variables that the reading takes, are together of bulk at most 1048576: NARROWER than '..Said'. Prove '..Said' where nothing that the law and all that it calls make is longer than what came in: it says more and counts as full. Else prove '..UptoSaid'. A law counts once. -/
mutual
def uptoBulk {H : Type} : DataW H → Nat
  | .lit (.string bytes) => bytes.length + 1
  | .lit _ => 1
  | .nil => 1
  | .ptr d => uptoBulk d + 1
  | .slice elems spare => uptoBulkAll elems + uptoBulkAll spare + 1
  | .agg parts => uptoBulkAll parts + 1
  | .iface _ d => uptoBulk d + 1
  | .map entries => uptoBulkEntries entries + 1
  | .held _ => 1
def uptoBulkAll {H : Type} : List (DataW H) → Nat
  | [] => 0
  | d :: r => uptoBulk d + uptoBulkAll r
def uptoBulkEntries {H : Type} : List (Lit × DataW H) → Nat
  | [] => 0
  | x :: r => uptoBulkEntry x + uptoBulkEntries r
def uptoBulkEntry {H : Type} : Lit × DataW H → Nat
  | (.string bytes, d) => bytes.length + uptoBulk d + 1
  | (_, d) => uptoBulk d + 1
 end
def uptoSmall : (H : Type) → List (DataW H) → Bool := fun _ ds => decide (uptoBulkAll ds ≤ 1048576)
def OpenSpec.upto (s : _root_.Go.ChangeSpec) : _root_.Go.OpenSpec := { _root_.Go.OpenSpec.ofChange s with cond := some uptoSmall }

/-- 'orangerylaw.HubSays', WHERE WHAT IT READS IS OF BULK AT MOST 1048576: true; the input reads as it did. -/
def hubSaysUptoRow : OpenClaim := { program := "ytljbchkmoekpmadgreat", sum := "387ef0787db099c42f2718c4ade4b6c3773f4094aafa0086f8dc0fb405001e4f", func := "orangery/orangerylaw.HubSays", spec := "hubSays", unfollowed := true, recurses := true, apart := false, narrowed := true }
def HubSaysUptoSaid : Prop := hubSaysUptoRow.holds Tryz.pinned (OpenSpec.upto hubSaysSpec)

/-- 'orangerylaw.HubReplays', WHERE WHAT IT READS IS OF BULK AT MOST 1048576: true; the input reads as it did. -/
def hubReplaysUptoRow : OpenClaim := { program := "ytljbchkmoekpmadgreat", sum := "387ef0787db099c42f2718c4ade4b6c3773f4094aafa0086f8dc0fb405001e4f", func := "orangery/orangerylaw.HubReplays", spec := "hubReplays", unfollowed := true, recurses := true, apart := false, narrowed := true }
def HubReplaysUptoSaid : Prop := hubReplaysUptoRow.holds Tryz.pinned (OpenSpec.upto hubReplaysSpec)

/-- 'orangerylaw.HubInOrder', WHERE WHAT IT READS IS OF BULK AT MOST 1048576: true; the input reads as it did. -/
def hubInOrderUptoRow : OpenClaim := { program := "ytljbchkmoekpmadgreat", sum := "387ef0787db099c42f2718c4ade4b6c3773f4094aafa0086f8dc0fb405001e4f", func := "orangery/orangerylaw.HubInOrder", spec := "hubInOrder", unfollowed := true, recurses := true, apart := false, narrowed := true }
def HubInOrderUptoSaid : Prop := hubInOrderUptoRow.holds Tryz.pinned (OpenSpec.upto hubInOrderSpec)

/-- 'orangerylaw.HubSees', WHERE WHAT IT READS IS OF BULK AT MOST 1048576: true; the input reads as it did. -/
def hubSeesUptoRow : OpenClaim := { program := "ytljbchkmoekpmadgreat", sum := "387ef0787db099c42f2718c4ade4b6c3773f4094aafa0086f8dc0fb405001e4f", func := "orangery/orangerylaw.HubSees", spec := "hubSees", unfollowed := true, recurses := true, apart := false, narrowed := true }
def HubSeesUptoSaid : Prop := hubSeesUptoRow.holds Tryz.pinned (OpenSpec.upto hubSeesSpec)

/-- 'orangerylaw.WaySays', WHERE WHAT IT READS IS OF BULK AT MOST 1048576: true; the input reads as it did. -/
def waySaysUptoRow : OpenClaim := { program := "ytljbchkmoekpmadgreat", sum := "387ef0787db099c42f2718c4ade4b6c3773f4094aafa0086f8dc0fb405001e4f", func := "orangery/orangerylaw.WaySays", spec := "waySays", unfollowed := true, recurses := true, apart := false, narrowed := true }
def WaySaysUptoSaid : Prop := waySaysUptoRow.holds Tryz.pinned (OpenSpec.upto waySaysSpec)

end Rows
end Go.Proofs.YtljbchkmoekpmadGreat
