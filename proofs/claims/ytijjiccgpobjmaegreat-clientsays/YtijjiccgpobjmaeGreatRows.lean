/-
  No cell of these rows narrows 'for every input' (looked for: loops, veiled, ifaces, maps, wideKeys, modest, calm, conditions, laid).
  DERIVED. THE GIVEN ROWS OF THIS SEAT. 4 by the template 'for every input the law returns true; each argument reads behind the call as it read before'; 0 by the template 'total and deterministic' (their statements: YtijjiccgpobjmaeGreatTotals.lean).
  GIVEN WITH THE SEED: the statements are not yours to turn. If you find one false, say at which input.
  Laid BY PROGRAM, IN A SANDBOX (cutbox-rows.mjs): the forced cells as the released guide's own fill.sh prints them over the translation e77a04744faac72a… (all of the seat's roots in one cut). By AI agents, Wed Nov 11 2026. No macro, syntax, notation, axiom, sorry.
-/
import Derived.Test.YtijjiccgpobjmaeGreatChecked
import GoSem.Claim
import GoSem.ClaimJoined
import GoSem.ClaimMapViews
import Derived.JoinedTies
import Derived.KernelRfl
namespace Go.Proofs.YtijjiccgpobjmaeGreat
/- THE CELL 'sum', in the pinned program and in every row, IS THE sha256 OF THE DUMP (.gsa) THAT YtijjiccgpobjmaeGreatProg.lean LOADS. Nothing in Lean hashes anything: it is a label: what it is worth is what the hold of that sum in a sandbox is worth. -/
noncomputable def Tryz.pinned : Pinned := { name := "ytijjiccgpobjmaegreat", sum := "e77a04744faac72a9eaa477f73ea3e4ea1afd402527e1f540537c382308e4b03", checked := Tryz.checked }
namespace Rows
def none {H : Type} : Left H := { results := [], args := [] }

/-- 'orangerylaw.ClientSays': WHATEVER THE INPUT: true; the input reads as it did. -/
def clientSaysSpec : ChangeSpec := { name := "clientSays", fn := fun _ => fun
  | [d1, d2, d3, d4, d5, d6] => { results := [.lit (.bool true)], args := [d1, d2, d3, d4, d5, d6] }
  | _ => none }
def clientSaysRow : OpenClaim := { program := "ytijjiccgpobjmaegreat", sum := "e77a04744faac72a9eaa477f73ea3e4ea1afd402527e1f540537c382308e4b03", func := "orangery/orangerylaw.ClientSays", spec := "clientSays", unfollowed := true, recurses := true, apart := false }
def ClientSaysSaid : Prop := clientSaysRow.holds Tryz.pinned (OpenSpec.ofChange clientSaysSpec)

/-- ITS FALSE NEIGHBOUR: 'it returns false'. Refute it at one input. -/
def clientSaysWrong : ChangeSpec := { name := "clientSays", fn := fun _ => fun
  | [d1, d2, d3, d4, d5, d6] => { results := [.lit (.bool false)], args := [d1, d2, d3, d4, d5, d6] }
  | _ => none }
def ClientSaysWrongFalsely : Prop := clientSaysRow.holds Tryz.pinned (OpenSpec.ofChange clientSaysWrong)

/-- 'orangerylaw.ClientHears': WHATEVER THE INPUT: true; the input reads as it did. -/
def clientHearsSpec : ChangeSpec := { name := "clientHears", fn := fun _ => fun
  | [d1, d2, d3] => { results := [.lit (.bool true)], args := [d1, d2, d3] }
  | _ => none }
def clientHearsRow : OpenClaim := { program := "ytijjiccgpobjmaegreat", sum := "e77a04744faac72a9eaa477f73ea3e4ea1afd402527e1f540537c382308e4b03", func := "orangery/orangerylaw.ClientHears", spec := "clientHears", unfollowed := true, recurses := true, apart := false }
def ClientHearsSaid : Prop := clientHearsRow.holds Tryz.pinned (OpenSpec.ofChange clientHearsSpec)

/-- ITS FALSE NEIGHBOUR: 'it returns false'. Refute it at one input. -/
def clientHearsWrong : ChangeSpec := { name := "clientHears", fn := fun _ => fun
  | [d1, d2, d3] => { results := [.lit (.bool false)], args := [d1, d2, d3] }
  | _ => none }
def ClientHearsWrongFalsely : Prop := clientHearsRow.holds Tryz.pinned (OpenSpec.ofChange clientHearsWrong)

/-- 'orangerylaw.ClientKeeps': WHATEVER THE INPUT: true; the input reads as it did. -/
def clientKeepsSpec : ChangeSpec := { name := "clientKeeps", fn := fun _ => fun
  | [d1, d2, d3] => { results := [.lit (.bool true)], args := [d1, d2, d3] }
  | _ => none }
def clientKeepsRow : OpenClaim := { program := "ytijjiccgpobjmaegreat", sum := "e77a04744faac72a9eaa477f73ea3e4ea1afd402527e1f540537c382308e4b03", func := "orangery/orangerylaw.ClientKeeps", spec := "clientKeeps", unfollowed := true, recurses := true, apart := false }
def ClientKeepsSaid : Prop := clientKeepsRow.holds Tryz.pinned (OpenSpec.ofChange clientKeepsSpec)

/-- ITS FALSE NEIGHBOUR: 'it returns false'. Refute it at one input. -/
def clientKeepsWrong : ChangeSpec := { name := "clientKeeps", fn := fun _ => fun
  | [d1, d2, d3] => { results := [.lit (.bool false)], args := [d1, d2, d3] }
  | _ => none }
def ClientKeepsWrongFalsely : Prop := clientKeepsRow.holds Tryz.pinned (OpenSpec.ofChange clientKeepsWrong)

/-- 'orangerylaw.ClientShows': WHATEVER THE INPUT: true; the input reads as it did. -/
def clientShowsSpec : ChangeSpec := { name := "clientShows", fn := fun _ => fun
  | [d1, d2, d3, d4, d5] => { results := [.lit (.bool true)], args := [d1, d2, d3, d4, d5] }
  | _ => none }
def clientShowsRow : OpenClaim := { program := "ytijjiccgpobjmaegreat", sum := "e77a04744faac72a9eaa477f73ea3e4ea1afd402527e1f540537c382308e4b03", func := "orangery/orangerylaw.ClientShows", spec := "clientShows", unfollowed := true, recurses := true, apart := false }
def ClientShowsSaid : Prop := clientShowsRow.holds Tryz.pinned (OpenSpec.ofChange clientShowsSpec)

/-- ITS FALSE NEIGHBOUR: 'it returns false'. Refute it at one input. -/
def clientShowsWrong : ChangeSpec := { name := "clientShows", fn := fun _ => fun
  | [d1, d2, d3, d4, d5] => { results := [.lit (.bool false)], args := [d1, d2, d3, d4, d5] }
  | _ => none }
def ClientShowsWrongFalsely : Prop := clientShowsRow.holds Tryz.pinned (OpenSpec.ofChange clientShowsWrong)

/- THE SECOND FORM. 'bulk': how many values and letters a reading holds, each counted each time it is reached (what is shared counts as often as it is met; a slice's spare places count too). A statement '..UptoSaid' is the law's where the arguments, and the package variables that the reading takes, are together of bulk at most 1048576: NARROWER than '..Said'. Prove '..Said' where nothing that the law and all that it calls make is longer than what came in: it says more and counts as full. Else prove '..UptoSaid'. A law counts once. -/
mutual
def uptoBulk {H : Type} : DataW H → Nat
  | .lit (.string bytes) => bytes.length + 1
  | .lit _ => 1
  | .nil => 1
  | .ptr d => uptoBulk d + 1
  | .slice elems spare => uptoBulkAll elems + uptoBulkAll spare + 1
  | .agg parts => uptoBulkAll parts + 1
  | .iface _ d => uptoBulk d + 1
  | .map entries => uptoBulkEntries entries + 1
  | .held _ => 1
def uptoBulkAll {H : Type} : List (DataW H) → Nat
  | [] => 0
  | d :: r => uptoBulk d + uptoBulkAll r
def uptoBulkEntries {H : Type} : List (Lit × DataW H) → Nat
  | [] => 0
  | x :: r => uptoBulkEntry x + uptoBulkEntries r
def uptoBulkEntry {H : Type} : Lit × DataW H → Nat
  | (.string bytes, d) => bytes.length + uptoBulk d + 1
  | (_, d) => uptoBulk d + 1
 end
def uptoSmall : (H : Type) → List (DataW H) → Bool := fun _ ds => decide (uptoBulkAll ds ≤ 1048576)
def OpenSpec.upto (s : _root_.Go.ChangeSpec) : _root_.Go.OpenSpec := { _root_.Go.OpenSpec.ofChange s with cond := some uptoSmall }

/-- 'orangerylaw.ClientSays', WHERE WHAT IT READS IS OF BULK AT MOST 1048576: true; the input reads as it did. -/
def clientSaysUptoRow : OpenClaim := { program := "ytijjiccgpobjmaegreat", sum := "e77a04744faac72a9eaa477f73ea3e4ea1afd402527e1f540537c382308e4b03", func := "orangery/orangerylaw.ClientSays", spec := "clientSays", unfollowed := true, recurses := true, apart := false, narrowed := true }
def ClientSaysUptoSaid : Prop := clientSaysUptoRow.holds Tryz.pinned (OpenSpec.upto clientSaysSpec)

/-- 'orangerylaw.ClientHears', WHERE WHAT IT READS IS OF BULK AT MOST 1048576: true; the input reads as it did. -/
def clientHearsUptoRow : OpenClaim := { program := "ytijjiccgpobjmaegreat", sum := "e77a04744faac72a9eaa477f73ea3e4ea1afd402527e1f540537c382308e4b03", func := "orangery/orangerylaw.ClientHears", spec := "clientHears", unfollowed := true, recurses := true, apart := false, narrowed := true }
def ClientHearsUptoSaid : Prop := clientHearsUptoRow.holds Tryz.pinned (OpenSpec.upto clientHearsSpec)

/-- 'orangerylaw.ClientKeeps', WHERE WHAT IT READS IS OF BULK AT MOST 1048576: true; the input reads as it did. -/
def clientKeepsUptoRow : OpenClaim := { program := "ytijjiccgpobjmaegreat", sum := "e77a04744faac72a9eaa477f73ea3e4ea1afd402527e1f540537c382308e4b03", func := "orangery/orangerylaw.ClientKeeps", spec := "clientKeeps", unfollowed := true, recurses := true, apart := false, narrowed := true }
def ClientKeepsUptoSaid : Prop := clientKeepsUptoRow.holds Tryz.pinned (OpenSpec.upto clientKeepsSpec)

/-- 'orangerylaw.ClientShows', WHERE WHAT IT READS IS OF BULK AT MOST 1048576: true; the input reads as it did. -/
def clientShowsUptoRow : OpenClaim := { program := "ytijjiccgpobjmaegreat", sum := "e77a04744faac72a9eaa477f73ea3e4ea1afd402527e1f540537c382308e4b03", func := "orangery/orangerylaw.ClientShows", spec := "clientShows", unfollowed := true, recurses := true, apart := false, narrowed := true }
def ClientShowsUptoSaid : Prop := clientShowsUptoRow.holds Tryz.pinned (OpenSpec.upto clientShowsSpec)

end Rows
end Go.Proofs.YtijjiccgpobjmaeGreat
