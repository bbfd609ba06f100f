/-
  No cell of these rows narrows 'for every input' (looked for: loops, veiled, ifaces, maps, wideKeys, modest, calm, conditions, laid).
  DERIVED. THE GIVEN ROWS OF THIS SEAT. 6 by the template 'for every input the law returns true; each argument reads behind the call as it read before'; 0 by the template 'total and deterministic' (their statements: YtphameoibnimmaaTotals.lean).
  GIVEN WITH THE SEED: the statements are not yours to turn. If you find one false, say at which input.
  Laid BY PROGRAM, IN A SANDBOX (cutbox-rows.mjs): the forced cells as the released guide's own fill.sh prints them over the translation 664e186735e561dc… (all of the seat's roots in one cut). By AI agents, Wed Nov 11 2026. No macro, syntax, notation, axiom, sorry.
-/
import Derived.Test.YtphameoibnimmaaChecked
import GoSem.Claim
import GoSem.ClaimJoined
import GoSem.ClaimMapViews
import Derived.JoinedTies
import Derived.KernelRfl
namespace Go.Proofs.Ytphameoibnimmaa
/- THE CELL 'sum', in the pinned program and in every row, IS THE sha256 OF THE DUMP (.gsa) THAT YtphameoibnimmaaProg.lean LOADS. Nothing in Lean hashes anything: it is a label: what it is worth is what the hold of that sum in a sandbox is worth. -/
noncomputable def Try.pinned : Pinned := { name := "ytphameoibnimmaa", sum := "664e186735e561dc0da7ac047eaaad7d648fdf04e6d15ae92226cae8b13b2ee7", checked := Try.checked }
namespace Rows
def none {H : Type} : Left H := { results := [], args := [] }

/-- 'orangerylaw.Names': WHATEVER THE INPUT: true; the input reads as it did. -/
def namesSpec : ChangeSpec := { name := "names", fn := fun _ => fun
  | [] => { results := [.lit (.bool true)], args := [] }
  | _ => none }
def namesRow : OpenClaim := { program := "ytphameoibnimmaa", sum := "664e186735e561dc0da7ac047eaaad7d648fdf04e6d15ae92226cae8b13b2ee7", func := "orangery/orangerylaw.Names", spec := "names", apart := false }
def NamesSaid : Prop := namesRow.holds Try.pinned (OpenSpec.ofChange namesSpec)

/-- ITS FALSE NEIGHBOUR: 'it returns false'. Refute it at one input. -/
def namesWrong : ChangeSpec := { name := "names", fn := fun _ => fun
  | [] => { results := [.lit (.bool false)], args := [] }
  | _ => none }
def NamesWrongFalsely : Prop := namesRow.holds Try.pinned (OpenSpec.ofChange namesWrong)

/-- 'orangerylaw.TreeSays': WHATEVER THE INPUT: true; the input reads as it did. -/
def treeSaysSpec : ChangeSpec := { name := "treeSays", fn := fun _ => fun
  | [d1, d2, d3] => { results := [.lit (.bool true)], args := [d1, d2, d3] }
  | _ => none }
def treeSaysRow : OpenClaim := { program := "ytphameoibnimmaa", sum := "664e186735e561dc0da7ac047eaaad7d648fdf04e6d15ae92226cae8b13b2ee7", func := "orangery/orangerylaw.TreeSays", spec := "treeSays", unfollowed := true, recurses := true, apart := false }
def TreeSaysSaid : Prop := treeSaysRow.holds Try.pinned (OpenSpec.ofChange treeSaysSpec)

/-- ITS FALSE NEIGHBOUR: 'it returns false'. Refute it at one input. -/
def treeSaysWrong : ChangeSpec := { name := "treeSays", fn := fun _ => fun
  | [d1, d2, d3] => { results := [.lit (.bool false)], args := [d1, d2, d3] }
  | _ => none }
def TreeSaysWrongFalsely : Prop := treeSaysRow.holds Try.pinned (OpenSpec.ofChange treeSaysWrong)

/-- 'orangerylaw.TreeOrder': WHATEVER THE INPUT: true; the input reads as it did. -/
def treeOrderSpec : ChangeSpec := { name := "treeOrder", fn := fun _ => fun
  | [d1, d2, d3, d4] => { results := [.lit (.bool true)], args := [d1, d2, d3, d4] }
  | _ => none }
def treeOrderRow : OpenClaim := { program := "ytphameoibnimmaa", sum := "664e186735e561dc0da7ac047eaaad7d648fdf04e6d15ae92226cae8b13b2ee7", func := "orangery/orangerylaw.TreeOrder", spec := "treeOrder", unfollowed := true, recurses := true, apart := false }
def TreeOrderSaid : Prop := treeOrderRow.holds Try.pinned (OpenSpec.ofChange treeOrderSpec)

/-- ITS FALSE NEIGHBOUR: 'it returns false'. Refute it at one input. -/
def treeOrderWrong : ChangeSpec := { name := "treeOrder", fn := fun _ => fun
  | [d1, d2, d3, d4] => { results := [.lit (.bool false)], args := [d1, d2, d3, d4] }
  | _ => none }
def TreeOrderWrongFalsely : Prop := treeOrderRow.holds Try.pinned (OpenSpec.ofChange treeOrderWrong)

/-- 'orangerylaw.MoveSays': WHATEVER THE INPUT: true; the input reads as it did. -/
def moveSaysSpec : ChangeSpec := { name := "moveSays", fn := fun _ => fun
  | [d1, d2, d3] => { results := [.lit (.bool true)], args := [d1, d2, d3] }
  | _ => none }
def moveSaysRow : OpenClaim := { program := "ytphameoibnimmaa", sum := "664e186735e561dc0da7ac047eaaad7d648fdf04e6d15ae92226cae8b13b2ee7", func := "orangery/orangerylaw.MoveSays", spec := "moveSays", unfollowed := true, recurses := true, apart := false }
def MoveSaysSaid : Prop := moveSaysRow.holds Try.pinned (OpenSpec.ofChange moveSaysSpec)

/-- ITS FALSE NEIGHBOUR: 'it returns false'. Refute it at one input. -/
def moveSaysWrong : ChangeSpec := { name := "moveSays", fn := fun _ => fun
  | [d1, d2, d3] => { results := [.lit (.bool false)], args := [d1, d2, d3] }
  | _ => none }
def MoveSaysWrongFalsely : Prop := moveSaysRow.holds Try.pinned (OpenSpec.ofChange moveSaysWrong)

/-- 'orangerylaw.MoveUndone': WHATEVER THE INPUT: true; the input reads as it did. -/
def moveUndoneSpec : ChangeSpec := { name := "moveUndone", fn := fun _ => fun
  | [d1, d2] => { results := [.lit (.bool true)], args := [d1, d2] }
  | _ => none }
def moveUndoneRow : OpenClaim := { program := "ytphameoibnimmaa", sum := "664e186735e561dc0da7ac047eaaad7d648fdf04e6d15ae92226cae8b13b2ee7", func := "orangery/orangerylaw.MoveUndone", spec := "moveUndone", unfollowed := true, recurses := true, apart := false }
def MoveUndoneSaid : Prop := moveUndoneRow.holds Try.pinned (OpenSpec.ofChange moveUndoneSpec)

/-- ITS FALSE NEIGHBOUR: 'it returns false'. Refute it at one input. -/
def moveUndoneWrong : ChangeSpec := { name := "moveUndone", fn := fun _ => fun
  | [d1, d2] => { results := [.lit (.bool false)], args := [d1, d2] }
  | _ => none }
def MoveUndoneWrongFalsely : Prop := moveUndoneRow.holds Try.pinned (OpenSpec.ofChange moveUndoneWrong)

/-- 'orangerylaw.HistorySays': WHATEVER THE INPUT: true; the input reads as it did. -/
def historySaysSpec : ChangeSpec := { name := "historySays", fn := fun _ => fun
  | [d1, d2, d3, d4] => { results := [.lit (.bool true)], args := [d1, d2, d3, d4] }
  | _ => none }
def historySaysRow : OpenClaim := { program := "ytphameoibnimmaa", sum := "664e186735e561dc0da7ac047eaaad7d648fdf04e6d15ae92226cae8b13b2ee7", func := "orangery/orangerylaw.HistorySays", spec := "historySays", unfollowed := true, recurses := true, apart := false }
def HistorySaysSaid : Prop := historySaysRow.holds Try.pinned (OpenSpec.ofChange historySaysSpec)

/-- ITS FALSE NEIGHBOUR: 'it returns false'. Refute it at one input. -/
def historySaysWrong : ChangeSpec := { name := "historySays", fn := fun _ => fun
  | [d1, d2, d3, d4] => { results := [.lit (.bool false)], args := [d1, d2, d3, d4] }
  | _ => none }
def HistorySaysWrongFalsely : Prop := historySaysRow.holds Try.pinned (OpenSpec.ofChange historySaysWrong)

/- THE SECOND FORM. 'bulk': how many values and letters a reading holds, each counted each time it is reached (what is shared counts as often as it is met; a slice's spare places count too). A statement '..UptoSaid' is the law's where the arguments, and the package variables that the reading takes, are together of bulk at most 1048576: NARROWER than '..Said'. Prove '..Said' where nothing that the law and all that it calls make is longer than what came in: it says more and counts as full. Else prove '..UptoSaid'. A law counts once. -/
mutual
def uptoBulk {H : Type} : DataW H → Nat
  | .lit (.string bytes) => bytes.length + 1
  | .lit _ => 1
  | .nil => 1
  | .ptr d => uptoBulk d + 1
  | .slice elems spare => uptoBulkAll elems + uptoBulkAll spare + 1
  | .agg parts => uptoBulkAll parts + 1
  | .iface _ d => uptoBulk d + 1
  | .map entries => uptoBulkEntries entries + 1
  | .held _ => 1
def uptoBulkAll {H : Type} : List (DataW H) → Nat
  | [] => 0
  | d :: r => uptoBulk d + uptoBulkAll r
def uptoBulkEntries {H : Type} : List (Lit × DataW H) → Nat
  | [] => 0
  | x :: r => uptoBulkEntry x + uptoBulkEntries r
def uptoBulkEntry {H : Type} : Lit × DataW H → Nat
  | (.string bytes, d) => bytes.length + uptoBulk d + 1
  | (_, d) => uptoBulk d + 1
 end
def uptoSmall : (H : Type) → List (DataW H) → Bool := fun _ ds => decide (uptoBulkAll ds ≤ 1048576)
def OpenSpec.upto (s : _root_.Go.ChangeSpec) : _root_.Go.OpenSpec := { _root_.Go.OpenSpec.ofChange s with cond := some uptoSmall }

/-- 'orangerylaw.Names', WHERE WHAT IT READS IS OF BULK AT MOST 1048576: true; the input reads as it did. -/
def namesUptoRow : OpenClaim := { program := "ytphameoibnimmaa", sum := "664e186735e561dc0da7ac047eaaad7d648fdf04e6d15ae92226cae8b13b2ee7", func := "orangery/orangerylaw.Names", spec := "names", apart := false, narrowed := true }
def NamesUptoSaid : Prop := namesUptoRow.holds Try.pinned (OpenSpec.upto namesSpec)

/-- 'orangerylaw.TreeSays', WHERE WHAT IT READS IS OF BULK AT MOST 1048576: true; the input reads as it did. -/
def treeSaysUptoRow : OpenClaim := { program := "ytphameoibnimmaa", sum := "664e186735e561dc0da7ac047eaaad7d648fdf04e6d15ae92226cae8b13b2ee7", func := "orangery/orangerylaw.TreeSays", spec := "treeSays", unfollowed := true, recurses := true, apart := false, narrowed := true }
def TreeSaysUptoSaid : Prop := treeSaysUptoRow.holds Try.pinned (OpenSpec.upto treeSaysSpec)

/-- 'orangerylaw.TreeOrder', WHERE WHAT IT READS IS OF BULK AT MOST 1048576: true; the input reads as it did. -/
def treeOrderUptoRow : OpenClaim := { program := "ytphameoibnimmaa", sum := "664e186735e561dc0da7ac047eaaad7d648fdf04e6d15ae92226cae8b13b2ee7", func := "orangery/orangerylaw.TreeOrder", spec := "treeOrder", unfollowed := true, recurses := true, apart := false, narrowed := true }
def TreeOrderUptoSaid : Prop := treeOrderUptoRow.holds Try.pinned (OpenSpec.upto treeOrderSpec)

/-- 'orangerylaw.MoveSays', WHERE WHAT IT READS IS OF BULK AT MOST 1048576: true; the input reads as it did. -/
def moveSaysUptoRow : OpenClaim := { program := "ytphameoibnimmaa", sum := "664e186735e561dc0da7ac047eaaad7d648fdf04e6d15ae92226cae8b13b2ee7", func := "orangery/orangerylaw.MoveSays", spec := "moveSays", unfollowed := true, recurses := true, apart := false, narrowed := true }
def MoveSaysUptoSaid : Prop := moveSaysUptoRow.holds Try.pinned (OpenSpec.upto moveSaysSpec)

/-- 'orangerylaw.MoveUndone', WHERE WHAT IT READS IS OF BULK AT MOST 1048576: true; the input reads as it did. -/
def moveUndoneUptoRow : OpenClaim := { program := "ytphameoibnimmaa", sum := "664e186735e561dc0da7ac047eaaad7d648fdf04e6d15ae92226cae8b13b2ee7", func := "orangery/orangerylaw.MoveUndone", spec := "moveUndone", unfollowed := true, recurses := true, apart := false, narrowed := true }
def MoveUndoneUptoSaid : Prop := moveUndoneUptoRow.holds Try.pinned (OpenSpec.upto moveUndoneSpec)

/-- 'orangerylaw.HistorySays', WHERE WHAT IT READS IS OF BULK AT MOST 1048576: true; the input reads as it did. -/
def historySaysUptoRow : OpenClaim := { program := "ytphameoibnimmaa", sum := "664e186735e561dc0da7ac047eaaad7d648fdf04e6d15ae92226cae8b13b2ee7", func := "orangery/orangerylaw.HistorySays", spec := "historySays", unfollowed := true, recurses := true, apart := false, narrowed := true }
def HistorySaysUptoSaid : Prop := historySaysUptoRow.holds Try.pinned (OpenSpec.upto historySaysSpec)

end Rows
end Go.Proofs.Ytphameoibnimmaa
