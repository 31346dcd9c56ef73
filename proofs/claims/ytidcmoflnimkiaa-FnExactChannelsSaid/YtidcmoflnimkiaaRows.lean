/-
  No cell of these rows narrows 'for every input' (looked for: loops, veiled, ifaces, maps, wideKeys, modest, calm, conditions, laid).
  DERIVED. THE GIVEN ROWS OF THIS SEAT. 8 by the template 'for every input the law returns true; each argument reads behind the call as it read before'; 0 by the template 'total and deterministic' (their statements: YtidcmoflnimkiaaTotals.lean).
  GIVEN WITH THE SEED: the statements are not yours to turn. If you find one false, say at which input.
  Laid BY PROGRAM, IN A SANDBOX (cutbox-rows.mjs): the forced cells as the released guide's own fill.sh prints them over the translation f4e4f594f79d8684… (all of the seat's roots in one cut). By AI agents, Wed Nov 11 2026. No macro, syntax, notation, axiom, sorry.
-/
import Derived.Test.YtidcmoflnimkiaaChecked
import GoSem.Claim
import GoSem.ClaimJoined
import GoSem.ClaimMapViews
import Derived.JoinedTies
import Derived.KernelRfl
namespace Go.Proofs.Ytidcmoflnimkiaa
/- THE CELL 'sum', in the pinned program and in every row, IS THE sha256 OF THE DUMP (.gsa) THAT YtidcmoflnimkiaaProg.lean LOADS. Nothing in Lean hashes anything: it is a label: what it is worth is what the hold of that sum in a sandbox is worth. -/
noncomputable def Try.pinned : Pinned := { name := "ytidcmoflnimkiaa", sum := "f4e4f594f79d86846ad10c2311f82d9e4df6b30486d5cbe6153b0d2012015dfb", checked := Try.checked }
namespace Rows
def none {H : Type} : Left H := { results := [], args := [] }

/-- 'laws.FnNeighbors': WHATEVER THE INPUT: true; the input reads as it did. -/
def fnNeighborsSpec : ChangeSpec := { name := "fnNeighbors", fn := fun _ => fun
  | [d] => { results := [.lit (.bool true)], args := [d] }
  | _ => none }
def fnNeighborsRow : OpenClaim := { program := "ytidcmoflnimkiaa", sum := "f4e4f594f79d86846ad10c2311f82d9e4df6b30486d5cbe6153b0d2012015dfb", func := "loop.example/g00984/laws.FnNeighbors", spec := "fnNeighbors", apart := false }
def FnNeighborsSaid : Prop := fnNeighborsRow.holds Try.pinned (OpenSpec.ofChange fnNeighborsSpec)

/-- ITS FALSE NEIGHBOUR: 'it returns false'. Refute it at one input. -/
def fnNeighborsWrong : ChangeSpec := { name := "fnNeighbors", fn := fun _ => fun
  | [d] => { results := [.lit (.bool false)], args := [d] }
  | _ => none }
def FnNeighborsWrongFalsely : Prop := fnNeighborsRow.holds Try.pinned (OpenSpec.ofChange fnNeighborsWrong)

/-- 'laws.FnChannels': WHATEVER THE INPUT: true; the input reads as it did. -/
def fnChannelsSpec : ChangeSpec := { name := "fnChannels", fn := fun _ => fun
  | [d] => { results := [.lit (.bool true)], args := [d] }
  | _ => none }
def fnChannelsRow : OpenClaim := { program := "ytidcmoflnimkiaa", sum := "f4e4f594f79d86846ad10c2311f82d9e4df6b30486d5cbe6153b0d2012015dfb", func := "loop.example/g00984/laws.FnChannels", spec := "fnChannels", apart := false }
def FnChannelsSaid : Prop := fnChannelsRow.holds Try.pinned (OpenSpec.ofChange fnChannelsSpec)

/-- ITS FALSE NEIGHBOUR: 'it returns false'. Refute it at one input. -/
def fnChannelsWrong : ChangeSpec := { name := "fnChannels", fn := fun _ => fun
  | [d] => { results := [.lit (.bool false)], args := [d] }
  | _ => none }
def FnChannelsWrongFalsely : Prop := fnChannelsRow.holds Try.pinned (OpenSpec.ofChange fnChannelsWrong)

/-- 'laws.FnExactNextNode': WHATEVER THE INPUT: true; the input reads as it did. -/
def fnExactNextNodeSpec : ChangeSpec := { name := "fnExactNextNode", fn := fun _ => fun
  | [d1, d2, d3] => { results := [.lit (.bool true)], args := [d1, d2, d3] }
  | _ => none }
def fnExactNextNodeRow : OpenClaim := { program := "ytidcmoflnimkiaa", sum := "f4e4f594f79d86846ad10c2311f82d9e4df6b30486d5cbe6153b0d2012015dfb", func := "loop.example/g00984/laws.FnExactNextNode", spec := "fnExactNextNode", apart := false }
def FnExactNextNodeSaid : Prop := fnExactNextNodeRow.holds Try.pinned (OpenSpec.ofChange fnExactNextNodeSpec)

/-- ITS FALSE NEIGHBOUR: 'it returns false'. Refute it at one input. -/
def fnExactNextNodeWrong : ChangeSpec := { name := "fnExactNextNode", fn := fun _ => fun
  | [d1, d2, d3] => { results := [.lit (.bool false)], args := [d1, d2, d3] }
  | _ => none }
def FnExactNextNodeWrongFalsely : Prop := fnExactNextNodeRow.holds Try.pinned (OpenSpec.ofChange fnExactNextNodeWrong)

/-- 'laws.FnExactOpposite': WHATEVER THE INPUT: true; the input reads as it did. -/
def fnExactOppositeSpec : ChangeSpec := { name := "fnExactOpposite", fn := fun _ => fun
  | [d] => { results := [.lit (.bool true)], args := [d] }
  | _ => none }
def fnExactOppositeRow : OpenClaim := { program := "ytidcmoflnimkiaa", sum := "f4e4f594f79d86846ad10c2311f82d9e4df6b30486d5cbe6153b0d2012015dfb", func := "loop.example/g00984/laws.FnExactOpposite", spec := "fnExactOpposite", apart := false }
def FnExactOppositeSaid : Prop := fnExactOppositeRow.holds Try.pinned (OpenSpec.ofChange fnExactOppositeSpec)

/-- ITS FALSE NEIGHBOUR: 'it returns false'. Refute it at one input. -/
def fnExactOppositeWrong : ChangeSpec := { name := "fnExactOpposite", fn := fun _ => fun
  | [d] => { results := [.lit (.bool false)], args := [d] }
  | _ => none }
def FnExactOppositeWrongFalsely : Prop := fnExactOppositeRow.holds Try.pinned (OpenSpec.ofChange fnExactOppositeWrong)

/-- 'laws.FnExactMeshOk': WHATEVER THE INPUT: true; the input reads as it did. -/
def fnExactMeshOkSpec : ChangeSpec := { name := "fnExactMeshOk", fn := fun _ => fun
  | [d] => { results := [.lit (.bool true)], args := [d] }
  | _ => none }
def fnExactMeshOkRow : OpenClaim := { program := "ytidcmoflnimkiaa", sum := "f4e4f594f79d86846ad10c2311f82d9e4df6b30486d5cbe6153b0d2012015dfb", func := "loop.example/g00984/laws.FnExactMeshOk", spec := "fnExactMeshOk", apart := false }
def FnExactMeshOkSaid : Prop := fnExactMeshOkRow.holds Try.pinned (OpenSpec.ofChange fnExactMeshOkSpec)

/-- ITS FALSE NEIGHBOUR: 'it returns false'. Refute it at one input. -/
def fnExactMeshOkWrong : ChangeSpec := { name := "fnExactMeshOk", fn := fun _ => fun
  | [d] => { results := [.lit (.bool false)], args := [d] }
  | _ => none }
def FnExactMeshOkWrongFalsely : Prop := fnExactMeshOkRow.holds Try.pinned (OpenSpec.ofChange fnExactMeshOkWrong)

/-- 'laws.FnExactHasChannel': WHATEVER THE INPUT: true; the input reads as it did. -/
def fnExactHasChannelSpec : ChangeSpec := { name := "fnExactHasChannel", fn := fun _ => fun
  | [d1, d2] => { results := [.lit (.bool true)], args := [d1, d2] }
  | _ => none }
def fnExactHasChannelRow : OpenClaim := { program := "ytidcmoflnimkiaa", sum := "f4e4f594f79d86846ad10c2311f82d9e4df6b30486d5cbe6153b0d2012015dfb", func := "loop.example/g00984/laws.FnExactHasChannel", spec := "fnExactHasChannel", apart := false }
def FnExactHasChannelSaid : Prop := fnExactHasChannelRow.holds Try.pinned (OpenSpec.ofChange fnExactHasChannelSpec)

/-- ITS FALSE NEIGHBOUR: 'it returns false'. Refute it at one input. -/
def fnExactHasChannelWrong : ChangeSpec := { name := "fnExactHasChannel", fn := fun _ => fun
  | [d1, d2] => { results := [.lit (.bool false)], args := [d1, d2] }
  | _ => none }
def FnExactHasChannelWrongFalsely : Prop := fnExactHasChannelRow.holds Try.pinned (OpenSpec.ofChange fnExactHasChannelWrong)

/-- 'laws.FnExactChannels': WHATEVER THE INPUT: true; the input reads as it did. -/
def fnExactChannelsSpec : ChangeSpec := { name := "fnExactChannels", fn := fun _ => fun
  | [d] => { results := [.lit (.bool true)], args := [d] }
  | _ => none }
def fnExactChannelsRow : OpenClaim := { program := "ytidcmoflnimkiaa", sum := "f4e4f594f79d86846ad10c2311f82d9e4df6b30486d5cbe6153b0d2012015dfb", func := "loop.example/g00984/laws.FnExactChannels", spec := "fnExactChannels", apart := false }
def FnExactChannelsSaid : Prop := fnExactChannelsRow.holds Try.pinned (OpenSpec.ofChange fnExactChannelsSpec)

/-- ITS FALSE NEIGHBOUR: 'it returns false'. Refute it at one input. -/
def fnExactChannelsWrong : ChangeSpec := { name := "fnExactChannels", fn := fun _ => fun
  | [d] => { results := [.lit (.bool false)], args := [d] }
  | _ => none }
def FnExactChannelsWrongFalsely : Prop := fnExactChannelsRow.holds Try.pinned (OpenSpec.ofChange fnExactChannelsWrong)

/-- 'laws.FnExactPortName': WHATEVER THE INPUT: true; the input reads as it did. -/
def fnExactPortNameSpec : ChangeSpec := { name := "fnExactPortName", fn := fun _ => fun
  | [d] => { results := [.lit (.bool true)], args := [d] }
  | _ => none }
def fnExactPortNameRow : OpenClaim := { program := "ytidcmoflnimkiaa", sum := "f4e4f594f79d86846ad10c2311f82d9e4df6b30486d5cbe6153b0d2012015dfb", func := "loop.example/g00984/laws.FnExactPortName", spec := "fnExactPortName", apart := false }
def FnExactPortNameSaid : Prop := fnExactPortNameRow.holds Try.pinned (OpenSpec.ofChange fnExactPortNameSpec)

/-- ITS FALSE NEIGHBOUR: 'it returns false'. Refute it at one input. -/
def fnExactPortNameWrong : ChangeSpec := { name := "fnExactPortName", fn := fun _ => fun
  | [d] => { results := [.lit (.bool false)], args := [d] }
  | _ => none }
def FnExactPortNameWrongFalsely : Prop := fnExactPortNameRow.holds Try.pinned (OpenSpec.ofChange fnExactPortNameWrong)

/- THE SECOND FORM. 'bulk': how many values and letters a reading holds, each counted each time it is reached (what is shared counts as often as it is met; a slice's spare places count too). A statement '..UptoSaid' is the law's where the arguments, and the package variables that the reading takes, are together of bulk at most 1048576: NARROWER than '..Said'. Prove '..Said' where nothing that the law and all that it calls make is longer than what came in: it says more and counts as full. Else prove '..UptoSaid'. A law counts once. -/
mutual
def uptoBulk {H : Type} : DataW H → Nat
  | .lit (.string bytes) => bytes.length + 1
  | .lit _ => 1
  | .nil => 1
  | .ptr d => uptoBulk d + 1
  | .slice elems spare => uptoBulkAll elems + uptoBulkAll spare + 1
  | .agg parts => uptoBulkAll parts + 1
  | .iface _ d => uptoBulk d + 1
  | .map entries => uptoBulkEntries entries + 1
  | .held _ => 1
def uptoBulkAll {H : Type} : List (DataW H) → Nat
  | [] => 0
  | d :: r => uptoBulk d + uptoBulkAll r
def uptoBulkEntries {H : Type} : List (Lit × DataW H) → Nat
  | [] => 0
  | x :: r => uptoBulkEntry x + uptoBulkEntries r
def uptoBulkEntry {H : Type} : Lit × DataW H → Nat
  | (.string bytes, d) => bytes.length + uptoBulk d + 1
  | (_, d) => uptoBulk d + 1
 end
def uptoSmall : (H : Type) → List (DataW H) → Bool := fun _ ds => decide (uptoBulkAll ds ≤ 1048576)
def OpenSpec.upto (s : _root_.Go.ChangeSpec) : _root_.Go.OpenSpec := { _root_.Go.OpenSpec.ofChange s with cond := some uptoSmall }

/-- 'laws.FnNeighbors', WHERE WHAT IT READS IS OF BULK AT MOST 1048576: true; the input reads as it did. -/
def fnNeighborsUptoRow : OpenClaim := { program := "ytidcmoflnimkiaa", sum := "f4e4f594f79d86846ad10c2311f82d9e4df6b30486d5cbe6153b0d2012015dfb", func := "loop.example/g00984/laws.FnNeighbors", spec := "fnNeighbors", apart := false, narrowed := true }
def FnNeighborsUptoSaid : Prop := fnNeighborsUptoRow.holds Try.pinned (OpenSpec.upto fnNeighborsSpec)

/-- 'laws.FnChannels', WHERE WHAT IT READS IS OF BULK AT MOST 1048576: true; the input reads as it did. -/
def fnChannelsUptoRow : OpenClaim := { program := "ytidcmoflnimkiaa", sum := "f4e4f594f79d86846ad10c2311f82d9e4df6b30486d5cbe6153b0d2012015dfb", func := "loop.example/g00984/laws.FnChannels", spec := "fnChannels", apart := false, narrowed := true }
def FnChannelsUptoSaid : Prop := fnChannelsUptoRow.holds Try.pinned (OpenSpec.upto fnChannelsSpec)

/-- 'laws.FnExactNextNode', WHERE WHAT IT READS IS OF BULK AT MOST 1048576: true; the input reads as it did. -/
def fnExactNextNodeUptoRow : OpenClaim := { program := "ytidcmoflnimkiaa", sum := "f4e4f594f79d86846ad10c2311f82d9e4df6b30486d5cbe6153b0d2012015dfb", func := "loop.example/g00984/laws.FnExactNextNode", spec := "fnExactNextNode", apart := false, narrowed := true }
def FnExactNextNodeUptoSaid : Prop := fnExactNextNodeUptoRow.holds Try.pinned (OpenSpec.upto fnExactNextNodeSpec)

/-- 'laws.FnExactOpposite', WHERE WHAT IT READS IS OF BULK AT MOST 1048576: true; the input reads as it did. -/
def fnExactOppositeUptoRow : OpenClaim := { program := "ytidcmoflnimkiaa", sum := "f4e4f594f79d86846ad10c2311f82d9e4df6b30486d5cbe6153b0d2012015dfb", func := "loop.example/g00984/laws.FnExactOpposite", spec := "fnExactOpposite", apart := false, narrowed := true }
def FnExactOppositeUptoSaid : Prop := fnExactOppositeUptoRow.holds Try.pinned (OpenSpec.upto fnExactOppositeSpec)

/-- 'laws.FnExactMeshOk', WHERE WHAT IT READS IS OF BULK AT MOST 1048576: true; the input reads as it did. -/
def fnExactMeshOkUptoRow : OpenClaim := { program := "ytidcmoflnimkiaa", sum := "f4e4f594f79d86846ad10c2311f82d9e4df6b30486d5cbe6153b0d2012015dfb", func := "loop.example/g00984/laws.FnExactMeshOk", spec := "fnExactMeshOk", apart := false, narrowed := true }
def FnExactMeshOkUptoSaid : Prop := fnExactMeshOkUptoRow.holds Try.pinned (OpenSpec.upto fnExactMeshOkSpec)

/-- 'laws.FnExactHasChannel', WHERE WHAT IT READS IS OF BULK AT MOST 1048576: true; the input reads as it did. -/
def fnExactHasChannelUptoRow : OpenClaim := { program := "ytidcmoflnimkiaa", sum := "f4e4f594f79d86846ad10c2311f82d9e4df6b30486d5cbe6153b0d2012015dfb", func := "loop.example/g00984/laws.FnExactHasChannel", spec := "fnExactHasChannel", apart := false, narrowed := true }
def FnExactHasChannelUptoSaid : Prop := fnExactHasChannelUptoRow.holds Try.pinned (OpenSpec.upto fnExactHasChannelSpec)

/-- 'laws.FnExactChannels', WHERE WHAT IT READS IS OF BULK AT MOST 1048576: true; the input reads as it did. -/
def fnExactChannelsUptoRow : OpenClaim := { program := "ytidcmoflnimkiaa", sum := "f4e4f594f79d86846ad10c2311f82d9e4df6b30486d5cbe6153b0d2012015dfb", func := "loop.example/g00984/laws.FnExactChannels", spec := "fnExactChannels", apart := false, narrowed := true }
def FnExactChannelsUptoSaid : Prop := fnExactChannelsUptoRow.holds Try.pinned (OpenSpec.upto fnExactChannelsSpec)

/-- 'laws.FnExactPortName', WHERE WHAT IT READS IS OF BULK AT MOST 1048576: true; the input reads as it did. -/
def fnExactPortNameUptoRow : OpenClaim := { program := "ytidcmoflnimkiaa", sum := "f4e4f594f79d86846ad10c2311f82d9e4df6b30486d5cbe6153b0d2012015dfb", func := "loop.example/g00984/laws.FnExactPortName", spec := "fnExactPortName", apart := false, narrowed := true }
def FnExactPortNameUptoSaid : Prop := fnExactPortNameUptoRow.holds Try.pinned (OpenSpec.upto fnExactPortNameSpec)

end Rows
end Go.Proofs.Ytidcmoflnimkiaa
