/-
  No cell of these rows narrows 'for every input' (looked for: loops, veiled, ifaces, maps, wideKeys, modest, calm, conditions, laid).
  DERIVED. THE GIVEN ROWS OF THIS SEAT. 7 by the template 'for every input the law returns true; each argument reads behind the call as it read before'; 0 by the template 'total and deterministic' (their statements: YtakigpgkcneboaaTotals.lean).
  GIVEN WITH THE SEED: the statements are not yours to turn. If you find one false, say at which input.
  Laid BY PROGRAM, IN A SANDBOX (cutbox-rows.mjs): the forced cells as the released guide's own fill.sh prints them over the translation 40f941e7c4b94e88… (all of the seat's roots in one cut). By AI agents, Wed Nov 11 2026. No macro, syntax, notation, axiom, sorry.
-/
import Derived.Test.YtakigpgkcneboaaChecked
import GoSem.Claim
import GoSem.ClaimJoined
import GoSem.ClaimMapViews
import Derived.JoinedTies
import Derived.KernelRfl
namespace Go.Proofs.Ytakigpgkcneboaa
/- THE CELL 'sum', in the pinned program and in every row, IS THE sha256 OF THE DUMP (.gsa) THAT YtakigpgkcneboaaProg.lean LOADS. Nothing in Lean hashes anything: it is a label: what it is worth is what the hold of that sum in a sandbox is worth. -/
noncomputable def Try.pinned : Pinned := { name := "ytakigpgkcneboaa", sum := "40f941e7c4b94e88f8d8e64c5197dd09f825792a65037af87e57bbb20aaa1892", checked := Try.checked }
namespace Rows
def none {H : Type} : Left H := { results := [], args := [] }

/-- 'laws.FnTableWalks': WHATEVER THE INPUT: true; the input reads as it did. -/
def fnTableWalksSpec : ChangeSpec := { name := "fnTableWalks", fn := fun _ => fun
  | [d] => { results := [.lit (.bool true)], args := [d] }
  | _ => none }
def fnTableWalksRow : OpenClaim := { program := "ytakigpgkcneboaa", sum := "40f941e7c4b94e88f8d8e64c5197dd09f825792a65037af87e57bbb20aaa1892", func := "loop.example/g00984/laws.FnTableWalks", spec := "fnTableWalks", apart := false }
def FnTableWalksSaid : Prop := fnTableWalksRow.holds Try.pinned (OpenSpec.ofChange fnTableWalksSpec)

/-- ITS FALSE NEIGHBOUR: 'it returns false'. Refute it at one input. -/
def fnTableWalksWrong : ChangeSpec := { name := "fnTableWalks", fn := fun _ => fun
  | [d] => { results := [.lit (.bool false)], args := [d] }
  | _ => none }
def FnTableWalksWrongFalsely : Prop := fnTableWalksRow.holds Try.pinned (OpenSpec.ofChange fnTableWalksWrong)

/-- 'laws.FnRoutes': WHATEVER THE INPUT: true; the input reads as it did. -/
def fnRoutesSpec : ChangeSpec := { name := "fnRoutes", fn := fun _ => fun
  | [d] => { results := [.lit (.bool true)], args := [d] }
  | _ => none }
def fnRoutesRow : OpenClaim := { program := "ytakigpgkcneboaa", sum := "40f941e7c4b94e88f8d8e64c5197dd09f825792a65037af87e57bbb20aaa1892", func := "loop.example/g00984/laws.FnRoutes", spec := "fnRoutes", unfollowed := true, recurses := true, apart := false }
def FnRoutesSaid : Prop := fnRoutesRow.holds Try.pinned (OpenSpec.ofChange fnRoutesSpec)

/-- ITS FALSE NEIGHBOUR: 'it returns false'. Refute it at one input. -/
def fnRoutesWrong : ChangeSpec := { name := "fnRoutes", fn := fun _ => fun
  | [d] => { results := [.lit (.bool false)], args := [d] }
  | _ => none }
def FnRoutesWrongFalsely : Prop := fnRoutesRow.holds Try.pinned (OpenSpec.ofChange fnRoutesWrong)

/-- 'laws.FnExactRouteNodes': WHATEVER THE INPUT: true; the input reads as it did. -/
def fnExactRouteNodesSpec : ChangeSpec := { name := "fnExactRouteNodes", fn := fun _ => fun
  | [d1, d2] => { results := [.lit (.bool true)], args := [d1, d2] }
  | _ => none }
def fnExactRouteNodesRow : OpenClaim := { program := "ytakigpgkcneboaa", sum := "40f941e7c4b94e88f8d8e64c5197dd09f825792a65037af87e57bbb20aaa1892", func := "loop.example/g00984/laws.FnExactRouteNodes", spec := "fnExactRouteNodes", apart := false }
def FnExactRouteNodesSaid : Prop := fnExactRouteNodesRow.holds Try.pinned (OpenSpec.ofChange fnExactRouteNodesSpec)

/-- ITS FALSE NEIGHBOUR: 'it returns false'. Refute it at one input. -/
def fnExactRouteNodesWrong : ChangeSpec := { name := "fnExactRouteNodes", fn := fun _ => fun
  | [d1, d2] => { results := [.lit (.bool false)], args := [d1, d2] }
  | _ => none }
def FnExactRouteNodesWrongFalsely : Prop := fnExactRouteNodesRow.holds Try.pinned (OpenSpec.ofChange fnExactRouteNodesWrong)

/-- 'laws.FnExactIsRoute': WHATEVER THE INPUT: true; the input reads as it did. -/
def fnExactIsRouteSpec : ChangeSpec := { name := "fnExactIsRoute", fn := fun _ => fun
  | [d1, d2] => { results := [.lit (.bool true)], args := [d1, d2] }
  | _ => none }
def fnExactIsRouteRow : OpenClaim := { program := "ytakigpgkcneboaa", sum := "40f941e7c4b94e88f8d8e64c5197dd09f825792a65037af87e57bbb20aaa1892", func := "loop.example/g00984/laws.FnExactIsRoute", spec := "fnExactIsRoute", apart := false }
def FnExactIsRouteSaid : Prop := fnExactIsRouteRow.holds Try.pinned (OpenSpec.ofChange fnExactIsRouteSpec)

/-- ITS FALSE NEIGHBOUR: 'it returns false'. Refute it at one input. -/
def fnExactIsRouteWrong : ChangeSpec := { name := "fnExactIsRoute", fn := fun _ => fun
  | [d1, d2] => { results := [.lit (.bool false)], args := [d1, d2] }
  | _ => none }
def FnExactIsRouteWrongFalsely : Prop := fnExactIsRouteRow.holds Try.pinned (OpenSpec.ofChange fnExactIsRouteWrong)

/-- 'laws.FnExactIsLoopFree': WHATEVER THE INPUT: true; the input reads as it did. -/
def fnExactIsLoopFreeSpec : ChangeSpec := { name := "fnExactIsLoopFree", fn := fun _ => fun
  | [d1, d2] => { results := [.lit (.bool true)], args := [d1, d2] }
  | _ => none }
def fnExactIsLoopFreeRow : OpenClaim := { program := "ytakigpgkcneboaa", sum := "40f941e7c4b94e88f8d8e64c5197dd09f825792a65037af87e57bbb20aaa1892", func := "loop.example/g00984/laws.FnExactIsLoopFree", spec := "fnExactIsLoopFree", apart := false }
def FnExactIsLoopFreeSaid : Prop := fnExactIsLoopFreeRow.holds Try.pinned (OpenSpec.ofChange fnExactIsLoopFreeSpec)

/-- ITS FALSE NEIGHBOUR: 'it returns false'. Refute it at one input. -/
def fnExactIsLoopFreeWrong : ChangeSpec := { name := "fnExactIsLoopFree", fn := fun _ => fun
  | [d1, d2] => { results := [.lit (.bool false)], args := [d1, d2] }
  | _ => none }
def FnExactIsLoopFreeWrongFalsely : Prop := fnExactIsLoopFreeRow.holds Try.pinned (OpenSpec.ofChange fnExactIsLoopFreeWrong)

/-- 'laws.FnExactJoinRoutes': WHATEVER THE INPUT: true; the input reads as it did. -/
def fnExactJoinRoutesSpec : ChangeSpec := { name := "fnExactJoinRoutes", fn := fun _ => fun
  | [d1, d2, d3] => { results := [.lit (.bool true)], args := [d1, d2, d3] }
  | _ => none }
def fnExactJoinRoutesRow : OpenClaim := { program := "ytakigpgkcneboaa", sum := "40f941e7c4b94e88f8d8e64c5197dd09f825792a65037af87e57bbb20aaa1892", func := "loop.example/g00984/laws.FnExactJoinRoutes", spec := "fnExactJoinRoutes", apart := false }
def FnExactJoinRoutesSaid : Prop := fnExactJoinRoutesRow.holds Try.pinned (OpenSpec.ofChange fnExactJoinRoutesSpec)

/-- ITS FALSE NEIGHBOUR: 'it returns false'. Refute it at one input. -/
def fnExactJoinRoutesWrong : ChangeSpec := { name := "fnExactJoinRoutes", fn := fun _ => fun
  | [d1, d2, d3] => { results := [.lit (.bool false)], args := [d1, d2, d3] }
  | _ => none }
def FnExactJoinRoutesWrongFalsely : Prop := fnExactJoinRoutesRow.holds Try.pinned (OpenSpec.ofChange fnExactJoinRoutesWrong)

/-- 'laws.FnExactReverseRoute': WHATEVER THE INPUT: true; the input reads as it did. -/
def fnExactReverseRouteSpec : ChangeSpec := { name := "fnExactReverseRoute", fn := fun _ => fun
  | [d1, d2] => { results := [.lit (.bool true)], args := [d1, d2] }
  | _ => none }
def fnExactReverseRouteRow : OpenClaim := { program := "ytakigpgkcneboaa", sum := "40f941e7c4b94e88f8d8e64c5197dd09f825792a65037af87e57bbb20aaa1892", func := "loop.example/g00984/laws.FnExactReverseRoute", spec := "fnExactReverseRoute", unfollowed := true, recurses := true, apart := false }
def FnExactReverseRouteSaid : Prop := fnExactReverseRouteRow.holds Try.pinned (OpenSpec.ofChange fnExactReverseRouteSpec)

/-- ITS FALSE NEIGHBOUR: 'it returns false'. Refute it at one input. -/
def fnExactReverseRouteWrong : ChangeSpec := { name := "fnExactReverseRoute", fn := fun _ => fun
  | [d1, d2] => { results := [.lit (.bool false)], args := [d1, d2] }
  | _ => none }
def FnExactReverseRouteWrongFalsely : Prop := fnExactReverseRouteRow.holds Try.pinned (OpenSpec.ofChange fnExactReverseRouteWrong)

/- THE SECOND FORM. 'bulk': how many values and letters a reading holds, each counted each time it is reached (what is shared counts as often as it is met; a slice's spare places count too). A statement '..UptoSaid' is the law's where the arguments, and the package variables that the reading takes, are together of bulk at most 1048576: NARROWER than '..Said'. Prove '..Said' where nothing that the law and all that it calls make is longer than what came in: it says more and counts as full. Else prove '..UptoSaid'. A law counts once. -/
mutual
def uptoBulk {H : Type} : DataW H → Nat
  | .lit (.string bytes) => bytes.length + 1
  | .lit _ => 1
  | .nil => 1
  | .ptr d => uptoBulk d + 1
  | .slice elems spare => uptoBulkAll elems + uptoBulkAll spare + 1
  | .agg parts => uptoBulkAll parts + 1
  | .iface _ d => uptoBulk d + 1
  | .map entries => uptoBulkEntries entries + 1
  | .held _ => 1
def uptoBulkAll {H : Type} : List (DataW H) → Nat
  | [] => 0
  | d :: r => uptoBulk d + uptoBulkAll r
def uptoBulkEntries {H : Type} : List (Lit × DataW H) → Nat
  | [] => 0
  | x :: r => uptoBulkEntry x + uptoBulkEntries r
def uptoBulkEntry {H : Type} : Lit × DataW H → Nat
  | (.string bytes, d) => bytes.length + uptoBulk d + 1
  | (_, d) => uptoBulk d + 1
 end
def uptoSmall : (H : Type) → List (DataW H) → Bool := fun _ ds => decide (uptoBulkAll ds ≤ 1048576)
def OpenSpec.upto (s : _root_.Go.ChangeSpec) : _root_.Go.OpenSpec := { _root_.Go.OpenSpec.ofChange s with cond := some uptoSmall }

/-- 'laws.FnTableWalks', WHERE WHAT IT READS IS OF BULK AT MOST 1048576: true; the input reads as it did. -/
def fnTableWalksUptoRow : OpenClaim := { program := "ytakigpgkcneboaa", sum := "40f941e7c4b94e88f8d8e64c5197dd09f825792a65037af87e57bbb20aaa1892", func := "loop.example/g00984/laws.FnTableWalks", spec := "fnTableWalks", apart := false, narrowed := true }
def FnTableWalksUptoSaid : Prop := fnTableWalksUptoRow.holds Try.pinned (OpenSpec.upto fnTableWalksSpec)

/-- 'laws.FnRoutes', WHERE WHAT IT READS IS OF BULK AT MOST 1048576: true; the input reads as it did. -/
def fnRoutesUptoRow : OpenClaim := { program := "ytakigpgkcneboaa", sum := "40f941e7c4b94e88f8d8e64c5197dd09f825792a65037af87e57bbb20aaa1892", func := "loop.example/g00984/laws.FnRoutes", spec := "fnRoutes", unfollowed := true, recurses := true, apart := false, narrowed := true }
def FnRoutesUptoSaid : Prop := fnRoutesUptoRow.holds Try.pinned (OpenSpec.upto fnRoutesSpec)

/-- 'laws.FnExactRouteNodes', WHERE WHAT IT READS IS OF BULK AT MOST 1048576: true; the input reads as it did. -/
def fnExactRouteNodesUptoRow : OpenClaim := { program := "ytakigpgkcneboaa", sum := "40f941e7c4b94e88f8d8e64c5197dd09f825792a65037af87e57bbb20aaa1892", func := "loop.example/g00984/laws.FnExactRouteNodes", spec := "fnExactRouteNodes", apart := false, narrowed := true }
def FnExactRouteNodesUptoSaid : Prop := fnExactRouteNodesUptoRow.holds Try.pinned (OpenSpec.upto fnExactRouteNodesSpec)

/-- 'laws.FnExactIsRoute', WHERE WHAT IT READS IS OF BULK AT MOST 1048576: true; the input reads as it did. -/
def fnExactIsRouteUptoRow : OpenClaim := { program := "ytakigpgkcneboaa", sum := "40f941e7c4b94e88f8d8e64c5197dd09f825792a65037af87e57bbb20aaa1892", func := "loop.example/g00984/laws.FnExactIsRoute", spec := "fnExactIsRoute", apart := false, narrowed := true }
def FnExactIsRouteUptoSaid : Prop := fnExactIsRouteUptoRow.holds Try.pinned (OpenSpec.upto fnExactIsRouteSpec)

/-- 'laws.FnExactIsLoopFree', WHERE WHAT IT READS IS OF BULK AT MOST 1048576: true; the input reads as it did. -/
def fnExactIsLoopFreeUptoRow : OpenClaim := { program := "ytakigpgkcneboaa", sum := "40f941e7c4b94e88f8d8e64c5197dd09f825792a65037af87e57bbb20aaa1892", func := "loop.example/g00984/laws.FnExactIsLoopFree", spec := "fnExactIsLoopFree", apart := false, narrowed := true }
def FnExactIsLoopFreeUptoSaid : Prop := fnExactIsLoopFreeUptoRow.holds Try.pinned (OpenSpec.upto fnExactIsLoopFreeSpec)

/-- 'laws.FnExactJoinRoutes', WHERE WHAT IT READS IS OF BULK AT MOST 1048576: true; the input reads as it did. -/
def fnExactJoinRoutesUptoRow : OpenClaim := { program := "ytakigpgkcneboaa", sum := "40f941e7c4b94e88f8d8e64c5197dd09f825792a65037af87e57bbb20aaa1892", func := "loop.example/g00984/laws.FnExactJoinRoutes", spec := "fnExactJoinRoutes", apart := false, narrowed := true }
def FnExactJoinRoutesUptoSaid : Prop := fnExactJoinRoutesUptoRow.holds Try.pinned (OpenSpec.upto fnExactJoinRoutesSpec)

/-- 'laws.FnExactReverseRoute', WHERE WHAT IT READS IS OF BULK AT MOST 1048576: true; the input reads as it did. -/
def fnExactReverseRouteUptoRow : OpenClaim := { program := "ytakigpgkcneboaa", sum := "40f941e7c4b94e88f8d8e64c5197dd09f825792a65037af87e57bbb20aaa1892", func := "loop.example/g00984/laws.FnExactReverseRoute", spec := "fnExactReverseRoute", unfollowed := true, recurses := true, apart := false, narrowed := true }
def FnExactReverseRouteUptoSaid : Prop := fnExactReverseRouteUptoRow.holds Try.pinned (OpenSpec.upto fnExactReverseRouteSpec)

end Rows
end Go.Proofs.Ytakigpgkcneboaa
