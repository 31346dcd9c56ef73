/-
  No cell of these rows narrows 'for every input' (looked for: loops, veiled, ifaces, maps, wideKeys, modest, calm, conditions, laid).
  DERIVED. THE GIVEN ROWS OF THIS SEAT. 6 by the template 'for every input the law returns true; each argument reads behind the call as it read before'; 0 by the template 'total and deterministic' (their statements: YtpcmkilaapjaaaaTotals.lean).
  GIVEN WITH THE SEED: the statements are not yours to turn. If you find one false, say at which input.
  Laid BY PROGRAM, IN A SANDBOX (cutbox-rows.mjs): the forced cells as the released guide's own fill.sh prints them over the translation ef466c39c055c0b1… (all of the seat's roots in one cut). By AI agents, Wed Nov 11 2026. No macro, syntax, notation, axiom, sorry.
-/
import Derived.Test.YtpcmkilaapjaaaaChecked
import GoSem.Claim
import GoSem.ClaimJoined
import GoSem.ClaimMapViews
import Derived.JoinedTies
import Derived.KernelRfl
namespace Go.Proofs.Ytpcmkilaapjaaaa
/- THE CELL 'sum', in the pinned program and in every row, IS THE sha256 OF THE DUMP (.gsa) THAT YtpcmkilaapjaaaaProg.lean LOADS. Nothing in Lean hashes anything: it is a label: what it is worth is what the hold of that sum in a sandbox is worth. -/
noncomputable def Try.pinned : Pinned := { name := "ytpcmkilaapjaaaa", sum := "ef466c39c055c0b1066189752a9e744fd964a0de7aac7f7cbee67042ca42d792", checked := Try.checked }
namespace Rows
def none {H : Type} : Left H := { results := [], args := [] }

/-- 'laws.FnOrders': WHATEVER THE INPUT: true; the input reads as it did. -/
def fnOrdersSpec : ChangeSpec := { name := "fnOrders", fn := fun _ => fun
  | [d] => { results := [.lit (.bool true)], args := [d] }
  | _ => none }
def fnOrdersRow : OpenClaim := { program := "ytpcmkilaapjaaaa", sum := "ef466c39c055c0b1066189752a9e744fd964a0de7aac7f7cbee67042ca42d792", func := "loop.example/g00984/laws.FnOrders", spec := "fnOrders", apart := false }
def FnOrdersSaid : Prop := fnOrdersRow.holds Try.pinned (OpenSpec.ofChange fnOrdersSpec)

/-- ITS FALSE NEIGHBOUR: 'it returns false'. Refute it at one input. -/
def fnOrdersWrong : ChangeSpec := { name := "fnOrders", fn := fun _ => fun
  | [d] => { results := [.lit (.bool false)], args := [d] }
  | _ => none }
def FnOrdersWrongFalsely : Prop := fnOrdersRow.holds Try.pinned (OpenSpec.ofChange fnOrdersWrong)

/-- 'laws.FnRanksXY': WHATEVER THE INPUT: true; the input reads as it did. -/
def fnRanksXYSpec : ChangeSpec := { name := "fnRanksXY", fn := fun _ => fun
  | [d] => { results := [.lit (.bool true)], args := [d] }
  | _ => none }
def fnRanksXYRow : OpenClaim := { program := "ytpcmkilaapjaaaa", sum := "ef466c39c055c0b1066189752a9e744fd964a0de7aac7f7cbee67042ca42d792", func := "loop.example/g00984/laws.FnRanksXY", spec := "fnRanksXY", unfollowed := true, recurses := true, apart := false }
def FnRanksXYSaid : Prop := fnRanksXYRow.holds Try.pinned (OpenSpec.ofChange fnRanksXYSpec)

/-- ITS FALSE NEIGHBOUR: 'it returns false'. Refute it at one input. -/
def fnRanksXYWrong : ChangeSpec := { name := "fnRanksXY", fn := fun _ => fun
  | [d] => { results := [.lit (.bool false)], args := [d] }
  | _ => none }
def FnRanksXYWrongFalsely : Prop := fnRanksXYRow.holds Try.pinned (OpenSpec.ofChange fnRanksXYWrong)

/-- 'laws.FnExactOrderOf': WHATEVER THE INPUT: true; the input reads as it did. -/
def fnExactOrderOfSpec : ChangeSpec := { name := "fnExactOrderOf", fn := fun _ => fun
  | [d] => { results := [.lit (.bool true)], args := [d] }
  | _ => none }
def fnExactOrderOfRow : OpenClaim := { program := "ytpcmkilaapjaaaa", sum := "ef466c39c055c0b1066189752a9e744fd964a0de7aac7f7cbee67042ca42d792", func := "loop.example/g00984/laws.FnExactOrderOf", spec := "fnExactOrderOf", apart := false }
def FnExactOrderOfSaid : Prop := fnExactOrderOfRow.holds Try.pinned (OpenSpec.ofChange fnExactOrderOfSpec)

/-- ITS FALSE NEIGHBOUR: 'it returns false'. Refute it at one input. -/
def fnExactOrderOfWrong : ChangeSpec := { name := "fnExactOrderOf", fn := fun _ => fun
  | [d] => { results := [.lit (.bool false)], args := [d] }
  | _ => none }
def FnExactOrderOfWrongFalsely : Prop := fnExactOrderOfRow.holds Try.pinned (OpenSpec.ofChange fnExactOrderOfWrong)

/-- 'laws.FnExactIsOrder': WHATEVER THE INPUT: true; the input reads as it did. -/
def fnExactIsOrderSpec : ChangeSpec := { name := "fnExactIsOrder", fn := fun _ => fun
  | [d1, d2] => { results := [.lit (.bool true)], args := [d1, d2] }
  | _ => none }
def fnExactIsOrderRow : OpenClaim := { program := "ytpcmkilaapjaaaa", sum := "ef466c39c055c0b1066189752a9e744fd964a0de7aac7f7cbee67042ca42d792", func := "loop.example/g00984/laws.FnExactIsOrder", spec := "fnExactIsOrder", apart := false }
def FnExactIsOrderSaid : Prop := fnExactIsOrderRow.holds Try.pinned (OpenSpec.ofChange fnExactIsOrderSpec)

/-- ITS FALSE NEIGHBOUR: 'it returns false'. Refute it at one input. -/
def fnExactIsOrderWrong : ChangeSpec := { name := "fnExactIsOrder", fn := fun _ => fun
  | [d1, d2] => { results := [.lit (.bool false)], args := [d1, d2] }
  | _ => none }
def FnExactIsOrderWrongFalsely : Prop := fnExactIsOrderRow.holds Try.pinned (OpenSpec.ofChange fnExactIsOrderWrong)

/-- 'laws.FnExactRankRule': WHATEVER THE INPUT: true; the input reads as it did. -/
def fnExactRankRuleSpec : ChangeSpec := { name := "fnExactRankRule", fn := fun _ => fun
  | [d1, d2, d3] => { results := [.lit (.bool true)], args := [d1, d2, d3] }
  | _ => none }
def fnExactRankRuleRow : OpenClaim := { program := "ytpcmkilaapjaaaa", sum := "ef466c39c055c0b1066189752a9e744fd964a0de7aac7f7cbee67042ca42d792", func := "loop.example/g00984/laws.FnExactRankRule", spec := "fnExactRankRule", apart := false }
def FnExactRankRuleSaid : Prop := fnExactRankRuleRow.holds Try.pinned (OpenSpec.ofChange fnExactRankRuleSpec)

/-- ITS FALSE NEIGHBOUR: 'it returns false'. Refute it at one input. -/
def fnExactRankRuleWrong : ChangeSpec := { name := "fnExactRankRule", fn := fun _ => fun
  | [d1, d2, d3] => { results := [.lit (.bool false)], args := [d1, d2, d3] }
  | _ => none }
def FnExactRankRuleWrongFalsely : Prop := fnExactRankRuleRow.holds Try.pinned (OpenSpec.ofChange fnExactRankRuleWrong)

/-- 'laws.FnExactRisesAlong': WHATEVER THE INPUT: true; the input reads as it did. -/
def fnExactRisesAlongSpec : ChangeSpec := { name := "fnExactRisesAlong", fn := fun _ => fun
  | [d1, d2] => { results := [.lit (.bool true)], args := [d1, d2] }
  | _ => none }
def fnExactRisesAlongRow : OpenClaim := { program := "ytpcmkilaapjaaaa", sum := "ef466c39c055c0b1066189752a9e744fd964a0de7aac7f7cbee67042ca42d792", func := "loop.example/g00984/laws.FnExactRisesAlong", spec := "fnExactRisesAlong", apart := false }
def FnExactRisesAlongSaid : Prop := fnExactRisesAlongRow.holds Try.pinned (OpenSpec.ofChange fnExactRisesAlongSpec)

/-- ITS FALSE NEIGHBOUR: 'it returns false'. Refute it at one input. -/
def fnExactRisesAlongWrong : ChangeSpec := { name := "fnExactRisesAlong", fn := fun _ => fun
  | [d1, d2] => { results := [.lit (.bool false)], args := [d1, d2] }
  | _ => none }
def FnExactRisesAlongWrongFalsely : Prop := fnExactRisesAlongRow.holds Try.pinned (OpenSpec.ofChange fnExactRisesAlongWrong)

/- THE SECOND FORM. 'bulk': how many values and letters a reading holds, each counted each time it is reached (what is shared counts as often as it is met; a slice's spare places count too). A statement '..UptoSaid' is the law's where the arguments, and the package variables that the reading takes, are together of bulk at most 1048576: NARROWER than '..Said'. Prove '..Said' where nothing that the law and all that it calls make is longer than what came in: it says more and counts as full. Else prove '..UptoSaid'. A law counts once. -/
mutual
def uptoBulk {H : Type} : DataW H → Nat
  | .lit (.string bytes) => bytes.length + 1
  | .lit _ => 1
  | .nil => 1
  | .ptr d => uptoBulk d + 1
  | .slice elems spare => uptoBulkAll elems + uptoBulkAll spare + 1
  | .agg parts => uptoBulkAll parts + 1
  | .iface _ d => uptoBulk d + 1
  | .map entries => uptoBulkEntries entries + 1
  | .held _ => 1
def uptoBulkAll {H : Type} : List (DataW H) → Nat
  | [] => 0
  | d :: r => uptoBulk d + uptoBulkAll r
def uptoBulkEntries {H : Type} : List (Lit × DataW H) → Nat
  | [] => 0
  | x :: r => uptoBulkEntry x + uptoBulkEntries r
def uptoBulkEntry {H : Type} : Lit × DataW H → Nat
  | (.string bytes, d) => bytes.length + uptoBulk d + 1
  | (_, d) => uptoBulk d + 1
 end
def uptoSmall : (H : Type) → List (DataW H) → Bool := fun _ ds => decide (uptoBulkAll ds ≤ 1048576)
def OpenSpec.upto (s : _root_.Go.ChangeSpec) : _root_.Go.OpenSpec := { _root_.Go.OpenSpec.ofChange s with cond := some uptoSmall }

/-- 'laws.FnOrders', WHERE WHAT IT READS IS OF BULK AT MOST 1048576: true; the input reads as it did. -/
def fnOrdersUptoRow : OpenClaim := { program := "ytpcmkilaapjaaaa", sum := "ef466c39c055c0b1066189752a9e744fd964a0de7aac7f7cbee67042ca42d792", func := "loop.example/g00984/laws.FnOrders", spec := "fnOrders", apart := false, narrowed := true }
def FnOrdersUptoSaid : Prop := fnOrdersUptoRow.holds Try.pinned (OpenSpec.upto fnOrdersSpec)

/-- 'laws.FnRanksXY', WHERE WHAT IT READS IS OF BULK AT MOST 1048576: true; the input reads as it did. -/
def fnRanksXYUptoRow : OpenClaim := { program := "ytpcmkilaapjaaaa", sum := "ef466c39c055c0b1066189752a9e744fd964a0de7aac7f7cbee67042ca42d792", func := "loop.example/g00984/laws.FnRanksXY", spec := "fnRanksXY", unfollowed := true, recurses := true, apart := false, narrowed := true }
def FnRanksXYUptoSaid : Prop := fnRanksXYUptoRow.holds Try.pinned (OpenSpec.upto fnRanksXYSpec)

/-- 'laws.FnExactOrderOf', WHERE WHAT IT READS IS OF BULK AT MOST 1048576: true; the input reads as it did. -/
def fnExactOrderOfUptoRow : OpenClaim := { program := "ytpcmkilaapjaaaa", sum := "ef466c39c055c0b1066189752a9e744fd964a0de7aac7f7cbee67042ca42d792", func := "loop.example/g00984/laws.FnExactOrderOf", spec := "fnExactOrderOf", apart := false, narrowed := true }
def FnExactOrderOfUptoSaid : Prop := fnExactOrderOfUptoRow.holds Try.pinned (OpenSpec.upto fnExactOrderOfSpec)

/-- 'laws.FnExactIsOrder', WHERE WHAT IT READS IS OF BULK AT MOST 1048576: true; the input reads as it did. -/
def fnExactIsOrderUptoRow : OpenClaim := { program := "ytpcmkilaapjaaaa", sum := "ef466c39c055c0b1066189752a9e744fd964a0de7aac7f7cbee67042ca42d792", func := "loop.example/g00984/laws.FnExactIsOrder", spec := "fnExactIsOrder", apart := false, narrowed := true }
def FnExactIsOrderUptoSaid : Prop := fnExactIsOrderUptoRow.holds Try.pinned (OpenSpec.upto fnExactIsOrderSpec)

/-- 'laws.FnExactRankRule', WHERE WHAT IT READS IS OF BULK AT MOST 1048576: true; the input reads as it did. -/
def fnExactRankRuleUptoRow : OpenClaim := { program := "ytpcmkilaapjaaaa", sum := "ef466c39c055c0b1066189752a9e744fd964a0de7aac7f7cbee67042ca42d792", func := "loop.example/g00984/laws.FnExactRankRule", spec := "fnExactRankRule", apart := false, narrowed := true }
def FnExactRankRuleUptoSaid : Prop := fnExactRankRuleUptoRow.holds Try.pinned (OpenSpec.upto fnExactRankRuleSpec)

/-- 'laws.FnExactRisesAlong', WHERE WHAT IT READS IS OF BULK AT MOST 1048576: true; the input reads as it did. -/
def fnExactRisesAlongUptoRow : OpenClaim := { program := "ytpcmkilaapjaaaa", sum := "ef466c39c055c0b1066189752a9e744fd964a0de7aac7f7cbee67042ca42d792", func := "loop.example/g00984/laws.FnExactRisesAlong", spec := "fnExactRisesAlong", apart := false, narrowed := true }
def FnExactRisesAlongUptoSaid : Prop := fnExactRisesAlongUptoRow.holds Try.pinned (OpenSpec.upto fnExactRisesAlongSpec)

end Rows
end Go.Proofs.Ytpcmkilaapjaaaa
