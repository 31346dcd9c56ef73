/-
  No cell of these rows narrows 'for every input' (looked for: loops, veiled, ifaces, maps, wideKeys, modest, calm, conditions, laid).
  DERIVED. THE GIVEN ROWS OF THIS SEAT. 5 by the template 'for every input the law returns true; each argument reads behind the call as it read before'; 0 by the template 'total and deterministic' (their statements: YtbnpihkianggiaaTotals.lean).
  GIVEN WITH THE SEED: the statements are not yours to turn. If you find one false, say at which input.
  Laid BY PROGRAM, IN A SANDBOX (cutbox-rows.mjs): the forced cells as the released guide's own fill.sh prints them over the translation 41eb97ef93921f55… (all of the seat's roots in one cut). By AI agents, Wed Nov 11 2026. No macro, syntax, notation, axiom, sorry.
-/
import Derived.Test.YtbnpihkianggiaaChecked
import GoSem.Claim
import GoSem.ClaimJoined
import GoSem.ClaimMapViews
import Derived.JoinedTies
import Derived.KernelRfl
namespace Go.Proofs.Ytbnpihkianggiaa
/- THE CELL 'sum', in the pinned program and in every row, IS THE sha256 OF THE DUMP (.gsa) THAT YtbnpihkianggiaaProg.lean LOADS. Nothing in Lean hashes anything: it is a label: what it is worth is what the hold of that sum in a sandbox is worth. -/
noncomputable def Try.pinned : Pinned := { name := "ytbnpihkianggiaa", sum := "41eb97ef93921f55270ea88cc18030e9020624f072102f9f7dcdefd7cd234697", checked := Try.checked }
namespace Rows
def none {H : Type} : Left H := { results := [], args := [] }

/-- 'laws.FnStandard': WHATEVER THE INPUT: true; the input reads as it did. -/
def fnStandardSpec : ChangeSpec := { name := "fnStandard", fn := fun _ => fun
  | [d] => { results := [.lit (.bool true)], args := [d] }
  | _ => none }
def fnStandardRow : OpenClaim := { program := "ytbnpihkianggiaa", sum := "41eb97ef93921f55270ea88cc18030e9020624f072102f9f7dcdefd7cd234697", func := "loop.example/g00984/laws.FnStandard", spec := "fnStandard", unfollowed := true, recurses := true, apart := false }
def FnStandardSaid : Prop := fnStandardRow.holds Try.pinned (OpenSpec.ofChange fnStandardSpec)

/-- ITS FALSE NEIGHBOUR: 'it returns false'. Refute it at one input. -/
def fnStandardWrong : ChangeSpec := { name := "fnStandard", fn := fun _ => fun
  | [d] => { results := [.lit (.bool false)], args := [d] }
  | _ => none }
def FnStandardWrongFalsely : Prop := fnStandardRow.holds Try.pinned (OpenSpec.ofChange fnStandardWrong)

/-- 'laws.FnExactStandardPort': WHATEVER THE INPUT: true; the input reads as it did. -/
def fnExactStandardPortSpec : ChangeSpec := { name := "fnExactStandardPort", fn := fun _ => fun
  | [d1, d2, d3, d4] => { results := [.lit (.bool true)], args := [d1, d2, d3, d4] }
  | _ => none }
def fnExactStandardPortRow : OpenClaim := { program := "ytbnpihkianggiaa", sum := "41eb97ef93921f55270ea88cc18030e9020624f072102f9f7dcdefd7cd234697", func := "loop.example/g00984/laws.FnExactStandardPort", spec := "fnExactStandardPort", unfollowed := true, recurses := true, apart := false }
def FnExactStandardPortSaid : Prop := fnExactStandardPortRow.holds Try.pinned (OpenSpec.ofChange fnExactStandardPortSpec)

/-- ITS FALSE NEIGHBOUR: 'it returns false'. Refute it at one input. -/
def fnExactStandardPortWrong : ChangeSpec := { name := "fnExactStandardPort", fn := fun _ => fun
  | [d1, d2, d3, d4] => { results := [.lit (.bool false)], args := [d1, d2, d3, d4] }
  | _ => none }
def FnExactStandardPortWrongFalsely : Prop := fnExactStandardPortRow.holds Try.pinned (OpenSpec.ofChange fnExactStandardPortWrong)

/-- 'laws.FnExactStandardTable': WHATEVER THE INPUT: true; the input reads as it did. -/
def fnExactStandardTableSpec : ChangeSpec := { name := "fnExactStandardTable", fn := fun _ => fun
  | [d1, d2] => { results := [.lit (.bool true)], args := [d1, d2] }
  | _ => none }
def fnExactStandardTableRow : OpenClaim := { program := "ytbnpihkianggiaa", sum := "41eb97ef93921f55270ea88cc18030e9020624f072102f9f7dcdefd7cd234697", func := "loop.example/g00984/laws.FnExactStandardTable", spec := "fnExactStandardTable", unfollowed := true, recurses := true, apart := false }
def FnExactStandardTableSaid : Prop := fnExactStandardTableRow.holds Try.pinned (OpenSpec.ofChange fnExactStandardTableSpec)

/-- ITS FALSE NEIGHBOUR: 'it returns false'. Refute it at one input. -/
def fnExactStandardTableWrong : ChangeSpec := { name := "fnExactStandardTable", fn := fun _ => fun
  | [d1, d2] => { results := [.lit (.bool false)], args := [d1, d2] }
  | _ => none }
def FnExactStandardTableWrongFalsely : Prop := fnExactStandardTableRow.holds Try.pinned (OpenSpec.ofChange fnExactStandardTableWrong)

/-- 'laws.FnExactRuleName': WHATEVER THE INPUT: true; the input reads as it did. -/
def fnExactRuleNameSpec : ChangeSpec := { name := "fnExactRuleName", fn := fun _ => fun
  | [d] => { results := [.lit (.bool true)], args := [d] }
  | _ => none }
def fnExactRuleNameRow : OpenClaim := { program := "ytbnpihkianggiaa", sum := "41eb97ef93921f55270ea88cc18030e9020624f072102f9f7dcdefd7cd234697", func := "loop.example/g00984/laws.FnExactRuleName", spec := "fnExactRuleName", apart := false }
def FnExactRuleNameSaid : Prop := fnExactRuleNameRow.holds Try.pinned (OpenSpec.ofChange fnExactRuleNameSpec)

/-- ITS FALSE NEIGHBOUR: 'it returns false'. Refute it at one input. -/
def fnExactRuleNameWrong : ChangeSpec := { name := "fnExactRuleName", fn := fun _ => fun
  | [d] => { results := [.lit (.bool false)], args := [d] }
  | _ => none }
def FnExactRuleNameWrongFalsely : Prop := fnExactRuleNameRow.holds Try.pinned (OpenSpec.ofChange fnExactRuleNameWrong)

/-- 'laws.FnExactDifferingEntries': WHATEVER THE INPUT: true; the input reads as it did. -/
def fnExactDifferingEntriesSpec : ChangeSpec := { name := "fnExactDifferingEntries", fn := fun _ => fun
  | [d1, d2] => { results := [.lit (.bool true)], args := [d1, d2] }
  | _ => none }
def fnExactDifferingEntriesRow : OpenClaim := { program := "ytbnpihkianggiaa", sum := "41eb97ef93921f55270ea88cc18030e9020624f072102f9f7dcdefd7cd234697", func := "loop.example/g00984/laws.FnExactDifferingEntries", spec := "fnExactDifferingEntries", apart := false }
def FnExactDifferingEntriesSaid : Prop := fnExactDifferingEntriesRow.holds Try.pinned (OpenSpec.ofChange fnExactDifferingEntriesSpec)

/-- ITS FALSE NEIGHBOUR: 'it returns false'. Refute it at one input. -/
def fnExactDifferingEntriesWrong : ChangeSpec := { name := "fnExactDifferingEntries", fn := fun _ => fun
  | [d1, d2] => { results := [.lit (.bool false)], args := [d1, d2] }
  | _ => none }
def FnExactDifferingEntriesWrongFalsely : Prop := fnExactDifferingEntriesRow.holds Try.pinned (OpenSpec.ofChange fnExactDifferingEntriesWrong)

/- THE SECOND FORM. 'bulk': how many values and letters a reading holds, each counted each time it is reached (what is shared counts as often as it is met; a slice's spare places count too). A statement '..UptoSaid' is the law's where the arguments, and the package variables that the reading takes, are together of bulk at most 1048576: NARROWER than '..Said'. Prove '..Said' where nothing that the law and all that it calls make is longer than what came in: it says more and counts as full. Else prove '..UptoSaid'. A law counts once. -/
mutual
def uptoBulk {H : Type} : DataW H → Nat
  | .lit (.string bytes) => bytes.length + 1
  | .lit _ => 1
  | .nil => 1
  | .ptr d => uptoBulk d + 1
  | .slice elems spare => uptoBulkAll elems + uptoBulkAll spare + 1
  | .agg parts => uptoBulkAll parts + 1
  | .iface _ d => uptoBulk d + 1
  | .map entries => uptoBulkEntries entries + 1
  | .held _ => 1
def uptoBulkAll {H : Type} : List (DataW H) → Nat
  | [] => 0
  | d :: r => uptoBulk d + uptoBulkAll r
def uptoBulkEntries {H : Type} : List (Lit × DataW H) → Nat
  | [] => 0
  | x :: r => uptoBulkEntry x + uptoBulkEntries r
def uptoBulkEntry {H : Type} : Lit × DataW H → Nat
  | (.string bytes, d) => bytes.length + uptoBulk d + 1
  | (_, d) => uptoBulk d + 1
 end
def uptoSmall : (H : Type) → List (DataW H) → Bool := fun _ ds => decide (uptoBulkAll ds ≤ 1048576)
def OpenSpec.upto (s : _root_.Go.ChangeSpec) : _root_.Go.OpenSpec := { _root_.Go.OpenSpec.ofChange s with cond := some uptoSmall }

/-- 'laws.FnStandard', WHERE WHAT IT READS IS OF BULK AT MOST 1048576: true; the input reads as it did. -/
def fnStandardUptoRow : OpenClaim := { program := "ytbnpihkianggiaa", sum := "41eb97ef93921f55270ea88cc18030e9020624f072102f9f7dcdefd7cd234697", func := "loop.example/g00984/laws.FnStandard", spec := "fnStandard", unfollowed := true, recurses := true, apart := false, narrowed := true }
def FnStandardUptoSaid : Prop := fnStandardUptoRow.holds Try.pinned (OpenSpec.upto fnStandardSpec)

/-- 'laws.FnExactStandardPort', WHERE WHAT IT READS IS OF BULK AT MOST 1048576: true; the input reads as it did. -/
def fnExactStandardPortUptoRow : OpenClaim := { program := "ytbnpihkianggiaa", sum := "41eb97ef93921f55270ea88cc18030e9020624f072102f9f7dcdefd7cd234697", func := "loop.example/g00984/laws.FnExactStandardPort", spec := "fnExactStandardPort", unfollowed := true, recurses := true, apart := false, narrowed := true }
def FnExactStandardPortUptoSaid : Prop := fnExactStandardPortUptoRow.holds Try.pinned (OpenSpec.upto fnExactStandardPortSpec)

/-- 'laws.FnExactStandardTable', WHERE WHAT IT READS IS OF BULK AT MOST 1048576: true; the input reads as it did. -/
def fnExactStandardTableUptoRow : OpenClaim := { program := "ytbnpihkianggiaa", sum := "41eb97ef93921f55270ea88cc18030e9020624f072102f9f7dcdefd7cd234697", func := "loop.example/g00984/laws.FnExactStandardTable", spec := "fnExactStandardTable", unfollowed := true, recurses := true, apart := false, narrowed := true }
def FnExactStandardTableUptoSaid : Prop := fnExactStandardTableUptoRow.holds Try.pinned (OpenSpec.upto fnExactStandardTableSpec)

/-- 'laws.FnExactRuleName', WHERE WHAT IT READS IS OF BULK AT MOST 1048576: true; the input reads as it did. -/
def fnExactRuleNameUptoRow : OpenClaim := { program := "ytbnpihkianggiaa", sum := "41eb97ef93921f55270ea88cc18030e9020624f072102f9f7dcdefd7cd234697", func := "loop.example/g00984/laws.FnExactRuleName", spec := "fnExactRuleName", apart := false, narrowed := true }
def FnExactRuleNameUptoSaid : Prop := fnExactRuleNameUptoRow.holds Try.pinned (OpenSpec.upto fnExactRuleNameSpec)

/-- 'laws.FnExactDifferingEntries', WHERE WHAT IT READS IS OF BULK AT MOST 1048576: true; the input reads as it did. -/
def fnExactDifferingEntriesUptoRow : OpenClaim := { program := "ytbnpihkianggiaa", sum := "41eb97ef93921f55270ea88cc18030e9020624f072102f9f7dcdefd7cd234697", func := "loop.example/g00984/laws.FnExactDifferingEntries", spec := "fnExactDifferingEntries", apart := false, narrowed := true }
def FnExactDifferingEntriesUptoSaid : Prop := fnExactDifferingEntriesUptoRow.holds Try.pinned (OpenSpec.upto fnExactDifferingEntriesSpec)

end Rows
end Go.Proofs.Ytbnpihkianggiaa
