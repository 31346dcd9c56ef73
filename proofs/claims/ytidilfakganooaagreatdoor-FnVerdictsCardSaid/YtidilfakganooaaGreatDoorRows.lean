/-
  NARROWER THAN 'FOR EVERY INPUT', by the rows' own cells (each row's printed sentence says how): FnVerdicts: ifaces, laid · FnExactCheckTable: ifaces, laid · FnExactSafeRules: ifaces, laid.
  DERIVED. THE GIVEN ROWS OF THIS SEAT. 3 by the template 'for every input the law returns true; each argument reads behind the call as it read before'; 0 by the template 'total and deterministic' (their statements: YtidilfakganooaaGreatDoorTotals.lean).
  GIVEN WITH THE SEED: the statements are not yours to turn. If you find one false, say at which input.
  Laid BY PROGRAM, IN A SANDBOX (cutbox-rows.mjs): the forced cells as the released guide's own fill.sh prints them over the translation 837949b2189a8f67… (all of the seat's roots in one cut). By AI agents, Wed Nov 11 2026. No macro, syntax, notation, axiom, sorry.
-/
import Derived.Test.YtidilfakganooaaGreatDoorChecked
import GoSem.Claim
import GoSem.ClaimJoined
import GoSem.ClaimMapViews
import Derived.JoinedTies
import Derived.KernelRfl
namespace Go.Proofs.YtidilfakganooaaGreatDoor
/- THE CELL 'sum', in the pinned program and in every row, IS THE sha256 OF THE DUMP (.gsa) THAT YtidilfakganooaaGreatDoorProg.lean LOADS. Nothing in Lean hashes anything: it is a label: what it is worth is what the hold of that sum in a sandbox is worth. -/
noncomputable def Tryz.pinned : Pinned := { name := "ytidilfakganooaagreatdoor", sum := "837949b2189a8f673ce5495a52079574a95a8a5fdc715c30a23d920546442b62", checked := Tryz.checked }
namespace Rows
def none {H : Type} : Left H := { results := [], args := [] }

/- WHAT THE LISTED PACKAGE-LEVEL VARIABLES READ AS WHEN THE CALL BEGINS. Each datum BY PROGRAM (the guide's laid-datum.mjs) off the statement by which the dump's own 'gosem.cut.vars' lays the variable. In a bare row this is a premise. The card (YtidilfakganooaaGreatDoorCards.lean) ties it to the program's text. -/
def laid_loop_example_g00984_impl_errBadTable {H : Type} : DataW H := .iface "*errors.errorString" (.ptr (.agg [.lit (.string [116, 104, 101, 32, 116, 97, 98, 108, 101, 32, 105, 115, 32, 110, 111, 116, 32, 118, 97, 108, 105, 100])]))

/-- 'laws.FnVerdicts': WHATEVER THE INPUT: true; the input reads as it did. -/
def fnVerdictsSpec : ChangeSpec := { name := "fnVerdicts", vars := ["loop.example/g00984/impl.errBadTable"], fn := fun _ => fun
  | [d, g1] => { results := [.lit (.bool true)], args := [d], vars := [g1] }
  | _ => none }
def fnVerdictsRow : OpenClaim := { program := "ytidilfakganooaagreatdoor", sum := "837949b2189a8f673ce5495a52079574a95a8a5fdc715c30a23d920546442b62", func := "loop.example/g00984/laws.FnVerdicts", spec := "fnVerdicts", inPlace := ["slices.overlaps[loop.example/g00984/impl.Depend]", "internal/reflectlite.TypeOf"], unfollowed := true, recurses := true, named := ["loop.example/g00984/impl.errBadTable"], ifaces := true, apart := false, laid := [("loop.example/g00984/impl.errBadTable", laid_loop_example_g00984_impl_errBadTable)] }
def FnVerdictsSaid : Prop := fnVerdictsRow.holds Tryz.pinned (OpenSpec.ofChange fnVerdictsSpec)

/-- ITS FALSE NEIGHBOUR: 'it returns false'. Refute it at one input. -/
def fnVerdictsWrong : ChangeSpec := { name := "fnVerdicts", vars := ["loop.example/g00984/impl.errBadTable"], fn := fun _ => fun
  | [d, g1] => { results := [.lit (.bool false)], args := [d], vars := [g1] }
  | _ => none }
def FnVerdictsWrongFalsely : Prop := fnVerdictsRow.holds Tryz.pinned (OpenSpec.ofChange fnVerdictsWrong)

/-- 'laws.FnExactCheckTable': WHATEVER THE INPUT: true; the input reads as it did. -/
def fnExactCheckTableSpec : ChangeSpec := { name := "fnExactCheckTable", vars := ["loop.example/g00984/impl.errBadTable"], fn := fun _ => fun
  | [d1, d2, g1] => { results := [.lit (.bool true)], args := [d1, d2], vars := [g1] }
  | _ => none }
def fnExactCheckTableRow : OpenClaim := { program := "ytidilfakganooaagreatdoor", sum := "837949b2189a8f673ce5495a52079574a95a8a5fdc715c30a23d920546442b62", func := "loop.example/g00984/laws.FnExactCheckTable", spec := "fnExactCheckTable", inPlace := ["slices.overlaps[loop.example/g00984/impl.Depend]", "internal/reflectlite.TypeOf"], unfollowed := true, recurses := true, named := ["loop.example/g00984/impl.errBadTable"], ifaces := true, apart := false, laid := [("loop.example/g00984/impl.errBadTable", laid_loop_example_g00984_impl_errBadTable)] }
def FnExactCheckTableSaid : Prop := fnExactCheckTableRow.holds Tryz.pinned (OpenSpec.ofChange fnExactCheckTableSpec)

/-- ITS FALSE NEIGHBOUR: 'it returns false'. Refute it at one input. -/
def fnExactCheckTableWrong : ChangeSpec := { name := "fnExactCheckTable", vars := ["loop.example/g00984/impl.errBadTable"], fn := fun _ => fun
  | [d1, d2, g1] => { results := [.lit (.bool false)], args := [d1, d2], vars := [g1] }
  | _ => none }
def FnExactCheckTableWrongFalsely : Prop := fnExactCheckTableRow.holds Tryz.pinned (OpenSpec.ofChange fnExactCheckTableWrong)

/-- 'laws.FnExactSafeRules': WHATEVER THE INPUT: true; the input reads as it did. -/
def fnExactSafeRulesSpec : ChangeSpec := { name := "fnExactSafeRules", vars := ["loop.example/g00984/impl.errBadTable"], fn := fun _ => fun
  | [d, g1] => { results := [.lit (.bool true)], args := [d], vars := [g1] }
  | _ => none }
def fnExactSafeRulesRow : OpenClaim := { program := "ytidilfakganooaagreatdoor", sum := "837949b2189a8f673ce5495a52079574a95a8a5fdc715c30a23d920546442b62", func := "loop.example/g00984/laws.FnExactSafeRules", spec := "fnExactSafeRules", inPlace := ["slices.overlaps[loop.example/g00984/impl.Depend]", "internal/reflectlite.TypeOf"], unfollowed := true, recurses := true, named := ["loop.example/g00984/impl.errBadTable"], ifaces := true, apart := false, laid := [("loop.example/g00984/impl.errBadTable", laid_loop_example_g00984_impl_errBadTable)] }
def FnExactSafeRulesSaid : Prop := fnExactSafeRulesRow.holds Tryz.pinned (OpenSpec.ofChange fnExactSafeRulesSpec)

/-- ITS FALSE NEIGHBOUR: 'it returns false'. Refute it at one input. -/
def fnExactSafeRulesWrong : ChangeSpec := { name := "fnExactSafeRules", vars := ["loop.example/g00984/impl.errBadTable"], fn := fun _ => fun
  | [d, g1] => { results := [.lit (.bool false)], args := [d], vars := [g1] }
  | _ => none }
def FnExactSafeRulesWrongFalsely : Prop := fnExactSafeRulesRow.holds Tryz.pinned (OpenSpec.ofChange fnExactSafeRulesWrong)

/- THE SECOND FORM. 'bulk': how many values and letters a reading holds, each counted each time it is reached (what is shared counts as often as it is met; a slice's spare places count too). A statement '..UptoSaid' is the law's where the arguments, and the package variables that the reading takes, are together of bulk at most 1048576: NARROWER than '..Said'. Prove '..Said' where nothing that the law and all that it calls make is longer than what came in: it says more and counts as full. Else prove '..UptoSaid'. A law counts once. -/
mutual
def uptoBulk {H : Type} : DataW H → Nat
  | .lit (.string bytes) => bytes.length + 1
  | .lit _ => 1
  | .nil => 1
  | .ptr d => uptoBulk d + 1
  | .slice elems spare => uptoBulkAll elems + uptoBulkAll spare + 1
  | .agg parts => uptoBulkAll parts + 1
  | .iface _ d => uptoBulk d + 1
  | .map entries => uptoBulkEntries entries + 1
  | .held _ => 1
def uptoBulkAll {H : Type} : List (DataW H) → Nat
  | [] => 0
  | d :: r => uptoBulk d + uptoBulkAll r
def uptoBulkEntries {H : Type} : List (Lit × DataW H) → Nat
  | [] => 0
  | x :: r => uptoBulkEntry x + uptoBulkEntries r
def uptoBulkEntry {H : Type} : Lit × DataW H → Nat
  | (.string bytes, d) => bytes.length + uptoBulk d + 1
  | (_, d) => uptoBulk d + 1
 end
def uptoSmall : (H : Type) → List (DataW H) → Bool := fun _ ds => decide (uptoBulkAll ds ≤ 1048576)
def OpenSpec.upto (s : _root_.Go.ChangeSpec) : _root_.Go.OpenSpec := { _root_.Go.OpenSpec.ofChange s with cond := some uptoSmall }

/-- 'laws.FnVerdicts', WHERE WHAT IT READS IS OF BULK AT MOST 1048576: true; the input reads as it did. -/
def fnVerdictsUptoRow : OpenClaim := { program := "ytidilfakganooaagreatdoor", sum := "837949b2189a8f673ce5495a52079574a95a8a5fdc715c30a23d920546442b62", func := "loop.example/g00984/laws.FnVerdicts", spec := "fnVerdicts", inPlace := ["slices.overlaps[loop.example/g00984/impl.Depend]", "internal/reflectlite.TypeOf"], unfollowed := true, recurses := true, named := ["loop.example/g00984/impl.errBadTable"], ifaces := true, apart := false, laid := [("loop.example/g00984/impl.errBadTable", laid_loop_example_g00984_impl_errBadTable)], narrowed := true }
def FnVerdictsUptoSaid : Prop := fnVerdictsUptoRow.holds Tryz.pinned (OpenSpec.upto fnVerdictsSpec)

/-- 'laws.FnExactCheckTable', WHERE WHAT IT READS IS OF BULK AT MOST 1048576: true; the input reads as it did. -/
def fnExactCheckTableUptoRow : OpenClaim := { program := "ytidilfakganooaagreatdoor", sum := "837949b2189a8f673ce5495a52079574a95a8a5fdc715c30a23d920546442b62", func := "loop.example/g00984/laws.FnExactCheckTable", spec := "fnExactCheckTable", inPlace := ["slices.overlaps[loop.example/g00984/impl.Depend]", "internal/reflectlite.TypeOf"], unfollowed := true, recurses := true, named := ["loop.example/g00984/impl.errBadTable"], ifaces := true, apart := false, laid := [("loop.example/g00984/impl.errBadTable", laid_loop_example_g00984_impl_errBadTable)], narrowed := true }
def FnExactCheckTableUptoSaid : Prop := fnExactCheckTableUptoRow.holds Tryz.pinned (OpenSpec.upto fnExactCheckTableSpec)

/-- 'laws.FnExactSafeRules', WHERE WHAT IT READS IS OF BULK AT MOST 1048576: true; the input reads as it did. -/
def fnExactSafeRulesUptoRow : OpenClaim := { program := "ytidilfakganooaagreatdoor", sum := "837949b2189a8f673ce5495a52079574a95a8a5fdc715c30a23d920546442b62", func := "loop.example/g00984/laws.FnExactSafeRules", spec := "fnExactSafeRules", inPlace := ["slices.overlaps[loop.example/g00984/impl.Depend]", "internal/reflectlite.TypeOf"], unfollowed := true, recurses := true, named := ["loop.example/g00984/impl.errBadTable"], ifaces := true, apart := false, laid := [("loop.example/g00984/impl.errBadTable", laid_loop_example_g00984_impl_errBadTable)], narrowed := true }
def FnExactSafeRulesUptoSaid : Prop := fnExactSafeRulesUptoRow.holds Tryz.pinned (OpenSpec.upto fnExactSafeRulesSpec)

end Rows
end Go.Proofs.YtidilfakganooaaGreatDoor
