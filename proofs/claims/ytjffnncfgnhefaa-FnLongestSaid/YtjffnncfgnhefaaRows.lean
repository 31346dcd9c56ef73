/-
  No cell of these rows narrows 'for every input' (looked for: loops, veiled, ifaces, maps, wideKeys, modest, calm, conditions, laid).
  DERIVED. THE GIVEN ROWS OF THIS SEAT. 6 by the template 'for every input the law returns true; each argument reads behind the call as it read before'; 0 by the template 'total and deterministic' (their statements: YtjffnncfgnhefaaTotals.lean).
  GIVEN WITH THE SEED: the statements are not yours to turn. If you find one false, say at which input.
  Laid BY PROGRAM, IN A SANDBOX (cutbox-rows.mjs): the forced cells as the released guide's own fill.sh prints them over the translation b576b6c752cd4b24… (all of the seat's roots in one cut). By AI agents, Wed Nov 11 2026. No macro, syntax, notation, axiom, sorry.
-/
import Derived.Test.YtjffnncfgnhefaaChecked
import GoSem.Claim
import GoSem.ClaimJoined
import GoSem.ClaimMapViews
import Derived.JoinedTies
import Derived.KernelRfl
namespace Go.Proofs.Ytjffnncfgnhefaa
/- THE CELL 'sum', in the pinned program and in every row, IS THE sha256 OF THE DUMP (.gsa) THAT YtjffnncfgnhefaaProg.lean LOADS. Nothing in Lean hashes anything: it is a label: what it is worth is what the hold of that sum in a sandbox is worth. -/
noncomputable def Try.pinned : Pinned := { name := "ytjffnncfgnhefaa", sum := "b576b6c752cd4b2433823f463f5e95d6ebb5406458382f95edc181decc2602ad", checked := Try.checked }
namespace Rows
def none {H : Type} : Left H := { results := [], args := [] }

/-- 'laws.FnLongest': WHATEVER THE INPUT: true; the input reads as it did. -/
def fnLongestSpec : ChangeSpec := { name := "fnLongest", fn := fun _ => fun
  | [d] => { results := [.lit (.bool true)], args := [d] }
  | _ => none }
def fnLongestRow : OpenClaim := { program := "ytjffnncfgnhefaa", sum := "b576b6c752cd4b2433823f463f5e95d6ebb5406458382f95edc181decc2602ad", func := "loop.example/g00984/laws.FnLongest", spec := "fnLongest", apart := false }
def FnLongestSaid : Prop := fnLongestRow.holds Try.pinned (OpenSpec.ofChange fnLongestSpec)

/-- ITS FALSE NEIGHBOUR: 'it returns false'. Refute it at one input. -/
def fnLongestWrong : ChangeSpec := { name := "fnLongest", fn := fun _ => fun
  | [d] => { results := [.lit (.bool false)], args := [d] }
  | _ => none }
def FnLongestWrongFalsely : Prop := fnLongestRow.holds Try.pinned (OpenSpec.ofChange fnLongestWrong)

/-- 'laws.FnExactPortAt': WHATEVER THE INPUT: true; the input reads as it did. -/
def fnExactPortAtSpec : ChangeSpec := { name := "fnExactPortAt", fn := fun _ => fun
  | [d1, d2, d3, d4] => { results := [.lit (.bool true)], args := [d1, d2, d3, d4] }
  | _ => none }
def fnExactPortAtRow : OpenClaim := { program := "ytjffnncfgnhefaa", sum := "b576b6c752cd4b2433823f463f5e95d6ebb5406458382f95edc181decc2602ad", func := "loop.example/g00984/laws.FnExactPortAt", spec := "fnExactPortAt", apart := false }
def FnExactPortAtSaid : Prop := fnExactPortAtRow.holds Try.pinned (OpenSpec.ofChange fnExactPortAtSpec)

/-- ITS FALSE NEIGHBOUR: 'it returns false'. Refute it at one input. -/
def fnExactPortAtWrong : ChangeSpec := { name := "fnExactPortAt", fn := fun _ => fun
  | [d1, d2, d3, d4] => { results := [.lit (.bool false)], args := [d1, d2, d3, d4] }
  | _ => none }
def FnExactPortAtWrongFalsely : Prop := fnExactPortAtRow.holds Try.pinned (OpenSpec.ofChange fnExactPortAtWrong)

/-- 'laws.FnExactWalkTable': WHATEVER THE INPUT: true; the input reads as it did. -/
def fnExactWalkTableSpec : ChangeSpec := { name := "fnExactWalkTable", fn := fun _ => fun
  | [d1, d2, d3, d4] => { results := [.lit (.bool true)], args := [d1, d2, d3, d4] }
  | _ => none }
def fnExactWalkTableRow : OpenClaim := { program := "ytjffnncfgnhefaa", sum := "b576b6c752cd4b2433823f463f5e95d6ebb5406458382f95edc181decc2602ad", func := "loop.example/g00984/laws.FnExactWalkTable", spec := "fnExactWalkTable", apart := false }
def FnExactWalkTableSaid : Prop := fnExactWalkTableRow.holds Try.pinned (OpenSpec.ofChange fnExactWalkTableSpec)

/-- ITS FALSE NEIGHBOUR: 'it returns false'. Refute it at one input. -/
def fnExactWalkTableWrong : ChangeSpec := { name := "fnExactWalkTable", fn := fun _ => fun
  | [d1, d2, d3, d4] => { results := [.lit (.bool false)], args := [d1, d2, d3, d4] }
  | _ => none }
def FnExactWalkTableWrongFalsely : Prop := fnExactWalkTableRow.holds Try.pinned (OpenSpec.ofChange fnExactWalkTableWrong)

/-- 'laws.FnExactTableOk': WHATEVER THE INPUT: true; the input reads as it did. -/
def fnExactTableOkSpec : ChangeSpec := { name := "fnExactTableOk", fn := fun _ => fun
  | [d1, d2] => { results := [.lit (.bool true)], args := [d1, d2] }
  | _ => none }
def fnExactTableOkRow : OpenClaim := { program := "ytjffnncfgnhefaa", sum := "b576b6c752cd4b2433823f463f5e95d6ebb5406458382f95edc181decc2602ad", func := "loop.example/g00984/laws.FnExactTableOk", spec := "fnExactTableOk", apart := false }
def FnExactTableOkSaid : Prop := fnExactTableOkRow.holds Try.pinned (OpenSpec.ofChange fnExactTableOkSpec)

/-- ITS FALSE NEIGHBOUR: 'it returns false'. Refute it at one input. -/
def fnExactTableOkWrong : ChangeSpec := { name := "fnExactTableOk", fn := fun _ => fun
  | [d1, d2] => { results := [.lit (.bool false)], args := [d1, d2] }
  | _ => none }
def FnExactTableOkWrongFalsely : Prop := fnExactTableOkRow.holds Try.pinned (OpenSpec.ofChange fnExactTableOkWrong)

/-- 'laws.FnExactLongestWalk': WHATEVER THE INPUT: true; the input reads as it did. -/
def fnExactLongestWalkSpec : ChangeSpec := { name := "fnExactLongestWalk", fn := fun _ => fun
  | [d1, d2] => { results := [.lit (.bool true)], args := [d1, d2] }
  | _ => none }
def fnExactLongestWalkRow : OpenClaim := { program := "ytjffnncfgnhefaa", sum := "b576b6c752cd4b2433823f463f5e95d6ebb5406458382f95edc181decc2602ad", func := "loop.example/g00984/laws.FnExactLongestWalk", spec := "fnExactLongestWalk", apart := false }
def FnExactLongestWalkSaid : Prop := fnExactLongestWalkRow.holds Try.pinned (OpenSpec.ofChange fnExactLongestWalkSpec)

/-- ITS FALSE NEIGHBOUR: 'it returns false'. Refute it at one input. -/
def fnExactLongestWalkWrong : ChangeSpec := { name := "fnExactLongestWalk", fn := fun _ => fun
  | [d1, d2] => { results := [.lit (.bool false)], args := [d1, d2] }
  | _ => none }
def FnExactLongestWalkWrongFalsely : Prop := fnExactLongestWalkRow.holds Try.pinned (OpenSpec.ofChange fnExactLongestWalkWrong)

/-- 'laws.FnExactIsMinimal': WHATEVER THE INPUT: true; the input reads as it did. -/
def fnExactIsMinimalSpec : ChangeSpec := { name := "fnExactIsMinimal", fn := fun _ => fun
  | [d1, d2] => { results := [.lit (.bool true)], args := [d1, d2] }
  | _ => none }
def fnExactIsMinimalRow : OpenClaim := { program := "ytjffnncfgnhefaa", sum := "b576b6c752cd4b2433823f463f5e95d6ebb5406458382f95edc181decc2602ad", func := "loop.example/g00984/laws.FnExactIsMinimal", spec := "fnExactIsMinimal", apart := false }
def FnExactIsMinimalSaid : Prop := fnExactIsMinimalRow.holds Try.pinned (OpenSpec.ofChange fnExactIsMinimalSpec)

/-- ITS FALSE NEIGHBOUR: 'it returns false'. Refute it at one input. -/
def fnExactIsMinimalWrong : ChangeSpec := { name := "fnExactIsMinimal", fn := fun _ => fun
  | [d1, d2] => { results := [.lit (.bool false)], args := [d1, d2] }
  | _ => none }
def FnExactIsMinimalWrongFalsely : Prop := fnExactIsMinimalRow.holds Try.pinned (OpenSpec.ofChange fnExactIsMinimalWrong)

/- THE SECOND FORM. 'bulk': how many values and letters a reading holds, each counted each time it is reached (what is shared counts as often as it is met; a slice's spare places count too). A statement '..UptoSaid' is the law's where the arguments, and the package variables that the reading takes, are together of bulk at most 1048576: NARROWER than '..Said'. Prove '..Said' where nothing that the law and all that it calls make is longer than what came in: it says more and counts as full. Else prove '..UptoSaid'. A law counts once. -/
mutual
def uptoBulk {H : Type} : DataW H → Nat
  | .lit (.string bytes) => bytes.length + 1
  | .lit _ => 1
  | .nil => 1
  | .ptr d => uptoBulk d + 1
  | .slice elems spare => uptoBulkAll elems + uptoBulkAll spare + 1
  | .agg parts => uptoBulkAll parts + 1
  | .iface _ d => uptoBulk d + 1
  | .map entries => uptoBulkEntries entries + 1
  | .held _ => 1
def uptoBulkAll {H : Type} : List (DataW H) → Nat
  | [] => 0
  | d :: r => uptoBulk d + uptoBulkAll r
def uptoBulkEntries {H : Type} : List (Lit × DataW H) → Nat
  | [] => 0
  | x :: r => uptoBulkEntry x + uptoBulkEntries r
def uptoBulkEntry {H : Type} : Lit × DataW H → Nat
  | (.string bytes, d) => bytes.length + uptoBulk d + 1
  | (_, d) => uptoBulk d + 1
 end
def uptoSmall : (H : Type) → List (DataW H) → Bool := fun _ ds => decide (uptoBulkAll ds ≤ 1048576)
def OpenSpec.upto (s : _root_.Go.ChangeSpec) : _root_.Go.OpenSpec := { _root_.Go.OpenSpec.ofChange s with cond := some uptoSmall }

/-- 'laws.FnLongest', WHERE WHAT IT READS IS OF BULK AT MOST 1048576: true; the input reads as it did. -/
def fnLongestUptoRow : OpenClaim := { program := "ytjffnncfgnhefaa", sum := "b576b6c752cd4b2433823f463f5e95d6ebb5406458382f95edc181decc2602ad", func := "loop.example/g00984/laws.FnLongest", spec := "fnLongest", apart := false, narrowed := true }
def FnLongestUptoSaid : Prop := fnLongestUptoRow.holds Try.pinned (OpenSpec.upto fnLongestSpec)

/-- 'laws.FnExactPortAt', WHERE WHAT IT READS IS OF BULK AT MOST 1048576: true; the input reads as it did. -/
def fnExactPortAtUptoRow : OpenClaim := { program := "ytjffnncfgnhefaa", sum := "b576b6c752cd4b2433823f463f5e95d6ebb5406458382f95edc181decc2602ad", func := "loop.example/g00984/laws.FnExactPortAt", spec := "fnExactPortAt", apart := false, narrowed := true }
def FnExactPortAtUptoSaid : Prop := fnExactPortAtUptoRow.holds Try.pinned (OpenSpec.upto fnExactPortAtSpec)

/-- 'laws.FnExactWalkTable', WHERE WHAT IT READS IS OF BULK AT MOST 1048576: true; the input reads as it did. -/
def fnExactWalkTableUptoRow : OpenClaim := { program := "ytjffnncfgnhefaa", sum := "b576b6c752cd4b2433823f463f5e95d6ebb5406458382f95edc181decc2602ad", func := "loop.example/g00984/laws.FnExactWalkTable", spec := "fnExactWalkTable", apart := false, narrowed := true }
def FnExactWalkTableUptoSaid : Prop := fnExactWalkTableUptoRow.holds Try.pinned (OpenSpec.upto fnExactWalkTableSpec)

/-- 'laws.FnExactTableOk', WHERE WHAT IT READS IS OF BULK AT MOST 1048576: true; the input reads as it did. -/
def fnExactTableOkUptoRow : OpenClaim := { program := "ytjffnncfgnhefaa", sum := "b576b6c752cd4b2433823f463f5e95d6ebb5406458382f95edc181decc2602ad", func := "loop.example/g00984/laws.FnExactTableOk", spec := "fnExactTableOk", apart := false, narrowed := true }
def FnExactTableOkUptoSaid : Prop := fnExactTableOkUptoRow.holds Try.pinned (OpenSpec.upto fnExactTableOkSpec)

/-- 'laws.FnExactLongestWalk', WHERE WHAT IT READS IS OF BULK AT MOST 1048576: true; the input reads as it did. -/
def fnExactLongestWalkUptoRow : OpenClaim := { program := "ytjffnncfgnhefaa", sum := "b576b6c752cd4b2433823f463f5e95d6ebb5406458382f95edc181decc2602ad", func := "loop.example/g00984/laws.FnExactLongestWalk", spec := "fnExactLongestWalk", apart := false, narrowed := true }
def FnExactLongestWalkUptoSaid : Prop := fnExactLongestWalkUptoRow.holds Try.pinned (OpenSpec.upto fnExactLongestWalkSpec)

/-- 'laws.FnExactIsMinimal', WHERE WHAT IT READS IS OF BULK AT MOST 1048576: true; the input reads as it did. -/
def fnExactIsMinimalUptoRow : OpenClaim := { program := "ytjffnncfgnhefaa", sum := "b576b6c752cd4b2433823f463f5e95d6ebb5406458382f95edc181decc2602ad", func := "loop.example/g00984/laws.FnExactIsMinimal", spec := "fnExactIsMinimal", apart := false, narrowed := true }
def FnExactIsMinimalUptoSaid : Prop := fnExactIsMinimalUptoRow.holds Try.pinned (OpenSpec.upto fnExactIsMinimalSpec)

end Rows
end Go.Proofs.Ytjffnncfgnhefaa
