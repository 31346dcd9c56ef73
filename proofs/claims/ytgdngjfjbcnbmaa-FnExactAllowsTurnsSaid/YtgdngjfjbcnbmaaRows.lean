/-
  No cell of these rows narrows 'for every input' (looked for: loops, veiled, ifaces, maps, wideKeys, modest, calm, conditions, laid).
  DERIVED. THE GIVEN ROWS OF THIS SEAT. 6 by the template 'for every input the law returns true; each argument reads behind the call as it read before'; 0 by the template 'total and deterministic' (their statements: YtgdngjfjbcnbmaaTotals.lean).
  GIVEN WITH THE SEED: the statements are not yours to turn. If you find one false, say at which input.
  Laid BY PROGRAM, IN A SANDBOX (cutbox-rows.mjs): the forced cells as the released guide's own fill.sh prints them over the translation b73e20ab6de2f2c4… (all of the seat's roots in one cut). By AI agents, Wed Nov 11 2026. No macro, syntax, notation, axiom, sorry.
-/
import Derived.Test.YtgdngjfjbcnbmaaChecked
import GoSem.Claim
import GoSem.ClaimJoined
import GoSem.ClaimMapViews
import Derived.JoinedTies
import Derived.KernelRfl
namespace Go.Proofs.Ytgdngjfjbcnbmaa
/- THE CELL 'sum', in the pinned program and in every row, IS THE sha256 OF THE DUMP (.gsa) THAT YtgdngjfjbcnbmaaProg.lean LOADS. Nothing in Lean hashes anything: it is a label: what it is worth is what the hold of that sum in a sandbox is worth. -/
noncomputable def Try.pinned : Pinned := { name := "ytgdngjfjbcnbmaa", sum := "b73e20ab6de2f2c40d22acf977a343567038018a843058880478e5caf62f5462", checked := Try.checked }
namespace Rows
def none {H : Type} : Left H := { results := [], args := [] }

/-- 'laws.FnTurns': WHATEVER THE INPUT: true; the input reads as it did. -/
def fnTurnsSpec : ChangeSpec := { name := "fnTurns", fn := fun _ => fun
  | [d] => { results := [.lit (.bool true)], args := [d] }
  | _ => none }
def fnTurnsRow : OpenClaim := { program := "ytgdngjfjbcnbmaa", sum := "b73e20ab6de2f2c40d22acf977a343567038018a843058880478e5caf62f5462", func := "loop.example/g00984/laws.FnTurns", spec := "fnTurns", unfollowed := true, recurses := true, apart := false }
def FnTurnsSaid : Prop := fnTurnsRow.holds Try.pinned (OpenSpec.ofChange fnTurnsSpec)

/-- ITS FALSE NEIGHBOUR: 'it returns false'. Refute it at one input. -/
def fnTurnsWrong : ChangeSpec := { name := "fnTurns", fn := fun _ => fun
  | [d] => { results := [.lit (.bool false)], args := [d] }
  | _ => none }
def FnTurnsWrongFalsely : Prop := fnTurnsRow.holds Try.pinned (OpenSpec.ofChange fnTurnsWrong)

/-- 'laws.FnExactTurnsOf': WHATEVER THE INPUT: true; the input reads as it did. -/
def fnExactTurnsOfSpec : ChangeSpec := { name := "fnExactTurnsOf", fn := fun _ => fun
  | [d1, d2] => { results := [.lit (.bool true)], args := [d1, d2] }
  | _ => none }
def fnExactTurnsOfRow : OpenClaim := { program := "ytgdngjfjbcnbmaa", sum := "b73e20ab6de2f2c40d22acf977a343567038018a843058880478e5caf62f5462", func := "loop.example/g00984/laws.FnExactTurnsOf", spec := "fnExactTurnsOf", unfollowed := true, recurses := true, apart := false }
def FnExactTurnsOfSaid : Prop := fnExactTurnsOfRow.holds Try.pinned (OpenSpec.ofChange fnExactTurnsOfSpec)

/-- ITS FALSE NEIGHBOUR: 'it returns false'. Refute it at one input. -/
def fnExactTurnsOfWrong : ChangeSpec := { name := "fnExactTurnsOf", fn := fun _ => fun
  | [d1, d2] => { results := [.lit (.bool false)], args := [d1, d2] }
  | _ => none }
def FnExactTurnsOfWrongFalsely : Prop := fnExactTurnsOfRow.holds Try.pinned (OpenSpec.ofChange fnExactTurnsOfWrong)

/-- 'laws.FnExactIsReversal': WHATEVER THE INPUT: true; the input reads as it did. -/
def fnExactIsReversalSpec : ChangeSpec := { name := "fnExactIsReversal", fn := fun _ => fun
  | [d] => { results := [.lit (.bool true)], args := [d] }
  | _ => none }
def fnExactIsReversalRow : OpenClaim := { program := "ytgdngjfjbcnbmaa", sum := "b73e20ab6de2f2c40d22acf977a343567038018a843058880478e5caf62f5462", func := "loop.example/g00984/laws.FnExactIsReversal", spec := "fnExactIsReversal", apart := false }
def FnExactIsReversalSaid : Prop := fnExactIsReversalRow.holds Try.pinned (OpenSpec.ofChange fnExactIsReversalSpec)

/-- ITS FALSE NEIGHBOUR: 'it returns false'. Refute it at one input. -/
def fnExactIsReversalWrong : ChangeSpec := { name := "fnExactIsReversal", fn := fun _ => fun
  | [d] => { results := [.lit (.bool false)], args := [d] }
  | _ => none }
def FnExactIsReversalWrongFalsely : Prop := fnExactIsReversalRow.holds Try.pinned (OpenSpec.ofChange fnExactIsReversalWrong)

/-- 'laws.FnExactTurnName': WHATEVER THE INPUT: true; the input reads as it did. -/
def fnExactTurnNameSpec : ChangeSpec := { name := "fnExactTurnName", fn := fun _ => fun
  | [d] => { results := [.lit (.bool true)], args := [d] }
  | _ => none }
def fnExactTurnNameRow : OpenClaim := { program := "ytgdngjfjbcnbmaa", sum := "b73e20ab6de2f2c40d22acf977a343567038018a843058880478e5caf62f5462", func := "loop.example/g00984/laws.FnExactTurnName", spec := "fnExactTurnName", apart := false }
def FnExactTurnNameSaid : Prop := fnExactTurnNameRow.holds Try.pinned (OpenSpec.ofChange fnExactTurnNameSpec)

/-- ITS FALSE NEIGHBOUR: 'it returns false'. Refute it at one input. -/
def fnExactTurnNameWrong : ChangeSpec := { name := "fnExactTurnName", fn := fun _ => fun
  | [d] => { results := [.lit (.bool false)], args := [d] }
  | _ => none }
def FnExactTurnNameWrongFalsely : Prop := fnExactTurnNameRow.holds Try.pinned (OpenSpec.ofChange fnExactTurnNameWrong)

/-- 'laws.FnExactAllowsTurns': WHATEVER THE INPUT: true; the input reads as it did. -/
def fnExactAllowsTurnsSpec : ChangeSpec := { name := "fnExactAllowsTurns", fn := fun _ => fun
  | [d1, d2, d3] => { results := [.lit (.bool true)], args := [d1, d2, d3] }
  | _ => none }
def fnExactAllowsTurnsRow : OpenClaim := { program := "ytgdngjfjbcnbmaa", sum := "b73e20ab6de2f2c40d22acf977a343567038018a843058880478e5caf62f5462", func := "loop.example/g00984/laws.FnExactAllowsTurns", spec := "fnExactAllowsTurns", unfollowed := true, recurses := true, apart := false }
def FnExactAllowsTurnsSaid : Prop := fnExactAllowsTurnsRow.holds Try.pinned (OpenSpec.ofChange fnExactAllowsTurnsSpec)

/-- ITS FALSE NEIGHBOUR: 'it returns false'. Refute it at one input. -/
def fnExactAllowsTurnsWrong : ChangeSpec := { name := "fnExactAllowsTurns", fn := fun _ => fun
  | [d1, d2, d3] => { results := [.lit (.bool false)], args := [d1, d2, d3] }
  | _ => none }
def FnExactAllowsTurnsWrongFalsely : Prop := fnExactAllowsTurnsRow.holds Try.pinned (OpenSpec.ofChange fnExactAllowsTurnsWrong)

/-- 'laws.FnExactTurnsOfRule': WHATEVER THE INPUT: true; the input reads as it did. -/
def fnExactTurnsOfRuleSpec : ChangeSpec := { name := "fnExactTurnsOfRule", fn := fun _ => fun
  | [d] => { results := [.lit (.bool true)], args := [d] }
  | _ => none }
def fnExactTurnsOfRuleRow : OpenClaim := { program := "ytgdngjfjbcnbmaa", sum := "b73e20ab6de2f2c40d22acf977a343567038018a843058880478e5caf62f5462", func := "loop.example/g00984/laws.FnExactTurnsOfRule", spec := "fnExactTurnsOfRule", unfollowed := true, recurses := true, apart := false }
def FnExactTurnsOfRuleSaid : Prop := fnExactTurnsOfRuleRow.holds Try.pinned (OpenSpec.ofChange fnExactTurnsOfRuleSpec)

/-- ITS FALSE NEIGHBOUR: 'it returns false'. Refute it at one input. -/
def fnExactTurnsOfRuleWrong : ChangeSpec := { name := "fnExactTurnsOfRule", fn := fun _ => fun
  | [d] => { results := [.lit (.bool false)], args := [d] }
  | _ => none }
def FnExactTurnsOfRuleWrongFalsely : Prop := fnExactTurnsOfRuleRow.holds Try.pinned (OpenSpec.ofChange fnExactTurnsOfRuleWrong)

/- THE SECOND FORM. 'bulk': how many values and letters a reading holds, each counted each time it is reached (what is shared counts as often as it is met; a slice's spare places count too). A statement '..UptoSaid' is the law's where the arguments, and the package variables that the reading takes, are together of bulk at most 1048576: NARROWER than '..Said'. Prove '..Said' where nothing that the law and all that it calls make is longer than what came in: it says more and counts as full. Else prove '..UptoSaid'. A law counts once. -/
mutual
def uptoBulk {H : Type} : DataW H → Nat
  | .lit (.string bytes) => bytes.length + 1
  | .lit _ => 1
  | .nil => 1
  | .ptr d => uptoBulk d + 1
  | .slice elems spare => uptoBulkAll elems + uptoBulkAll spare + 1
  | .agg parts => uptoBulkAll parts + 1
  | .iface _ d => uptoBulk d + 1
  | .map entries => uptoBulkEntries entries + 1
  | .held _ => 1
def uptoBulkAll {H : Type} : List (DataW H) → Nat
  | [] => 0
  | d :: r => uptoBulk d + uptoBulkAll r
def uptoBulkEntries {H : Type} : List (Lit × DataW H) → Nat
  | [] => 0
  | x :: r => uptoBulkEntry x + uptoBulkEntries r
def uptoBulkEntry {H : Type} : Lit × DataW H → Nat
  | (.string bytes, d) => bytes.length + uptoBulk d + 1
  | (_, d) => uptoBulk d + 1
 end
def uptoSmall : (H : Type) → List (DataW H) → Bool := fun _ ds => decide (uptoBulkAll ds ≤ 1048576)
def OpenSpec.upto (s : _root_.Go.ChangeSpec) : _root_.Go.OpenSpec := { _root_.Go.OpenSpec.ofChange s with cond := some uptoSmall }

/-- 'laws.FnTurns', WHERE WHAT IT READS IS OF BULK AT MOST 1048576: true; the input reads as it did. -/
def fnTurnsUptoRow : OpenClaim := { program := "ytgdngjfjbcnbmaa", sum := "b73e20ab6de2f2c40d22acf977a343567038018a843058880478e5caf62f5462", func := "loop.example/g00984/laws.FnTurns", spec := "fnTurns", unfollowed := true, recurses := true, apart := false, narrowed := true }
def FnTurnsUptoSaid : Prop := fnTurnsUptoRow.holds Try.pinned (OpenSpec.upto fnTurnsSpec)

/-- 'laws.FnExactTurnsOf', WHERE WHAT IT READS IS OF BULK AT MOST 1048576: true; the input reads as it did. -/
def fnExactTurnsOfUptoRow : OpenClaim := { program := "ytgdngjfjbcnbmaa", sum := "b73e20ab6de2f2c40d22acf977a343567038018a843058880478e5caf62f5462", func := "loop.example/g00984/laws.FnExactTurnsOf", spec := "fnExactTurnsOf", unfollowed := true, recurses := true, apart := false, narrowed := true }
def FnExactTurnsOfUptoSaid : Prop := fnExactTurnsOfUptoRow.holds Try.pinned (OpenSpec.upto fnExactTurnsOfSpec)

/-- 'laws.FnExactIsReversal', WHERE WHAT IT READS IS OF BULK AT MOST 1048576: true; the input reads as it did. -/
def fnExactIsReversalUptoRow : OpenClaim := { program := "ytgdngjfjbcnbmaa", sum := "b73e20ab6de2f2c40d22acf977a343567038018a843058880478e5caf62f5462", func := "loop.example/g00984/laws.FnExactIsReversal", spec := "fnExactIsReversal", apart := false, narrowed := true }
def FnExactIsReversalUptoSaid : Prop := fnExactIsReversalUptoRow.holds Try.pinned (OpenSpec.upto fnExactIsReversalSpec)

/-- 'laws.FnExactTurnName', WHERE WHAT IT READS IS OF BULK AT MOST 1048576: true; the input reads as it did. -/
def fnExactTurnNameUptoRow : OpenClaim := { program := "ytgdngjfjbcnbmaa", sum := "b73e20ab6de2f2c40d22acf977a343567038018a843058880478e5caf62f5462", func := "loop.example/g00984/laws.FnExactTurnName", spec := "fnExactTurnName", apart := false, narrowed := true }
def FnExactTurnNameUptoSaid : Prop := fnExactTurnNameUptoRow.holds Try.pinned (OpenSpec.upto fnExactTurnNameSpec)

/-- 'laws.FnExactAllowsTurns', WHERE WHAT IT READS IS OF BULK AT MOST 1048576: true; the input reads as it did. -/
def fnExactAllowsTurnsUptoRow : OpenClaim := { program := "ytgdngjfjbcnbmaa", sum := "b73e20ab6de2f2c40d22acf977a343567038018a843058880478e5caf62f5462", func := "loop.example/g00984/laws.FnExactAllowsTurns", spec := "fnExactAllowsTurns", unfollowed := true, recurses := true, apart := false, narrowed := true }
def FnExactAllowsTurnsUptoSaid : Prop := fnExactAllowsTurnsUptoRow.holds Try.pinned (OpenSpec.upto fnExactAllowsTurnsSpec)

/-- 'laws.FnExactTurnsOfRule', WHERE WHAT IT READS IS OF BULK AT MOST 1048576: true; the input reads as it did. -/
def fnExactTurnsOfRuleUptoRow : OpenClaim := { program := "ytgdngjfjbcnbmaa", sum := "b73e20ab6de2f2c40d22acf977a343567038018a843058880478e5caf62f5462", func := "loop.example/g00984/laws.FnExactTurnsOfRule", spec := "fnExactTurnsOfRule", unfollowed := true, recurses := true, apart := false, narrowed := true }
def FnExactTurnsOfRuleUptoSaid : Prop := fnExactTurnsOfRuleUptoRow.holds Try.pinned (OpenSpec.upto fnExactTurnsOfRuleSpec)

end Rows
end Go.Proofs.Ytgdngjfjbcnbmaa
