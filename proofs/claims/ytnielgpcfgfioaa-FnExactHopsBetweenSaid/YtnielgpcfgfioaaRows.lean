/-
  No cell of these rows narrows 'for every input' (looked for: loops, veiled, ifaces, maps, wideKeys, modest, calm, conditions, laid).
  DERIVED. THE GIVEN ROWS OF THIS SEAT. 6 by the template 'for every input the law returns true; each argument reads behind the call as it read before'; 0 by the template 'total and deterministic' (their statements: YtnielgpcfgfioaaTotals.lean).
  GIVEN WITH THE SEED: the statements are not yours to turn. If you find one false, say at which input.
  Laid BY PROGRAM, IN A SANDBOX (cutbox-rows.mjs): the forced cells as the released guide's own fill.sh prints them over the translation fe97618af64d9f70… (all of the seat's roots in one cut). By AI agents, Wed Nov 11 2026. No macro, syntax, notation, axiom, sorry.
-/
import Derived.Test.YtnielgpcfgfioaaChecked
import GoSem.Claim
import GoSem.ClaimJoined
import GoSem.ClaimMapViews
import Derived.JoinedTies
import Derived.KernelRfl
namespace Go.Proofs.Ytnielgpcfgfioaa
/- THE CELL 'sum', in the pinned program and in every row, IS THE sha256 OF THE DUMP (.gsa) THAT YtnielgpcfgfioaaProg.lean LOADS. Nothing in Lean hashes anything: it is a label: what it is worth is what the hold of that sum in a sandbox is worth. -/
noncomputable def Try.pinned : Pinned := { name := "ytnielgpcfgfioaa", sum := "fe97618af64d9f706d2230eb05cea62746bdc241e95740f51f1d2f02ac5e616f", checked := Try.checked }
namespace Rows
def none {H : Type} : Left H := { results := [], args := [] }

/-- 'laws.FnRings': WHATEVER THE INPUT: true; the input reads as it did. -/
def fnRingsSpec : ChangeSpec := { name := "fnRings", fn := fun _ => fun
  | [d] => { results := [.lit (.bool true)], args := [d] }
  | _ => none }
def fnRingsRow : OpenClaim := { program := "ytnielgpcfgfioaa", sum := "fe97618af64d9f706d2230eb05cea62746bdc241e95740f51f1d2f02ac5e616f", func := "loop.example/g00984/laws.FnRings", spec := "fnRings", inPlace := ["slices.overlaps[loop.example/g00984/impl.Depend]"], unfollowed := true, recurses := true, apart := false }
def FnRingsSaid : Prop := fnRingsRow.holds Try.pinned (OpenSpec.ofChange fnRingsSpec)

/-- ITS FALSE NEIGHBOUR: 'it returns false'. Refute it at one input. -/
def fnRingsWrong : ChangeSpec := { name := "fnRings", fn := fun _ => fun
  | [d] => { results := [.lit (.bool false)], args := [d] }
  | _ => none }
def FnRingsWrongFalsely : Prop := fnRingsRow.holds Try.pinned (OpenSpec.ofChange fnRingsWrong)

/-- 'laws.FnHops': WHATEVER THE INPUT: true; the input reads as it did. -/
def fnHopsSpec : ChangeSpec := { name := "fnHops", fn := fun _ => fun
  | [d] => { results := [.lit (.bool true)], args := [d] }
  | _ => none }
def fnHopsRow : OpenClaim := { program := "ytnielgpcfgfioaa", sum := "fe97618af64d9f706d2230eb05cea62746bdc241e95740f51f1d2f02ac5e616f", func := "loop.example/g00984/laws.FnHops", spec := "fnHops", apart := false }
def FnHopsSaid : Prop := fnHopsRow.holds Try.pinned (OpenSpec.ofChange fnHopsSpec)

/-- ITS FALSE NEIGHBOUR: 'it returns false'. Refute it at one input. -/
def fnHopsWrong : ChangeSpec := { name := "fnHops", fn := fun _ => fun
  | [d] => { results := [.lit (.bool false)], args := [d] }
  | _ => none }
def FnHopsWrongFalsely : Prop := fnHopsRow.holds Try.pinned (OpenSpec.ofChange fnHopsWrong)

/-- 'laws.FnExactRingHops': WHATEVER THE INPUT: true; the input reads as it did. -/
def fnExactRingHopsSpec : ChangeSpec := { name := "fnExactRingHops", fn := fun _ => fun
  | [d1, d2, d3, d4] => { results := [.lit (.bool true)], args := [d1, d2, d3, d4] }
  | _ => none }
def fnExactRingHopsRow : OpenClaim := { program := "ytnielgpcfgfioaa", sum := "fe97618af64d9f706d2230eb05cea62746bdc241e95740f51f1d2f02ac5e616f", func := "loop.example/g00984/laws.FnExactRingHops", spec := "fnExactRingHops", apart := false }
def FnExactRingHopsSaid : Prop := fnExactRingHopsRow.holds Try.pinned (OpenSpec.ofChange fnExactRingHopsSpec)

/-- ITS FALSE NEIGHBOUR: 'it returns false'. Refute it at one input. -/
def fnExactRingHopsWrong : ChangeSpec := { name := "fnExactRingHops", fn := fun _ => fun
  | [d1, d2, d3, d4] => { results := [.lit (.bool false)], args := [d1, d2, d3, d4] }
  | _ => none }
def FnExactRingHopsWrongFalsely : Prop := fnExactRingHopsRow.holds Try.pinned (OpenSpec.ofChange fnExactRingHopsWrong)

/-- 'laws.FnExactRingDepends': WHATEVER THE INPUT: true; the input reads as it did. -/
def fnExactRingDependsSpec : ChangeSpec := { name := "fnExactRingDepends", fn := fun _ => fun
  | [d1, d2] => { results := [.lit (.bool true)], args := [d1, d2] }
  | _ => none }
def fnExactRingDependsRow : OpenClaim := { program := "ytnielgpcfgfioaa", sum := "fe97618af64d9f706d2230eb05cea62746bdc241e95740f51f1d2f02ac5e616f", func := "loop.example/g00984/laws.FnExactRingDepends", spec := "fnExactRingDepends", inPlace := ["slices.overlaps[loop.example/g00984/impl.Depend]"], unfollowed := true, recurses := true, apart := false }
def FnExactRingDependsSaid : Prop := fnExactRingDependsRow.holds Try.pinned (OpenSpec.ofChange fnExactRingDependsSpec)

/-- ITS FALSE NEIGHBOUR: 'it returns false'. Refute it at one input. -/
def fnExactRingDependsWrong : ChangeSpec := { name := "fnExactRingDepends", fn := fun _ => fun
  | [d1, d2] => { results := [.lit (.bool false)], args := [d1, d2] }
  | _ => none }
def FnExactRingDependsWrongFalsely : Prop := fnExactRingDependsRow.holds Try.pinned (OpenSpec.ofChange fnExactRingDependsWrong)

/-- 'laws.FnExactRingIsSafe': WHATEVER THE INPUT: true; the input reads as it did. -/
def fnExactRingIsSafeSpec : ChangeSpec := { name := "fnExactRingIsSafe", fn := fun _ => fun
  | [d1, d2] => { results := [.lit (.bool true)], args := [d1, d2] }
  | _ => none }
def fnExactRingIsSafeRow : OpenClaim := { program := "ytnielgpcfgfioaa", sum := "fe97618af64d9f706d2230eb05cea62746bdc241e95740f51f1d2f02ac5e616f", func := "loop.example/g00984/laws.FnExactRingIsSafe", spec := "fnExactRingIsSafe", inPlace := ["slices.overlaps[loop.example/g00984/impl.Depend]"], unfollowed := true, recurses := true, apart := false }
def FnExactRingIsSafeSaid : Prop := fnExactRingIsSafeRow.holds Try.pinned (OpenSpec.ofChange fnExactRingIsSafeSpec)

/-- ITS FALSE NEIGHBOUR: 'it returns false'. Refute it at one input. -/
def fnExactRingIsSafeWrong : ChangeSpec := { name := "fnExactRingIsSafe", fn := fun _ => fun
  | [d1, d2] => { results := [.lit (.bool false)], args := [d1, d2] }
  | _ => none }
def FnExactRingIsSafeWrongFalsely : Prop := fnExactRingIsSafeRow.holds Try.pinned (OpenSpec.ofChange fnExactRingIsSafeWrong)

/-- 'laws.FnExactHopsBetween': WHATEVER THE INPUT: true; the input reads as it did. -/
def fnExactHopsBetweenSpec : ChangeSpec := { name := "fnExactHopsBetween", fn := fun _ => fun
  | [d1, d2, d3] => { results := [.lit (.bool true)], args := [d1, d2, d3] }
  | _ => none }
def fnExactHopsBetweenRow : OpenClaim := { program := "ytnielgpcfgfioaa", sum := "fe97618af64d9f706d2230eb05cea62746bdc241e95740f51f1d2f02ac5e616f", func := "loop.example/g00984/laws.FnExactHopsBetween", spec := "fnExactHopsBetween", apart := false }
def FnExactHopsBetweenSaid : Prop := fnExactHopsBetweenRow.holds Try.pinned (OpenSpec.ofChange fnExactHopsBetweenSpec)

/-- ITS FALSE NEIGHBOUR: 'it returns false'. Refute it at one input. -/
def fnExactHopsBetweenWrong : ChangeSpec := { name := "fnExactHopsBetween", fn := fun _ => fun
  | [d1, d2, d3] => { results := [.lit (.bool false)], args := [d1, d2, d3] }
  | _ => none }
def FnExactHopsBetweenWrongFalsely : Prop := fnExactHopsBetweenRow.holds Try.pinned (OpenSpec.ofChange fnExactHopsBetweenWrong)

/- THE SECOND FORM. 'bulk': how many values and letters a reading holds, each counted each time it is reached (what is shared counts as often as it is met; a slice's spare places count too). A statement '..UptoSaid' is the law's where the arguments, and the package variables that the reading takes, are together of bulk at most 1048576: NARROWER than '..Said'. Prove '..Said' where nothing that the law and all that it calls make is longer than what came in: it says more and counts as full. Else prove '..UptoSaid'. A law counts once. -/
mutual
def uptoBulk {H : Type} : DataW H → Nat
  | .lit (.string bytes) => bytes.length + 1
  | .lit _ => 1
  | .nil => 1
  | .ptr d => uptoBulk d + 1
  | .slice elems spare => uptoBulkAll elems + uptoBulkAll spare + 1
  | .agg parts => uptoBulkAll parts + 1
  | .iface _ d => uptoBulk d + 1
  | .map entries => uptoBulkEntries entries + 1
  | .held _ => 1
def uptoBulkAll {H : Type} : List (DataW H) → Nat
  | [] => 0
  | d :: r => uptoBulk d + uptoBulkAll r
def uptoBulkEntries {H : Type} : List (Lit × DataW H) → Nat
  | [] => 0
  | x :: r => uptoBulkEntry x + uptoBulkEntries r
def uptoBulkEntry {H : Type} : Lit × DataW H → Nat
  | (.string bytes, d) => bytes.length + uptoBulk d + 1
  | (_, d) => uptoBulk d + 1
 end
def uptoSmall : (H : Type) → List (DataW H) → Bool := fun _ ds => decide (uptoBulkAll ds ≤ 1048576)
def OpenSpec.upto (s : _root_.Go.ChangeSpec) : _root_.Go.OpenSpec := { _root_.Go.OpenSpec.ofChange s with cond := some uptoSmall }

/-- 'laws.FnRings', WHERE WHAT IT READS IS OF BULK AT MOST 1048576: true; the input reads as it did. -/
def fnRingsUptoRow : OpenClaim := { program := "ytnielgpcfgfioaa", sum := "fe97618af64d9f706d2230eb05cea62746bdc241e95740f51f1d2f02ac5e616f", func := "loop.example/g00984/laws.FnRings", spec := "fnRings", inPlace := ["slices.overlaps[loop.example/g00984/impl.Depend]"], unfollowed := true, recurses := true, apart := false, narrowed := true }
def FnRingsUptoSaid : Prop := fnRingsUptoRow.holds Try.pinned (OpenSpec.upto fnRingsSpec)

/-- 'laws.FnHops', WHERE WHAT IT READS IS OF BULK AT MOST 1048576: true; the input reads as it did. -/
def fnHopsUptoRow : OpenClaim := { program := "ytnielgpcfgfioaa", sum := "fe97618af64d9f706d2230eb05cea62746bdc241e95740f51f1d2f02ac5e616f", func := "loop.example/g00984/laws.FnHops", spec := "fnHops", apart := false, narrowed := true }
def FnHopsUptoSaid : Prop := fnHopsUptoRow.holds Try.pinned (OpenSpec.upto fnHopsSpec)

/-- 'laws.FnExactRingHops', WHERE WHAT IT READS IS OF BULK AT MOST 1048576: true; the input reads as it did. -/
def fnExactRingHopsUptoRow : OpenClaim := { program := "ytnielgpcfgfioaa", sum := "fe97618af64d9f706d2230eb05cea62746bdc241e95740f51f1d2f02ac5e616f", func := "loop.example/g00984/laws.FnExactRingHops", spec := "fnExactRingHops", apart := false, narrowed := true }
def FnExactRingHopsUptoSaid : Prop := fnExactRingHopsUptoRow.holds Try.pinned (OpenSpec.upto fnExactRingHopsSpec)

/-- 'laws.FnExactRingDepends', WHERE WHAT IT READS IS OF BULK AT MOST 1048576: true; the input reads as it did. -/
def fnExactRingDependsUptoRow : OpenClaim := { program := "ytnielgpcfgfioaa", sum := "fe97618af64d9f706d2230eb05cea62746bdc241e95740f51f1d2f02ac5e616f", func := "loop.example/g00984/laws.FnExactRingDepends", spec := "fnExactRingDepends", inPlace := ["slices.overlaps[loop.example/g00984/impl.Depend]"], unfollowed := true, recurses := true, apart := false, narrowed := true }
def FnExactRingDependsUptoSaid : Prop := fnExactRingDependsUptoRow.holds Try.pinned (OpenSpec.upto fnExactRingDependsSpec)

/-- 'laws.FnExactRingIsSafe', WHERE WHAT IT READS IS OF BULK AT MOST 1048576: true; the input reads as it did. -/
def fnExactRingIsSafeUptoRow : OpenClaim := { program := "ytnielgpcfgfioaa", sum := "fe97618af64d9f706d2230eb05cea62746bdc241e95740f51f1d2f02ac5e616f", func := "loop.example/g00984/laws.FnExactRingIsSafe", spec := "fnExactRingIsSafe", inPlace := ["slices.overlaps[loop.example/g00984/impl.Depend]"], unfollowed := true, recurses := true, apart := false, narrowed := true }
def FnExactRingIsSafeUptoSaid : Prop := fnExactRingIsSafeUptoRow.holds Try.pinned (OpenSpec.upto fnExactRingIsSafeSpec)

/-- 'laws.FnExactHopsBetween', WHERE WHAT IT READS IS OF BULK AT MOST 1048576: true; the input reads as it did. -/
def fnExactHopsBetweenUptoRow : OpenClaim := { program := "ytnielgpcfgfioaa", sum := "fe97618af64d9f706d2230eb05cea62746bdc241e95740f51f1d2f02ac5e616f", func := "loop.example/g00984/laws.FnExactHopsBetween", spec := "fnExactHopsBetween", apart := false, narrowed := true }
def FnExactHopsBetweenUptoSaid : Prop := fnExactHopsBetweenUptoRow.holds Try.pinned (OpenSpec.upto fnExactHopsBetweenSpec)

end Rows
end Go.Proofs.Ytnielgpcfgfioaa
