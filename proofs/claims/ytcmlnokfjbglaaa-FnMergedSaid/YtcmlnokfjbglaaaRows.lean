/-
  No cell of these rows narrows 'for every input' (looked for: loops, veiled, ifaces, maps, wideKeys, modest, calm, conditions, laid).
  DERIVED. THE GIVEN ROWS OF THIS SEAT. 8 by the template 'for every input the law returns true; each argument reads behind the call as it read before'; 0 by the template 'total and deterministic' (their statements: YtcmlnokfjbglaaaTotals.lean).
  GIVEN WITH THE SEED: the statements are not yours to turn. If you find one false, say at which input.
  Laid BY PROGRAM, IN A SANDBOX (cutbox-rows.mjs): the forced cells as the released guide's own fill.sh prints them over the translation 2b7ab93811255b4f… (all of the seat's roots in one cut). By AI agents, Wed Nov 11 2026. No macro, syntax, notation, axiom, sorry.
-/
import Derived.Test.YtcmlnokfjbglaaaChecked
import GoSem.Claim
import GoSem.ClaimJoined
import GoSem.ClaimMapViews
import Derived.JoinedTies
import Derived.KernelRfl
namespace Go.Proofs.Ytcmlnokfjbglaaa
/- THE CELL 'sum', in the pinned program and in every row, IS THE sha256 OF THE DUMP (.gsa) THAT YtcmlnokfjbglaaaProg.lean LOADS. Nothing in Lean hashes anything: it is a label: what it is worth is what the hold of that sum in a sandbox is worth. -/
noncomputable def Try.pinned : Pinned := { name := "ytcmlnokfjbglaaa", sum := "2b7ab93811255b4f388c909e45e5e3acf848b0986c2b33e35e42d36d6f5d886e", checked := Try.checked }
namespace Rows
def none {H : Type} : Left H := { results := [], args := [] }

/-- 'laws.FnMerged': WHATEVER THE INPUT: true; the input reads as it did. -/
def fnMergedSpec : ChangeSpec := { name := "fnMerged", fn := fun _ => fun
  | [d] => { results := [.lit (.bool true)], args := [d] }
  | _ => none }
def fnMergedRow : OpenClaim := { program := "ytcmlnokfjbglaaa", sum := "2b7ab93811255b4f388c909e45e5e3acf848b0986c2b33e35e42d36d6f5d886e", func := "loop.example/g00984/laws.FnMerged", spec := "fnMerged", inPlace := ["slices.overlaps[loop.example/g00984/impl.Depend]"], unfollowed := true, recurses := true, apart := false }
def FnMergedSaid : Prop := fnMergedRow.holds Try.pinned (OpenSpec.ofChange fnMergedSpec)

/-- ITS FALSE NEIGHBOUR: 'it returns false'. Refute it at one input. -/
def fnMergedWrong : ChangeSpec := { name := "fnMerged", fn := fun _ => fun
  | [d] => { results := [.lit (.bool false)], args := [d] }
  | _ => none }
def FnMergedWrongFalsely : Prop := fnMergedRow.holds Try.pinned (OpenSpec.ofChange fnMergedWrong)

/-- 'laws.FnSplitSafe': WHATEVER THE INPUT: true; the input reads as it did. -/
def fnSplitSafeSpec : ChangeSpec := { name := "fnSplitSafe", fn := fun _ => fun
  | [d] => { results := [.lit (.bool true)], args := [d] }
  | _ => none }
def fnSplitSafeRow : OpenClaim := { program := "ytcmlnokfjbglaaa", sum := "2b7ab93811255b4f388c909e45e5e3acf848b0986c2b33e35e42d36d6f5d886e", func := "loop.example/g00984/laws.FnSplitSafe", spec := "fnSplitSafe", inPlace := ["slices.overlaps[loop.example/g00984/impl.Depend]"], unfollowed := true, recurses := true, apart := false }
def FnSplitSafeSaid : Prop := fnSplitSafeRow.holds Try.pinned (OpenSpec.ofChange fnSplitSafeSpec)

/-- ITS FALSE NEIGHBOUR: 'it returns false'. Refute it at one input. -/
def fnSplitSafeWrong : ChangeSpec := { name := "fnSplitSafe", fn := fun _ => fun
  | [d] => { results := [.lit (.bool false)], args := [d] }
  | _ => none }
def FnSplitSafeWrongFalsely : Prop := fnSplitSafeRow.holds Try.pinned (OpenSpec.ofChange fnSplitSafeWrong)

/-- 'laws.FnExactMergeDepends': WHATEVER THE INPUT: true; the input reads as it did. -/
def fnExactMergeDependsSpec : ChangeSpec := { name := "fnExactMergeDepends", fn := fun _ => fun
  | [d1, d2] => { results := [.lit (.bool true)], args := [d1, d2] }
  | _ => none }
def fnExactMergeDependsRow : OpenClaim := { program := "ytcmlnokfjbglaaa", sum := "2b7ab93811255b4f388c909e45e5e3acf848b0986c2b33e35e42d36d6f5d886e", func := "loop.example/g00984/laws.FnExactMergeDepends", spec := "fnExactMergeDepends", apart := false }
def FnExactMergeDependsSaid : Prop := fnExactMergeDependsRow.holds Try.pinned (OpenSpec.ofChange fnExactMergeDependsSpec)

/-- ITS FALSE NEIGHBOUR: 'it returns false'. Refute it at one input. -/
def fnExactMergeDependsWrong : ChangeSpec := { name := "fnExactMergeDepends", fn := fun _ => fun
  | [d1, d2] => { results := [.lit (.bool false)], args := [d1, d2] }
  | _ => none }
def FnExactMergeDependsWrongFalsely : Prop := fnExactMergeDependsRow.holds Try.pinned (OpenSpec.ofChange fnExactMergeDependsWrong)

/-- 'laws.FnExactClassesOk': WHATEVER THE INPUT: true; the input reads as it did. -/
def fnExactClassesOkSpec : ChangeSpec := { name := "fnExactClassesOk", fn := fun _ => fun
  | [d1, d2] => { results := [.lit (.bool true)], args := [d1, d2] }
  | _ => none }
def fnExactClassesOkRow : OpenClaim := { program := "ytcmlnokfjbglaaa", sum := "2b7ab93811255b4f388c909e45e5e3acf848b0986c2b33e35e42d36d6f5d886e", func := "loop.example/g00984/laws.FnExactClassesOk", spec := "fnExactClassesOk", apart := false }
def FnExactClassesOkSaid : Prop := fnExactClassesOkRow.holds Try.pinned (OpenSpec.ofChange fnExactClassesOkSpec)

/-- ITS FALSE NEIGHBOUR: 'it returns false'. Refute it at one input. -/
def fnExactClassesOkWrong : ChangeSpec := { name := "fnExactClassesOk", fn := fun _ => fun
  | [d1, d2] => { results := [.lit (.bool false)], args := [d1, d2] }
  | _ => none }
def FnExactClassesOkWrongFalsely : Prop := fnExactClassesOkRow.holds Try.pinned (OpenSpec.ofChange fnExactClassesOkWrong)

/-- 'laws.FnExactTableFor': WHATEVER THE INPUT: true; the input reads as it did. -/
def fnExactTableForSpec : ChangeSpec := { name := "fnExactTableFor", fn := fun _ => fun
  | [d1, d2] => { results := [.lit (.bool true)], args := [d1, d2] }
  | _ => none }
def fnExactTableForRow : OpenClaim := { program := "ytcmlnokfjbglaaa", sum := "2b7ab93811255b4f388c909e45e5e3acf848b0986c2b33e35e42d36d6f5d886e", func := "loop.example/g00984/laws.FnExactTableFor", spec := "fnExactTableFor", apart := false }
def FnExactTableForSaid : Prop := fnExactTableForRow.holds Try.pinned (OpenSpec.ofChange fnExactTableForSpec)

/-- ITS FALSE NEIGHBOUR: 'it returns false'. Refute it at one input. -/
def fnExactTableForWrong : ChangeSpec := { name := "fnExactTableFor", fn := fun _ => fun
  | [d1, d2] => { results := [.lit (.bool false)], args := [d1, d2] }
  | _ => none }
def FnExactTableForWrongFalsely : Prop := fnExactTableForRow.holds Try.pinned (OpenSpec.ofChange fnExactTableForWrong)

/-- 'laws.FnExactClassDepends': WHATEVER THE INPUT: true; the input reads as it did. -/
def fnExactClassDependsSpec : ChangeSpec := { name := "fnExactClassDepends", fn := fun _ => fun
  | [d1, d2] => { results := [.lit (.bool true)], args := [d1, d2] }
  | _ => none }
def fnExactClassDependsRow : OpenClaim := { program := "ytcmlnokfjbglaaa", sum := "2b7ab93811255b4f388c909e45e5e3acf848b0986c2b33e35e42d36d6f5d886e", func := "loop.example/g00984/laws.FnExactClassDepends", spec := "fnExactClassDepends", inPlace := ["slices.overlaps[loop.example/g00984/impl.Depend]"], unfollowed := true, recurses := true, apart := false }
def FnExactClassDependsSaid : Prop := fnExactClassDependsRow.holds Try.pinned (OpenSpec.ofChange fnExactClassDependsSpec)

/-- ITS FALSE NEIGHBOUR: 'it returns false'. Refute it at one input. -/
def fnExactClassDependsWrong : ChangeSpec := { name := "fnExactClassDepends", fn := fun _ => fun
  | [d1, d2] => { results := [.lit (.bool false)], args := [d1, d2] }
  | _ => none }
def FnExactClassDependsWrongFalsely : Prop := fnExactClassDependsRow.holds Try.pinned (OpenSpec.ofChange fnExactClassDependsWrong)

/-- 'laws.FnExactCheckClasses': WHATEVER THE INPUT: true; the input reads as it did. -/
def fnExactCheckClassesSpec : ChangeSpec := { name := "fnExactCheckClasses", fn := fun _ => fun
  | [d1, d2] => { results := [.lit (.bool true)], args := [d1, d2] }
  | _ => none }
def fnExactCheckClassesRow : OpenClaim := { program := "ytcmlnokfjbglaaa", sum := "2b7ab93811255b4f388c909e45e5e3acf848b0986c2b33e35e42d36d6f5d886e", func := "loop.example/g00984/laws.FnExactCheckClasses", spec := "fnExactCheckClasses", inPlace := ["slices.overlaps[loop.example/g00984/impl.Depend]"], unfollowed := true, recurses := true, apart := false }
def FnExactCheckClassesSaid : Prop := fnExactCheckClassesRow.holds Try.pinned (OpenSpec.ofChange fnExactCheckClassesSpec)

/-- ITS FALSE NEIGHBOUR: 'it returns false'. Refute it at one input. -/
def fnExactCheckClassesWrong : ChangeSpec := { name := "fnExactCheckClasses", fn := fun _ => fun
  | [d1, d2] => { results := [.lit (.bool false)], args := [d1, d2] }
  | _ => none }
def FnExactCheckClassesWrongFalsely : Prop := fnExactCheckClassesRow.holds Try.pinned (OpenSpec.ofChange fnExactCheckClassesWrong)

/-- 'laws.FnExactSplitClasses': WHATEVER THE INPUT: true; the input reads as it did. -/
def fnExactSplitClassesSpec : ChangeSpec := { name := "fnExactSplitClasses", fn := fun _ => fun
  | [d] => { results := [.lit (.bool true)], args := [d] }
  | _ => none }
def fnExactSplitClassesRow : OpenClaim := { program := "ytcmlnokfjbglaaa", sum := "2b7ab93811255b4f388c909e45e5e3acf848b0986c2b33e35e42d36d6f5d886e", func := "loop.example/g00984/laws.FnExactSplitClasses", spec := "fnExactSplitClasses", unfollowed := true, recurses := true, apart := false }
def FnExactSplitClassesSaid : Prop := fnExactSplitClassesRow.holds Try.pinned (OpenSpec.ofChange fnExactSplitClassesSpec)

/-- ITS FALSE NEIGHBOUR: 'it returns false'. Refute it at one input. -/
def fnExactSplitClassesWrong : ChangeSpec := { name := "fnExactSplitClasses", fn := fun _ => fun
  | [d] => { results := [.lit (.bool false)], args := [d] }
  | _ => none }
def FnExactSplitClassesWrongFalsely : Prop := fnExactSplitClassesRow.holds Try.pinned (OpenSpec.ofChange fnExactSplitClassesWrong)

/- THE SECOND FORM. 'bulk': how many values and letters a reading holds, each counted each time it is reached (what is shared counts as often as it is met; a slice's spare places count too). A statement '..UptoSaid' is the law's where the arguments, and the package variables that the reading takes, are together of bulk at most 1048576: NARROWER than '..Said'. Prove '..Said' where nothing that the law and all that it calls make is longer than what came in: it says more and counts as full. Else prove '..UptoSaid'. A law counts once. -/
mutual
def uptoBulk {H : Type} : DataW H → Nat
  | .lit (.string bytes) => bytes.length + 1
  | .lit _ => 1
  | .nil => 1
  | .ptr d => uptoBulk d + 1
  | .slice elems spare => uptoBulkAll elems + uptoBulkAll spare + 1
  | .agg parts => uptoBulkAll parts + 1
  | .iface _ d => uptoBulk d + 1
  | .map entries => uptoBulkEntries entries + 1
  | .held _ => 1
def uptoBulkAll {H : Type} : List (DataW H) → Nat
  | [] => 0
  | d :: r => uptoBulk d + uptoBulkAll r
def uptoBulkEntries {H : Type} : List (Lit × DataW H) → Nat
  | [] => 0
  | x :: r => uptoBulkEntry x + uptoBulkEntries r
def uptoBulkEntry {H : Type} : Lit × DataW H → Nat
  | (.string bytes, d) => bytes.length + uptoBulk d + 1
  | (_, d) => uptoBulk d + 1
 end
def uptoSmall : (H : Type) → List (DataW H) → Bool := fun _ ds => decide (uptoBulkAll ds ≤ 1048576)
def OpenSpec.upto (s : _root_.Go.ChangeSpec) : _root_.Go.OpenSpec := { _root_.Go.OpenSpec.ofChange s with cond := some uptoSmall }

/-- 'laws.FnMerged', WHERE WHAT IT READS IS OF BULK AT MOST 1048576: true; the input reads as it did. -/
def fnMergedUptoRow : OpenClaim := { program := "ytcmlnokfjbglaaa", sum := "2b7ab93811255b4f388c909e45e5e3acf848b0986c2b33e35e42d36d6f5d886e", func := "loop.example/g00984/laws.FnMerged", spec := "fnMerged", inPlace := ["slices.overlaps[loop.example/g00984/impl.Depend]"], unfollowed := true, recurses := true, apart := false, narrowed := true }
def FnMergedUptoSaid : Prop := fnMergedUptoRow.holds Try.pinned (OpenSpec.upto fnMergedSpec)

/-- 'laws.FnSplitSafe', WHERE WHAT IT READS IS OF BULK AT MOST 1048576: true; the input reads as it did. -/
def fnSplitSafeUptoRow : OpenClaim := { program := "ytcmlnokfjbglaaa", sum := "2b7ab93811255b4f388c909e45e5e3acf848b0986c2b33e35e42d36d6f5d886e", func := "loop.example/g00984/laws.FnSplitSafe", spec := "fnSplitSafe", inPlace := ["slices.overlaps[loop.example/g00984/impl.Depend]"], unfollowed := true, recurses := true, apart := false, narrowed := true }
def FnSplitSafeUptoSaid : Prop := fnSplitSafeUptoRow.holds Try.pinned (OpenSpec.upto fnSplitSafeSpec)

/-- 'laws.FnExactMergeDepends', WHERE WHAT IT READS IS OF BULK AT MOST 1048576: true; the input reads as it did. -/
def fnExactMergeDependsUptoRow : OpenClaim := { program := "ytcmlnokfjbglaaa", sum := "2b7ab93811255b4f388c909e45e5e3acf848b0986c2b33e35e42d36d6f5d886e", func := "loop.example/g00984/laws.FnExactMergeDepends", spec := "fnExactMergeDepends", apart := false, narrowed := true }
def FnExactMergeDependsUptoSaid : Prop := fnExactMergeDependsUptoRow.holds Try.pinned (OpenSpec.upto fnExactMergeDependsSpec)

/-- 'laws.FnExactClassesOk', WHERE WHAT IT READS IS OF BULK AT MOST 1048576: true; the input reads as it did. -/
def fnExactClassesOkUptoRow : OpenClaim := { program := "ytcmlnokfjbglaaa", sum := "2b7ab93811255b4f388c909e45e5e3acf848b0986c2b33e35e42d36d6f5d886e", func := "loop.example/g00984/laws.FnExactClassesOk", spec := "fnExactClassesOk", apart := false, narrowed := true }
def FnExactClassesOkUptoSaid : Prop := fnExactClassesOkUptoRow.holds Try.pinned (OpenSpec.upto fnExactClassesOkSpec)

/-- 'laws.FnExactTableFor', WHERE WHAT IT READS IS OF BULK AT MOST 1048576: true; the input reads as it did. -/
def fnExactTableForUptoRow : OpenClaim := { program := "ytcmlnokfjbglaaa", sum := "2b7ab93811255b4f388c909e45e5e3acf848b0986c2b33e35e42d36d6f5d886e", func := "loop.example/g00984/laws.FnExactTableFor", spec := "fnExactTableFor", apart := false, narrowed := true }
def FnExactTableForUptoSaid : Prop := fnExactTableForUptoRow.holds Try.pinned (OpenSpec.upto fnExactTableForSpec)

/-- 'laws.FnExactClassDepends', WHERE WHAT IT READS IS OF BULK AT MOST 1048576: true; the input reads as it did. -/
def fnExactClassDependsUptoRow : OpenClaim := { program := "ytcmlnokfjbglaaa", sum := "2b7ab93811255b4f388c909e45e5e3acf848b0986c2b33e35e42d36d6f5d886e", func := "loop.example/g00984/laws.FnExactClassDepends", spec := "fnExactClassDepends", inPlace := ["slices.overlaps[loop.example/g00984/impl.Depend]"], unfollowed := true, recurses := true, apart := false, narrowed := true }
def FnExactClassDependsUptoSaid : Prop := fnExactClassDependsUptoRow.holds Try.pinned (OpenSpec.upto fnExactClassDependsSpec)

/-- 'laws.FnExactCheckClasses', WHERE WHAT IT READS IS OF BULK AT MOST 1048576: true; the input reads as it did. -/
def fnExactCheckClassesUptoRow : OpenClaim := { program := "ytcmlnokfjbglaaa", sum := "2b7ab93811255b4f388c909e45e5e3acf848b0986c2b33e35e42d36d6f5d886e", func := "loop.example/g00984/laws.FnExactCheckClasses", spec := "fnExactCheckClasses", inPlace := ["slices.overlaps[loop.example/g00984/impl.Depend]"], unfollowed := true, recurses := true, apart := false, narrowed := true }
def FnExactCheckClassesUptoSaid : Prop := fnExactCheckClassesUptoRow.holds Try.pinned (OpenSpec.upto fnExactCheckClassesSpec)

/-- 'laws.FnExactSplitClasses', WHERE WHAT IT READS IS OF BULK AT MOST 1048576: true; the input reads as it did. -/
def fnExactSplitClassesUptoRow : OpenClaim := { program := "ytcmlnokfjbglaaa", sum := "2b7ab93811255b4f388c909e45e5e3acf848b0986c2b33e35e42d36d6f5d886e", func := "loop.example/g00984/laws.FnExactSplitClasses", spec := "fnExactSplitClasses", unfollowed := true, recurses := true, apart := false, narrowed := true }
def FnExactSplitClassesUptoSaid : Prop := fnExactSplitClassesUptoRow.holds Try.pinned (OpenSpec.upto fnExactSplitClassesSpec)

end Rows
end Go.Proofs.Ytcmlnokfjbglaaa
