/-
  No cell of these rows narrows 'for every input' (looked for: loops, veiled, ifaces, maps, wideKeys, modest, calm, conditions, laid).
  DERIVED. THE GIVEN ROWS OF THIS SEAT. 7 by the template 'for every input the law returns true; each argument reads behind the call as it read before'; 0 by the template 'total and deterministic' (their statements: YtnpjadofhpaapaaTotals.lean).
  GIVEN WITH THE SEED: the statements are not yours to turn. If you find one false, say at which input.
  Laid BY PROGRAM, IN A SANDBOX (cutbox-rows.mjs): the forced cells as the released guide's own fill.sh prints them over the translation 743d9c6b7ab993a7… (all of the seat's roots in one cut). By AI agents, Wed Nov 11 2026. No macro, syntax, notation, axiom, sorry.
-/
import Derived.Test.YtnpjadofhpaapaaChecked
import GoSem.Claim
import GoSem.ClaimJoined
import GoSem.ClaimMapViews
import Derived.JoinedTies
import Derived.KernelRfl
namespace Go.Proofs.Ytnpjadofhpaapaa
/- THE CELL 'sum', in the pinned program and in every row, IS THE sha256 OF THE DUMP (.gsa) THAT YtnpjadofhpaapaaProg.lean LOADS. Nothing in Lean hashes anything: it is a label: what it is worth is what the hold of that sum in a sandbox is worth. -/
noncomputable def Try.pinned : Pinned := { name := "ytnpjadofhpaapaa", sum := "743d9c6b7ab993a7d3e2b4fc3bc6bc7f2f443bbd34d2d1ba7b45c09d70b734f3", checked := Try.checked }
namespace Rows
def none {H : Type} : Left H := { results := [], args := [] }

/-- 'laws.FnDepends': WHATEVER THE INPUT: true; the input reads as it did. -/
def fnDependsSpec : ChangeSpec := { name := "fnDepends", fn := fun _ => fun
  | [d] => { results := [.lit (.bool true)], args := [d] }
  | _ => none }
def fnDependsRow : OpenClaim := { program := "ytnpjadofhpaapaa", sum := "743d9c6b7ab993a7d3e2b4fc3bc6bc7f2f443bbd34d2d1ba7b45c09d70b734f3", func := "loop.example/g00984/laws.FnDepends", spec := "fnDepends", inPlace := ["slices.overlaps[loop.example/g00984/impl.Depend]"], unfollowed := true, recurses := true, apart := false }
def FnDependsSaid : Prop := fnDependsRow.holds Try.pinned (OpenSpec.ofChange fnDependsSpec)

/-- ITS FALSE NEIGHBOUR: 'it returns false'. Refute it at one input. -/
def fnDependsWrong : ChangeSpec := { name := "fnDepends", fn := fun _ => fun
  | [d] => { results := [.lit (.bool false)], args := [d] }
  | _ => none }
def FnDependsWrongFalsely : Prop := fnDependsRow.holds Try.pinned (OpenSpec.ofChange fnDependsWrong)

/-- 'laws.FnMerged': WHATEVER THE INPUT: true; the input reads as it did. -/
def fnMergedSpec : ChangeSpec := { name := "fnMerged", fn := fun _ => fun
  | [d] => { results := [.lit (.bool true)], args := [d] }
  | _ => none }
def fnMergedRow : OpenClaim := { program := "ytnpjadofhpaapaa", sum := "743d9c6b7ab993a7d3e2b4fc3bc6bc7f2f443bbd34d2d1ba7b45c09d70b734f3", func := "loop.example/g00984/laws.FnMerged", spec := "fnMerged", inPlace := ["slices.overlaps[loop.example/g00984/impl.Depend]"], unfollowed := true, recurses := true, apart := false }
def FnMergedSaid : Prop := fnMergedRow.holds Try.pinned (OpenSpec.ofChange fnMergedSpec)

/-- ITS FALSE NEIGHBOUR: 'it returns false'. Refute it at one input. -/
def fnMergedWrong : ChangeSpec := { name := "fnMerged", fn := fun _ => fun
  | [d] => { results := [.lit (.bool false)], args := [d] }
  | _ => none }
def FnMergedWrongFalsely : Prop := fnMergedRow.holds Try.pinned (OpenSpec.ofChange fnMergedWrong)

/-- 'laws.FnExactDependsOf': WHATEVER THE INPUT: true; the input reads as it did. -/
def fnExactDependsOfSpec : ChangeSpec := { name := "fnExactDependsOf", fn := fun _ => fun
  | [d1, d2] => { results := [.lit (.bool true)], args := [d1, d2] }
  | _ => none }
def fnExactDependsOfRow : OpenClaim := { program := "ytnpjadofhpaapaa", sum := "743d9c6b7ab993a7d3e2b4fc3bc6bc7f2f443bbd34d2d1ba7b45c09d70b734f3", func := "loop.example/g00984/laws.FnExactDependsOf", spec := "fnExactDependsOf", inPlace := ["slices.overlaps[loop.example/g00984/impl.Depend]"], unfollowed := true, recurses := true, apart := false }
def FnExactDependsOfSaid : Prop := fnExactDependsOfRow.holds Try.pinned (OpenSpec.ofChange fnExactDependsOfSpec)

/-- ITS FALSE NEIGHBOUR: 'it returns false'. Refute it at one input. -/
def fnExactDependsOfWrong : ChangeSpec := { name := "fnExactDependsOf", fn := fun _ => fun
  | [d1, d2] => { results := [.lit (.bool false)], args := [d1, d2] }
  | _ => none }
def FnExactDependsOfWrongFalsely : Prop := fnExactDependsOfRow.holds Try.pinned (OpenSpec.ofChange fnExactDependsOfWrong)

/-- 'laws.FnExactDependsOk': WHATEVER THE INPUT: true; the input reads as it did. -/
def fnExactDependsOkSpec : ChangeSpec := { name := "fnExactDependsOk", fn := fun _ => fun
  | [d] => { results := [.lit (.bool true)], args := [d] }
  | _ => none }
def fnExactDependsOkRow : OpenClaim := { program := "ytnpjadofhpaapaa", sum := "743d9c6b7ab993a7d3e2b4fc3bc6bc7f2f443bbd34d2d1ba7b45c09d70b734f3", func := "loop.example/g00984/laws.FnExactDependsOk", spec := "fnExactDependsOk", apart := false }
def FnExactDependsOkSaid : Prop := fnExactDependsOkRow.holds Try.pinned (OpenSpec.ofChange fnExactDependsOkSpec)

/-- ITS FALSE NEIGHBOUR: 'it returns false'. Refute it at one input. -/
def fnExactDependsOkWrong : ChangeSpec := { name := "fnExactDependsOk", fn := fun _ => fun
  | [d] => { results := [.lit (.bool false)], args := [d] }
  | _ => none }
def FnExactDependsOkWrongFalsely : Prop := fnExactDependsOkRow.holds Try.pinned (OpenSpec.ofChange fnExactDependsOkWrong)

/-- 'laws.FnExactMergeDepends': WHATEVER THE INPUT: true; the input reads as it did. -/
def fnExactMergeDependsSpec : ChangeSpec := { name := "fnExactMergeDepends", fn := fun _ => fun
  | [d1, d2] => { results := [.lit (.bool true)], args := [d1, d2] }
  | _ => none }
def fnExactMergeDependsRow : OpenClaim := { program := "ytnpjadofhpaapaa", sum := "743d9c6b7ab993a7d3e2b4fc3bc6bc7f2f443bbd34d2d1ba7b45c09d70b734f3", func := "loop.example/g00984/laws.FnExactMergeDepends", spec := "fnExactMergeDepends", inPlace := ["slices.overlaps[loop.example/g00984/impl.Depend]"], unfollowed := true, recurses := true, apart := false }
def FnExactMergeDependsSaid : Prop := fnExactMergeDependsRow.holds Try.pinned (OpenSpec.ofChange fnExactMergeDependsSpec)

/-- ITS FALSE NEIGHBOUR: 'it returns false'. Refute it at one input. -/
def fnExactMergeDependsWrong : ChangeSpec := { name := "fnExactMergeDepends", fn := fun _ => fun
  | [d1, d2] => { results := [.lit (.bool false)], args := [d1, d2] }
  | _ => none }
def FnExactMergeDependsWrongFalsely : Prop := fnExactMergeDependsRow.holds Try.pinned (OpenSpec.ofChange fnExactMergeDependsWrong)

/-- 'laws.FnExactSuccessorsOf': WHATEVER THE INPUT: true; the input reads as it did. -/
def fnExactSuccessorsOfSpec : ChangeSpec := { name := "fnExactSuccessorsOf", fn := fun _ => fun
  | [d1, d2] => { results := [.lit (.bool true)], args := [d1, d2] }
  | _ => none }
def fnExactSuccessorsOfRow : OpenClaim := { program := "ytnpjadofhpaapaa", sum := "743d9c6b7ab993a7d3e2b4fc3bc6bc7f2f443bbd34d2d1ba7b45c09d70b734f3", func := "loop.example/g00984/laws.FnExactSuccessorsOf", spec := "fnExactSuccessorsOf", apart := false }
def FnExactSuccessorsOfSaid : Prop := fnExactSuccessorsOfRow.holds Try.pinned (OpenSpec.ofChange fnExactSuccessorsOfSpec)

/-- ITS FALSE NEIGHBOUR: 'it returns false'. Refute it at one input. -/
def fnExactSuccessorsOfWrong : ChangeSpec := { name := "fnExactSuccessorsOf", fn := fun _ => fun
  | [d1, d2] => { results := [.lit (.bool false)], args := [d1, d2] }
  | _ => none }
def FnExactSuccessorsOfWrongFalsely : Prop := fnExactSuccessorsOfRow.holds Try.pinned (OpenSpec.ofChange fnExactSuccessorsOfWrong)

/-- 'laws.FnExactShiftDepends': WHATEVER THE INPUT: true; the input reads as it did. -/
def fnExactShiftDependsSpec : ChangeSpec := { name := "fnExactShiftDepends", fn := fun _ => fun
  | [d1, d2] => { results := [.lit (.bool true)], args := [d1, d2] }
  | _ => none }
def fnExactShiftDependsRow : OpenClaim := { program := "ytnpjadofhpaapaa", sum := "743d9c6b7ab993a7d3e2b4fc3bc6bc7f2f443bbd34d2d1ba7b45c09d70b734f3", func := "loop.example/g00984/laws.FnExactShiftDepends", spec := "fnExactShiftDepends", apart := false }
def FnExactShiftDependsSaid : Prop := fnExactShiftDependsRow.holds Try.pinned (OpenSpec.ofChange fnExactShiftDependsSpec)

/-- ITS FALSE NEIGHBOUR: 'it returns false'. Refute it at one input. -/
def fnExactShiftDependsWrong : ChangeSpec := { name := "fnExactShiftDepends", fn := fun _ => fun
  | [d1, d2] => { results := [.lit (.bool false)], args := [d1, d2] }
  | _ => none }
def FnExactShiftDependsWrongFalsely : Prop := fnExactShiftDependsRow.holds Try.pinned (OpenSpec.ofChange fnExactShiftDependsWrong)

/- THE SECOND FORM. 'bulk': how many values and letters a reading holds, each counted each time it is reached (what is shared counts as often as it is met; a slice's spare places count too). A statement '..UptoSaid' is the law's where the arguments, and the package variables that the reading takes, are together of bulk at most 1048576: NARROWER than '..Said'. Prove '..Said' where nothing that the law and all that it calls make is longer than what came in: it says more and counts as full. Else prove '..UptoSaid'. A law counts once. -/
mutual
def uptoBulk {H : Type} : DataW H → Nat
  | .lit (.string bytes) => bytes.length + 1
  | .lit _ => 1
  | .nil => 1
  | .ptr d => uptoBulk d + 1
  | .slice elems spare => uptoBulkAll elems + uptoBulkAll spare + 1
  | .agg parts => uptoBulkAll parts + 1
  | .iface _ d => uptoBulk d + 1
  | .map entries => uptoBulkEntries entries + 1
  | .held _ => 1
def uptoBulkAll {H : Type} : List (DataW H) → Nat
  | [] => 0
  | d :: r => uptoBulk d + uptoBulkAll r
def uptoBulkEntries {H : Type} : List (Lit × DataW H) → Nat
  | [] => 0
  | x :: r => uptoBulkEntry x + uptoBulkEntries r
def uptoBulkEntry {H : Type} : Lit × DataW H → Nat
  | (.string bytes, d) => bytes.length + uptoBulk d + 1
  | (_, d) => uptoBulk d + 1
 end
def uptoSmall : (H : Type) → List (DataW H) → Bool := fun _ ds => decide (uptoBulkAll ds ≤ 1048576)
def OpenSpec.upto (s : _root_.Go.ChangeSpec) : _root_.Go.OpenSpec := { _root_.Go.OpenSpec.ofChange s with cond := some uptoSmall }

/-- 'laws.FnDepends', WHERE WHAT IT READS IS OF BULK AT MOST 1048576: true; the input reads as it did. -/
def fnDependsUptoRow : OpenClaim := { program := "ytnpjadofhpaapaa", sum := "743d9c6b7ab993a7d3e2b4fc3bc6bc7f2f443bbd34d2d1ba7b45c09d70b734f3", func := "loop.example/g00984/laws.FnDepends", spec := "fnDepends", inPlace := ["slices.overlaps[loop.example/g00984/impl.Depend]"], unfollowed := true, recurses := true, apart := false, narrowed := true }
def FnDependsUptoSaid : Prop := fnDependsUptoRow.holds Try.pinned (OpenSpec.upto fnDependsSpec)

/-- 'laws.FnMerged', WHERE WHAT IT READS IS OF BULK AT MOST 1048576: true; the input reads as it did. -/
def fnMergedUptoRow : OpenClaim := { program := "ytnpjadofhpaapaa", sum := "743d9c6b7ab993a7d3e2b4fc3bc6bc7f2f443bbd34d2d1ba7b45c09d70b734f3", func := "loop.example/g00984/laws.FnMerged", spec := "fnMerged", inPlace := ["slices.overlaps[loop.example/g00984/impl.Depend]"], unfollowed := true, recurses := true, apart := false, narrowed := true }
def FnMergedUptoSaid : Prop := fnMergedUptoRow.holds Try.pinned (OpenSpec.upto fnMergedSpec)

/-- 'laws.FnExactDependsOf', WHERE WHAT IT READS IS OF BULK AT MOST 1048576: true; the input reads as it did. -/
def fnExactDependsOfUptoRow : OpenClaim := { program := "ytnpjadofhpaapaa", sum := "743d9c6b7ab993a7d3e2b4fc3bc6bc7f2f443bbd34d2d1ba7b45c09d70b734f3", func := "loop.example/g00984/laws.FnExactDependsOf", spec := "fnExactDependsOf", inPlace := ["slices.overlaps[loop.example/g00984/impl.Depend]"], unfollowed := true, recurses := true, apart := false, narrowed := true }
def FnExactDependsOfUptoSaid : Prop := fnExactDependsOfUptoRow.holds Try.pinned (OpenSpec.upto fnExactDependsOfSpec)

/-- 'laws.FnExactDependsOk', WHERE WHAT IT READS IS OF BULK AT MOST 1048576: true; the input reads as it did. -/
def fnExactDependsOkUptoRow : OpenClaim := { program := "ytnpjadofhpaapaa", sum := "743d9c6b7ab993a7d3e2b4fc3bc6bc7f2f443bbd34d2d1ba7b45c09d70b734f3", func := "loop.example/g00984/laws.FnExactDependsOk", spec := "fnExactDependsOk", apart := false, narrowed := true }
def FnExactDependsOkUptoSaid : Prop := fnExactDependsOkUptoRow.holds Try.pinned (OpenSpec.upto fnExactDependsOkSpec)

/-- 'laws.FnExactMergeDepends', WHERE WHAT IT READS IS OF BULK AT MOST 1048576: true; the input reads as it did. -/
def fnExactMergeDependsUptoRow : OpenClaim := { program := "ytnpjadofhpaapaa", sum := "743d9c6b7ab993a7d3e2b4fc3bc6bc7f2f443bbd34d2d1ba7b45c09d70b734f3", func := "loop.example/g00984/laws.FnExactMergeDepends", spec := "fnExactMergeDepends", inPlace := ["slices.overlaps[loop.example/g00984/impl.Depend]"], unfollowed := true, recurses := true, apart := false, narrowed := true }
def FnExactMergeDependsUptoSaid : Prop := fnExactMergeDependsUptoRow.holds Try.pinned (OpenSpec.upto fnExactMergeDependsSpec)

/-- 'laws.FnExactSuccessorsOf', WHERE WHAT IT READS IS OF BULK AT MOST 1048576: true; the input reads as it did. -/
def fnExactSuccessorsOfUptoRow : OpenClaim := { program := "ytnpjadofhpaapaa", sum := "743d9c6b7ab993a7d3e2b4fc3bc6bc7f2f443bbd34d2d1ba7b45c09d70b734f3", func := "loop.example/g00984/laws.FnExactSuccessorsOf", spec := "fnExactSuccessorsOf", apart := false, narrowed := true }
def FnExactSuccessorsOfUptoSaid : Prop := fnExactSuccessorsOfUptoRow.holds Try.pinned (OpenSpec.upto fnExactSuccessorsOfSpec)

/-- 'laws.FnExactShiftDepends', WHERE WHAT IT READS IS OF BULK AT MOST 1048576: true; the input reads as it did. -/
def fnExactShiftDependsUptoRow : OpenClaim := { program := "ytnpjadofhpaapaa", sum := "743d9c6b7ab993a7d3e2b4fc3bc6bc7f2f443bbd34d2d1ba7b45c09d70b734f3", func := "loop.example/g00984/laws.FnExactShiftDepends", spec := "fnExactShiftDepends", apart := false, narrowed := true }
def FnExactShiftDependsUptoSaid : Prop := fnExactShiftDependsUptoRow.holds Try.pinned (OpenSpec.upto fnExactShiftDependsSpec)

end Rows
end Go.Proofs.Ytnpjadofhpaapaa
