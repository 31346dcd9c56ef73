/-
  No cell of these rows narrows 'for every input' (looked for: loops, veiled, ifaces, maps, wideKeys, modest, calm, conditions, laid).
  DERIVED. THE GIVEN ROWS OF THIS SEAT. 6 by the template 'for every input the law returns true; each argument reads behind the call as it read before'; 0 by the template 'total and deterministic' (their statements: YtcjidpegmlbenaaTotals.lean).
  GIVEN WITH THE SEED: the statements are not yours to turn. If you find one false, say at which input.
  Laid BY PROGRAM, IN A SANDBOX (cutbox-rows.mjs): the forced cells as the released guide's own fill.sh prints them over the translation 86455df2679acf98… (all of the seat's roots in one cut). By AI agents, Wed Nov 11 2026. No macro, syntax, notation, axiom, sorry.
-/
import Derived.Test.YtcjidpegmlbenaaChecked
import GoSem.Claim
import GoSem.ClaimJoined
import GoSem.ClaimMapViews
import Derived.JoinedTies
import Derived.KernelRfl
namespace Go.Proofs.Ytcjidpegmlbenaa
/- THE CELL 'sum', in the pinned program and in every row, IS THE sha256 OF THE DUMP (.gsa) THAT YtcjidpegmlbenaaProg.lean LOADS. Nothing in Lean hashes anything: it is a label: what it is worth is what the hold of that sum in a sandbox is worth. -/
noncomputable def Try.pinned : Pinned := { name := "ytcjidpegmlbenaa", sum := "86455df2679acf98a3264fd14b691bddc9e2bc27c91c8f3d3ae6ae4868d97e39", checked := Try.checked }
namespace Rows
def none {H : Type} : Left H := { results := [], args := [] }

/-- 'laws.FnFlits': WHATEVER THE INPUT: true; the input reads as it did. -/
def fnFlitsSpec : ChangeSpec := { name := "fnFlits", fn := fun _ => fun
  | [d] => { results := [.lit (.bool true)], args := [d] }
  | _ => none }
def fnFlitsRow : OpenClaim := { program := "ytcjidpegmlbenaa", sum := "86455df2679acf98a3264fd14b691bddc9e2bc27c91c8f3d3ae6ae4868d97e39", func := "loop.example/g00984/laws.FnFlits", spec := "fnFlits", apart := false }
def FnFlitsSaid : Prop := fnFlitsRow.holds Try.pinned (OpenSpec.ofChange fnFlitsSpec)

/-- ITS FALSE NEIGHBOUR: 'it returns false'. Refute it at one input. -/
def fnFlitsWrong : ChangeSpec := { name := "fnFlits", fn := fun _ => fun
  | [d] => { results := [.lit (.bool false)], args := [d] }
  | _ => none }
def FnFlitsWrongFalsely : Prop := fnFlitsRow.holds Try.pinned (OpenSpec.ofChange fnFlitsWrong)

/-- 'laws.FnExactPacketOk': WHATEVER THE INPUT: true; the input reads as it did. -/
def fnExactPacketOkSpec : ChangeSpec := { name := "fnExactPacketOk", fn := fun _ => fun
  | [d1, d2] => { results := [.lit (.bool true)], args := [d1, d2] }
  | _ => none }
def fnExactPacketOkRow : OpenClaim := { program := "ytcjidpegmlbenaa", sum := "86455df2679acf98a3264fd14b691bddc9e2bc27c91c8f3d3ae6ae4868d97e39", func := "loop.example/g00984/laws.FnExactPacketOk", spec := "fnExactPacketOk", apart := false }
def FnExactPacketOkSaid : Prop := fnExactPacketOkRow.holds Try.pinned (OpenSpec.ofChange fnExactPacketOkSpec)

/-- ITS FALSE NEIGHBOUR: 'it returns false'. Refute it at one input. -/
def fnExactPacketOkWrong : ChangeSpec := { name := "fnExactPacketOk", fn := fun _ => fun
  | [d1, d2] => { results := [.lit (.bool false)], args := [d1, d2] }
  | _ => none }
def FnExactPacketOkWrongFalsely : Prop := fnExactPacketOkRow.holds Try.pinned (OpenSpec.ofChange fnExactPacketOkWrong)

/-- 'laws.FnExactFlitsOf': WHATEVER THE INPUT: true; the input reads as it did. -/
def fnExactFlitsOfSpec : ChangeSpec := { name := "fnExactFlitsOf", fn := fun _ => fun
  | [d1, d2] => { results := [.lit (.bool true)], args := [d1, d2] }
  | _ => none }
def fnExactFlitsOfRow : OpenClaim := { program := "ytcjidpegmlbenaa", sum := "86455df2679acf98a3264fd14b691bddc9e2bc27c91c8f3d3ae6ae4868d97e39", func := "loop.example/g00984/laws.FnExactFlitsOf", spec := "fnExactFlitsOf", apart := false }
def FnExactFlitsOfSaid : Prop := fnExactFlitsOfRow.holds Try.pinned (OpenSpec.ofChange fnExactFlitsOfSpec)

/-- ITS FALSE NEIGHBOUR: 'it returns false'. Refute it at one input. -/
def fnExactFlitsOfWrong : ChangeSpec := { name := "fnExactFlitsOf", fn := fun _ => fun
  | [d1, d2] => { results := [.lit (.bool false)], args := [d1, d2] }
  | _ => none }
def FnExactFlitsOfWrongFalsely : Prop := fnExactFlitsOfRow.holds Try.pinned (OpenSpec.ofChange fnExactFlitsOfWrong)

/-- 'laws.FnExactIsWhole': WHATEVER THE INPUT: true; the input reads as it did. -/
def fnExactIsWholeSpec : ChangeSpec := { name := "fnExactIsWhole", fn := fun _ => fun
  | [d] => { results := [.lit (.bool true)], args := [d] }
  | _ => none }
def fnExactIsWholeRow : OpenClaim := { program := "ytcjidpegmlbenaa", sum := "86455df2679acf98a3264fd14b691bddc9e2bc27c91c8f3d3ae6ae4868d97e39", func := "loop.example/g00984/laws.FnExactIsWhole", spec := "fnExactIsWhole", apart := false }
def FnExactIsWholeSaid : Prop := fnExactIsWholeRow.holds Try.pinned (OpenSpec.ofChange fnExactIsWholeSpec)

/-- ITS FALSE NEIGHBOUR: 'it returns false'. Refute it at one input. -/
def fnExactIsWholeWrong : ChangeSpec := { name := "fnExactIsWhole", fn := fun _ => fun
  | [d] => { results := [.lit (.bool false)], args := [d] }
  | _ => none }
def FnExactIsWholeWrongFalsely : Prop := fnExactIsWholeRow.holds Try.pinned (OpenSpec.ofChange fnExactIsWholeWrong)

/-- 'laws.FnExactCountPackets': WHATEVER THE INPUT: true; the input reads as it did. -/
def fnExactCountPacketsSpec : ChangeSpec := { name := "fnExactCountPackets", fn := fun _ => fun
  | [d] => { results := [.lit (.bool true)], args := [d] }
  | _ => none }
def fnExactCountPacketsRow : OpenClaim := { program := "ytcjidpegmlbenaa", sum := "86455df2679acf98a3264fd14b691bddc9e2bc27c91c8f3d3ae6ae4868d97e39", func := "loop.example/g00984/laws.FnExactCountPackets", spec := "fnExactCountPackets", apart := false }
def FnExactCountPacketsSaid : Prop := fnExactCountPacketsRow.holds Try.pinned (OpenSpec.ofChange fnExactCountPacketsSpec)

/-- ITS FALSE NEIGHBOUR: 'it returns false'. Refute it at one input. -/
def fnExactCountPacketsWrong : ChangeSpec := { name := "fnExactCountPackets", fn := fun _ => fun
  | [d] => { results := [.lit (.bool false)], args := [d] }
  | _ => none }
def FnExactCountPacketsWrongFalsely : Prop := fnExactCountPacketsRow.holds Try.pinned (OpenSpec.ofChange fnExactCountPacketsWrong)

/-- 'laws.FnExactSameFlits': WHATEVER THE INPUT: true; the input reads as it did. -/
def fnExactSameFlitsSpec : ChangeSpec := { name := "fnExactSameFlits", fn := fun _ => fun
  | [d1, d2] => { results := [.lit (.bool true)], args := [d1, d2] }
  | _ => none }
def fnExactSameFlitsRow : OpenClaim := { program := "ytcjidpegmlbenaa", sum := "86455df2679acf98a3264fd14b691bddc9e2bc27c91c8f3d3ae6ae4868d97e39", func := "loop.example/g00984/laws.FnExactSameFlits", spec := "fnExactSameFlits", apart := false }
def FnExactSameFlitsSaid : Prop := fnExactSameFlitsRow.holds Try.pinned (OpenSpec.ofChange fnExactSameFlitsSpec)

/-- ITS FALSE NEIGHBOUR: 'it returns false'. Refute it at one input. -/
def fnExactSameFlitsWrong : ChangeSpec := { name := "fnExactSameFlits", fn := fun _ => fun
  | [d1, d2] => { results := [.lit (.bool false)], args := [d1, d2] }
  | _ => none }
def FnExactSameFlitsWrongFalsely : Prop := fnExactSameFlitsRow.holds Try.pinned (OpenSpec.ofChange fnExactSameFlitsWrong)

/- THE SECOND FORM. 'bulk': how many values and letters a reading holds, each counted each time it is reached (what is shared counts as often as it is met; a slice's spare places count too). A statement '..UptoSaid' is the law's where the arguments, and the package variables that the reading takes, are together of bulk at most 1048576: NARROWER than '..Said'. Prove '..Said' where nothing that the law and all that it calls make is longer than what came in: it says more and counts as full. Else prove '..UptoSaid'. A law counts once. -/
mutual
def uptoBulk {H : Type} : DataW H → Nat
  | .lit (.string bytes) => bytes.length + 1
  | .lit _ => 1
  | .nil => 1
  | .ptr d => uptoBulk d + 1
  | .slice elems spare => uptoBulkAll elems + uptoBulkAll spare + 1
  | .agg parts => uptoBulkAll parts + 1
  | .iface _ d => uptoBulk d + 1
  | .map entries => uptoBulkEntries entries + 1
  | .held _ => 1
def uptoBulkAll {H : Type} : List (DataW H) → Nat
  | [] => 0
  | d :: r => uptoBulk d + uptoBulkAll r
def uptoBulkEntries {H : Type} : List (Lit × DataW H) → Nat
  | [] => 0
  | x :: r => uptoBulkEntry x + uptoBulkEntries r
def uptoBulkEntry {H : Type} : Lit × DataW H → Nat
  | (.string bytes, d) => bytes.length + uptoBulk d + 1
  | (_, d) => uptoBulk d + 1
 end
def uptoSmall : (H : Type) → List (DataW H) → Bool := fun _ ds => decide (uptoBulkAll ds ≤ 1048576)
def OpenSpec.upto (s : _root_.Go.ChangeSpec) : _root_.Go.OpenSpec := { _root_.Go.OpenSpec.ofChange s with cond := some uptoSmall }

/-- 'laws.FnFlits', WHERE WHAT IT READS IS OF BULK AT MOST 1048576: true; the input reads as it did. -/
def fnFlitsUptoRow : OpenClaim := { program := "ytcjidpegmlbenaa", sum := "86455df2679acf98a3264fd14b691bddc9e2bc27c91c8f3d3ae6ae4868d97e39", func := "loop.example/g00984/laws.FnFlits", spec := "fnFlits", apart := false, narrowed := true }
def FnFlitsUptoSaid : Prop := fnFlitsUptoRow.holds Try.pinned (OpenSpec.upto fnFlitsSpec)

/-- 'laws.FnExactPacketOk', WHERE WHAT IT READS IS OF BULK AT MOST 1048576: true; the input reads as it did. -/
def fnExactPacketOkUptoRow : OpenClaim := { program := "ytcjidpegmlbenaa", sum := "86455df2679acf98a3264fd14b691bddc9e2bc27c91c8f3d3ae6ae4868d97e39", func := "loop.example/g00984/laws.FnExactPacketOk", spec := "fnExactPacketOk", apart := false, narrowed := true }
def FnExactPacketOkUptoSaid : Prop := fnExactPacketOkUptoRow.holds Try.pinned (OpenSpec.upto fnExactPacketOkSpec)

/-- 'laws.FnExactFlitsOf', WHERE WHAT IT READS IS OF BULK AT MOST 1048576: true; the input reads as it did. -/
def fnExactFlitsOfUptoRow : OpenClaim := { program := "ytcjidpegmlbenaa", sum := "86455df2679acf98a3264fd14b691bddc9e2bc27c91c8f3d3ae6ae4868d97e39", func := "loop.example/g00984/laws.FnExactFlitsOf", spec := "fnExactFlitsOf", apart := false, narrowed := true }
def FnExactFlitsOfUptoSaid : Prop := fnExactFlitsOfUptoRow.holds Try.pinned (OpenSpec.upto fnExactFlitsOfSpec)

/-- 'laws.FnExactIsWhole', WHERE WHAT IT READS IS OF BULK AT MOST 1048576: true; the input reads as it did. -/
def fnExactIsWholeUptoRow : OpenClaim := { program := "ytcjidpegmlbenaa", sum := "86455df2679acf98a3264fd14b691bddc9e2bc27c91c8f3d3ae6ae4868d97e39", func := "loop.example/g00984/laws.FnExactIsWhole", spec := "fnExactIsWhole", apart := false, narrowed := true }
def FnExactIsWholeUptoSaid : Prop := fnExactIsWholeUptoRow.holds Try.pinned (OpenSpec.upto fnExactIsWholeSpec)

/-- 'laws.FnExactCountPackets', WHERE WHAT IT READS IS OF BULK AT MOST 1048576: true; the input reads as it did. -/
def fnExactCountPacketsUptoRow : OpenClaim := { program := "ytcjidpegmlbenaa", sum := "86455df2679acf98a3264fd14b691bddc9e2bc27c91c8f3d3ae6ae4868d97e39", func := "loop.example/g00984/laws.FnExactCountPackets", spec := "fnExactCountPackets", apart := false, narrowed := true }
def FnExactCountPacketsUptoSaid : Prop := fnExactCountPacketsUptoRow.holds Try.pinned (OpenSpec.upto fnExactCountPacketsSpec)

/-- 'laws.FnExactSameFlits', WHERE WHAT IT READS IS OF BULK AT MOST 1048576: true; the input reads as it did. -/
def fnExactSameFlitsUptoRow : OpenClaim := { program := "ytcjidpegmlbenaa", sum := "86455df2679acf98a3264fd14b691bddc9e2bc27c91c8f3d3ae6ae4868d97e39", func := "loop.example/g00984/laws.FnExactSameFlits", spec := "fnExactSameFlits", apart := false, narrowed := true }
def FnExactSameFlitsUptoSaid : Prop := fnExactSameFlitsUptoRow.holds Try.pinned (OpenSpec.upto fnExactSameFlitsSpec)

end Rows
end Go.Proofs.Ytcjidpegmlbenaa
