/-
  No cell of these rows narrows 'for every input' (looked for: loops, veiled, ifaces, maps, wideKeys, modest, calm, conditions, laid).
  DERIVED. THE GIVEN ROWS OF THIS SEAT. 6 by the template 'for every input the law returns true; each argument reads behind the call as it read before'; 0 by the template 'total and deterministic' (their statements: YtffnbmaoainhmaaTotals.lean).
  GIVEN WITH THE SEED: the statements are not yours to turn. If you find one false, say at which input.
  Laid BY PROGRAM, IN A SANDBOX (cutbox-rows.mjs): the forced cells as the released guide's own fill.sh prints them over the translation 0f600a1ab225048b… (all of the seat's roots in one cut). By AI agents, Wed Nov 11 2026. No macro, syntax, notation, axiom, sorry.
-/
import Derived.Test.YtffnbmaoainhmaaChecked
import GoSem.Claim
import GoSem.ClaimJoined
import GoSem.ClaimMapViews
import Derived.JoinedTies
import Derived.KernelRfl
namespace Go.Proofs.Ytffnbmaoainhmaa
/- THE CELL 'sum', in the pinned program and in every row, IS THE sha256 OF THE DUMP (.gsa) THAT YtffnbmaoainhmaaProg.lean LOADS. Nothing in Lean hashes anything: it is a label: what it is worth is what the hold of that sum in a sandbox is worth. -/
noncomputable def Try.pinned : Pinned := { name := "ytffnbmaoainhmaa", sum := "0f600a1ab225048b847fe353530ba8f00479adb6160aabd8dd28fecdf63774f7", checked := Try.checked }
namespace Rows
def none {H : Type} : Left H := { results := [], args := [] }

/-- 'laws.FnNewNets': WHATEVER THE INPUT: true; the input reads as it did. -/
def fnNewNetsSpec : ChangeSpec := { name := "fnNewNets", fn := fun _ => fun
  | [d] => { results := [.lit (.bool true)], args := [d] }
  | _ => none }
def fnNewNetsRow : OpenClaim := { program := "ytffnbmaoainhmaa", sum := "0f600a1ab225048b847fe353530ba8f00479adb6160aabd8dd28fecdf63774f7", func := "loop.example/g00984/laws.FnNewNets", spec := "fnNewNets", apart := false }
def FnNewNetsSaid : Prop := fnNewNetsRow.holds Try.pinned (OpenSpec.ofChange fnNewNetsSpec)

/-- ITS FALSE NEIGHBOUR: 'it returns false'. Refute it at one input. -/
def fnNewNetsWrong : ChangeSpec := { name := "fnNewNets", fn := fun _ => fun
  | [d] => { results := [.lit (.bool false)], args := [d] }
  | _ => none }
def FnNewNetsWrongFalsely : Prop := fnNewNetsRow.holds Try.pinned (OpenSpec.ofChange fnNewNetsWrong)

/-- 'laws.FnExactBufferAt': WHATEVER THE INPUT: true; the input reads as it did. -/
def fnExactBufferAtSpec : ChangeSpec := { name := "fnExactBufferAt", fn := fun _ => fun
  | [d1, d2, d3] => { results := [.lit (.bool true)], args := [d1, d2, d3] }
  | _ => none }
def fnExactBufferAtRow : OpenClaim := { program := "ytffnbmaoainhmaa", sum := "0f600a1ab225048b847fe353530ba8f00479adb6160aabd8dd28fecdf63774f7", func := "loop.example/g00984/laws.FnExactBufferAt", spec := "fnExactBufferAt", apart := false }
def FnExactBufferAtSaid : Prop := fnExactBufferAtRow.holds Try.pinned (OpenSpec.ofChange fnExactBufferAtSpec)

/-- ITS FALSE NEIGHBOUR: 'it returns false'. Refute it at one input. -/
def fnExactBufferAtWrong : ChangeSpec := { name := "fnExactBufferAt", fn := fun _ => fun
  | [d1, d2, d3] => { results := [.lit (.bool false)], args := [d1, d2, d3] }
  | _ => none }
def FnExactBufferAtWrongFalsely : Prop := fnExactBufferAtRow.holds Try.pinned (OpenSpec.ofChange fnExactBufferAtWrong)

/-- 'laws.FnExactNetNew': WHATEVER THE INPUT: true; the input reads as it did. -/
def fnExactNetNewSpec : ChangeSpec := { name := "fnExactNetNew", fn := fun _ => fun
  | [d1, d2] => { results := [.lit (.bool true)], args := [d1, d2] }
  | _ => none }
def fnExactNetNewRow : OpenClaim := { program := "ytffnbmaoainhmaa", sum := "0f600a1ab225048b847fe353530ba8f00479adb6160aabd8dd28fecdf63774f7", func := "loop.example/g00984/laws.FnExactNetNew", spec := "fnExactNetNew", apart := false }
def FnExactNetNewSaid : Prop := fnExactNetNewRow.holds Try.pinned (OpenSpec.ofChange fnExactNetNewSpec)

/-- ITS FALSE NEIGHBOUR: 'it returns false'. Refute it at one input. -/
def fnExactNetNewWrong : ChangeSpec := { name := "fnExactNetNew", fn := fun _ => fun
  | [d1, d2] => { results := [.lit (.bool false)], args := [d1, d2] }
  | _ => none }
def FnExactNetNewWrongFalsely : Prop := fnExactNetNewRow.holds Try.pinned (OpenSpec.ofChange fnExactNetNewWrong)

/-- 'laws.FnExactNetOk': WHATEVER THE INPUT: true; the input reads as it did. -/
def fnExactNetOkSpec : ChangeSpec := { name := "fnExactNetOk", fn := fun _ => fun
  | [d] => { results := [.lit (.bool true)], args := [d] }
  | _ => none }
def fnExactNetOkRow : OpenClaim := { program := "ytffnbmaoainhmaa", sum := "0f600a1ab225048b847fe353530ba8f00479adb6160aabd8dd28fecdf63774f7", func := "loop.example/g00984/laws.FnExactNetOk", spec := "fnExactNetOk", apart := false }
def FnExactNetOkSaid : Prop := fnExactNetOkRow.holds Try.pinned (OpenSpec.ofChange fnExactNetOkSpec)

/-- ITS FALSE NEIGHBOUR: 'it returns false'. Refute it at one input. -/
def fnExactNetOkWrong : ChangeSpec := { name := "fnExactNetOk", fn := fun _ => fun
  | [d] => { results := [.lit (.bool false)], args := [d] }
  | _ => none }
def FnExactNetOkWrongFalsely : Prop := fnExactNetOkRow.holds Try.pinned (OpenSpec.ofChange fnExactNetOkWrong)

/-- 'laws.FnExactFlitsInside': WHATEVER THE INPUT: true; the input reads as it did. -/
def fnExactFlitsInsideSpec : ChangeSpec := { name := "fnExactFlitsInside", fn := fun _ => fun
  | [d] => { results := [.lit (.bool true)], args := [d] }
  | _ => none }
def fnExactFlitsInsideRow : OpenClaim := { program := "ytffnbmaoainhmaa", sum := "0f600a1ab225048b847fe353530ba8f00479adb6160aabd8dd28fecdf63774f7", func := "loop.example/g00984/laws.FnExactFlitsInside", spec := "fnExactFlitsInside", apart := false }
def FnExactFlitsInsideSaid : Prop := fnExactFlitsInsideRow.holds Try.pinned (OpenSpec.ofChange fnExactFlitsInsideSpec)

/-- ITS FALSE NEIGHBOUR: 'it returns false'. Refute it at one input. -/
def fnExactFlitsInsideWrong : ChangeSpec := { name := "fnExactFlitsInside", fn := fun _ => fun
  | [d] => { results := [.lit (.bool false)], args := [d] }
  | _ => none }
def FnExactFlitsInsideWrongFalsely : Prop := fnExactFlitsInsideRow.holds Try.pinned (OpenSpec.ofChange fnExactFlitsInsideWrong)

/-- 'laws.FnExactFlitsWaiting': WHATEVER THE INPUT: true; the input reads as it did. -/
def fnExactFlitsWaitingSpec : ChangeSpec := { name := "fnExactFlitsWaiting", fn := fun _ => fun
  | [d] => { results := [.lit (.bool true)], args := [d] }
  | _ => none }
def fnExactFlitsWaitingRow : OpenClaim := { program := "ytffnbmaoainhmaa", sum := "0f600a1ab225048b847fe353530ba8f00479adb6160aabd8dd28fecdf63774f7", func := "loop.example/g00984/laws.FnExactFlitsWaiting", spec := "fnExactFlitsWaiting", apart := false }
def FnExactFlitsWaitingSaid : Prop := fnExactFlitsWaitingRow.holds Try.pinned (OpenSpec.ofChange fnExactFlitsWaitingSpec)

/-- ITS FALSE NEIGHBOUR: 'it returns false'. Refute it at one input. -/
def fnExactFlitsWaitingWrong : ChangeSpec := { name := "fnExactFlitsWaiting", fn := fun _ => fun
  | [d] => { results := [.lit (.bool false)], args := [d] }
  | _ => none }
def FnExactFlitsWaitingWrongFalsely : Prop := fnExactFlitsWaitingRow.holds Try.pinned (OpenSpec.ofChange fnExactFlitsWaitingWrong)

/- THE SECOND FORM. 'bulk': how many values and letters a reading holds, each counted each time it is reached (what is shared counts as often as it is met; a slice's spare places count too). A statement '..UptoSaid' is the law's where the arguments, and the package variables that the reading takes, are together of bulk at most 1048576: NARROWER than '..Said'. Prove '..Said' where nothing that the law and all that it calls make is longer than what came in: it says more and counts as full. Else prove '..UptoSaid'. A law counts once. -/
mutual
def uptoBulk {H : Type} : DataW H → Nat
  | .lit (.string bytes) => bytes.length + 1
  | .lit _ => 1
  | .nil => 1
  | .ptr d => uptoBulk d + 1
  | .slice elems spare => uptoBulkAll elems + uptoBulkAll spare + 1
  | .agg parts => uptoBulkAll parts + 1
  | .iface _ d => uptoBulk d + 1
  | .map entries => uptoBulkEntries entries + 1
  | .held _ => 1
def uptoBulkAll {H : Type} : List (DataW H) → Nat
  | [] => 0
  | d :: r => uptoBulk d + uptoBulkAll r
def uptoBulkEntries {H : Type} : List (Lit × DataW H) → Nat
  | [] => 0
  | x :: r => uptoBulkEntry x + uptoBulkEntries r
def uptoBulkEntry {H : Type} : Lit × DataW H → Nat
  | (.string bytes, d) => bytes.length + uptoBulk d + 1
  | (_, d) => uptoBulk d + 1
 end
def uptoSmall : (H : Type) → List (DataW H) → Bool := fun _ ds => decide (uptoBulkAll ds ≤ 1048576)
def OpenSpec.upto (s : _root_.Go.ChangeSpec) : _root_.Go.OpenSpec := { _root_.Go.OpenSpec.ofChange s with cond := some uptoSmall }

/-- 'laws.FnNewNets', WHERE WHAT IT READS IS OF BULK AT MOST 1048576: true; the input reads as it did. -/
def fnNewNetsUptoRow : OpenClaim := { program := "ytffnbmaoainhmaa", sum := "0f600a1ab225048b847fe353530ba8f00479adb6160aabd8dd28fecdf63774f7", func := "loop.example/g00984/laws.FnNewNets", spec := "fnNewNets", apart := false, narrowed := true }
def FnNewNetsUptoSaid : Prop := fnNewNetsUptoRow.holds Try.pinned (OpenSpec.upto fnNewNetsSpec)

/-- 'laws.FnExactBufferAt', WHERE WHAT IT READS IS OF BULK AT MOST 1048576: true; the input reads as it did. -/
def fnExactBufferAtUptoRow : OpenClaim := { program := "ytffnbmaoainhmaa", sum := "0f600a1ab225048b847fe353530ba8f00479adb6160aabd8dd28fecdf63774f7", func := "loop.example/g00984/laws.FnExactBufferAt", spec := "fnExactBufferAt", apart := false, narrowed := true }
def FnExactBufferAtUptoSaid : Prop := fnExactBufferAtUptoRow.holds Try.pinned (OpenSpec.upto fnExactBufferAtSpec)

/-- 'laws.FnExactNetNew', WHERE WHAT IT READS IS OF BULK AT MOST 1048576: true; the input reads as it did. -/
def fnExactNetNewUptoRow : OpenClaim := { program := "ytffnbmaoainhmaa", sum := "0f600a1ab225048b847fe353530ba8f00479adb6160aabd8dd28fecdf63774f7", func := "loop.example/g00984/laws.FnExactNetNew", spec := "fnExactNetNew", apart := false, narrowed := true }
def FnExactNetNewUptoSaid : Prop := fnExactNetNewUptoRow.holds Try.pinned (OpenSpec.upto fnExactNetNewSpec)

/-- 'laws.FnExactNetOk', WHERE WHAT IT READS IS OF BULK AT MOST 1048576: true; the input reads as it did. -/
def fnExactNetOkUptoRow : OpenClaim := { program := "ytffnbmaoainhmaa", sum := "0f600a1ab225048b847fe353530ba8f00479adb6160aabd8dd28fecdf63774f7", func := "loop.example/g00984/laws.FnExactNetOk", spec := "fnExactNetOk", apart := false, narrowed := true }
def FnExactNetOkUptoSaid : Prop := fnExactNetOkUptoRow.holds Try.pinned (OpenSpec.upto fnExactNetOkSpec)

/-- 'laws.FnExactFlitsInside', WHERE WHAT IT READS IS OF BULK AT MOST 1048576: true; the input reads as it did. -/
def fnExactFlitsInsideUptoRow : OpenClaim := { program := "ytffnbmaoainhmaa", sum := "0f600a1ab225048b847fe353530ba8f00479adb6160aabd8dd28fecdf63774f7", func := "loop.example/g00984/laws.FnExactFlitsInside", spec := "fnExactFlitsInside", apart := false, narrowed := true }
def FnExactFlitsInsideUptoSaid : Prop := fnExactFlitsInsideUptoRow.holds Try.pinned (OpenSpec.upto fnExactFlitsInsideSpec)

/-- 'laws.FnExactFlitsWaiting', WHERE WHAT IT READS IS OF BULK AT MOST 1048576: true; the input reads as it did. -/
def fnExactFlitsWaitingUptoRow : OpenClaim := { program := "ytffnbmaoainhmaa", sum := "0f600a1ab225048b847fe353530ba8f00479adb6160aabd8dd28fecdf63774f7", func := "loop.example/g00984/laws.FnExactFlitsWaiting", spec := "fnExactFlitsWaiting", apart := false, narrowed := true }
def FnExactFlitsWaitingUptoSaid : Prop := fnExactFlitsWaitingUptoRow.holds Try.pinned (OpenSpec.upto fnExactFlitsWaitingSpec)

end Rows
end Go.Proofs.Ytffnbmaoainhmaa
