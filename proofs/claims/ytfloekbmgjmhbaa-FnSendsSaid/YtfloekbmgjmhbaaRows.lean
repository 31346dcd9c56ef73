/-
  No cell of these rows narrows 'for every input' (looked for: loops, veiled, ifaces, maps, wideKeys, modest, calm, conditions, laid).
  DERIVED. THE GIVEN ROWS OF THIS SEAT. 4 by the template 'for every input the law returns true; each argument reads behind the call as it read before'; 0 by the template 'total and deterministic' (their statements: YtfloekbmgjmhbaaTotals.lean).
  GIVEN WITH THE SEED: the statements are not yours to turn. If you find one false, say at which input.
  Laid BY PROGRAM, IN A SANDBOX (cutbox-rows.mjs): the forced cells as the released guide's own fill.sh prints them over the translation 457ededfd1fa1b3b… (all of the seat's roots in one cut). By AI agents, Wed Nov 11 2026. No macro, syntax, notation, axiom, sorry.
-/
import Derived.Test.YtfloekbmgjmhbaaChecked
import GoSem.Claim
import GoSem.ClaimJoined
import GoSem.ClaimMapViews
import Derived.JoinedTies
import Derived.KernelRfl
namespace Go.Proofs.Ytfloekbmgjmhbaa
/- THE CELL 'sum', in the pinned program and in every row, IS THE sha256 OF THE DUMP (.gsa) THAT YtfloekbmgjmhbaaProg.lean LOADS. Nothing in Lean hashes anything: it is a label: what it is worth is what the hold of that sum in a sandbox is worth. -/
noncomputable def Try.pinned : Pinned := { name := "ytfloekbmgjmhbaa", sum := "457ededfd1fa1b3b0101eaf732fbef2eea6462ce92a8c0788829ce8dc6585af1", checked := Try.checked }
namespace Rows
def none {H : Type} : Left H := { results := [], args := [] }

/-- 'laws.FnSends': WHATEVER THE INPUT: true; the input reads as it did. -/
def fnSendsSpec : ChangeSpec := { name := "fnSends", fn := fun _ => fun
  | [d] => { results := [.lit (.bool true)], args := [d] }
  | _ => none }
def fnSendsRow : OpenClaim := { program := "ytfloekbmgjmhbaa", sum := "457ededfd1fa1b3b0101eaf732fbef2eea6462ce92a8c0788829ce8dc6585af1", func := "loop.example/g00984/laws.FnSends", spec := "fnSends", apart := false }
def FnSendsSaid : Prop := fnSendsRow.holds Try.pinned (OpenSpec.ofChange fnSendsSpec)

/-- ITS FALSE NEIGHBOUR: 'it returns false'. Refute it at one input. -/
def fnSendsWrong : ChangeSpec := { name := "fnSends", fn := fun _ => fun
  | [d] => { results := [.lit (.bool false)], args := [d] }
  | _ => none }
def FnSendsWrongFalsely : Prop := fnSendsRow.holds Try.pinned (OpenSpec.ofChange fnSendsWrong)

/-- 'laws.FnExactSendPacket': WHATEVER THE INPUT: true; the input reads as it did. -/
def fnExactSendPacketSpec : ChangeSpec := { name := "fnExactSendPacket", fn := fun _ => fun
  | [d1, d2] => { results := [.lit (.bool true)], args := [d1, d2] }
  | _ => none }
def fnExactSendPacketRow : OpenClaim := { program := "ytfloekbmgjmhbaa", sum := "457ededfd1fa1b3b0101eaf732fbef2eea6462ce92a8c0788829ce8dc6585af1", func := "loop.example/g00984/laws.FnExactSendPacket", spec := "fnExactSendPacket", apart := false }
def FnExactSendPacketSaid : Prop := fnExactSendPacketRow.holds Try.pinned (OpenSpec.ofChange fnExactSendPacketSpec)

/-- ITS FALSE NEIGHBOUR: 'it returns false'. Refute it at one input. -/
def fnExactSendPacketWrong : ChangeSpec := { name := "fnExactSendPacket", fn := fun _ => fun
  | [d1, d2] => { results := [.lit (.bool false)], args := [d1, d2] }
  | _ => none }
def FnExactSendPacketWrongFalsely : Prop := fnExactSendPacketRow.holds Try.pinned (OpenSpec.ofChange fnExactSendPacketWrong)

/-- 'laws.FnExactNumberPackets': WHATEVER THE INPUT: true; the input reads as it did. -/
def fnExactNumberPacketsSpec : ChangeSpec := { name := "fnExactNumberPackets", fn := fun _ => fun
  | [d] => { results := [.lit (.bool true)], args := [d] }
  | _ => none }
def fnExactNumberPacketsRow : OpenClaim := { program := "ytfloekbmgjmhbaa", sum := "457ededfd1fa1b3b0101eaf732fbef2eea6462ce92a8c0788829ce8dc6585af1", func := "loop.example/g00984/laws.FnExactNumberPackets", spec := "fnExactNumberPackets", apart := false }
def FnExactNumberPacketsSaid : Prop := fnExactNumberPacketsRow.holds Try.pinned (OpenSpec.ofChange fnExactNumberPacketsSpec)

/-- ITS FALSE NEIGHBOUR: 'it returns false'. Refute it at one input. -/
def fnExactNumberPacketsWrong : ChangeSpec := { name := "fnExactNumberPackets", fn := fun _ => fun
  | [d] => { results := [.lit (.bool false)], args := [d] }
  | _ => none }
def FnExactNumberPacketsWrongFalsely : Prop := fnExactNumberPacketsRow.holds Try.pinned (OpenSpec.ofChange fnExactNumberPacketsWrong)

/-- 'laws.FnExactIdsDistinct': WHATEVER THE INPUT: true; the input reads as it did. -/
def fnExactIdsDistinctSpec : ChangeSpec := { name := "fnExactIdsDistinct", fn := fun _ => fun
  | [d] => { results := [.lit (.bool true)], args := [d] }
  | _ => none }
def fnExactIdsDistinctRow : OpenClaim := { program := "ytfloekbmgjmhbaa", sum := "457ededfd1fa1b3b0101eaf732fbef2eea6462ce92a8c0788829ce8dc6585af1", func := "loop.example/g00984/laws.FnExactIdsDistinct", spec := "fnExactIdsDistinct", apart := false }
def FnExactIdsDistinctSaid : Prop := fnExactIdsDistinctRow.holds Try.pinned (OpenSpec.ofChange fnExactIdsDistinctSpec)

/-- ITS FALSE NEIGHBOUR: 'it returns false'. Refute it at one input. -/
def fnExactIdsDistinctWrong : ChangeSpec := { name := "fnExactIdsDistinct", fn := fun _ => fun
  | [d] => { results := [.lit (.bool false)], args := [d] }
  | _ => none }
def FnExactIdsDistinctWrongFalsely : Prop := fnExactIdsDistinctRow.holds Try.pinned (OpenSpec.ofChange fnExactIdsDistinctWrong)

/- THE SECOND FORM. 'bulk': how many values and letters a reading holds, each counted each time it is reached (what is shared counts as often as it is met; a slice's spare places count too). A statement '..UptoSaid' is the law's where the arguments, and the package variables that the reading takes, are together of bulk at most 1048576: NARROWER than '..Said'. Prove '..Said' where nothing that the law and all that it calls make is longer than what came in: it says more and counts as full. Else prove '..UptoSaid'. A law counts once. -/
mutual
def uptoBulk {H : Type} : DataW H → Nat
  | .lit (.string bytes) => bytes.length + 1
  | .lit _ => 1
  | .nil => 1
  | .ptr d => uptoBulk d + 1
  | .slice elems spare => uptoBulkAll elems + uptoBulkAll spare + 1
  | .agg parts => uptoBulkAll parts + 1
  | .iface _ d => uptoBulk d + 1
  | .map entries => uptoBulkEntries entries + 1
  | .held _ => 1
def uptoBulkAll {H : Type} : List (DataW H) → Nat
  | [] => 0
  | d :: r => uptoBulk d + uptoBulkAll r
def uptoBulkEntries {H : Type} : List (Lit × DataW H) → Nat
  | [] => 0
  | x :: r => uptoBulkEntry x + uptoBulkEntries r
def uptoBulkEntry {H : Type} : Lit × DataW H → Nat
  | (.string bytes, d) => bytes.length + uptoBulk d + 1
  | (_, d) => uptoBulk d + 1
 end
def uptoSmall : (H : Type) → List (DataW H) → Bool := fun _ ds => decide (uptoBulkAll ds ≤ 1048576)
def OpenSpec.upto (s : _root_.Go.ChangeSpec) : _root_.Go.OpenSpec := { _root_.Go.OpenSpec.ofChange s with cond := some uptoSmall }

/-- 'laws.FnSends', WHERE WHAT IT READS IS OF BULK AT MOST 1048576: true; the input reads as it did. -/
def fnSendsUptoRow : OpenClaim := { program := "ytfloekbmgjmhbaa", sum := "457ededfd1fa1b3b0101eaf732fbef2eea6462ce92a8c0788829ce8dc6585af1", func := "loop.example/g00984/laws.FnSends", spec := "fnSends", apart := false, narrowed := true }
def FnSendsUptoSaid : Prop := fnSendsUptoRow.holds Try.pinned (OpenSpec.upto fnSendsSpec)

/-- 'laws.FnExactSendPacket', WHERE WHAT IT READS IS OF BULK AT MOST 1048576: true; the input reads as it did. -/
def fnExactSendPacketUptoRow : OpenClaim := { program := "ytfloekbmgjmhbaa", sum := "457ededfd1fa1b3b0101eaf732fbef2eea6462ce92a8c0788829ce8dc6585af1", func := "loop.example/g00984/laws.FnExactSendPacket", spec := "fnExactSendPacket", apart := false, narrowed := true }
def FnExactSendPacketUptoSaid : Prop := fnExactSendPacketUptoRow.holds Try.pinned (OpenSpec.upto fnExactSendPacketSpec)

/-- 'laws.FnExactNumberPackets', WHERE WHAT IT READS IS OF BULK AT MOST 1048576: true; the input reads as it did. -/
def fnExactNumberPacketsUptoRow : OpenClaim := { program := "ytfloekbmgjmhbaa", sum := "457ededfd1fa1b3b0101eaf732fbef2eea6462ce92a8c0788829ce8dc6585af1", func := "loop.example/g00984/laws.FnExactNumberPackets", spec := "fnExactNumberPackets", apart := false, narrowed := true }
def FnExactNumberPacketsUptoSaid : Prop := fnExactNumberPacketsUptoRow.holds Try.pinned (OpenSpec.upto fnExactNumberPacketsSpec)

/-- 'laws.FnExactIdsDistinct', WHERE WHAT IT READS IS OF BULK AT MOST 1048576: true; the input reads as it did. -/
def fnExactIdsDistinctUptoRow : OpenClaim := { program := "ytfloekbmgjmhbaa", sum := "457ededfd1fa1b3b0101eaf732fbef2eea6462ce92a8c0788829ce8dc6585af1", func := "loop.example/g00984/laws.FnExactIdsDistinct", spec := "fnExactIdsDistinct", apart := false, narrowed := true }
def FnExactIdsDistinctUptoSaid : Prop := fnExactIdsDistinctUptoRow.holds Try.pinned (OpenSpec.upto fnExactIdsDistinctSpec)

end Rows
end Go.Proofs.Ytfloekbmgjmhbaa
