/-
  No cell of these rows narrows 'for every input' (looked for: loops, veiled, ifaces, maps, wideKeys, modest, calm, conditions, laid).
  DERIVED. THE GIVEN ROWS OF THIS SEAT. 4 by the template 'for every input the law returns true; each argument reads behind the call as it read before'; 0 by the template 'total and deterministic' (their statements: YtplpdjpldadcmaaTotals.lean).
  GIVEN WITH THE SEED: the statements are not yours to turn. If you find one false, say at which input.
  Laid BY PROGRAM, IN A SANDBOX (cutbox-rows.mjs): the forced cells as the released guide's own fill.sh prints them over the translation 2330abe0c70b1c42… (all of the seat's roots in one cut). By AI agents, Wed Nov 11 2026. No macro, syntax, notation, axiom, sorry.
-/
import Derived.Test.YtplpdjpldadcmaaChecked
import GoSem.Claim
import GoSem.ClaimJoined
import GoSem.ClaimMapViews
import Derived.JoinedTies
import Derived.KernelRfl
namespace Go.Proofs.Ytplpdjpldadcmaa
/- THE CELL 'sum', in the pinned program and in every row, IS THE sha256 OF THE DUMP (.gsa) THAT YtplpdjpldadcmaaProg.lean LOADS. Nothing in Lean hashes anything: it is a label: what it is worth is what the hold of that sum in a sandbox is worth. -/
noncomputable def Try.pinned : Pinned := { name := "ytplpdjpldadcmaa", sum := "2330abe0c70b1c42983282b3fd10dc5c0917dd802dffaa62131ef5511c8138be", checked := Try.checked }
namespace Rows
def none {H : Type} : Left H := { results := [], args := [] }

/-- 'laws.FnExactWantedPort': WHATEVER THE INPUT: true; the input reads as it did. -/
def fnExactWantedPortSpec : ChangeSpec := { name := "fnExactWantedPort", fn := fun _ => fun
  | [d1, d2, d3] => { results := [.lit (.bool true)], args := [d1, d2, d3] }
  | _ => none }
def fnExactWantedPortRow : OpenClaim := { program := "ytplpdjpldadcmaa", sum := "2330abe0c70b1c42983282b3fd10dc5c0917dd802dffaa62131ef5511c8138be", func := "loop.example/g00984/laws.FnExactWantedPort", spec := "fnExactWantedPort", unfollowed := true, recurses := true, apart := false }
def FnExactWantedPortSaid : Prop := fnExactWantedPortRow.holds Try.pinned (OpenSpec.ofChange fnExactWantedPortSpec)

/-- ITS FALSE NEIGHBOUR: 'it returns false'. Refute it at one input. -/
def fnExactWantedPortWrong : ChangeSpec := { name := "fnExactWantedPort", fn := fun _ => fun
  | [d1, d2, d3] => { results := [.lit (.bool false)], args := [d1, d2, d3] }
  | _ => none }
def FnExactWantedPortWrongFalsely : Prop := fnExactWantedPortRow.holds Try.pinned (OpenSpec.ofChange fnExactWantedPortWrong)

/-- 'laws.FnExactHasRoom': WHATEVER THE INPUT: true; the input reads as it did. -/
def fnExactHasRoomSpec : ChangeSpec := { name := "fnExactHasRoom", fn := fun _ => fun
  | [d1, d2, d3, d4] => { results := [.lit (.bool true)], args := [d1, d2, d3, d4] }
  | _ => none }
def fnExactHasRoomRow : OpenClaim := { program := "ytplpdjpldadcmaa", sum := "2330abe0c70b1c42983282b3fd10dc5c0917dd802dffaa62131ef5511c8138be", func := "loop.example/g00984/laws.FnExactHasRoom", spec := "fnExactHasRoom", apart := false }
def FnExactHasRoomSaid : Prop := fnExactHasRoomRow.holds Try.pinned (OpenSpec.ofChange fnExactHasRoomSpec)

/-- ITS FALSE NEIGHBOUR: 'it returns false'. Refute it at one input. -/
def fnExactHasRoomWrong : ChangeSpec := { name := "fnExactHasRoom", fn := fun _ => fun
  | [d1, d2, d3, d4] => { results := [.lit (.bool false)], args := [d1, d2, d3, d4] }
  | _ => none }
def FnExactHasRoomWrongFalsely : Prop := fnExactHasRoomRow.holds Try.pinned (OpenSpec.ofChange fnExactHasRoomWrong)

/-- 'laws.FnExactIsRequest': WHATEVER THE INPUT: true; the input reads as it did. -/
def fnExactIsRequestSpec : ChangeSpec := { name := "fnExactIsRequest", fn := fun _ => fun
  | [d1, d2, d3, d4] => { results := [.lit (.bool true)], args := [d1, d2, d3, d4] }
  | _ => none }
def fnExactIsRequestRow : OpenClaim := { program := "ytplpdjpldadcmaa", sum := "2330abe0c70b1c42983282b3fd10dc5c0917dd802dffaa62131ef5511c8138be", func := "loop.example/g00984/laws.FnExactIsRequest", spec := "fnExactIsRequest", unfollowed := true, recurses := true, apart := false }
def FnExactIsRequestSaid : Prop := fnExactIsRequestRow.holds Try.pinned (OpenSpec.ofChange fnExactIsRequestSpec)

/-- ITS FALSE NEIGHBOUR: 'it returns false'. Refute it at one input. -/
def fnExactIsRequestWrong : ChangeSpec := { name := "fnExactIsRequest", fn := fun _ => fun
  | [d1, d2, d3, d4] => { results := [.lit (.bool false)], args := [d1, d2, d3, d4] }
  | _ => none }
def FnExactIsRequestWrongFalsely : Prop := fnExactIsRequestRow.holds Try.pinned (OpenSpec.ofChange fnExactIsRequestWrong)

/-- 'laws.FnExactRequestsAt': WHATEVER THE INPUT: true; the input reads as it did. -/
def fnExactRequestsAtSpec : ChangeSpec := { name := "fnExactRequestsAt", fn := fun _ => fun
  | [d1, d2, d3] => { results := [.lit (.bool true)], args := [d1, d2, d3] }
  | _ => none }
def fnExactRequestsAtRow : OpenClaim := { program := "ytplpdjpldadcmaa", sum := "2330abe0c70b1c42983282b3fd10dc5c0917dd802dffaa62131ef5511c8138be", func := "loop.example/g00984/laws.FnExactRequestsAt", spec := "fnExactRequestsAt", unfollowed := true, recurses := true, apart := false }
def FnExactRequestsAtSaid : Prop := fnExactRequestsAtRow.holds Try.pinned (OpenSpec.ofChange fnExactRequestsAtSpec)

/-- ITS FALSE NEIGHBOUR: 'it returns false'. Refute it at one input. -/
def fnExactRequestsAtWrong : ChangeSpec := { name := "fnExactRequestsAt", fn := fun _ => fun
  | [d1, d2, d3] => { results := [.lit (.bool false)], args := [d1, d2, d3] }
  | _ => none }
def FnExactRequestsAtWrongFalsely : Prop := fnExactRequestsAtRow.holds Try.pinned (OpenSpec.ofChange fnExactRequestsAtWrong)

/- THE SECOND FORM. 'bulk': how many values and letters a reading holds, each counted each time it is reached (what is shared counts as often as it is met; a slice's spare places count too). A statement '..UptoSaid' is the law's where the arguments, and the package variables that the reading takes, are together of bulk at most 1048576: NARROWER than '..Said'. Prove '..Said' where nothing that the law and all that it calls make is longer than what came in: it says more and counts as full. Else prove '..UptoSaid'. A law counts once. -/
mutual
def uptoBulk {H : Type} : DataW H → Nat
  | .lit (.string bytes) => bytes.length + 1
  | .lit _ => 1
  | .nil => 1
  | .ptr d => uptoBulk d + 1
  | .slice elems spare => uptoBulkAll elems + uptoBulkAll spare + 1
  | .agg parts => uptoBulkAll parts + 1
  | .iface _ d => uptoBulk d + 1
  | .map entries => uptoBulkEntries entries + 1
  | .held _ => 1
def uptoBulkAll {H : Type} : List (DataW H) → Nat
  | [] => 0
  | d :: r => uptoBulk d + uptoBulkAll r
def uptoBulkEntries {H : Type} : List (Lit × DataW H) → Nat
  | [] => 0
  | x :: r => uptoBulkEntry x + uptoBulkEntries r
def uptoBulkEntry {H : Type} : Lit × DataW H → Nat
  | (.string bytes, d) => bytes.length + uptoBulk d + 1
  | (_, d) => uptoBulk d + 1
 end
def uptoSmall : (H : Type) → List (DataW H) → Bool := fun _ ds => decide (uptoBulkAll ds ≤ 1048576)
def OpenSpec.upto (s : _root_.Go.ChangeSpec) : _root_.Go.OpenSpec := { _root_.Go.OpenSpec.ofChange s with cond := some uptoSmall }

/-- 'laws.FnExactWantedPort', WHERE WHAT IT READS IS OF BULK AT MOST 1048576: true; the input reads as it did. -/
def fnExactWantedPortUptoRow : OpenClaim := { program := "ytplpdjpldadcmaa", sum := "2330abe0c70b1c42983282b3fd10dc5c0917dd802dffaa62131ef5511c8138be", func := "loop.example/g00984/laws.FnExactWantedPort", spec := "fnExactWantedPort", unfollowed := true, recurses := true, apart := false, narrowed := true }
def FnExactWantedPortUptoSaid : Prop := fnExactWantedPortUptoRow.holds Try.pinned (OpenSpec.upto fnExactWantedPortSpec)

/-- 'laws.FnExactHasRoom', WHERE WHAT IT READS IS OF BULK AT MOST 1048576: true; the input reads as it did. -/
def fnExactHasRoomUptoRow : OpenClaim := { program := "ytplpdjpldadcmaa", sum := "2330abe0c70b1c42983282b3fd10dc5c0917dd802dffaa62131ef5511c8138be", func := "loop.example/g00984/laws.FnExactHasRoom", spec := "fnExactHasRoom", apart := false, narrowed := true }
def FnExactHasRoomUptoSaid : Prop := fnExactHasRoomUptoRow.holds Try.pinned (OpenSpec.upto fnExactHasRoomSpec)

/-- 'laws.FnExactIsRequest', WHERE WHAT IT READS IS OF BULK AT MOST 1048576: true; the input reads as it did. -/
def fnExactIsRequestUptoRow : OpenClaim := { program := "ytplpdjpldadcmaa", sum := "2330abe0c70b1c42983282b3fd10dc5c0917dd802dffaa62131ef5511c8138be", func := "loop.example/g00984/laws.FnExactIsRequest", spec := "fnExactIsRequest", unfollowed := true, recurses := true, apart := false, narrowed := true }
def FnExactIsRequestUptoSaid : Prop := fnExactIsRequestUptoRow.holds Try.pinned (OpenSpec.upto fnExactIsRequestSpec)

/-- 'laws.FnExactRequestsAt', WHERE WHAT IT READS IS OF BULK AT MOST 1048576: true; the input reads as it did. -/
def fnExactRequestsAtUptoRow : OpenClaim := { program := "ytplpdjpldadcmaa", sum := "2330abe0c70b1c42983282b3fd10dc5c0917dd802dffaa62131ef5511c8138be", func := "loop.example/g00984/laws.FnExactRequestsAt", spec := "fnExactRequestsAt", unfollowed := true, recurses := true, apart := false, narrowed := true }
def FnExactRequestsAtUptoSaid : Prop := fnExactRequestsAtUptoRow.holds Try.pinned (OpenSpec.upto fnExactRequestsAtSpec)

end Rows
end Go.Proofs.Ytplpdjpldadcmaa
