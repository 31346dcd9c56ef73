/- What is stated here: a mesh as the cells of a block, and a mesh whose first broken channels are good; nothing of the program. -/
import Derived.Test.YtpcmkilaapjaaaaMeshM
namespace Go.Proofs.Ytpcmkilaapjaaaa
open Go.ChangeShapes Go.WideShapes Go.ChangeAt Go.RowKit
set_option linter.unusedVariables false

/-- A mesh as the cells of a block. -/
def meshC (W H : Int) (A : Option Addr) (n cap : Nat) : Array Value := #[.int .i64 W, .int .i64 H, .slice A n cap]
def MeshAt (W H : Int) (L : List Int) (A : Option Addr) (n cap : Nat) (w : World) (k : Nat) (wr : World) : Prop :=
  goodTo W H L k ∧ (w.alloc (.cells (meshC W H A n cap) 36)).grownBy wr none
end Go.Proofs.Ytpcmkilaapjaaaa
