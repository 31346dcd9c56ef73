/- What is proved here: what a new list of lists of flits is; nothing of the program. -/
import Derived.Test.YtfloekbmgjmhbaaFssE
namespace Go.Proofs.Ytfloekbmgjmhbaa
open Go.ChangeShapes Go.WideShapes Go.ChangeAt Go.RowKit
set_option linter.unusedVariables false

/-- A new list of lists. -/
def NewLL (DD : List (List Flt)) (w : World) (e : Ending) (w' : World) : Prop :=
  ∃ v vs, e = .returned v ∧ Fams 91 120 5 fltC w' w.heap.size v vs DD ∧ Below w.heap.size w w'
end Go.Proofs.Ytfloekbmgjmhbaa
