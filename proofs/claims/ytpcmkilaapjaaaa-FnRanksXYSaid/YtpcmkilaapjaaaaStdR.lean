/- What is proved here: names for what StandardPort and StandardTable return; nothing of the program. -/
import Derived.Test.YtpcmkilaapjaaaaStdM
import Derived.Test.YtpcmkilaapjaaaaInts
namespace Go.Proofs.Ytpcmkilaapjaaaa
open Go.ChangeShapes Go.WideShapes Go.ChangeAt Go.RowKit
set_option linter.unusedVariables false

def portAll (W H r a b : Int) : Int := if (hasG W H a && hasG W H b && decide (1 ≤ r ∧ r ≤ 4)) = true then stdPort W r a b else -1
def stdOk (W H r : Int) : Bool := okG W H && decide (1 ≤ r ∧ r ≤ 4)
def stdRes (W H r : Int) : List Int := if stdOk W H r = true then stdTab W H r else []
/-- A new table and whether there is one. -/
def RetTab (P : List Int) (b : Bool) (w : World) (e : Ending) (w' : World) : Prop :=
  ∃ v, e = .returned (.tuple #[.agg #[v], .bool b]) ∧ w'.ownsRow w.heap.size 3 1 v P.length (intsV P) ∧ Below w.heap.size w w'
theorem stdRes_length (W H r : Int) : (stdRes W H r).length ≤ 256 := by
  unfold stdRes
  split
  · rw [stdTab, stdTo_len]; exact sq_le W H
  · simp
end Go.Proofs.Ytpcmkilaapjaaaa
