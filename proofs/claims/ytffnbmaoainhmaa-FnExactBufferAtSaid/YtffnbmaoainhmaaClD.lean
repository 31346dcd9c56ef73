/- What is proved here: when both tables of a pair are valid; nothing of the program. -/
import Derived.Test.YtffnbmaoainhmaaTableM
namespace Go.Proofs.Ytffnbmaoainhmaa
open Go.ChangeShapes Go.WideShapes Go.ChangeAt Go.RowKit
set_option linter.unusedVariables false

/-- Both tables are valid. -/
def clsOk (W H : Int) (L P Q : List Int) : Bool := tableG W H L P && tableG W H L Q
theorem clsOk_no1 {W H : Int} {L P Q : List Int} (h : tableG W H L P = false) : clsOk W H L P Q = false := by simp [clsOk, h]
theorem clsOk_no2 {W H : Int} {L P Q : List Int} (h : tableG W H L Q = false) : clsOk W H L P Q = false := by simp [clsOk, h]
theorem clsOk_yes {W H : Int} {L P Q : List Int} (h : tableG W H L P = true) (k : tableG W H L Q = true) : clsOk W H L P Q = true := by simp [clsOk, h, k]
theorem clsOk_both {W H : Int} {L P Q : List Int} (h : clsOk W H L P Q = true) : tableG W H L P = true ∧ tableG W H L Q = true := by simpa [clsOk] using h
end Go.Proofs.Ytffnbmaoainhmaa
