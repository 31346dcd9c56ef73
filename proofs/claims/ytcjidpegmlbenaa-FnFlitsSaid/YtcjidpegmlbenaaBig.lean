/- What is proved here: the laws' size test answers whether a draw has more than a million bytes; nothing is written. -/
import Derived.Test.YtcjidpegmlbenaaBase
namespace Go.Proofs.Ytcjidpegmlbenaa
open Go.ChangeShapes Go.WideShapes Go.ChangeAt Go.RowKit
set_option linter.unusedVariables false

theorem lawsBig (A : Option Addr) (n cap : Nat) (w : World) :
    Calls Try.prog 9 #[.slice A n cap] w fun e w' => e = .returned (.bool (decide (1048576 < n))) ∧ w = w' := by
  go_enter Try.func9, Try.ntmps9
  go_wp2_with fail
  go_ret
  exact ⟨ret_bool (by simp; omega), rfl⟩
end Go.Proofs.Ytcjidpegmlbenaa
