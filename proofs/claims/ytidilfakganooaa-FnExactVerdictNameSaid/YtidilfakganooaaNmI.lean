/- What is proved here: what the program's VerdictName returns, for all arguments; only new blocks are written. -/
import Derived.Test.YtidilfakganooaaVdN
import Derived.Test.YtidilfakganooaaOwn
namespace Go.Proofs.Ytidilfakganooaa
open Go.ChangeShapes Go.WideShapes Go.ChangeAt Go.RowKit
set_option linter.unusedVariables false

theorem implVdName (c : Int) (w : World) : Calls Try.prog 5 #[.int .i64 c] w (RetS (nameV c) w) := by
  by_cases h0 : c = 0
  · subst h0
    go_enter Try.func5, Try.ntmps5
    go_wp2_with fail
    go_ret
    exact ⟨rfl, gb_refl _ _⟩
  · by_cases h1 : c = 1
    · subst h1
      go_enter Try.func5, Try.ntmps5
      go_wp2_with fail
      go_ret
      exact ⟨rfl, gb_refl _ _⟩
    · by_cases h2 : c = 2
      · subst h2
        go_enter Try.func5, Try.ntmps5
        go_wp2_with fail
        go_ret
        exact ⟨rfl, gb_refl _ _⟩
      · have HR := Lib.hid (nameV_no h0 h1 h2)
        have b0 : (c == 0) = false := beq_eq_false_iff_ne.2 h0
        have b1 : (c == 1) = false := beq_eq_false_iff_ne.2 h1
        have b2 : (c == 2) = false := beq_eq_false_iff_ne.2 h2
        go_enter Try.func5, Try.ntmps5
        go_wp2_with fail
        go_ret
        exact ⟨by rw [HR.out]; rfl, gb_refl _ _⟩
end Go.Proofs.Ytidilfakganooaa
