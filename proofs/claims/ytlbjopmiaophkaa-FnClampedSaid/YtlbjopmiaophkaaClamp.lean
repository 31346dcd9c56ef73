/- What is proved here: the two Clamp functions return the clamped number, for all three numbers; nothing in memory changes. -/
import Derived.Test.YtlbjopmiaophkaaBase
namespace Go.Proofs.Ytlbjopmiaophkaa
open Go.ChangeShapes Go.WideShapes Go.ChangeAt Go.RowKit
set_option linter.unusedVariables false

def clampM (n lo hi : Int) : Int := if hi < lo ∨ n < lo then lo else if hi < n then hi else n


theorem specClamp (n lo hi : Int) (w : World) :
    Calls Try.prog 20 #[.int .i64 n, .int .i64 lo, .int .i64 hi] w fun e w' => e = .returned (.int .i64 (clampM n lo hi)) ∧ w = w' := by
  by_cases h1 : hi < lo <;> by_cases h2 : n < lo <;> by_cases h3 : hi < n
  all_goals
    go_enter Try.func20, Try.ntmps20
    go_wp2
    all_goals go_ret
    all_goals exact ⟨ret_int64 (by unfold clampM; (repeat' split) <;> omega), rfl⟩

theorem implClamp (n lo hi : Int) (w : World) :
    Calls Try.prog 10 #[.int .i64 n, .int .i64 lo, .int .i64 hi] w fun e w' => e = .returned (.int .i64 (clampM n lo hi)) ∧ w = w' := by
  by_cases h1 : hi < n <;> by_cases h2 : hi < lo <;> by_cases h3 : n < lo
  all_goals
    go_enter Try.func10, Try.ntmps10
    go_wp2
    all_goals go_ret
    all_goals exact ⟨ret_int64 (by unfold clampM; (repeat' split) <;> omega), rfl⟩

end Go.Proofs.Ytlbjopmiaophkaa
