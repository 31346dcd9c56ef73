/- What is proved here: what the model's VerdictName returns, for all arguments; only new blocks are written. -/
import Derived.Test.YtidilfakganooaaVdN
import Derived.Test.YtidilfakganooaaInS
import Derived.Test.YtidilfakganooaaOwn
namespace Go.Proofs.Ytidilfakganooaa
open Go.ChangeShapes Go.WideShapes Go.ChangeAt Go.RowKit
set_option linter.unusedVariables false

theorem specVdName (c : Int) (w : World) : Calls Try.prog 4 #[.int .i64 c] w (RetS (nameV c) w) := by
  by_cases h : 0 ≤ c ∧ c ≤ 2
  · have hr : c = 0 ∨ c = 1 ∨ c = 2 := by omega
    have HI := Lib.hid (fun w => specInV c 0 2 true (by simpa using h) w)
    clear h
    rcases hr with rfl | rfl | rfl
    all_goals
      go_enter Try.func4, Try.ntmps4
      go_wp2_with fail
      refine (HI.out _).mono ?_
      rintro e w1 ⟨rfl, rfl⟩
      go_wp2_with fail
      go_ret
      exact ⟨rfl, gb_alloc (gb_refl _ _) _⟩
  · have HI := Lib.hid (fun w => specInV c 0 2 false (by simpa using h) w)
    have HR := Lib.hid (nameV_no (c := c) (by omega) (by omega) (by omega))
    clear h
    go_enter Try.func4, Try.ntmps4
    go_wp2_with fail
    refine (HI.out _).mono ?_
    rintro e w1 ⟨rfl, rfl⟩
    go_wp2_with fail
    go_ret
    exact ⟨by rw [HR.out]; rfl, gb_refl _ _⟩
end Go.Proofs.Ytidilfakganooaa
