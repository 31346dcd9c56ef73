/- What is proved here: what the model's Opposite returns, for all arguments; only new blocks are written. -/
import Derived.Test.YtgdngjfjbcnbmaaMeshM
import Derived.Test.YtgdngjfjbcnbmaaGridS
namespace Go.Proofs.Ytgdngjfjbcnbmaa
open Go.ChangeShapes Go.WideShapes Go.ChangeAt Go.RowKit
set_option linter.unusedVariables false

theorem specOpposite (p : Int) (w : World) :
    Calls Try.prog 59 #[.int .i64 p] w fun e w' => e = .returned (.int .i64 (oppG p)) ∧ w = w' := by
  by_cases p4 : p = 4
  · subst p4
    go_enter Try.func59, Try.ntmps59
    go_wp2_with fail
    go_ret
    exact ⟨rfl, rfl⟩
  · have q4 : (p == 4) = false := by simpa using p4
    by_cases hp : 0 ≤ p ∧ p ≤ 3
    · have hv : oppG p = (p + 2) % 4 := by
        have : p = 0 ∨ p = 1 ∨ p = 2 ∨ p = 3 := by omega
        rcases this with rfl | rfl | rfl | rfl <;> decide
      have hb : decide (0 ≤ p ∧ p ≤ 3) = true := decide_eq_true hp
      obtain ⟨hp0, hp1⟩ := hp
      clear p4
      go_enter Try.func59, Try.ntmps59
      go_wp2_with fail
      refine (specInV p 0 3 true hb _).mono ?_
      rintro e w2 ⟨rfl, rfl⟩
      go_wp2_with fail
      go_ret
      exact ⟨ret_int64 (by rw [hv]), rfl⟩
    · have hv : oppG p = -1 := by unfold oppG; (repeat' split) <;> omega
      have hb : decide (0 ≤ p ∧ p ≤ 3) = false := decide_eq_false hp
      clear p4 hp
      go_enter Try.func59, Try.ntmps59
      go_wp2_with fail
      refine (specInV p 0 3 false hb _).mono ?_
      rintro e w2 ⟨rfl, rfl⟩
      go_wp2_with fail
      go_ret
      exact ⟨ret_int64 (by rw [hv]), rfl⟩
end Go.Proofs.Ytgdngjfjbcnbmaa
