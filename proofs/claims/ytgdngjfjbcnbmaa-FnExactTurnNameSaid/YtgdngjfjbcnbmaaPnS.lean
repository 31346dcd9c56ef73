/- What is proved here: what the model's PortName returns, for all arguments; only new blocks are written. -/
import Derived.Test.YtgdngjfjbcnbmaaMeshM
import Derived.Test.YtgdngjfjbcnbmaaGridS
namespace Go.Proofs.Ytgdngjfjbcnbmaa
open Go.ChangeShapes Go.WideShapes Go.ChangeAt Go.RowKit
set_option linter.unusedVariables false

theorem specPortName (p : Int) (w : World) :
    Calls Try.prog 60 #[.int .i64 p] w (RetS (portB p) w) := by
  by_cases hp : 0 ≤ p ∧ p ≤ 4
  · have hv : p = 0 ∨ p = 1 ∨ p = 2 ∨ p = 3 ∨ p = 4 := by omega
    clear hp
    rcases hv with rfl | rfl | rfl | rfl | rfl
    all_goals
      go_enter Try.func60, Try.ntmps60
      go_wp2_with fail
      refine (specInV _ 0 4 true (by decide) _).mono ?_
      rintro e w2 ⟨rfl, rfl⟩
      go_wp2_with fail
      go_ret
      exact ⟨rfl, gb_alloc (gb_refl _ _) _⟩
  · have hv : portB p = ⟨#[]⟩ := by unfold portB; rw [if_neg (by omega), if_neg (by omega), if_neg (by omega), if_neg (by omega), if_neg (by omega)]
    have hb : decide (0 ≤ p ∧ p ≤ 4) = false := decide_eq_false hp
    clear hp
    go_enter Try.func60, Try.ntmps60
    go_wp2_with fail
    refine (specInV p 0 4 false hb _).mono ?_
    rintro e w2 ⟨rfl, rfl⟩
    go_wp2_with fail
    go_ret
    exact ⟨by rw [hv]; rfl, gb_refl _ _⟩
end Go.Proofs.Ytgdngjfjbcnbmaa
