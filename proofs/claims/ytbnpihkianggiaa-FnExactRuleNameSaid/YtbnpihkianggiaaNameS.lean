/- What is proved here: what the model's RuleName returns, for all arguments; only new blocks are written. -/
import Derived.Test.YtbnpihkianggiaaGridS
import Derived.Test.YtbnpihkianggiaaRuleI
namespace Go.Proofs.Ytbnpihkianggiaa
open Go.ChangeShapes Go.WideShapes Go.ChangeAt Go.RowKit
set_option linter.unusedVariables false

theorem specRuleName (r : Int) (w : World) :
    Calls Try.prog 25 #[.int .i64 r] w fun e w' => e = .returned (.string (ruleName r)) ∧ w.grownBy w' none := by
  by_cases h : 1 ≤ r ∧ r ≤ 4
  · have hr : r = 1 ∨ r = 2 ∨ r = 3 ∨ r = 4 := by omega
    have HI := Lib.hid (fun w => specInV r 1 4 true (by simpa using h) w)
    clear h
    rcases hr with rfl | rfl | rfl | rfl
    all_goals
      go_enter Try.func25, Try.ntmps25
      go_wp2_with fail
      refine (HI.out _).mono ?_
      rintro e w1 ⟨rfl, rfl⟩
      go_wp2_with fail
      go_ret
      exact ⟨rfl, gb_alloc (gb_refl _ _) _⟩
  · have HI := Lib.hid (fun w => specInV r 1 4 false (by simpa using h) w)
    have HR : Hid (ruleName r = ⟨#[]⟩) := Lib.hid (by
      have a1 : r ≠ 1 := by omega
      have a2 : r ≠ 2 := by omega
      have a3 : r ≠ 3 := by omega
      have a4 : r ≠ 4 := by omega
      simp [ruleName, a1, a2, a3, a4])
    clear h
    go_enter Try.func25, Try.ntmps25
    go_wp2_with fail
    refine (HI.out _).mono ?_
    rintro e w1 ⟨rfl, rfl⟩
    go_wp2_with fail
    go_ret
    exact ⟨by rw [HR.out]; rfl, gb_refl _ _⟩
end Go.Proofs.Ytbnpihkianggiaa
