/- What is proved here: the model's l01Figure returns the figure of a number below 16; nothing is written. -/
import Derived.Test.YtlbjopmiaophkaaDoorHexM
namespace Go.Proofs.YtlbjopmiaophkaaDoor
open Go.ChangeShapes Go.WideShapes Go.ChangeAt Go.RowKit
set_option linter.unusedVariables false
attribute [local go_sem ↓] Go.wp_at_zero Go.wp_at_succ

theorem specFigure (x : Nat) (hx : x < 16) (w : World) :
    Calls Tryd.prog 32 #[.int .i64 (x : Int)] w fun e w' => e = .returned (.int .u8 (fig x : Int)) ∧ w = w' := by
  by_cases h : x < 10
  · have hf : fig x = 48 + x := by unfold fig; rw [if_pos h]
    go_enter Tryd.func32, Tryd.ntmps32
    go_wp2
    go_ret
    exact ⟨congrArg Ending.returned (congrArg (Value.int .u8) (by rw [hf]; rfl)), rfl⟩
  · have hf : fig x = 87 + x := by unfold fig; rw [if_neg h]
    go_enter Tryd.func32, Tryd.ntmps32
    go_wp2
    go_ret
    exact ⟨congrArg Ending.returned (congrArg (Value.int .u8) (by rw [hf]; simp; omega)), rfl⟩

theorem specFigureD (c : Nat) (hc : c < 256) (w : World) :
    Calls Tryd.prog 32 #[.int .i64 ((c : Int) / 16)] w fun e w' => e = .returned (.int .u8 (fig (c / 16) : Int)) ∧ w = w' := by
  have h := specFigure (c / 16) (by omega) w
  rw [show ((c / 16 : Nat) : Int) = (c : Int) / 16 by omega] at h
  exact h
theorem specFigureM (c : Nat) (w : World) :
    Calls Tryd.prog 32 #[.int .i64 ((c : Int) % 16)] w fun e w' => e = .returned (.int .u8 (fig (c % 16) : Int)) ∧ w = w' := by
  have h := specFigure (c % 16) (by omega) w
  rw [show ((c % 16 : Nat) : Int) = (c : Int) % 16 by omega] at h
  exact h

end Go.Proofs.YtlbjopmiaophkaaDoor
