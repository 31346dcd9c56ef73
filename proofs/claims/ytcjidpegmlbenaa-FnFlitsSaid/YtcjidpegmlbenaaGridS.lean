/- What is proved here: whether the model finds a node in a grid; only new blocks are written. -/
import Derived.Test.YtcjidpegmlbenaaGkS
namespace Go.Proofs.Ytcjidpegmlbenaa
open Go.ChangeShapes Go.WideShapes Go.ChangeAt Go.RowKit
set_option linter.unusedVariables false

theorem specHas (W H n : Int) (w : World) :
    Calls Try.prog 38 #[.agg #[.int .i64 W, .int .i64 H], .int .i64 n] w (RetB (hasG W H n) w) := by
  obtain ⟨k, hk⟩ : ∃ k, countG W H = k := ⟨_, rfl⟩
  have hl := countG_le W H
  rw [hk] at hl
  obtain ⟨hl0, hl1⟩ := hl
  go_enter Try.func38, Try.ntmps38
  go_wp2_with fail
  refine (specNodeCount W H _).mono ?_
  rintro e w1 ⟨rfl, hg⟩
  rw [hk]
  go_wp2_with fail
  refine (specInV n 0 _ (hasG W H n) (by unfold hasG; rw [hk]; exact decide_eq_decide.2 (by omega)) _).mono ?_
  rintro e w2 ⟨rfl, rfl⟩
  go_wp2_with fail
  go_ret
  exact ⟨rfl, box_gb hg⟩
theorem specHasV (W H n : Int) (b : Bool) (h : hasG W H n = b) (w : World) :
    Calls Try.prog 38 #[.agg #[.int .i64 W, .int .i64 H], .int .i64 n] w (RetB b w) := h ▸ specHas W H n w
end Go.Proofs.Ytcjidpegmlbenaa
