/- What is proved here: the laws' copy of a grid is the same grid, for all grids; only new blocks are written. -/
import Derived.Test.YtcjidpegmlbenaaOwn
namespace Go.Proofs.Ytcjidpegmlbenaa
open Go.ChangeShapes Go.WideShapes Go.ChangeAt Go.RowKit
set_option linter.unusedVariables false

theorem lawsToGrid (W H : Int) (w : World) :
    Calls Try.prog 18 #[.agg #[.int .i64 W, .int .i64 H]] w fun e w' => e = .returned (.agg #[.int .i64 W, .int .i64 H]) ∧ w.grownBy w' none := by
  go_enter Try.func18, Try.ntmps18
  go_wp2_with fail
  refine bodyPost_ret (v := .agg #[.int .i64 W, .int .i64 H]) (by simp [results, Try.results18, go_sem]) rfl ⟨rfl, ?_⟩

  exact gb_alloc (gb_alloc (gb_alloc (gb_refl _ _) _) _) _
end Go.Proofs.Ytcjidpegmlbenaa
