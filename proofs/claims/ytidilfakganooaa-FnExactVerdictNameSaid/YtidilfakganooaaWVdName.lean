/- What is proved here: the exact law on VerdictName answers true, for every argument; only new blocks are written. -/
import Derived.Test.YtidilfakganooaaVnS
import Derived.Test.YtidilfakganooaaNmI
namespace Go.Proofs.Ytidilfakganooaa
open Go.ChangeShapes Go.WideShapes Go.ChangeAt Go.RowKit
set_option linter.unusedVariables false

theorem walk_FnExactVerdictName (x : Int) (w : World) (w0 : (Lit.int .i64 x).wf = true) :
    Calls Try.prog 3 #[.int .i64 x] w fun e w' => e = .returned (.bool true) ∧ Below w.heap.size w w' := by
  clear w0
  go_enter Try.func3, Try.ntmps3
  go_wp2_with fail
  refine (specVdName x _).mono ?_
  rintro e w1 ⟨rfl, hg0⟩
  have HG0 := Lib.hid hg0
  clear hg0
  go_wp2_with fail
  refine (implVdName x _).mono ?_
  rintro e w2 ⟨rfl, hg⟩
  have HG := Lib.hid hg
  clear hg
  go_wp2_with fail
  go_ret
  exact ⟨rfl, gb_below_none (gb_trans HG0.out HG.out) (Nat.le_refl _)⟩
end Go.Proofs.Ytidilfakganooaa
