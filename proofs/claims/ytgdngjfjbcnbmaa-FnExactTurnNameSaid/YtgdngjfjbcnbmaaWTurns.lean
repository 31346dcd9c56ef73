/- What is proved here: the exact laws on IsReversal and TurnName answer true, for every argument; only new blocks are written. -/
import Derived.Test.YtgdngjfjbcnbmaaTnS
import Derived.Test.YtgdngjfjbcnbmaaTnI
namespace Go.Proofs.Ytgdngjfjbcnbmaa
open Go.ChangeShapes Go.WideShapes Go.ChangeAt Go.RowKit
set_option linter.unusedVariables false

theorem walk_FnExactIsReversal (x : Int) (w : World) (w0 : (Lit.int .i64 x).wf = true) :
    Calls Try.prog 5 #[.int .i64 x] w fun e w' => e = .returned (.bool true) ∧ Below w.heap.size w w' := by
  clear w0
  go_enter Try.func5, Try.ntmps5
  go_wp2_with fail
  refine (specIsReversal x _).mono ?_
  rintro e w1 ⟨rfl, hg0⟩
  have HG0 := Lib.hid hg0
  clear hg0
  go_wp2_with fail
  refine (implIsReversal x _).mono ?_
  rintro e w2 ⟨rfl, hg⟩
  have HG := Lib.hid hg
  clear hg
  go_wp2_with fail
  go_ret
  exact ⟨rfl, gb_below_none (gb_trans HG0.out HG.out) (Nat.le_refl _)⟩

theorem walk_FnExactTurnName (x : Int) (w : World) (w0 : (Lit.int .i64 x).wf = true) :
    Calls Try.prog 6 #[.int .i64 x] w fun e w' => e = .returned (.bool true) ∧ Below w.heap.size w w' := by
  clear w0
  go_enter Try.func6, Try.ntmps6
  go_wp2_with fail
  refine (specTurnName x _).mono ?_
  rintro e w1 ⟨rfl, hg0⟩
  have HG0 := Lib.hid hg0
  clear hg0
  go_wp2_with fail
  refine (implTurnName x _).mono ?_
  rintro e w2 ⟨rfl, hg⟩
  have HG := Lib.hid hg
  clear hg
  go_wp2_with fail
  go_ret
  exact ⟨rfl, gb_below_none (gb_trans HG0.out HG.out) (Nat.le_refl _)⟩
end Go.Proofs.Ytgdngjfjbcnbmaa
