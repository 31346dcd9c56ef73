/- What is proved here: the model's draw of a chance answers a Bool; only the cursor's own block and new blocks are written. -/
import Derived.Test.YtakigpgkcneboaaCur
namespace Go.Proofs.Ytakigpgkcneboaa
open Go.ChangeShapes Go.WideShapes Go.ChangeAt Go.RowKit
set_option linter.unusedVariables false

theorem l01Once (n : Int) (g : Nat) (w : World) (hcur : Cur w g) :
    Calls Try.prog 68 #[.pointer (some ⟨g, 0, none⟩), .int .i64 n] w (DrawnB g w) := by
  go_enter Try.func68, Try.ntmps68
  go_wp2_with fail
  refine (l01Below n g _ hcur).mono ?_
  rintro e w1 ⟨r, rfl, hr0, hr1, hr2, hcur1, hg1⟩
  go_wp2_with fail
  go_ret
  exact ⟨_, rfl, hcur1, hg1⟩
end Go.Proofs.Ytakigpgkcneboaa
