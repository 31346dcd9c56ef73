/- What is proved here: a drawn rule is one of the four; only new blocks are written. -/
import Derived.Test.YtecaehkckamhkaaCur
namespace Go.Proofs.Ytecaehkckamhkaa
open Go.ChangeShapes Go.WideShapes Go.ChangeAt Go.RowKit
set_option linter.unusedVariables false

theorem drawRule (A : Option Addr) (n cap : Nat) (w : World) (hr : ByteRow w w.heap.size A n) (hn : n ≤ 1048576) :
    Calls Try.prog 31 #[.slice A n cap] w fun e w' => ∃ r : Int, e = .returned (.int .i64 r) ∧ 1 ≤ r ∧ r ≤ 4 ∧ Below w.heap.size w w' := by
  have HR := Lib.hid hr
  clear hr
  go_enter Try.func31, Try.ntmps31
  go_wp2_with fail
  refine (l01New _ _ _ _ HR.out hn).mono ?_
  rintro e w1 ⟨g, rfl, hg, hc1, hbel⟩
  have HG := Lib.hid hg
  have HB := Lib.hid hbel
  clear hg hbel
  go_wp2_with fail
  refine (l01Below 4 g _ hc1).mono ?_
  rintro e w2 ⟨x, rfl, x0, x1, x2, hc2, hg2⟩
  have x3 := x1 (by omega)
  have q1 : IntKind.i64.wrap (1 + x) = 1 + x := IntWalk.i64_in _ (by omega)
  have HB2 := Lib.hid (HB.out.trans (gb_below hg2 HB.out.size (by have := HG.out; omega)))
  clear hg2 hc2 hc1 x1 x2
  go_wp2_with fail
  go_ret
  exact ⟨1 + x, rfl, by omega, by omega, HB2.out⟩
end Go.Proofs.Ytecaehkckamhkaa
