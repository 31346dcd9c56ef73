/- What is proved here: the exact law on HopsBetween answers true, for every argument; only new blocks are written. -/
import Derived.Test.YtnielgpcfgfioaaRhS
import Derived.Test.YtnielgpcfgfioaaRhI
namespace Go.Proofs.Ytnielgpcfgfioaa
open Go.ChangeShapes Go.WideShapes Go.ChangeAt Go.RowKit
set_option linter.unusedVariables false

theorem walk_FnExactHopsBetween (n a b : Int) (w : World) (hwn : (Lit.int .i64 n).wf = true) (hwa : (Lit.int .i64 a).wf = true) (hwb : (Lit.int .i64 b).wf = true) :
    Calls Try.prog 8 #[.int .i64 n, .int .i64 a, .int .i64 b] w fun e w' => e = .returned (.bool true) ∧ Below w.heap.size w w' := by
  have HS := Lib.hid (fun w => specHopsBetween n a b w)
  have HI := Lib.hid (fun w => implHopsBetween n a b w)
  obtain ⟨r, hr⟩ : ∃ r, betG n a b = r := ⟨_, rfl⟩
  rw [hr] at HS HI
  clear hr
  go_enter Try.func8, Try.ntmps8
  go_wp2_with fail
  refine (HS.out _).mono ?_
  rintro e w1 ⟨rfl, g1⟩
  have G1 := Lib.hid g1
  clear g1
  go_wp2_with fail
  refine (HI.out _).mono ?_
  rintro e w2 ⟨rfl, g2⟩
  have G2 := Lib.hid (gb_trans G1.out g2)
  clear g2
  go_wp2_with fail
  go_ret
  exact ⟨rfl, gb_below_none G2.out (Nat.le_refl _)⟩
end Go.Proofs.Ytnielgpcfgfioaa
