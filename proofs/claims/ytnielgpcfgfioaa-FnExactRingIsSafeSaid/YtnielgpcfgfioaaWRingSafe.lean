/- What is proved here: the exact law on RingIsSafe answers true, for every argument; only new blocks are written. -/
import Derived.Test.YtnielgpcfgfioaaRdS
import Derived.Test.YtnielgpcfgfioaaRdI
namespace Go.Proofs.Ytnielgpcfgfioaa
open Go.ChangeShapes Go.WideShapes Go.ChangeAt Go.RowKit
set_option linter.unusedVariables false

theorem walk_FnExactRingIsSafe (n : Int) (d : Bool) (w : World) (hwn : (Lit.int .i64 n).wf = true) :
    Calls Try.prog 7 #[.int .i64 n, .bool d] w fun e w' => e = .returned (.bool true) ∧ Below w.heap.size w w' := by
  have HS := Lib.hid (fun w => specRingIsSafe n d w)
  have HI := Lib.hid (fun w => implRingIsSafe n d w)
  obtain ⟨r, hr⟩ : ∃ r, ringS n d = r := ⟨_, rfl⟩
  rw [hr] at HS HI
  clear hr
  go_enter Try.func7, Try.ntmps7
  go_wp2_with fail
  refine (HS.out _).mono ?_
  rintro e w1 ⟨rfl, g1⟩
  have G1 := Lib.hid g1
  clear g1
  go_wp2_with fail
  refine (HI.out _).mono ?_
  rintro e w2 ⟨rfl, g2⟩
  have G2 := Lib.hid (gb_trans G1.out g2)
  clear g2
  go_wp2_with fail
  go_ret
  exact ⟨rfl, gb_below_none G2.out (Nat.le_refl _)⟩
end Go.Proofs.Ytnielgpcfgfioaa
