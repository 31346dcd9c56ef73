/- What is proved here: the exact law on RankRule answers true, for every argument; only new blocks are written. -/
import Derived.Test.YtpcmkilaapjaaaaToGrid
import Derived.Test.YtpcmkilaapjaaaaRankS
import Derived.Test.YtpcmkilaapjaaaaRankI
namespace Go.Proofs.Ytpcmkilaapjaaaa
open Go.ChangeShapes Go.WideShapes Go.ChangeAt Go.RowKit
set_option linter.unusedVariables false
set_option maxRecDepth 20000

theorem walk_FnExactRankRule (W H r n : Int) (w : World) (w0 : (Lit.int .i64 W).wf = true) (w1 : (Lit.int .i64 H).wf = true) (wr : (Lit.int .i64 r).wf = true) (w2 : (Lit.int .i64 n).wf = true) :
    Calls Try.prog 7 #[.agg #[.int .i64 W, .int .i64 H], .int .i64 r, .int .i64 n] w fun e w' => e = .returned (.bool true) ∧ Below w.heap.size w w' := by
  have HW2 := Lib.hid w2
  clear w0 w1 wr w2
  go_enter Try.func7, Try.ntmps7
  go_wp2_with fail
  refine (lawsToGrid W H _).mono ?_
  rintro e w1 ⟨rfl, hg1⟩
  have hb1 := box_blk hg1
  have Hg1 := Lib.hid (box_gb hg1)
  have Hb1 := Lib.hid hb1
  clear hg1 hb1
  go_wp2_with fail
  refine (specRankRule W H r n _).mono ?_
  rintro e w2 ⟨rfl, hg2⟩
  have hb2 := Hb1.out.grown hg2 (by simp)
  have c0 := hb2.cell 0
  have c1 := hb2.cell 1
  simp at c0 c1
  have Hg2 := Lib.hid (gb_trans Hg1.out hg2)
  clear hg2 hb2
  go_wp2_with fail
  refine (lawsToGrid W H _).mono ?_
  rintro e w3 ⟨rfl, hg3⟩
  have Hg3 := Lib.hid (gb_trans Hg2.out hg3)
  clear hg3 c0 c1
  go_wp2_with fail
  refine (implRankRule W H r n HW2.out _).mono ?_
  rintro e w4 ⟨rfl, hg4⟩
  have Hg4 := Lib.hid (gb_trans Hg3.out hg4)
  clear hg4
  go_wp2_with fail
  go_ret
  exact ⟨rfl, gb_below_none Hg4.out (Nat.le_refl _)⟩
end Go.Proofs.Ytpcmkilaapjaaaa
