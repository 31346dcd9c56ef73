/- What is proved here: the exact laws on grids answer true, for every argument; only new blocks are written. -/
import Derived.Test.YtcckakopmboliaaToGrid
import Derived.Test.YtcckakopmboliaaGridS
import Derived.Test.YtcckakopmboliaaDistS
import Derived.Test.YtcckakopmboliaaDistI
namespace Go.Proofs.Ytcckakopmboliaa
open Go.ChangeShapes Go.WideShapes Go.ChangeAt Go.RowKit
set_option linter.unusedVariables false

theorem walk_FnExactGridOk (W H : Int) (w : World) (w0 : (Lit.int .i64 W).wf = true) (w1 : (Lit.int .i64 H).wf = true) :
    Calls Try.prog 4 #[.agg #[.int .i64 W, .int .i64 H]] w fun e w' => e = .returned (.bool true) ∧ Below w.heap.size w w' := by
  clear w0 w1
  go_enter Try.func4, Try.ntmps4
  go_wp2_with fail
  refine (lawsToGrid W H _).mono ?_
  rintro e w1 ⟨rfl, hg1⟩
  have hb1 := box_blk hg1
  have Hg1 := Lib.hid (box_gb hg1)
  have Hb1 := Lib.hid hb1
  clear hg1 hb1
  go_wp2_with fail
  refine (specGridOk W H _).mono ?_
  rintro e w2 ⟨rfl, hg2⟩
  have hb2 := Hb1.out.grown hg2 (by simp)
  have c0 := hb2.cell 0
  have c1 := hb2.cell 1
  simp at c0 c1
  have Hg2 := Lib.hid (gb_trans Hg1.out hg2)
  clear hg2 hb2
  go_wp2_with fail
  refine (lawsToGrid W H _).mono ?_
  rintro e w3 ⟨rfl, hg3⟩
  have Hg3 := Lib.hid (gb_trans Hg2.out hg3)
  clear hg3 c0 c1
  go_wp2_with fail
  refine (implGridOk W H _).mono ?_
  rintro e w4 ⟨rfl, hg4⟩
  have Hg4 := Lib.hid (gb_trans Hg3.out hg4)
  clear hg4
  go_wp2_with fail
  go_ret
  exact ⟨rfl, gb_below_none Hg4.out (Nat.le_refl _)⟩

theorem walk_FnExactNodeCount (W H : Int) (w : World) (w0 : (Lit.int .i64 W).wf = true) (w1 : (Lit.int .i64 H).wf = true) :
    Calls Try.prog 5 #[.agg #[.int .i64 W, .int .i64 H]] w fun e w' => e = .returned (.bool true) ∧ Below w.heap.size w w' := by
  clear w0 w1
  go_enter Try.func5, Try.ntmps5
  go_wp2_with fail
  refine (lawsToGrid W H _).mono ?_
  rintro e w1 ⟨rfl, hg1⟩
  have hb1 := box_blk hg1
  have Hg1 := Lib.hid (box_gb hg1)
  have Hb1 := Lib.hid hb1
  clear hg1 hb1
  go_wp2_with fail
  refine (specNodeCount W H _).mono ?_
  rintro e w2 ⟨rfl, hg2⟩
  have hb2 := Hb1.out.grown hg2 (by simp)
  have c0 := hb2.cell 0
  have c1 := hb2.cell 1
  simp at c0 c1
  have Hg2 := Lib.hid (gb_trans Hg1.out hg2)
  clear hg2 hb2
  go_wp2_with fail
  refine (lawsToGrid W H _).mono ?_
  rintro e w3 ⟨rfl, hg3⟩
  have Hg3 := Lib.hid (gb_trans Hg2.out hg3)
  clear hg3 c0 c1
  go_wp2_with fail
  refine (implNodeCount W H _).mono ?_
  rintro e w4 ⟨rfl, hg4⟩
  have Hg4 := Lib.hid (gb_trans Hg3.out hg4)
  clear hg4
  go_wp2_with fail
  go_ret
  exact ⟨rfl, gb_below_none Hg4.out (Nat.le_refl _)⟩

theorem walk_FnExactNodeAt (W H x y : Int) (w : World) (w0 : (Lit.int .i64 W).wf = true) (w1 : (Lit.int .i64 H).wf = true) (w2 : (Lit.int .i64 x).wf = true) (w3 : (Lit.int .i64 y).wf = true) :
    Calls Try.prog 6 #[.agg #[.int .i64 W, .int .i64 H], .int .i64 x, .int .i64 y] w fun e w' => e = .returned (.bool true) ∧ Below w.heap.size w w' := by
  clear w0 w1 w2 w3
  go_enter Try.func6, Try.ntmps6
  go_wp2_with fail
  refine (lawsToGrid W H _).mono ?_
  rintro e w1 ⟨rfl, hg1⟩
  have hb1 := box_blk hg1
  have Hg1 := Lib.hid (box_gb hg1)
  have Hb1 := Lib.hid hb1
  clear hg1 hb1
  go_wp2_with fail
  refine (specNodeAt W H x y _).mono ?_
  rintro e w2 ⟨rfl, hg2⟩
  have hb2 := Hb1.out.grown hg2 (by simp)
  have c0 := hb2.cell 0
  have c1 := hb2.cell 1
  simp at c0 c1
  have Hg2 := Lib.hid (gb_trans Hg1.out hg2)
  clear hg2 hb2
  go_wp2_with fail
  refine (lawsToGrid W H _).mono ?_
  rintro e w3 ⟨rfl, hg3⟩
  have Hg3 := Lib.hid (gb_trans Hg2.out hg3)
  clear hg3 c0 c1
  go_wp2_with fail
  refine (implNodeAt W H x y _).mono ?_
  rintro e w4 ⟨rfl, hg4⟩
  have Hg4 := Lib.hid (gb_trans Hg3.out hg4)
  clear hg4
  go_wp2_with fail
  go_ret
  exact ⟨rfl, gb_below_none Hg4.out (Nat.le_refl _)⟩

theorem walk_FnExactColumnOf (W H n : Int) (w : World) (w0 : (Lit.int .i64 W).wf = true) (w1 : (Lit.int .i64 H).wf = true) (w2 : (Lit.int .i64 n).wf = true) :
    Calls Try.prog 7 #[.agg #[.int .i64 W, .int .i64 H], .int .i64 n] w fun e w' => e = .returned (.bool true) ∧ Below w.heap.size w w' := by
  clear w0 w1 w2
  go_enter Try.func7, Try.ntmps7
  go_wp2_with fail
  refine (lawsToGrid W H _).mono ?_
  rintro e w1 ⟨rfl, hg1⟩
  have hb1 := box_blk hg1
  have Hg1 := Lib.hid (box_gb hg1)
  have Hb1 := Lib.hid hb1
  clear hg1 hb1
  go_wp2_with fail
  refine (specColumnOf W H n _).mono ?_
  rintro e w2 ⟨rfl, hg2⟩
  have hb2 := Hb1.out.grown hg2 (by simp)
  have c0 := hb2.cell 0
  have c1 := hb2.cell 1
  simp at c0 c1
  have Hg2 := Lib.hid (gb_trans Hg1.out hg2)
  clear hg2 hb2
  go_wp2_with fail
  refine (lawsToGrid W H _).mono ?_
  rintro e w3 ⟨rfl, hg3⟩
  have Hg3 := Lib.hid (gb_trans Hg2.out hg3)
  clear hg3 c0 c1
  go_wp2_with fail
  refine (implColumnOf W H n _).mono ?_
  rintro e w4 ⟨rfl, hg4⟩
  have Hg4 := Lib.hid (gb_trans Hg3.out hg4)
  clear hg4
  go_wp2_with fail
  go_ret
  exact ⟨rfl, gb_below_none Hg4.out (Nat.le_refl _)⟩

theorem walk_FnExactRowOf (W H n : Int) (w : World) (w0 : (Lit.int .i64 W).wf = true) (w1 : (Lit.int .i64 H).wf = true) (w2 : (Lit.int .i64 n).wf = true) :
    Calls Try.prog 8 #[.agg #[.int .i64 W, .int .i64 H], .int .i64 n] w fun e w' => e = .returned (.bool true) ∧ Below w.heap.size w w' := by
  clear w0 w1 w2
  go_enter Try.func8, Try.ntmps8
  go_wp2_with fail
  refine (lawsToGrid W H _).mono ?_
  rintro e w1 ⟨rfl, hg1⟩
  have hb1 := box_blk hg1
  have Hg1 := Lib.hid (box_gb hg1)
  have Hb1 := Lib.hid hb1
  clear hg1 hb1
  go_wp2_with fail
  refine (specRowOf W H n _).mono ?_
  rintro e w2 ⟨rfl, hg2⟩
  have hb2 := Hb1.out.grown hg2 (by simp)
  have c0 := hb2.cell 0
  have c1 := hb2.cell 1
  simp at c0 c1
  have Hg2 := Lib.hid (gb_trans Hg1.out hg2)
  clear hg2 hb2
  go_wp2_with fail
  refine (lawsToGrid W H _).mono ?_
  rintro e w3 ⟨rfl, hg3⟩
  have Hg3 := Lib.hid (gb_trans Hg2.out hg3)
  clear hg3 c0 c1
  go_wp2_with fail
  refine (implRowOf W H n _).mono ?_
  rintro e w4 ⟨rfl, hg4⟩
  have Hg4 := Lib.hid (gb_trans Hg3.out hg4)
  clear hg4
  go_wp2_with fail
  go_ret
  exact ⟨rfl, gb_below_none Hg4.out (Nat.le_refl _)⟩

theorem walk_FnExactDistance (W H a b : Int) (w : World) (w0 : (Lit.int .i64 W).wf = true) (w1 : (Lit.int .i64 H).wf = true) (w2 : (Lit.int .i64 a).wf = true) (w3 : (Lit.int .i64 b).wf = true) :
    Calls Try.prog 9 #[.agg #[.int .i64 W, .int .i64 H], .int .i64 a, .int .i64 b] w fun e w' => e = .returned (.bool true) ∧ Below w.heap.size w w' := by
  clear w0 w1 w2 w3
  go_enter Try.func9, Try.ntmps9
  go_wp2_with fail
  refine (lawsToGrid W H _).mono ?_
  rintro e w1 ⟨rfl, hg1⟩
  have hb1 := box_blk hg1
  have Hg1 := Lib.hid (box_gb hg1)
  have Hb1 := Lib.hid hb1
  clear hg1 hb1
  go_wp2_with fail
  refine (specDistance W H a b _).mono ?_
  rintro e w2 ⟨rfl, hg2⟩
  have hb2 := Hb1.out.grown hg2 (by simp)
  have c0 := hb2.cell 0
  have c1 := hb2.cell 1
  simp at c0 c1
  have Hg2 := Lib.hid (gb_trans Hg1.out hg2)
  clear hg2 hb2
  go_wp2_with fail
  refine (lawsToGrid W H _).mono ?_
  rintro e w3 ⟨rfl, hg3⟩
  have Hg3 := Lib.hid (gb_trans Hg2.out hg3)
  clear hg3 c0 c1
  go_wp2_with fail
  refine (implDistance W H a b _).mono ?_
  rintro e w4 ⟨rfl, hg4⟩
  have Hg4 := Lib.hid (gb_trans Hg3.out hg4)
  clear hg4
  go_wp2_with fail
  go_ret
  exact ⟨rfl, gb_below_none Hg4.out (Nat.le_refl _)⟩

theorem walk_FnExactDiameter (W H : Int) (w : World) (w0 : (Lit.int .i64 W).wf = true) (w1 : (Lit.int .i64 H).wf = true) :
    Calls Try.prog 10 #[.agg #[.int .i64 W, .int .i64 H]] w fun e w' => e = .returned (.bool true) ∧ Below w.heap.size w w' := by
  clear w0 w1
  go_enter Try.func10, Try.ntmps10
  go_wp2_with fail
  refine (lawsToGrid W H _).mono ?_
  rintro e w1 ⟨rfl, hg1⟩
  have hb1 := box_blk hg1
  have Hg1 := Lib.hid (box_gb hg1)
  have Hb1 := Lib.hid hb1
  clear hg1 hb1
  go_wp2_with fail
  refine (specDiameter W H _).mono ?_
  rintro e w2 ⟨rfl, hg2⟩
  have hb2 := Hb1.out.grown hg2 (by simp)
  have c0 := hb2.cell 0
  have c1 := hb2.cell 1
  simp at c0 c1
  have Hg2 := Lib.hid (gb_trans Hg1.out hg2)
  clear hg2 hb2
  go_wp2_with fail
  refine (lawsToGrid W H _).mono ?_
  rintro e w3 ⟨rfl, hg3⟩
  have Hg3 := Lib.hid (gb_trans Hg2.out hg3)
  clear hg3 c0 c1
  go_wp2_with fail
  refine (implDiameter W H _).mono ?_
  rintro e w4 ⟨rfl, hg4⟩
  have Hg4 := Lib.hid (gb_trans Hg3.out hg4)
  clear hg4
  go_wp2_with fail
  go_ret
  exact ⟨rfl, gb_below_none Hg4.out (Nat.le_refl _)⟩

end Go.Proofs.Ytcckakopmboliaa
