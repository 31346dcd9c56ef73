/- What is proved here: the exact laws on StandardPort and RuleName answer true, for every argument; only new blocks are written. -/
import Derived.Test.YtbnpihkianggiaaStdPortI
import Derived.Test.YtbnpihkianggiaaStdPortS
import Derived.Test.YtbnpihkianggiaaNameI
import Derived.Test.YtbnpihkianggiaaNameS
import Derived.Test.YtbnpihkianggiaaToGrid
namespace Go.Proofs.Ytbnpihkianggiaa
open Go.ChangeShapes Go.WideShapes Go.ChangeAt Go.RowKit
set_option linter.unusedVariables false

theorem walk_FnExactStandardPort (W H r a b : Int) (w : World) (w0 : (Lit.int .i64 W).wf = true) (w1 : (Lit.int .i64 H).wf = true) (w2 : (Lit.int .i64 r).wf = true) (w3 : (Lit.int .i64 a).wf = true) (w4 : (Lit.int .i64 b).wf = true) :
    Calls Try.prog 4 #[.agg #[.int .i64 W, .int .i64 H], .int .i64 r, .int .i64 a, .int .i64 b] w fun e w' => e = .returned (.bool true) ∧ Below w.heap.size w w' := by
  clear w0 w1 w2 w3 w4
  have HS := Lib.hid (fun w => specStdPortAll W H r a b w)
  have HI := Lib.hid (fun w => implStdPort W H r a b w)
  obtain ⟨p, hp⟩ : ∃ p, portAll W H r a b = p := ⟨_, rfl⟩
  rw [hp] at HS HI
  clear hp
  go_enter Try.func4, Try.ntmps4
  go_wp2_with fail
  refine (lawsToGrid W H _).mono ?_
  rintro e w1 ⟨rfl, hg1⟩
  have hb1 := box_blk hg1
  have Hg1 := Lib.hid (box_gb hg1)
  have Hb1 := Lib.hid hb1
  clear hg1 hb1
  go_wp2_with fail
  refine (HS.out _).mono ?_
  rintro e w2 ⟨rfl, hg2⟩
  have hb2 := Hb1.out.grown hg2 (by simp)
  have c0 : w2.cell? ⟨w.heap.size, 0, none⟩ = some (.int .i64 W) := hb2.cell 0
  have c1 : w2.cell? ⟨w.heap.size, 1, none⟩ = some (.int .i64 H) := hb2.cell 1
  have Hg2 := Lib.hid (gb_trans Hg1.out hg2)
  clear hg2 hb2
  go_wp2_with fail
  refine (lawsToGrid W H _).mono ?_
  rintro e w3 ⟨rfl, hg3⟩
  have Hg3 := Lib.hid (gb_trans Hg2.out hg3)
  clear hg3 c0 c1
  go_wp2_with fail
  refine (HI.out _).mono ?_
  rintro e w4 ⟨rfl, hg4⟩
  have Hg4 := Lib.hid (gb_trans Hg3.out hg4)
  clear hg4
  go_wp2_with fail
  go_ret
  exact ⟨rfl, gb_below_none Hg4.out (Nat.le_refl _)⟩

theorem walk_FnExactRuleName (r : Int) (w : World) (w0 : (Lit.int .i64 r).wf = true) :
    Calls Try.prog 6 #[.int .i64 r] w fun e w' => e = .returned (.bool true) ∧ Below w.heap.size w w' := by
  clear w0
  have HS := Lib.hid (fun w => specRuleName r w)
  have HI := Lib.hid (fun w => implRuleName r w)
  obtain ⟨p, hp⟩ : ∃ p, ruleName r = p := ⟨_, rfl⟩
  rw [hp] at HS HI
  clear hp
  go_enter Try.func6, Try.ntmps6
  go_wp2_with fail
  refine (HS.out _).mono ?_
  rintro e w1 ⟨rfl, g1⟩
  have G1 := Lib.hid g1
  clear g1
  go_wp2_with fail
  refine (HI.out _).mono ?_
  rintro e w2 ⟨rfl, g2⟩
  have G2 := Lib.hid (gb_trans G1.out g2)
  clear g2
  go_wp2_with fail
  go_ret
  exact ⟨rfl, gb_below_none G2.out (Nat.le_refl _)⟩
end Go.Proofs.Ytbnpihkianggiaa
