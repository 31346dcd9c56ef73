/- What is proved here: what the model's StandardPort returns, for all arguments; only new blocks are written. -/
import Derived.Test.YtbnpihkianggiaaStdS
import Derived.Test.YtbnpihkianggiaaStdR
namespace Go.Proofs.Ytbnpihkianggiaa
open Go.ChangeShapes Go.WideShapes Go.ChangeAt Go.RowKit
set_option linter.unusedVariables false

theorem specStdPortAll (W H r a b : Int) (w : World) :
    Calls Try.prog 18 #[.agg #[.int .i64 W, .int .i64 H], .int .i64 r, .int .i64 a, .int .i64 b] w (RetI (portAll W H r a b) none w) := by
  obtain ⟨p, hp⟩ : ∃ p, portAll W H r a b = p := ⟨_, rfl⟩
  rw [hp]
  have hz := Blk.new w 25 #[.int .i64 W, .int .i64 H]
  have HZ := Lib.hid hz
  clear hz
  cases ha : hasG W H a with
  | false =>
    obtain rfl : -1 = p := by rw [← hp, portAll, ha]; simp
    have HA := Lib.hid (fun w => specHasV W H a false ha w)
    clear ha hp
    go_enter Try.func18, Try.ntmps18
    go_wp2_with fail
    refine (HA.out _).mono ?_
    rintro e w1 ⟨rfl, g1⟩
    have HG1 := Lib.hid g1
    clear g1
    go_wp2_with fail
    go_ret
    exact ⟨rfl, box_gb HG1.out⟩
  | true =>
    have HA := Lib.hid (fun w => specHasV W H a true ha w)
    cases hb : hasG W H b with
    | false =>
      obtain rfl : -1 = p := by rw [← hp, portAll, ha, hb]; simp
      have HB := Lib.hid (fun w => specHasV W H b false hb w)
      clear ha hb hp
      go_enter Try.func18, Try.ntmps18
      go_wp2_with fail
      refine (HA.out _).mono ?_
      rintro e w1 ⟨rfl, g1⟩
      have hb1 := HZ.out.grown g1 (by simp)
      have a0 : w1.cell? ⟨w.heap.size, 0, none⟩ = some (.int .i64 W) := hb1.cell 0
      have a1 : w1.cell? ⟨w.heap.size, 1, none⟩ = some (.int .i64 H) := hb1.cell 1
      have HG1 := Lib.hid g1
      clear g1 hb1
      go_wp2_with fail
      refine (HB.out _).mono ?_
      rintro e w2 ⟨rfl, g2⟩
      have HG2 := Lib.hid (gb_trans HG1.out g2)
      clear g2
      go_wp2_with fail
      go_ret
      exact ⟨rfl, box_gb HG2.out⟩
    | true =>
      have HB := Lib.hid (fun w => specHasV W H b true hb w)
      by_cases hr : 1 ≤ r ∧ r ≤ 4
      · obtain rfl : stdPort W r a b = p := by rw [← hp, portAll, ha, hb]; simp [hr]
        have HI := Lib.hid (fun w => specInV r 1 4 true (by simpa using hr) w)
        have HC := Lib.hid (fun w => specStdPort W H r a b hr.1 hr.2 ha hb w)
        clear ha hb hp hr
        go_enter Try.func18, Try.ntmps18
        go_wp2_with fail
        refine (HA.out _).mono ?_
        rintro e w1 ⟨rfl, g1⟩
        have hb1 := HZ.out.grown g1 (by simp)
        have a0 : w1.cell? ⟨w.heap.size, 0, none⟩ = some (.int .i64 W) := hb1.cell 0
        have a1 : w1.cell? ⟨w.heap.size, 1, none⟩ = some (.int .i64 H) := hb1.cell 1
        have HB1 := Lib.hid hb1
        have HG1 := Lib.hid g1
        clear g1 hb1
        go_wp2_with fail
        refine (HB.out _).mono ?_
        rintro e w2 ⟨rfl, g2⟩
        have hb2 := HB1.out.grown g2 (by simp)
        have d0 : w2.cell? ⟨w.heap.size, 0, none⟩ = some (.int .i64 W) := hb2.cell 0
        have d1 : w2.cell? ⟨w.heap.size, 1, none⟩ = some (.int .i64 H) := hb2.cell 1
        have HG2 := Lib.hid (gb_trans HG1.out g2)
        clear g2 hb2
        go_wp2_with fail
        refine (HI.out _).mono ?_
        rintro e w3 ⟨rfl, rfl⟩
        go_wp2_with fail
        refine (HC.out _).mono ?_
        rintro e w4 ⟨rfl, g4⟩
        have HG4 := Lib.hid (gb_trans HG2.out g4)
        clear g4
        go_wp2_with fail
        go_ret
        exact ⟨rfl, box_gb HG4.out⟩
      · obtain rfl : -1 = p := by rw [← hp, portAll, ha, hb]; simp; omega
        have HI := Lib.hid (fun w => specInV r 1 4 false (by simpa using hr) w)
        clear ha hb hp hr
        go_enter Try.func18, Try.ntmps18
        go_wp2_with fail
        refine (HA.out _).mono ?_
        rintro e w1 ⟨rfl, g1⟩
        have hb1 := HZ.out.grown g1 (by simp)
        have a0 : w1.cell? ⟨w.heap.size, 0, none⟩ = some (.int .i64 W) := hb1.cell 0
        have a1 : w1.cell? ⟨w.heap.size, 1, none⟩ = some (.int .i64 H) := hb1.cell 1
        have HG1 := Lib.hid g1
        clear g1 hb1
        go_wp2_with fail
        refine (HB.out _).mono ?_
        rintro e w2 ⟨rfl, g2⟩
        have HG2 := Lib.hid (gb_trans HG1.out g2)
        clear g2
        go_wp2_with fail
        refine (HI.out _).mono ?_
        rintro e w3 ⟨rfl, rfl⟩
        go_wp2_with fail
        go_ret
        exact ⟨rfl, box_gb HG2.out⟩
end Go.Proofs.Ytbnpihkianggiaa
