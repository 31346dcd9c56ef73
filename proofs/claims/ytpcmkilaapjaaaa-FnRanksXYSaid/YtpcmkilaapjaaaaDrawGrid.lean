/- What is proved here: a drawn grid is valid; only new blocks are written. -/
import Derived.Test.YtpcmkilaapjaaaaPickGrid
namespace Go.Proofs.Ytpcmkilaapjaaaa
open Go.ChangeShapes Go.WideShapes Go.ChangeAt Go.RowKit
set_option linter.unusedVariables false

/-- A grid with sides from 1 to 4 is returned; only new blocks are written. -/
def DrawnGrid (w : World) (e : Ending) (w' : World) : Prop := ∃ W H : Int, e = .returned (.agg #[.int .i64 W, .int .i64 H]) ∧ okG W H = true ∧ Below w.heap.size w w'

theorem drawGrid (A : Option Addr) (n cap : Nat) (w : World) (hr : ByteRow w w.heap.size A n) (hn : n ≤ 1048576) :
    Calls Try.prog 14 #[.slice A n cap] w (DrawnGrid w) := by
  have hr0 : ByteRow (w.alloc (.cells #[.int .i64 0, .int .i64 0] 33)) (w.alloc (.cells #[.int .i64 0, .int .i64 0] 33)).heap.size A n := (hr.keep fun p hp => World.cell?_of_block (Below.heap_alloc _ _ _ hp)).more (by simp)
  have HB := Lib.hid (Blk.new w 33 #[.int .i64 0, .int .i64 0])
  have HA := Lib.hid (show Below w.heap.size w (w.alloc (.cells #[.int .i64 0, .int .i64 0] 33)) from (Below.refl _ _).alloc (Nat.le_refl _) _)
  have HR := Lib.hid hr0
  clear hr hr0
  go_enter Try.func14, Try.ntmps14
  go_wp2_with fail
  refine (l01New _ _ _ _ HR.out hn).mono ?_
  rintro e w1 ⟨g, rfl, hg, hc1, hbel⟩
  simp at hg
  have hs : (w.alloc (.cells #[.int .i64 0, .int .i64 0] 33)).heap.size = w.heap.size + 1 := by simp
  have HG := Lib.hid hg
  have hb1 := HB.out.below hbel (by simp)
  have HB1 := Lib.hid hb1
  have HA1 := Lib.hid (show Below w.heap.size w w1 from ⟨hbel.os.trans HA.out.os, hbel.tape.trans HA.out.tape, hbel.output.trans HA.out.output, Nat.le_trans HA.out.size hbel.size, fun i hi => (hbel.block i (by simp; omega)).trans (HA.out.block i hi)⟩)
  clear hbel hb1 hg
  go_wp2_with fail
  refine (l02Grid g _ hc1).mono ?_
  rintro e w2 ⟨W, H, rfl, hok, hc2, hg2⟩
  have hb2 := HB1.out.grown hg2 (fun e => by cases e; have := HG.out; omega)
  have HB2 := Lib.hid hb2
  have HA2 := Lib.hid (HA1.out.trans (gb_below hg2 HA1.out.size (by have := HG.out; omega)))
  have c0 := hb2.cell 0
  have c1 := hb2.cell 1
  have f0 := hb2.frozen 0
  have f1 := hb2.frozen 1
  simp at c0 c1
  clear hb2 hg2 hc1 hc2 hs
  go_wp2_with fail
  have d1 := ((HB2.out.set_ 0 (.int .i64 W)).set_ 1 (.int .i64 H)).cell 0
  have d2 := ((HB2.out.set_ 0 (.int .i64 W)).set_ 1 (.int .i64 H)).cell 1
  simp at d1 d2
  refine bodyPost_ret (v := .agg #[.int .i64 W, .int .i64 H]) (by simp [results, Try.results14, go_sem, d1, d2]) rfl ⟨W, H, rfl, hok, ?_⟩
  have hz : w.grownBy w2 none := gb_of_below HA2.out none
  exact gb_below_none (gb_set2 hz (Nat.le_refl _) _ _) (Nat.le_refl _)
end Go.Proofs.Ytpcmkilaapjaaaa
