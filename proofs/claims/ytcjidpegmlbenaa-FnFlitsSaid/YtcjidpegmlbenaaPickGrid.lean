/- What is proved here: a drawn grid is a valid one; only new blocks are written. -/
import Derived.Test.YtcjidpegmlbenaaPickInt
import Derived.Test.YtcjidpegmlbenaaGridM
namespace Go.Proofs.Ytcjidpegmlbenaa
open Go.ChangeShapes Go.WideShapes Go.ChangeAt Go.RowKit
set_option linter.unusedVariables false

/-- A grid with sides from 1 to 4 is returned; only the cursor and new blocks are written. -/
def DrawnGridC (g : Nat) (w : World) (e : Ending) (w' : World) : Prop := ∃ W H : Int, e = .returned (.agg #[.int .i64 W, .int .i64 H]) ∧ okG W H = true ∧ Cur w' g ∧ w.grownBy w' (some g)
def Side (n : Int) : Prop := 1 ≤ n ∧ n ≤ 4

theorem gb_set2 {a w : World} {row : Option Nat} {b : Nat} (h : a.grownBy w row) (hb : a.heap.size ≤ b) (x y : Value) : a.grownBy ((w.setCell ⟨b, 0, none⟩ x).setCell ⟨b, 1, none⟩ y) row :=
  gb_setCell (gb_setCell h (.inr hb) x) (.inr hb) y
theorem cur_set2 {w : World} {g b : Nat} (h : Cur w g) (hb : g < b) (x y : Value) : Cur ((w.setCell ⟨b, 0, none⟩ x).setCell ⟨b, 1, none⟩ y) g := by
  have hg : w.grownBy ((w.setCell ⟨b, 0, none⟩ x).setCell ⟨b, 1, none⟩ y) (some b) := gb_setCell (gb_setCell (gb_refl w (some b)) (.inl rfl) x) (.inl rfl) y
  exact h.grown hg (fun k e => by cases e; exact hb)

theorem l02Grid (g : Nat) (w : World) (hcur : Cur w g) :
    Calls Try.prog 41 #[.pointer (some ⟨g, 0, none⟩)] w (DrawnGridC g w) := by
  have hlt := hcur.lt
  have hc0 : Cur (w.alloc (.cells #[.int .i64 0, .int .i64 0] 25)) g := hcur.grown (gb_alloc (gb_refl _ none) _) (fun k e => by cases e)
  have HB := Lib.hid (Blk.new w 25 #[.int .i64 0, .int .i64 0])
  have HA := Lib.hid (show w.grownBy (w.alloc (.cells #[.int .i64 0, .int .i64 0] 25)) (some g) from gb_alloc (gb_refl _ _) _)
  clear hcur
  go_enter Try.func41, Try.ntmps41
  go_wp2_with fail
  refine (pick_at Side [1, 2, 2, 3, 3, 4] _ _ 6 6 _ g _ (by simp) hc0 rfl rfl (by omega) (by unfold Side; decide)).mono ?_
  rintro e w1 ⟨W, rfl, hW, hcur1, hg1⟩
  have hb1 := HB.out.grown hg1 (fun e => by cases e; omega)
  have HW := Lib.hid hW
  have HG1 := Lib.hid (gb_trans HA.out hg1)
  have HB1 := Lib.hid hb1
  clear hc0 hW hg1 hb1
  go_wp2_with fail
  refine (pick_at Side [1, 2, 2, 3, 3, 4] _ _ 6 6 _ g _ rfl hcur1 rfl rfl (by omega) (by unfold Side; decide)).mono ?_
  rintro e w2 ⟨H, rfl, hH, hcur2, hg2⟩
  have hb2 := HB1.out.grown hg2 (fun e => by cases e; omega)
  have HH := Lib.hid hH
  have HG2 := Lib.hid (gb_trans HG1.out hg2)
  have HB2 := Lib.hid hb2
  have HC2 := Lib.hid hcur2
  have c0 := hb2.cell 0
  have c1 := hb2.cell 1
  have f0 := hb2.frozen 0
  have f1 := hb2.frozen 1
  simp at c0 c1
  clear hcur1 hcur2 hg2 hb2
  go_wp2_with fail
  have d0 := (HB2.out.set_ 0 (.int .i64 W)).cell 1
  have d1 := ((HB2.out.set_ 0 (.int .i64 W)).set_ 1 (.int .i64 H)).cell 0
  have d2 := ((HB2.out.set_ 0 (.int .i64 W)).set_ 1 (.int .i64 H)).cell 1
  simp at d0 d1 d2
  refine bodyPost_ret (v := .agg #[.int .i64 W, .int .i64 H]) (by simp [results, Try.results41, go_sem, d1, d2]) rfl ⟨W, H, rfl, okG_iff.2 ⟨HW.out.1, HW.out.2, HH.out.1, HH.out.2⟩, ?_, ?_⟩
  · exact cur_set2 HC2.out hlt _ _
  · exact gb_set2 HG2.out (Nat.le_refl _) _ _
end Go.Proofs.Ytcjidpegmlbenaa
