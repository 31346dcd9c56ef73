/- What is proved here: small facts on a cursor where other blocks are written; nothing of the program. -/
import Derived.Test.YtcjidpegmlbenaaCur
namespace Go.Proofs.Ytcjidpegmlbenaa
open Go.ChangeShapes Go.WideShapes Go.ChangeAt Go.RowKit
set_option linter.unusedVariables false

theorem cur_far {w : World} {g : Nat} {p : Addr} (h : Cur w g) (hp : g < p.block) (x : Value) : Cur (w.setCell p x) g :=
  h.grown (gb_setCell (gb_refl w (some p.block)) (.inl rfl) x) (fun k e => by cases e; exact hp)
theorem gb_setS {a w : World} {row : Option Nat} {b i j k : Nat} (h : a.grownBy w row) (hb : a.heap.size ≤ b) (x y z : Value) : a.grownBy (((w.setCell ⟨b, i, none⟩ x).setCell ⟨b, j, none⟩ y).setCell ⟨b, k, none⟩ z) row :=
  gb_setCell (gb_setCell (gb_setCell h (.inr hb) x) (.inr hb) y) (.inr hb) z
theorem gb_undraw2 {a b : World} {row : Option Nat} (h : a.drew.grownBy b row) : a.grownBy b row := ⟨h.os, h.tape, h.output, h.size, h.block⟩
end Go.Proofs.Ytcjidpegmlbenaa
