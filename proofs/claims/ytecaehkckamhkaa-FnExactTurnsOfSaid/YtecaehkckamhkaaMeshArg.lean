/- What is proved here: a mesh that came in as an argument is two numbers and a slice of numbers that can be read; nothing of the program. -/
import Derived.Test.YtecaehkckamhkaaIntArg
import Derived.Lib.SmallJoins
namespace Go.Proofs.Ytecaehkckamhkaa
open Go.ChangeShapes Go.WideShapes Go.ChangeAt Go.RowKit
set_option linter.unusedVariables false

section
variable {H : Type} {enc : TypeId × Value → H} {w : World} {spare : Nat → Bool} {held : Bool} {base fuel : Nat}
set_option maxRecDepth 100000 in
theorem open_mesh {r : Reach} {b0 : Nat} {v : Value} {d : DataW H} {p : List MemPlace}
    (hv : Value.okWide Try.prog w r b0 26 v) (h : DataW.Trod enc Try.prog w base spare held 26 v d p) :
    ∃ (W Hh : Int) (A : Option Addr) (n cap : Nat) (L : List Int), v = .agg #[.int .i64 W, .int .i64 Hh, .slice A n cap] ∧ (Lit.int .i64 W).wf = true ∧ (Lit.int .i64 Hh).wf = true ∧ n ≤ cap ∧ cap ≤ maxLen ∧ IntAt w w.heap.size A n L ∧ ∀ x ∈ L, (Lit.int .i64 x).wf = true := by
  obtain ⟨cs, rfl, hsz⟩ := okWide_struct Try.underlying26 hv
  have hC : Try.prog.cellsOf 26 = 3 := by kernel_rfl
  have hG : Try.prog.cellsOf 23 = 2 := by kernel_rfl
  have hS : Try.prog.cellsOf 24 = 1 := by kernel_rfl
  have hI : Try.prog.cellsOf 3 = 1 := by kernel_rfl
  obtain ⟨c0, c1, c2, rfl⟩ := Go.Joins.array3 (hsz.trans hC)
  obtain ⟨fuel, hf⟩ := h
  obtain ⟨y0, y1, n, hx, _, h0, h1⟩ := trod_struct2 Try.underlying26 hf
  obtain ⟨z0, z1, m, _, _, g0, g1⟩ := trod_struct2 Try.underlying23 h0
  simp [Value.cells, hG, hS, hI] at h1 g0 g1
  obtain ⟨W, e0, _, w0⟩ := DataW.trod_int Try.underlying3 g0
  obtain ⟨Hh, e1, _, w1⟩ := DataW.trod_int Try.underlying3 g1
  obtain ⟨A, l, cap, L, e2, i1, i2, i3, i4⟩ := open_intS h1
  simp at e0 e1 e2
  subst e0 e1 e2
  exact ⟨W, Hh, A, l, cap, L, rfl, w0, w1, i1, i2, i3, i4⟩
end
end Go.Proofs.Ytecaehkckamhkaa
