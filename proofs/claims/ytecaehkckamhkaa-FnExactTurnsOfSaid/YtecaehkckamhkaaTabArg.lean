/- What is proved here: a table that came in as an argument is a slice of numbers that can be read; nothing of the program. -/
import Derived.Test.YtecaehkckamhkaaIntArg
namespace Go.Proofs.Ytecaehkckamhkaa
open Go.ChangeShapes Go.WideShapes Go.ChangeAt Go.RowKit
set_option linter.unusedVariables false
set_option maxRecDepth 20000

section
variable {H : Type} {enc : TypeId × Value → H} {w : World} {spare : Nat → Bool} {held : Bool} {base : Nat}
theorem open_table {r : Reach} {b0 : Nat} {v : Value} {d : DataW H} {p : List MemPlace}
    (hv : Value.okWide Try.prog w r b0 28 v) (h : DataW.Trod enc Try.prog w base spare held 28 v d p) :
    ∃ (A : Option Addr) (n cap : Nat) (P : List Int), v = .agg #[.slice A n cap] ∧ n ≤ cap ∧ cap ≤ maxLen ∧ IntAt w w.heap.size A n P ∧ ∀ x ∈ P, (Lit.int .i64 x).wf = true := by
  obtain ⟨cs, rfl, hsz⟩ := okWide_struct Try.underlying28 hv
  have hC : Try.prog.cellsOf 28 = 1 := by kernel_rfl
  have hS : Try.prog.cellsOf 24 = 1 := by kernel_rfl
  obtain ⟨c0, rfl⟩ : ∃ c, cs = #[c] := by
    obtain ⟨l⟩ := cs
    have h1 : l.length = 1 := hsz.trans hC
    obtain ⟨c, rfl⟩ := List.length_eq_one_iff.1 h1
    exact ⟨c, rfl⟩
  obtain ⟨fuel, hf⟩ := h
  obtain ⟨y0, n, hx, _, h0⟩ := trod_struct1 Try.underlying28 hf
  simp [Value.cells, hS] at h0
  obtain ⟨A, l, cap, P, e2, i1, i2, i3, i4⟩ := open_intS h0
  simp at e2
  subst e2
  exact ⟨A, l, cap, P, rfl, i1, i2, i3, i4⟩
end
end Go.Proofs.Ytecaehkckamhkaa
