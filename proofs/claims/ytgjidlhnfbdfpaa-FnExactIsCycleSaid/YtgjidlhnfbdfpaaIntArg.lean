/- What is proved here: a slice of numbers inside an argument can be read; nothing of the program. -/
import Derived.Test.YtgjidlhnfbdfpaaIntAt
namespace Go.Proofs.Ytgjidlhnfbdfpaa
open Go.ChangeShapes Go.WideShapes Go.ChangeAt Go.RowKit
set_option linter.unusedVariables false

section
variable {H : Type} {enc : TypeId × Value → H} {w : World} {spare : Nat → Bool} {held : Bool} {base fuel : Nat}

theorem intAt_of (x : Addr) (l : Nat) (zs : List Int) (hl : l ≤ zs.length) (hcell : ∀ i, i < zs.length → w.cell? (x.add i) = some (.int .i64 (zs.getD i 0))) :
    IntAt w w.heap.size (some x) l (zs.take l) := ⟨by simp; omega, fun hn => by
  obtain ⟨b, off, spot⟩ := x
  have hc := hcell 0 (by omega)
  have hspot : spot = none := by simpa [Addr.add] using World.cell?_spot hc
  subst hspot
  have hlt : b < w.heap.size := by simpa [Addr.add] using World.block_lt_of_cell? _ _ hc
  refine ⟨b, off, rfl, hlt, fun k y hy => ?_⟩
  have hkl : k < l := by
    rcases Nat.lt_or_ge k l with h1 | h1
    · exact h1
    · rw [List.getElem?_eq_none (by simp; omega)] at hy; cases hy
  rw [List.getElem?_take_of_lt hkl] at hy
  have h2 := hcell k (by omega)
  rw [List.getD_eq_getElem?_getD, hy] at h2
  simpa [Addr.add_lit] using h2⟩

/-- A cell that reads as a slice of integers. -/
theorem open_intS {cs : List Value} {y : DataW H × List MemPlace} (hf : DataW.trod enc Try.prog w base spare held fuel 26 cs = some y) :
    ∃ (A : Option Addr) (n cap : Nat) (L : List Int), cs = [.slice A n cap] ∧ n ≤ cap ∧ cap ≤ maxLen ∧ IntAt w w.heap.size A n L ∧ ∀ x ∈ L, (Lit.int .i64 x).wf = true := by
  rcases open_ints Try.underlying26 Try.underlying3 (by kernel_rfl) hf with ⟨hcs, _⟩ | ⟨x, l, c, zs, hcs, _, hl, hm, hz, _, hcell, hwz⟩
  · exact ⟨none, 0, 0, [], hcs, Nat.le_refl _, Nat.zero_le _, IntAt.nil _ _ _, fun x h => by cases h⟩
  · refine ⟨some x, l, c, zs.take l, hcs, hl, hm, intAt_of x l zs (by rw [hz]; split <;> omega) hcell, fun y hy => hwz y (List.mem_of_mem_take hy)⟩
end
end Go.Proofs.Ytgjidlhnfbdfpaa
