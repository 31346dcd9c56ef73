/- What is proved here: the state of a law on a drawn grid, its standard table and the mesh of that grid; nothing of the program. -/
import Derived.Test.YtecaehkckamhkaaIntAt
import Derived.Test.YtecaehkckamhkaaWfL
import Derived.Test.YtecaehkckamhkaaNewI
namespace Go.Proofs.Ytecaehkckamhkaa
open Go.ChangeShapes Go.WideShapes Go.ChangeAt Go.RowKit
set_option linter.unusedVariables false

/-- The drawn grid, the table, the mesh and the table's list are as they were. -/
def StandAt (W H : Int) (A2 : Option Addr) (c2 : Nat) (P : List Int) (w : World) (b0 b1 b2 : Nat) (wr : World) : Prop :=
  Blk wr b0 32 #[.int .i64 W, .int .i64 H] ∧ Blk wr b1 36 #[.slice A2 P.length c2] ∧ Blk wr b2 34 #[.int .i64 W, .int .i64 H, .slice none 0 0] ∧
  IntAt wr wr.heap.size A2 P.length P ∧ Below w.heap.size w wr
section
variable {W H : Int} {A2 : Option Addr} {c2 : Nat} {P : List Int} {w wr wr' : World} {b0 b1 b2 : Nat}
theorem StandAt.gb (h : StandAt W H A2 c2 P w b0 b1 b2 wr) (hg : wr.grownBy wr' none) : StandAt W H A2 c2 P w b0 b1 b2 wr' :=
  ⟨h.1.grown hg (by simp), h.2.1.grown hg (by simp), h.2.2.1.grown hg (by simp), (h.2.2.2.1.none (Nat.le_refl _) hg).more hg.size, below_gb h.2.2.2.2 (Nat.le_refl _) hg⟩
theorem StandAt.row (h : StandAt W H A2 c2 P w b0 b1 b2 wr) : IntAt wr wr.heap.size A2 P.length P := h.2.2.2.1
theorem StandAt.cells (h : StandAt W H A2 c2 P w b0 b1 b2 wr) : wr.cell? ⟨b0, 0, none⟩ = some (.int .i64 W) ∧ wr.cell? ⟨b0, 1, none⟩ = some (.int .i64 H) ∧ wr.cell? ⟨b1, 0, none⟩ = some (.slice A2 P.length c2) ∧ wr.cell? ⟨b2, 0, none⟩ = some (.int .i64 W) ∧ wr.cell? ⟨b2, 1, none⟩ = some (.int .i64 H) ∧ wr.cell? ⟨b2, 2, none⟩ = some (.slice none 0 0) :=
  ⟨h.1.cell 0, h.1.cell 1, h.2.1.cell 0, h.2.2.1.cell 0, h.2.2.1.cell 1, h.2.2.1.cell 2⟩
end

theorem wfl_nil : WfL [] := fun x h => by cases h
end Go.Proofs.Ytecaehkckamhkaa
