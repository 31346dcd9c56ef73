/- What is proved here: small facts on a mesh and a table as blocks, and on a square that is laid into a new block; nothing of the program. -/
import Derived.Test.YtpcmkilaapjaaaaPortsI
namespace Go.Proofs.Ytpcmkilaapjaaaa
open Go.ChangeShapes Go.WideShapes Go.ChangeAt Go.RowKit
set_option linter.unusedVariables false

/-- A mesh and a table as blocks. -/
def twoI (W H : Int) (A A2 : Option Addr) (n cap n2 c2 : Nat) (w : World) : World := (w.alloc (.cells (meshC W H A n cap) 36)).alloc (.cells #[.slice A2 n2 c2] 38)
section
variable {W H : Int} {A A2 : Option Addr} {n cap n2 c2 : Nat} {w wr : World}
theorem twoI_size : (twoI W H A A2 n cap n2 c2 w).heap.size = w.heap.size + 2 := by unfold twoI; rw [alloc_size, alloc_size]
theorem twoI_gb : w.grownBy (twoI W H A A2 n cap n2 c2 w) none := gb_alloc (gb_alloc (gb_refl _ _) _) _
theorem twoI_mesh (h : (twoI W H A A2 n cap n2 c2 w).grownBy wr none) : Blk wr w.heap.size 36 (meshC W H A n cap) := ((Blk.new w 36 (meshC W H A n cap)).alloc _).grown h (by simp)
theorem twoI_table (h : (twoI W H A A2 n cap n2 c2 w).grownBy wr none) : Blk wr (w.heap.size + 1) 38 #[.slice A2 n2 c2] := by
  have := Blk.new (w.alloc (.cells (meshC W H A n cap) 36)) 38 #[.slice A2 n2 c2]
  rw [alloc_size] at this
  exact this.grown h (by simp)
theorem twoI_le (h : (twoI W H A A2 n cap n2 c2 w).grownBy wr none) : w.heap.size + 2 ≤ wr.heap.size := by have := h.size; rw [twoI_size] at this; exact this
theorem twoI_old (h : (twoI W H A A2 n cap n2 c2 w).grownBy wr none) : w.grownBy wr none := gb_trans twoI_gb h
theorem IntAt.twoI {B : Option Addr} {m : Nat} {M : List Int} (h : IntAt w w.heap.size B m M) : IntAt (twoI W H A A2 n cap n2 c2 w) (twoI W H A A2 n cap n2 c2 w).heap.size B m M :=
  (h.none (Nat.le_refl _) twoI_gb).more (by rw [twoI_size]; omega)
theorem IntAt.oldI {B : Option Addr} {m : Nat} {M : List Int} (h : IntAt w w.heap.size B m M) (hg : w.grownBy wr Option.none) : IntAt wr wr.heap.size B m M :=
  (h.none (Nat.le_refl _) hg).more hg.size
end
/-- The new block of a square. -/
theorem new_square (w : World) : Blk (w.alloc (.cells Try.zeroCells76 76)) w.heap.size 76 (cellsX zerosX) := by
  rw [← zero_cells]; exact Blk.new w _ _
theorem gb_square {a b c : World} (h : a.grownBy b none) (k : (b.alloc (.cells Try.zeroCells76 76)).grownBy c (some b.heap.size)) : a.grownBy c none :=
  gb_new (gb_alloc h _) k h.size
end Go.Proofs.Ytpcmkilaapjaaaa
