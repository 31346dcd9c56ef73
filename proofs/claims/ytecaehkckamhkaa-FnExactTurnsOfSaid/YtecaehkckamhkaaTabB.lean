/- What is proved here: small facts on a law's mesh and table as blocks, and on the copies that it hands to the program; nothing of the program. -/
import Derived.Test.YtecaehkckamhkaaTabL
import Derived.Test.YtecaehkckamhkaaMeshL
import Derived.Test.YtecaehkckamhkaaMeshC
import Derived.Test.YtecaehkckamhkaaNewI
import Derived.Test.YtecaehkckamhkaaWfL
namespace Go.Proofs.Ytecaehkckamhkaa
open Go.ChangeShapes Go.WideShapes Go.ChangeAt Go.RowKit
set_option linter.unusedVariables false

/-- A law's mesh and table as blocks. -/
def lawB (W H : Int) (A A2 : Option Addr) (n cap n2 c2 : Nat) (w : World) : World := (w.alloc (.cells (meshC W H A n cap) 26)).alloc (.cells #[.slice A2 n2 c2] 28)
def LawB (W H : Int) (A A2 : Option Addr) (n cap n2 c2 : Nat) (w wr : World) : Prop := Below (w.heap.size + 2) (lawB W H A A2 n cap n2 c2 w) wr
section
variable {W H : Int} {A A2 : Option Addr} {n cap n2 c2 : Nat} {L P : List Int} {w wr wr' : World} {b0 b1 gm gp : Nat}
theorem lawB_size : (lawB W H A A2 n cap n2 c2 w).heap.size = w.heap.size + 2 := by unfold lawB; rw [alloc_size, alloc_size]
theorem LawB.le (h : LawB W H A A2 n cap n2 c2 w wr) : w.heap.size + 2 ≤ wr.heap.size := by have := h.size; rw [lawB_size] at this; exact this
theorem LawB.old (h : LawB W H A A2 n cap n2 c2 w wr) : Below w.heap.size w wr :=
  (((Below.refl _ _).alloc (Nat.le_refl _) _).alloc (by rw [alloc_size]; omega) _ : Below w.heap.size w (lawB W H A A2 n cap n2 c2 w)).trans (h.mono (by omega))
theorem LawB.first (h : (lawB W H A A2 n cap n2 c2 w).grownBy wr none) : LawB W H A A2 n cap n2 c2 w wr := gb_below_none h (by rw [lawB_size]; exact Nat.le_refl _)
theorem LawB.mesh (h : LawB W H A A2 n cap n2 c2 w wr) : Blk wr w.heap.size 26 (meshC W H A n cap) := ((Blk.new w 26 (meshC W H A n cap)).alloc _).below h (by omega)
theorem LawB.table (h : LawB W H A A2 n cap n2 c2 w wr) : Blk wr (w.heap.size + 1) 28 #[.slice A2 n2 c2] := by
  have := Blk.new (w.alloc (.cells (meshC W H A n cap) 26)) 28 #[.slice A2 n2 c2]
  rw [alloc_size] at this
  exact this.below h (by omega)
theorem LawB.gb (h : LawB W H A A2 n cap n2 c2 w wr) (hg : wr.grownBy wr' none) : LawB W H A A2 n cap n2 c2 w wr' := below_gb h (by rw [lawB_size]; exact Nat.le_refl _) hg
theorem LawB.bl (h : LawB W H A A2 n cap n2 c2 w wr) (hg : Below wr.heap.size wr wr') : LawB W H A A2 n cap n2 c2 w wr' := Below.trans h (hg.mono h.le)
theorem LawB.own (h : LawB W H A A2 n cap n2 c2 w wr) {row : Option Nat} (hg : wr.grownBy wr' row) (hr : ∀ k, row = some k → w.heap.size + 2 ≤ k) : LawB W H A A2 n cap n2 c2 w wr' := Below.grown h hg h.le hr
theorem LawB.dr (h : LawB W H A A2 n cap n2 c2 w wr) : LawB W H A A2 n cap n2 c2 w wr.drew := below_drewN h 1
theorem LawB.at (h : LawB W H A A2 n cap n2 c2 w wr) {B : Option Addr} {m : Nat} {M : List Int} (hi : IntAt w w.heap.size B m M) : IntAt wr wr.heap.size B m M := (hi.below h.old).more h.old.size

/-- With the copies of both in blocks b0 and b1, whose lists lie in blocks gm and gp. -/
def LawC (W H : Int) (A A2 : Option Addr) (n cap n2 c2 : Nat) (L P : List Int) (w : World) (b0 b1 gm gp : Nat) (wr : World) : Prop :=
  LawB W H A A2 n cap n2 c2 w wr ∧ Blk wr b0 34 (meshC W H (some ⟨gm, 0, none⟩) L.length L.length) ∧ Blk wr b1 36 #[.slice (some ⟨gp, 0, none⟩) P.length P.length] ∧
  wr.ownsRow (w.heap.size + 2) 3 1 (.slice (some ⟨gm, 0, none⟩) L.length L.length) L.length (intsV L) ∧ wr.ownsRow (w.heap.size + 2) 3 1 (.slice (some ⟨gp, 0, none⟩) P.length P.length) P.length (intsV P)
theorem LawC.lb (h : LawC W H A A2 n cap n2 c2 L P w b0 b1 gm gp wr) : LawB W H A A2 n cap n2 c2 w wr := h.1
theorem LawC.gb (h : LawC W H A A2 n cap n2 c2 L P w b0 b1 gm gp wr) (hg : wr.grownBy wr' none) : LawC W H A A2 n cap n2 c2 L P w b0 b1 gm gp wr' :=
  ⟨h.1.gb hg, h.2.1.grown hg (by simp), h.2.2.1.grown hg (by simp), own_none h.2.2.2.1 hg, own_none h.2.2.2.2 hg⟩
theorem LawC.bl (h : LawC W H A A2 n cap n2 c2 L P w b0 b1 gm gp wr) (hg : Below wr.heap.size wr wr') : LawC W H A A2 n cap n2 c2 L P w b0 b1 gm gp wr' := h.gb (gb_of_below hg none)
theorem LawC.dr (h : LawC W H A A2 n cap n2 c2 L P w b0 b1 gm gp wr) : LawC W H A A2 n cap n2 c2 L P w b0 b1 gm gp wr.drew := h.gb (gb_drew (gb_refl _ _))
theorem LawC.atM (h : LawC W H A A2 n cap n2 c2 L P w b0 b1 gm gp wr) : IntAt wr wr.heap.size (some ⟨gm, 0, none⟩) L.length L := intAt_own h.2.2.2.1 rfl (Nat.le_refl _)
theorem LawC.atP (h : LawC W H A A2 n cap n2 c2 L P w b0 b1 gm gp wr) : IntAt wr wr.heap.size (some ⟨gp, 0, none⟩) P.length P := intAt_own h.2.2.2.2 rfl (Nat.le_refl _)
end
end Go.Proofs.Ytecaehkckamhkaa
