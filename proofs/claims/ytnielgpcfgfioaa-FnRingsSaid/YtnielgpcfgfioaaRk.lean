/- What is proved here: a row of ranks of the call's own, and the two answers of an order of channels; nothing of the program. -/
import Derived.Test.YtnielgpcfgfioaaOrdM
import Derived.Test.YtnielgpcfgfioaaNewR
namespace Go.Proofs.Ytnielgpcfgfioaa
open Go.ChangeShapes Go.WideShapes Go.ChangeAt Go.RowKit
set_option linter.unusedVariables false

/-- The row of ranks, above all that was there. -/
def RkAt (w : World) (n : Nat) (R : List Int) (v : Value) (wr : World) : Prop := wr.ownsRow w.heap.size 3 1 v n (intsV R) ∧ Below w.heap.size w wr
theorem RkAt.gb {w wr w' : World} {n : Nat} {R : List Int} {v : Value} (h : RkAt w n R v wr) (hg : wr.grownBy w' none) : RkAt w n R v w' := ⟨own_none h.1 hg, below_gb h.2 (Nat.le_refl _) hg⟩
theorem RkAt.set {w wr : World} {n g cap : Nat} {R : List Int} (h : RkAt w n R (.slice (some ⟨g, 0, none⟩) n cap) wr) (c : Nat) (x : Int) : RkAt w n (R.set c x) (.slice (some ⟨g, 0, none⟩) n cap) (wr.setCell ⟨g, c, none⟩ (.int .i64 x)) := by
  obtain ⟨h1, h2⟩ := h.1.stored c (.int .i64 x)
  rw [intsV_set] at h1
  exact ⟨h1, h.2.grown h2 h.2.size (fun j e => by cases e; exact (h.1.lt g rfl).1)⟩
def ranksO (D : List Dep) : List Int := (orderO D).getD []
def canO (D : List Dep) : Bool := (orderO D).isSome
theorem order_none {D : List Dep} (h : orderO D = none) : ranksO D = [] ∧ canO D = false := by simp [ranksO, canO, h]
theorem order_some {D : List Dep} {R : List Int} (h : orderO D = some R) : ranksO D = R ∧ canO D = true := by simp [ranksO, canO, h]
theorem ranksO_len (D : List Dep) : (ranksO D).length ≤ 128 := by
  cases h : orderO D with
  | none => rw [(order_none h).1]; simp
  | some R => rw [(order_some h).1, (order_is h).2.1]; exact Nat.le_refl _
end Go.Proofs.Ytnielgpcfgfioaa
