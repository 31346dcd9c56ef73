/- What is proved here: small facts on two rows of numbers that lie apart from each other; nothing of the program. -/
import Derived.Test.YtfloekbmgjmhbaaNewI
import Derived.Test.YtfloekbmgjmhbaaDpR
namespace Go.Proofs.Ytfloekbmgjmhbaa
open Go.ChangeShapes Go.WideShapes Go.ChangeAt Go.RowKit
set_option linter.unusedVariables false

/-- Two rows of numbers, apart from each other. -/
structure VRow (w : World) (base : Nat) (vr vc : Value) (a b : Nat) (R C : List Int) : Prop where
  r : w.ownsRow base 3 1 vr a (intsV R)
  c : w.ownsRow base 3 1 vc b (intsV C)
  ap : Apart vr vc
section
variable {w w' w1 : World} {base base2 a b a2 b2 : Nat} {vr vc ur uc : Value} {R C R2 C2 : List Int} {row row2 : Option Nat}
theorem VRow.gb (h : VRow w base vr vc a b R C) (hg : w.grownBy w' none) : VRow w' base vr vc a b R C := ⟨own_none h.r hg, own_none h.c hg, h.ap⟩
theorem VRow.bl (h : VRow w base vr vc a b R C) (hb : Below w.heap.size w w') : VRow w' base vr vc a b R C := h.gb (gb_of_below hb none)
theorem VRow.alloc (h : VRow w base vr vc a b R C) (o : Obj) : VRow (w.alloc o) base vr vc a b R C := h.gb (gb_alloc (gb_refl w none) o)
theorem VRow.drew (h : VRow w base vr vc a b R C) : VRow w.drew base vr vc a b R C := h.gb (gb_drew (gb_refl w none))
theorem VRow.less (h : VRow w base vr vc a b R C) (hb : base2 ≤ base) : VRow w base2 vr vc a b R C := ⟨own_less h.r hb, own_less h.c hb, h.ap⟩
theorem VRow.lt (h : VRow w base vr vc a b R C) (k : Nat) (hk : vr.ownBlock = some k ∨ vc.ownBlock = some k) : base ≤ k ∧ k < w.heap.size := by
  rcases hk with hk | hk
  · exact h.r.lt k hk
  · exact h.c.lt k hk
theorem VRow.kept (h : VRow w base vr vc a b R C) (hg : w.grownBy w' row) (hne : ∀ k, (vr.ownBlock = some k ∨ vc.ownBlock = some k) → row ≠ some k) : VRow w' base vr vc a b R C :=
  ⟨row_kept h.r hg (fun j e e2 => hne j (.inl e2) e), row_kept h.c hg (fun j e e2 => hne j (.inr e2) e), h.ap⟩
theorem VRow.kept2 (h : VRow w base vr vc a b R C) (hg : w.grownBy w1 ur.ownBlock) (hg2 : w1.grownBy w' uc.ownBlock) (hne : ∀ k j, (vr.ownBlock = some k ∨ vc.ownBlock = some k) → (ur.ownBlock = some j ∨ uc.ownBlock = some j) → k ≠ j) : VRow w' base vr vc a b R C :=
  (h.kept hg (fun k hk e => hne k k hk (.inl e) rfl)).kept hg2 (fun k hk e => hne k k hk (.inr e) rfl)
end
end Go.Proofs.Ytfloekbmgjmhbaa
