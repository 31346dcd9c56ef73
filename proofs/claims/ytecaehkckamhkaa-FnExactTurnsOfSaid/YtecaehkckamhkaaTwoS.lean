/- What is proved here: what holds of the two boxes that the model's functions on tables lay. -/
import Derived.Test.YtecaehkckamhkaaWalkS
namespace Go.Proofs.Ytecaehkckamhkaa
open Go.ChangeShapes Go.WideShapes Go.ChangeAt Go.RowKit
set_option linter.unusedVariables false
set_option maxRecDepth 20000

theorem IntAt.two {w : World} {A A2 B : Option Addr} {n cap n2 c2 m : Nat} {W H : Int} {L : List Int} (h : IntAt w w.heap.size B m L) : IntAt (twoB W H A A2 n cap n2 c2 w) (twoB W H A A2 n cap n2 c2 w).heap.size B m L :=
  (h.below twoB_below).more (by rw [twoB_size]; omega)
theorem IntAt.old {w wr : World} {A A2 B : Option Addr} {n cap n2 c2 m : Nat} {W H : Int} {L : List Int} (h : IntAt w w.heap.size B m L) (hb : Below (w.heap.size + 2) (twoB W H A A2 n cap n2 c2 w) wr) : IntAt wr wr.heap.size B m L :=
  (h.below (twoB_old hb)).more (by have := twoB_le hb; omega)
theorem NewI.old {w wr w' : World} {A A2 : Option Addr} {n cap n2 c2 : Nat} {W H : Int} {L : List Int} {v : Value} (hb : Below (w.heap.size + 2) (twoB W H A A2 n cap n2 c2 w) wr) (ho : w'.ownsRow wr.heap.size 3 1 v L.length (intsV L)) (hw : Below wr.heap.size wr w') : NewI L w (.returned v) w' :=
  ⟨v, rfl, own_less ho (by have := twoB_le hb; omega), (twoB_old hb).trans (hw.mono (by have := twoB_le hb; omega))⟩
theorem below_two {w w1 : World} {A A2 : Option Addr} {n cap n2 c2 : Nat} {W H : Int} (h : (twoB W H A A2 n cap n2 c2 w).grownBy w1 none) : Below (w.heap.size + 2) (twoB W H A A2 n cap n2 c2 w) w1 := gb_below_none h (by rw [twoB_size]; exact Nat.le_refl _)
theorem below_then {w wr w1 : World} {A A2 : Option Addr} {n cap n2 c2 : Nat} {W H : Int} (hb : Below (w.heap.size + 2) (twoB W H A A2 n cap n2 c2 w) wr) (h : wr.grownBy w1 none) : Below (w.heap.size + 2) (twoB W H A A2 n cap n2 c2 w) w1 := below_gb hb (by rw [twoB_size]; exact Nat.le_refl _) h
end Go.Proofs.Ytecaehkckamhkaa
