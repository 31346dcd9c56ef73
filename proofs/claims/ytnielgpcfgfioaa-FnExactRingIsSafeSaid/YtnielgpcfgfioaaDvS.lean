/- What is proved here: small facts on a list of dependencies of the call's own; nothing of the program. -/
import Derived.Test.YtnielgpcfgfioaaDokS
namespace Go.Proofs.Ytnielgpcfgfioaa
open Go.ChangeShapes Go.WideShapes Go.ChangeAt Go.RowKit
set_option linter.unusedVariables false
set_option maxRecDepth 20000

/-- A list that is not nil, in a block of the call's own from B on. -/
def DvAt (B : Nat) (w0 : World) (D : List Dep) (v : Value) (wr : World) : Prop :=
  (∃ g c, v = .slice (some ⟨g, 0, none⟩) D.length c) ∧ wr.ownsRow B 49 2 v D.length (depV D) ∧ B ≤ w0.heap.size ∧ Below B w0 wr
section
variable {B : Nat} {w0 wr w' : World} {D D' : List Dep} {v v' : Value}
theorem DvAt.gb (h : DvAt B w0 D v wr) (hg : wr.grownBy w' none) : DvAt B w0 D v w' := ⟨h.1, own_none h.2.1 hg, h.2.2.1, below_gb h.2.2.2 h.2.2.1 hg⟩
theorem DvAt.put {e : Ending} (h : DvAt B w0 D v wr) (hp : PutN B D' wr e w') : ∃ v', e = .returned v' ∧ DvAt B w0 D' v' w' ∧ wr.grownBy w' none := by
  obtain ⟨g, c, rfl, ho, hg⟩ := hp
  exact ⟨_, rfl, ⟨⟨g, c, rfl⟩, ho, h.2.2.1, below_gb h.2.2.2 h.2.2.1 hg⟩, hg⟩
theorem DvAt.start (w0 : World) (hB : B ≤ w0.heap.size) : DvAt B w0 [] (.slice (some ⟨w0.heap.size, 0, none⟩) 0 0) (w0.alloc (.cells #[] 49)) :=
  ⟨⟨_, _, rfl⟩, own_madeD w0 hB, hB, (Below.refl _ _).alloc hB _⟩
theorem DvAt.le (h : DvAt B w0 D v wr) : B ≤ wr.heap.size := Nat.le_trans h.2.2.1 h.2.2.2.size
end
end Go.Proofs.Ytnielgpcfgfioaa
