/- What is proved here: the names of verdicts as texts; nothing of the program. -/
import Derived.Test.YtidilfakganooaaBase
namespace Go.Proofs.Ytidilfakganooaa
open Go.ChangeShapes Go.WideShapes Go.ChangeAt Go.RowKit
set_option linter.unusedVariables false

/-- bad, safe, cyclic. -/
def nameV (c : Int) : ByteArray := if c = 0 then ⟨#[98, 97, 100]⟩ else if c = 1 then ⟨#[115, 97, 102, 101]⟩ else if c = 2 then ⟨#[99, 121, 99, 108, 105, 99]⟩ else ⟨#[]⟩
theorem nameV_0 : nameV 0 = ⟨#[98, 97, 100]⟩ := rfl
theorem nameV_1 : nameV 1 = ⟨#[115, 97, 102, 101]⟩ := rfl
theorem nameV_2 : nameV 2 = ⟨#[99, 121, 99, 108, 105, 99]⟩ := rfl
theorem nameV_no {c : Int} (h0 : c ≠ 0) (h1 : c ≠ 1) (h2 : c ≠ 2) : nameV c = ⟨#[]⟩ := by rw [nameV, if_neg h0, if_neg h1, if_neg h2]
end Go.Proofs.Ytidilfakganooaa
