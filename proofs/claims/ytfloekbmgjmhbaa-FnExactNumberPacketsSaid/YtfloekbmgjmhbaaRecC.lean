/- What is proved here: a slice of records stays readable where only blocks above were written; nothing of the program. -/
import Derived.Test.YtfloekbmgjmhbaaChgW
import Derived.Test.YtfloekbmgjmhbaaRecM
namespace Go.Proofs.Ytfloekbmgjmhbaa
open Go.ChangeShapes Go.WideShapes Go.ChangeAt Go.RowKit
set_option linter.unusedVariables false

theorem RecAt.chg {α : Type} {z : Nat} {c : α → List Value} {lo hi : Nat} {a b w : World} {n : Nat} {A : Option Addr} {D : List α} (h : RecAt z c w w.heap.size A n D) (hb : Below w.heap.size w a) (hc : Chg lo hi a b) (hg : w.heap.size ≤ lo ∨ hi ≤ lo) : RecAt z c b b.heap.size A n D :=
  (h.keep fun p hp => World.cell?_of_block ((hc.block p.block (Nat.lt_of_lt_of_le hp hb.size) (by omega)).trans (hb.block p.block hp))).more (Nat.le_trans hb.size hc.size)
end Go.Proofs.Ytfloekbmgjmhbaa
