/- What is proved here: the model's TableOk with its answer named, and a small fact on draws; only new blocks are written. -/
import Derived.Test.YtecaehkckamhkaaTwoS
import Derived.Test.YtecaehkckamhkaaTokS
namespace Go.Proofs.Ytecaehkckamhkaa
open Go.ChangeShapes Go.WideShapes Go.ChangeAt Go.RowKit
set_option linter.unusedVariables false

theorem specTableOkV (W H : Int) (A A2 : Option Addr) (n cap n2 c2 : Nat) (L P : List Int) (b : Bool) (hb : tableG W H L P = b) (w : World) (h : IntAt w w.heap.size A n L) (h2 : IntAt w w.heap.size A2 n2 P) (hn : n ≤ 1000000000) (hn2 : n2 ≤ 1000000000) :
    Calls Try.prog 15 #[.agg #[.int .i64 W, .int .i64 H, .slice A n cap], .agg #[.slice A2 n2 c2]] w (RetB b w) := hb ▸ specTableOk W H A A2 n cap n2 c2 L P w h h2 hn hn2
theorem below_undrew3 {B : Nat} {a b : World} (h : Below B a.drew b) : Below B a b := ⟨h.os, h.tape, h.output, h.size, h.block⟩
end Go.Proofs.Ytecaehkckamhkaa
