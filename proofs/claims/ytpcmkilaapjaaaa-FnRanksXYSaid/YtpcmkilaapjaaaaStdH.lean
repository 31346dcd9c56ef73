/- What is proved here: a store into a row of the rules' table; whether a grid has a node. -/
import Derived.Test.YtpcmkilaapjaaaaRuleI
import Derived.Test.YtpcmkilaapjaaaaStdR
namespace Go.Proofs.Ytpcmkilaapjaaaa
open Go.ChangeShapes Go.WideShapes Go.ChangeAt Go.RowKit
set_option linter.unusedVariables false

theorem wpList_storeRule {ops : Array Oper} {rest : List Oper} {op : Oper} {a : Act} {w : World} {Q : Exit → Act → World → Prop} (hgd : op.guard = none) (x y : Operand) (ho : op.op = .store 68 x y)
    (g : Nat) (old : Array Value) (s : ByteArray) (F : Value) (hF : (#[.string s, F] : Array Value).all (·.oneCell') = true) (hx : a.eval x = .pointer (some ⟨g, 0, none⟩)) (hy : a.eval y = .agg #[.string s, F]) (hb : Blk w g 68 old) (hl : old.size = 2)
    (h : ∀ w', Blk w' g 68 #[.string s, F] → w.grownBy w' (some g) → wpList Try.prog ops Q rest (a.put op.dst undef) w') : wpList Try.prog ops Q (op :: rest) a w :=
  wpList_store_row (P := Try.prog) hgd _ x y ho g #[.string s, F] hx hy _ old hb rule_info hl hF (h _ (gb_row hb).1 (gb_row hb).2)

theorem implHasNodeV (W H n : Int) (b : Bool) (h : hasG W H n = b) (w : World) :
    Calls Try.prog 46 #[.agg #[.int .i64 W, .int .i64 H], .int .i64 n] w (RetB b w) := h ▸ implHasNode W H n w
end Go.Proofs.Ytpcmkilaapjaaaa
