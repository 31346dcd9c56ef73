/- What is proved here: the laws' copy of a packet; only new blocks are written. -/
import Derived.Test.YtfloekbmgjmhbaaFltM
namespace Go.Proofs.Ytfloekbmgjmhbaa
open Go.ChangeShapes Go.WideShapes Go.ChangeAt Go.RowKit
set_option linter.unusedVariables false
set_option maxRecDepth 20000

theorem lawsToPacket (p : Pkt) (w : World) :
    Calls Try.prog 19 #[pktX p] w fun e w' => e = .returned (pktX p) ∧ w.grownBy w' none := by
  unfold pktX
  go_enter Try.func19, Try.ntmps19
  go_wp2_with fail
  refine bodyPost_ret (v := .agg #[.int .i64 p.id, .int .i64 p.fr, .int .i64 p.to, .int .i64 p.cl, .int .i64 p.ln]) (by simp [results, Try.results19, go_sem]) rfl ⟨rfl, ?_⟩
  exact gb_alloc (gb_alloc (gb_alloc (gb_refl _ _) _) _) _
end Go.Proofs.Ytfloekbmgjmhbaa
