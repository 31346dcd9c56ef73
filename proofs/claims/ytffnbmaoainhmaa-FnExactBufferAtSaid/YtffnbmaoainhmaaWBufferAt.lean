/- What is proved here: the exact law on BufferAt answers true, for every argument; only new blocks are written. -/
import Derived.Test.YtffnbmaoainhmaaChgW
import Derived.Test.YtffnbmaoainhmaaBufS
import Derived.Test.YtffnbmaoainhmaaWinI
import Derived.Deep.Cut
namespace Go.Proofs.Ytffnbmaoainhmaa
open Go.ChangeShapes Go.WideShapes Go.ChangeAt Go.RowKit
set_option linter.unusedVariables false
set_option maxRecDepth 20000

set_option maxHeartbeats 6400000 in
theorem walk_FnExactBufferAt (S0a : Int) (S1a : Int) (S2a : Int) (w : World) (hwS0a : (Lit.int .i64 S0a).wf = true) (hwS1a : (Lit.int .i64 S1a).wf = true) (hwS2a : (Lit.int .i64 S2a).wf = true) :
    Calls Try.prog 4 #[.int .i64 S0a, .int .i64 S1a, .int .i64 S2a] w fun e w' => e = .returned (.bool true) ∧ Below w.heap.size w w' := by
  have HWS0a := Lib.hid (hwS0a)
  have HWS1a := Lib.hid (hwS1a)
  have HWS2a := Lib.hid (hwS2a)
  clear hwS0a hwS1a hwS2a
  go_enter Try.func4, Try.ntmps4
  go_wp2_with fail
  have GE := Lib.hid (gb_refl w none)
  have RZ0 := Lib.hid (Chg.refl 0 0 w)
  obtain ⟨res, hres⟩ : ∃ r, bufN S0a S1a S2a = r := ⟨_, rfl⟩
  have HSP := Lib.hid (fun (w : World) => show Calls Try.prog 17 #[.int .i64 S0a, .int .i64 S1a, .int .i64 S2a] w (RetI res none w) from hres ▸ specBufferAt S0a S1a S2a w)
  have HIM := Lib.hid (fun (w : World) => show Calls Try.prog 16 #[.int .i64 S0a, .int .i64 S1a, .int .i64 S2a] w (RetI res none w) from hres ▸ implBufferAt S0a S1a S2a w)
  clear hres
  have BE := Lib.hid (gb_below_none GE.out (Nat.le_refl _))
  go_wp2_with fail
  refine (HSP.out _).mono ?_
  rintro e w1 ⟨rfl, bw⟩
  have R1 : Hid (Chg 0 0 w w1) := Lib.hid ((RZ0.out).gb bw)
  have Q1 := Lib.hid (chg_gb 0 0 bw)
  clear bw
  have HS0 := Lib.hid ((R1.out).size)
  go_wp2_with fail
  refine (HIM.out _).mono ?_
  rintro e w2 ⟨rfl, bg⟩
  have R2 : Hid (Chg 0 0 w w2) := Lib.hid ((R1.out).gb bg)
  have Q2 := Lib.hid (chg_gb 0 0 bg)
  clear bg
  have RS := Lib.hid (R2.out)
  have T0 := Lib.hid (Chg.refl 0 0 w2)
  go_wp2_with fail
  go_ret
  exact ⟨rfl, BE.out.trans ((RS.out.trans T0.out).below (.inr (Nat.le_refl _)) BE.out.size)⟩
end Go.Proofs.Ytffnbmaoainhmaa
