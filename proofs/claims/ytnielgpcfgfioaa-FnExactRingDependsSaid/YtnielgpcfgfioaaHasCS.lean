/- What is proved here: what the model's HasCycle returns, for all arguments; only new blocks are written. -/
import Derived.Test.YtnielgpcfgfioaaCycS
namespace Go.Proofs.Ytnielgpcfgfioaa
open Go.ChangeShapes Go.WideShapes Go.ChangeAt Go.RowKit
set_option linter.unusedVariables false
set_option maxRecDepth 20000

theorem specHasCycle (A : Option Addr) (n cap : Nat) (D : List Dep) (w : World) (h : DepAt w w.heap.size A n D) (hn : n ≤ 1000000000) :
    Calls Try.prog 38 #[.slice A n cap] w (RetB (hasCyc D) w) := by
  have HC := Lib.hid (specShortest A n cap D w h hn)
  obtain ⟨k, hk⟩ : ∃ k, (cycG D).length = k := ⟨_, rfl⟩
  have HR := Lib.hid (show hasCyc D = decide (0 < k) by unfold hasCyc; rw [hk])
  have HK := Lib.hid hk
  clear h hk
  go_enter Try.func38, Try.ntmps38
  go_wp2_with fail
  refine HC.out.mono ?_
  rintro e w1 ⟨v, rfl, o1, b1⟩
  rw [HK.out] at o1
  obtain ⟨A1, c1, rfl, _⟩ := own_form o1
  have G1 := Lib.hid (gb_of_below b1 none)
  clear o1 b1
  by_cases h0 : 0 < k
  · have HR2 := Lib.hid (HR.out.trans (decide_eq_true h0))
    have hp : (0 : Int) < (k : Int) := by omega
    go_wp2_with fail
    go_ret
    exact ⟨ret_bool HR2.out.symm, G1.out⟩
  · have HR2 := Lib.hid (HR.out.trans (decide_eq_false h0))
    have hp : ¬ (0 : Int) < (k : Int) := by omega
    go_wp2_with fail
    go_ret
    exact ⟨ret_bool HR2.out.symm, G1.out⟩
end Go.Proofs.Ytnielgpcfgfioaa
