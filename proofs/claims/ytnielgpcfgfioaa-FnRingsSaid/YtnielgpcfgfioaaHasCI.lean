/- What is proved here: whether the program finds a cycle; only new blocks are written. -/
import Derived.Test.YtnielgpcfgfioaaShortI
namespace Go.Proofs.Ytnielgpcfgfioaa
open Go.ChangeShapes Go.WideShapes Go.ChangeAt Go.RowKit
set_option linter.unusedVariables false
set_option maxRecDepth 20000

theorem implHasCycle (A : Option Addr) (n cap : Nat) (D : List Dep) (w : World) (h : DepAt w w.heap.size A n D) (hn : n ≤ 1000000000) :
    Calls Try.prog 28 #[.slice A n cap] w (RetB (hasCyc D) w) := by
  have HI := Lib.hid h
  have HS := Lib.hid (fun w h => implShortest A n cap D w h hn)
  clear h
  go_enter Try.func28, Try.ntmps28
  go_wp2_with fail
  refine (HS.out _ HI.out).mono ?_
  rintro e w1 ⟨v, rfl, ho, hb⟩
  obtain ⟨A1, c1, rfl, _⟩ := own_form ho
  have HG := Lib.hid (gb_of_below hb none)
  obtain ⟨m, hm⟩ : ∃ m, (cycG D).length = m := ⟨_, rfl⟩
  rw [hm]
  have hr : decide (0 < m) = hasCyc D := by unfold hasCyc; rw [hm]
  clear hm ho hb
  go_wp2_with fail
  go_ret
  exact ⟨rfl, HG.out⟩
end Go.Proofs.Ytnielgpcfgfioaa
