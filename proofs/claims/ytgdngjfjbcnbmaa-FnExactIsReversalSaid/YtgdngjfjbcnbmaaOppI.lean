/- What is proved here: what the program's Opposite returns, for all arguments; only new blocks are written. -/
import Derived.Test.YtgdngjfjbcnbmaaMeshM
import Derived.Test.YtgdngjfjbcnbmaaPlaceI
namespace Go.Proofs.Ytgdngjfjbcnbmaa
open Go.ChangeShapes Go.WideShapes Go.ChangeAt Go.RowKit
set_option linter.unusedVariables false

theorem implOpposite (p : Int) (w : World) :
    Calls Try.prog 48 #[.int .i64 p] w fun e w' => e = .returned (.int .i64 (oppG p)) ∧ w.grownBy w' none := by
  by_cases p0 : p = 0
  · subst p0
    go_enter Try.func48, Try.ntmps48
    go_wp2_with fail
    go_ret
    exact ⟨rfl, gb_refl _ _⟩
  by_cases p1 : p = 1
  · subst p1
    go_enter Try.func48, Try.ntmps48
    go_wp2_with fail
    go_ret
    exact ⟨rfl, gb_refl _ _⟩
  by_cases p2 : p = 2
  · subst p2
    go_enter Try.func48, Try.ntmps48
    go_wp2_with fail
    go_ret
    exact ⟨rfl, gb_refl _ _⟩
  by_cases p3 : p = 3
  · subst p3
    go_enter Try.func48, Try.ntmps48
    go_wp2_with fail
    go_ret
    exact ⟨rfl, gb_refl _ _⟩
  by_cases p4 : p = 4
  · subst p4
    go_enter Try.func48, Try.ntmps48
    go_wp2_with fail
    go_ret
    exact ⟨rfl, gb_refl _ _⟩
  have hv : oppG p = -1 := by unfold oppG; rw [if_neg p0, if_neg p1, if_neg p2, if_neg p3, if_neg p4]
  have q0 : (p == 0) = false := by simpa using p0
  have q1 : (p == 1) = false := by simpa using p1
  have q2 : (p == 2) = false := by simpa using p2
  have q3 : (p == 3) = false := by simpa using p3
  have q4 : (p == 4) = false := by simpa using p4
  clear p0 p1 p2 p3 p4
  have HV := Lib.hid hv
  clear hv
  go_enter Try.func48, Try.ntmps48
  go_wp2_with fail
  go_ret
  exact ⟨by rw [HV.out]; rfl, gb_refl _ _⟩
end Go.Proofs.Ytgdngjfjbcnbmaa
