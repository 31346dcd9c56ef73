/- What is proved here: the exact law on HasCycle answers true, for every argument; only new blocks are written. -/
import Derived.Test.YtgjidlhnfbdfpaaLL
import Derived.Test.YtgjidlhnfbdfpaaDepE
import Derived.Test.YtgjidlhnfbdfpaaDepArg
import Derived.Test.YtgjidlhnfbdfpaaHasCS
import Derived.Test.YtgjidlhnfbdfpaaHasCI
namespace Go.Proofs.Ytgjidlhnfbdfpaa
open Go.ChangeShapes Go.WideShapes Go.ChangeAt Go.RowKit
set_option linter.unusedVariables false

set_option maxRecDepth 20000 in
set_option maxHeartbeats 4000000 in
theorem walk_FnExactHasCycle (A : Option Addr) (n cap : Nat) (D : List Dep) (w : World) (hnc0 : n ≤ cap) (hcm0 : cap ≤ maxLen) (h0 : DepAt w w.heap.size A n D) (hl0 : ∀ d ∈ D, wfD d) :
    Calls Try.prog 8 #[.slice A n cap] w fun e w' => e = .returned (.bool true) ∧ Below w.heap.size w w' := by
  have hn90 : n ≤ 9223372036854775807 := Nat.le_trans hnc0 (Nat.le_trans hcm0 (by decide))
  have hLn0 := h0.1
  have HI := Lib.hid h0
  clear hnc0 hcm0 hl0 h0
  subst hLn0
  by_cases hbig : (1048576 : Int) < (D.length : Int)
  · go_enter Try.func8, Try.ntmps8
    go_wp2_with fail
    refine (lawsSzD A D.length cap 1048576 _ hn90 (by omega) (by omega)).mono ?_
    rintro e w1 ⟨rfl, rfl⟩
    rw [if_pos hbig]
    go_wp2_with fail
    go_ret
    exact ⟨rfl, Below.refl _ _⟩
  · have hn : D.length ≤ 1048576 := by omega
    obtain ⟨q, hq⟩ : ∃ q : Int, (1048576 : Int) - (D.length : Int) = q := ⟨_, rfl⟩
    have hq0 : ¬ q < 0 := by omega
    obtain ⟨res, hres⟩ : ∃ r, hasCyc D = r := ⟨_, rfl⟩
    go_enter Try.func8, Try.ntmps8
    go_wp2_with fail
    refine (lawsSzD A D.length cap 1048576 _ hn90 (by omega) (by omega)).mono ?_
    rintro e w1 ⟨rfl, rfl⟩
    rw [if_neg (by omega), hq]
    clear hq hbig
    go_wp2_with fail
    have F0 := Lib.hid (LL.start w)
    refine (lawsToDepS A D.length cap D _ (F0.out.at HI.out) hn).mono ?_
    rintro e x1 ⟨g1, rfl, o1, b1⟩
    have F1 := Lib.hid (F0.out.bl b1)
    have T1 := Lib.hid o1
    clear o1 b1
    go_wp2_with fail
    refine (specHasCycle (some ⟨g1, 0, none⟩) D.length D.length D _ (depAt_own T1.out (Nat.le_refl _)) (by omega)).mono ?_
    rintro e x2 ⟨rfl, g2⟩
    have F2 := Lib.hid (F1.out.gb g2)
    clear g2
    rw [hres]
    go_wp2_with fail
    refine (lawsToDepS A D.length cap D _ (F2.out.at HI.out) hn).mono ?_
    rintro e x3 ⟨g3, rfl, o3, b3⟩
    have F3 := Lib.hid (F2.out.add0 (r := rsD (.slice (some ⟨g3, 0, none⟩) D.length D.length) D) o3 b3)
    clear o3 b3
    go_wp2_with fail
    refine (implHasCycle (some ⟨g3, 0, none⟩) D.length D.length D _ (depAt_own F3.out.h0.1 (Nat.le_refl _)) (by omega)).mono ?_
    rintro e x4 ⟨rfl, g4⟩
    have F4 := Lib.hid (F3.out.gb g4)
    clear g4
    rw [hres]
    go_wp2_with fail
    refine (lawsToDepS A D.length cap D _ (F4.out.at HI.out) hn).mono ?_
    rintro e x5 ⟨g5, rfl, o5, b5⟩
    have F5 := Lib.hid (F4.out.bl b5)
    have T5 := Lib.hid o5
    clear o5 b5
    go_wp2_with fail
    refine (lawsEqD (some ⟨g3, 0, none⟩) (some ⟨g5, 0, none⟩) D.length D.length D.length D _ (depAt_own F5.out.h0.1 (Nat.le_refl _)) (depAt_own T5.out (Nat.le_refl _)) (by omega)).mono ?_
    rintro e x6 ⟨rfl, g6⟩
    have F6 := Lib.hid (F5.out.gb g6)
    clear g6
    go_wp2_with fail
    go_ret
    exact ⟨rfl, F6.out.lb⟩
end Go.Proofs.Ytgjidlhnfbdfpaa
