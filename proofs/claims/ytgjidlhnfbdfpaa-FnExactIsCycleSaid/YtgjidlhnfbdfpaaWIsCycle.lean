/- What is proved here: the exact law on IsCycle answers true, for every argument; only new blocks are written. -/
import Derived.Test.YtgjidlhnfbdfpaaLL
import Derived.Test.YtgjidlhnfbdfpaaDepE
import Derived.Test.YtgjidlhnfbdfpaaDepArg
import Derived.Test.YtgjidlhnfbdfpaaIsCycS
import Derived.Test.YtgjidlhnfbdfpaaIsCycI
namespace Go.Proofs.Ytgjidlhnfbdfpaa
open Go.ChangeShapes Go.WideShapes Go.ChangeAt Go.RowKit
set_option linter.unusedVariables false
set_option maxRecDepth 20000

theorem walk_FnExactIsCycle (A : Option Addr) (n cap : Nat) (R : List Dep) (A2 : Option Addr) (n2 c2 : Nat) (T : List Int) (w : World) (hnc : n ≤ cap) (hcm : cap ≤ maxLen) (h : DepAt w w.heap.size A n R) (hl : ∀ d ∈ R, wfD d) (hnc2 : n2 ≤ c2) (hcm2 : c2 ≤ maxLen) (h2 : IntAt w w.heap.size A2 n2 T) (hl2 : ∀ x ∈ T, (Lit.int .i64 x).wf = true) :
    Calls Try.prog 5 #[.slice A n cap, .slice A2 n2 c2] w fun e w' => e = .returned (.bool true) ∧ Below w.heap.size w w' := by
  have hLn := h.1
  have hTn := h2.1
  have HI := Lib.hid h
  have HI2 := Lib.hid h2
  have hncb := hnc
  have hcmb := hcm
  clear hnc hcm hl hnc2 hcm2 hl2 h h2
  subst hLn
  subst hTn
  have hn9 : R.length ≤ 9223372036854775807 := Nat.le_trans hncb (Nat.le_trans hcmb (by decide))
  by_cases hb2 : (T.length : Int) > 1048576
  · go_enter Try.func5, Try.ntmps5
    go_wp2_with fail
    go_ret
    exact ⟨rfl, Below.refl _ _⟩
  · by_cases hb1 : (1048576 : Int) < (R.length : Int)
    · go_enter Try.func5, Try.ntmps5
      go_wp2_with fail
      refine (lawsSzD A R.length cap 1048576 _ hn9 (by omega) (by omega)).mono ?_
      rintro e w1 ⟨rfl, rfl⟩
      rw [if_pos hb1]
      go_wp2_with fail
      go_ret
      exact ⟨rfl, Below.refl _ _⟩
    · have hn : R.length ≤ 1048576 := by omega
      have hn2 : T.length ≤ 1048576 := by omega
      obtain ⟨q, hq⟩ : ∃ q : Int, (1048576 : Int) - (R.length : Int) = q := ⟨_, rfl⟩
      have hq0 : ¬ q < 0 := by omega
      obtain ⟨res, hres⟩ : ∃ r, isCycG R T = r := ⟨_, rfl⟩
      go_enter Try.func5, Try.ntmps5
      go_wp2_with fail
      refine (lawsSzD A R.length cap 1048576 _ hn9 (by omega) (by omega)).mono ?_
      rintro e w1 ⟨rfl, rfl⟩
      rw [if_neg (by omega), hq]
      clear hq hb1
      go_wp2_with fail
      have F0 := Lib.hid (LL.start w)
      refine (lawsToDepS A R.length cap R _ (F0.out.at HI.out) hn).mono ?_
      rintro e x1 ⟨g1, rfl, o1, b1⟩
      have F1 := Lib.hid (F0.out.bl b1)
      have T1 := Lib.hid o1
      clear o1 b1
      go_wp2_with fail
      refine (lawsToIntS A2 T.length c2 T _ (F1.out.atI HI2.out) hn2).mono ?_
      rintro e x2 ⟨g2, rfl, o2, b2⟩
      have F2 := Lib.hid (F1.out.bl b2)
      have T2 := Lib.hid o2
      have T1b := Lib.hid (own_below T1.out b2)
      clear o2 b2
      go_wp2_with fail
      refine (specIsCycle (some ⟨g1, 0, none⟩) (some ⟨g2, 0, none⟩) R.length R.length T.length T.length R T _ (depAt_own T1b.out (Nat.le_refl _)) (intAt_own T2.out rfl (Nat.le_refl _)) (Nat.le_refl _) (by omega) (by omega)).mono ?_
      rintro e x3 ⟨rfl, g3⟩
      have F3 := Lib.hid (F2.out.gb g3)
      clear g3
      rw [hres]
      go_wp2_with fail
      refine (lawsToDepS A R.length cap R _ (F3.out.at HI.out) hn).mono ?_
      rintro e x4 ⟨g4, rfl, o4, b4⟩
      have F4 := Lib.hid (F3.out.add0 (r := rsD (.slice (some ⟨g4, 0, none⟩) R.length R.length) R) o4 b4)
      clear o4 b4
      go_wp2_with fail
      refine (lawsToIntS A2 T.length c2 T _ (F4.out.atI HI2.out) hn2).mono ?_
      rintro e x5 ⟨g5, rfl, o5, b5⟩
      have F5 := Lib.hid (F4.out.add1 (r := rsI (.slice (some ⟨g5, 0, none⟩) T.length T.length) T) o5 b5)
      clear o5 b5
      go_wp2_with fail
      refine (implIsCycle (some ⟨g4, 0, none⟩) (some ⟨g5, 0, none⟩) R.length R.length T.length T.length R T _ (depAt_own F5.out.h0.1 (Nat.le_refl _)) (intAt_own F5.out.h1.1 rfl (Nat.le_refl _)) (Nat.le_refl _) (by omega) (by omega)).mono ?_
      rintro e x6 ⟨rfl, g6⟩
      have F6 := Lib.hid (F5.out.gb g6)
      clear g6
      rw [hres]
      go_wp2_with fail
      refine (lawsToDepS A R.length cap R _ (F6.out.at HI.out) hn).mono ?_
      rintro e x7 ⟨g7, rfl, o7, b7⟩
      have F7 := Lib.hid (F6.out.bl b7)
      have T7 := Lib.hid (depAt_own o7 (Nat.le_refl _))
      clear o7 b7
      go_wp2_with fail
      refine (lawsEqD (some ⟨g4, 0, none⟩) (some ⟨g7, 0, none⟩) R.length R.length R.length R _ (depAt_own F7.out.h0.1 (Nat.le_refl _)) T7.out (by omega)).mono ?_
      rintro e x8 ⟨rfl, g8⟩
      have F8 := Lib.hid (F7.out.gb g8)
      clear g8
      go_wp2_with fail
      refine (lawsToIntS A2 T.length c2 T _ (F8.out.atI HI2.out) hn2).mono ?_
      rintro e x9 ⟨g9, rfl, o9, b9⟩
      have F9 := Lib.hid (F8.out.bl b9)
      have T9 := Lib.hid (intAt_own o9 rfl (Nat.le_refl _))
      clear o9 b9
      go_wp2_with fail
      refine (lawsEqI (some ⟨g5, 0, none⟩) (some ⟨g9, 0, none⟩) T.length T.length T.length _ _ T _ (intAt_own F9.out.h1.1 rfl (Nat.le_refl _)) T9.out (by omega)).mono ?_
      rintro e x10 ⟨rfl, g10⟩
      have F10 := Lib.hid (F9.out.gb g10)
      clear g10
      go_wp2_with fail
      go_ret
      exact ⟨rfl, F10.out.lb⟩
end Go.Proofs.Ytgjidlhnfbdfpaa
