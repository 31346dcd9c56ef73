/- What is proved here: the exact law on ShortestCycle answers true, for every argument; only new blocks are written. -/
import Derived.Test.YtgjidlhnfbdfpaaLL
import Derived.Test.YtgjidlhnfbdfpaaDepE
import Derived.Test.YtgjidlhnfbdfpaaDepArg
import Derived.Test.YtgjidlhnfbdfpaaCycS
import Derived.Test.YtgjidlhnfbdfpaaShortI
namespace Go.Proofs.Ytgjidlhnfbdfpaa
open Go.ChangeShapes Go.WideShapes Go.ChangeAt Go.RowKit
set_option linter.unusedVariables false

set_option maxRecDepth 20000 in
set_option maxHeartbeats 4000000 in
theorem walk_FnExactShortestCycle (A : Option Addr) (n cap : Nat) (D : List Dep) (w : World) (hnc0 : n ≤ cap) (hcm0 : cap ≤ maxLen) (h0 : DepAt w w.heap.size A n D) (hl0 : ∀ d ∈ D, wfD d) :
    Calls Try.prog 6 #[.slice A n cap] w fun e w' => e = .returned (.bool true) ∧ Below w.heap.size w w' := by
  have hn90 : n ≤ 9223372036854775807 := Nat.le_trans hnc0 (Nat.le_trans hcm0 (by decide))
  have hLn0 := h0.1
  have HI := Lib.hid h0
  clear hnc0 hcm0 hl0 h0
  subst hLn0
  by_cases hbig : (1048576 : Int) < (D.length : Int)
  · go_enter Try.func6, Try.ntmps6
    go_wp2_with fail
    refine (lawsSzD A D.length cap 1048576 _ hn90 (by omega) (by omega)).mono ?_
    rintro e w1 ⟨rfl, rfl⟩
    rw [if_pos hbig]
    go_wp2_with fail
    go_ret
    exact ⟨rfl, Below.refl _ _⟩
  · have hn : D.length ≤ 1048576 := by omega
    obtain ⟨q, hq⟩ : ∃ q : Int, (1048576 : Int) - (D.length : Int) = q := ⟨_, rfl⟩
    have hq0 : ¬ q < 0 := by omega
    obtain ⟨res, hres⟩ : ∃ r, cycG D = r := ⟨_, rfl⟩
    have hrl : res.length ≤ 2097152 := by rw [← hres]; have := cycG_le D; omega
    go_enter Try.func6, Try.ntmps6
    go_wp2_with fail
    refine (lawsSzD A D.length cap 1048576 _ hn90 (by omega) (by omega)).mono ?_
    rintro e w1 ⟨rfl, rfl⟩
    rw [if_neg (by omega), hq]
    clear hq hbig
    go_wp2_with fail
    have F0 := Lib.hid (LL.start w)
    refine (lawsToDepS A D.length cap D _ (F0.out.at HI.out) hn).mono ?_
    rintro e x1 ⟨g1, rfl, o1, b1⟩
    have F1 := Lib.hid (F0.out.bl b1)
    have T1 := Lib.hid (o1)
    clear o1 b1
    go_wp2_with fail
    refine (specShortest (some ⟨g1, 0, none⟩) D.length D.length D _ (depAt_own T1.out (Nat.le_refl _)) (by omega)).mono ?_
    rintro e x2 ⟨v0, rfl, o2, b2⟩
    rw [hres] at o2
    have F2 := Lib.hid (F1.out.add0 (r := rsI v0 res) o2 b2)
    clear o2 b2
    go_wp2_with fail
    refine (lawsToDepS A D.length cap D _ (F2.out.at HI.out) hn).mono ?_
    rintro e x3 ⟨g3, rfl, o3, b3⟩
    have F3 := Lib.hid (F2.out.add1 (r := rsD (.slice (some ⟨g3, 0, none⟩) D.length D.length) D) o3 b3)
    clear o3 b3
    go_wp2_with fail
    refine (implShortest (some ⟨g3, 0, none⟩) D.length D.length D _ (depAt_own F3.out.h1.1 (Nat.le_refl _)) (by omega)).mono ?_
    rintro e x4 ⟨v8, rfl, o4, b4⟩
    rw [hres] at o4
    have F4 := Lib.hid (F3.out.add2 (r := rsI v8 res) o4 b4)
    clear o4 b4
    go_wp2_with fail
    refine (lawsEqOwn v8 v0 _ _ res _ F4.out.h2.1 F4.out.h0.1 (by omega)).mono ?_
    rintro e x5 ⟨rfl, g5⟩
    have F5 := Lib.hid (F4.out.gb g5)
    clear g5
    go_wp2_with fail
    refine (lawsToDepS A D.length cap D _ (F5.out.at HI.out) hn).mono ?_
    rintro e x6 ⟨g6, rfl, o6, b6⟩
    have F6 := Lib.hid (F5.out.bl b6)
    have T6 := Lib.hid (o6)
    clear o6 b6
    go_wp2_with fail
    refine (lawsEqD (some ⟨g3, 0, none⟩) (some ⟨g6, 0, none⟩) D.length D.length D.length D _ (depAt_own F6.out.h1.1 (Nat.le_refl _)) (depAt_own T6.out (Nat.le_refl _)) (by omega)).mono ?_
    rintro e x7 ⟨rfl, g7⟩
    have F7 := Lib.hid (F6.out.gb g7)
    clear g7 T6
    go_wp2_with fail
    refine (lawsMarkD _ _ D.length 1 D _ F7.out.h1.1 (by omega)).mono ?_
    rintro e x8 ⟨rfl, o8, g8⟩
    have F8 := Lib.hid (F7.out.set1 (r := rsD (.slice (some ⟨g3, 0, none⟩) D.length D.length) (marksD 1 D.length)) rfl (cast_deps o8) g8)
    clear o8 g8
    obtain ⟨k1, hk1⟩ : ∃ k, 1 + D.length * 2 = k := ⟨_, rfl⟩
    have hkn1 : ¬ (k1 : Int) < 0 := by omega
    have hkm1 : k1 ≤ 2097153 := by omega
    rw [hk1]
    clear hk1
    go_wp2_with fail
    refine (lawsEqOwn v8 v0 _ _ res _ F8.out.h2.1 F8.out.h0.1 (by omega)).mono ?_
    rintro e x9 ⟨rfl, g9⟩
    have F9 := Lib.hid (F8.out.gb g9)
    clear g9
    go_wp2_with fail
    refine (lawsMarkI v8 _ res.length 1 res _ F9.out.h2.1 (by omega)).mono ?_
    rintro e x10 ⟨rfl, o10, g10⟩
    have F10 := Lib.hid (F9.out.set2 (r := rsI v8 (marksI 1 res.length)) rfl (cast_ints o10) g10)
    clear o10 g10
    obtain ⟨z1, hz1⟩ : ∃ k, 1 + res.length = k := ⟨_, rfl⟩
    have hzn : ¬ (z1 : Int) < 0 := by omega
    have hZ := Lib.hid hz1
    rw [hz1]
    clear hz1
    go_wp2_with fail
    refine (lawsHeldOwn v8 _ res.length 1 _ (by have h := F10.out.h2.1; have e := marksI_length 1 res.length; unfold rsI at h; dsimp only at h; rw [e] at h; exact h) (by omega)).mono ?_
    rintro e x11 ⟨rfl, g11⟩
    have F11 := Lib.hid (F10.out.gb g11)
    clear g11
    rw [hZ.out]
    go_wp2_with fail
    refine (lawsToDepS A D.length cap D _ (F11.out.at HI.out) hn).mono ?_
    rintro e x12 ⟨g12, rfl, o12, b12⟩
    have F12 := Lib.hid (F11.out.bl b12)
    have T12 := Lib.hid (o12)
    clear o12 b12
    go_wp2_with fail
    refine (implShortest (some ⟨g12, 0, none⟩) D.length D.length D _ (depAt_own T12.out (Nat.le_refl _)) (by omega)).mono ?_
    rintro e x13 ⟨v9, rfl, o13, b13⟩
    rw [hres] at o13
    have R9 := Lib.hid o13
    have F13 := Lib.hid (F12.out.bl b13)
    clear o13 b13
    go_wp2_with fail
    refine (lawsEqOwn v9 v0 _ _ res _ R9.out F13.out.h0.1 (by omega)).mono ?_
    rintro e x14 ⟨rfl, g14⟩
    have F14 := Lib.hid (F13.out.gb g14)
    clear g14
    go_wp2_with fail
    refine (lawsHeldOwn v8 _ res.length 1 _ (by have h := F14.out.h2.1; have e := marksI_length 1 res.length; unfold rsI at h; dsimp only at h; rw [e] at h; exact h) (by omega)).mono ?_
    rintro e x15 ⟨rfl, g15⟩
    have F15 := Lib.hid (F14.out.gb g15)
    clear g15
    rw [hZ.out]
    go_wp2_with fail
    go_ret
    exact ⟨rfl, F15.out.lb⟩
end Go.Proofs.Ytgjidlhnfbdfpaa
