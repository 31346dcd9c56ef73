/- What is proved here: the exact law on MergeDepends answers true, for every argument; only new blocks are written. -/
import Derived.Test.YtnpjadofhpaapaaLL
import Derived.Test.YtnpjadofhpaapaaDepE
import Derived.Test.YtnpjadofhpaapaaDepArg
import Derived.Test.YtnpjadofhpaapaaMergeS
import Derived.Test.YtnpjadofhpaapaaMergeI
namespace Go.Proofs.Ytnpjadofhpaapaa
open Go.ChangeShapes Go.WideShapes Go.ChangeAt Go.RowKit
set_option linter.unusedVariables false

set_option maxRecDepth 20000 in
set_option maxHeartbeats 4000000 in
theorem walk_FnExactMergeDepends (A : Option Addr) (n cap : Nat) (D : List Dep) (A2 : Option Addr) (n2 c2 : Nat) (E : List Dep) (w : World) (hnc0 : n ≤ cap) (hcm0 : cap ≤ maxLen) (h0 : DepAt w w.heap.size A n D) (hl0 : ∀ d ∈ D, wfD d) (hnc1 : n2 ≤ c2) (hcm1 : c2 ≤ maxLen) (h1 : DepAt w w.heap.size A2 n2 E) (hl1 : ∀ d ∈ E, wfD d) :
    Calls Try.prog 7 #[.slice A n cap, .slice A2 n2 c2] w fun e w' => e = .returned (.bool true) ∧ Below w.heap.size w w' := by
  have hn90 : n ≤ 9223372036854775807 := Nat.le_trans hnc0 (Nat.le_trans hcm0 (by decide))
  have hLn0 := h0.1
  have HI := Lib.hid h0
  have hn91 : n2 ≤ 9223372036854775807 := Nat.le_trans hnc1 (Nat.le_trans hcm1 (by decide))
  have hLn1 := h1.1
  have HI2 := Lib.hid h1
  clear hnc0 hcm0 hl0 h0 hnc1 hcm1 hl1 h1
  subst hLn0
  subst hLn1
  by_cases hbig : (1048576 : Int) < (D.length : Int)
  · go_enter Try.func7, Try.ntmps7
    go_wp2_with fail
    refine (lawsSzD A D.length cap 1048576 _ hn90 (by omega) (by omega)).mono ?_
    rintro e w1 ⟨rfl, rfl⟩
    rw [if_pos hbig]
    go_wp2_with fail
    go_ret
    exact ⟨rfl, Below.refl _ _⟩
  · have hn : D.length ≤ 1048576 := by omega
    obtain ⟨q, hq⟩ : ∃ q : Int, (1048576 : Int) - (D.length : Int) = q := ⟨_, rfl⟩
    have hq0 : ¬ q < 0 := by omega
    have hq1 : q ≤ 1048576 := by omega
    by_cases hbig2 : q < (E.length : Int)
    · go_enter Try.func7, Try.ntmps7
      go_wp2_with fail
      refine (lawsSzD A D.length cap 1048576 _ hn90 (by omega) (by omega)).mono ?_
      rintro e w1 ⟨rfl, rfl⟩
      rw [if_neg (by omega), hq]
      clear hq
      go_wp2_with fail
      refine (lawsSzD A2 E.length c2 q _ hn91 (by omega) hq1).mono ?_
      rintro e w1 ⟨rfl, rfl⟩
      rw [if_pos hbig2]
      go_wp2_with fail
      go_ret
      exact ⟨rfl, Below.refl _ _⟩
    · have hn2 : E.length ≤ 1048576 := by omega
      obtain ⟨q2, hq2⟩ : ∃ q2 : Int, q - (E.length : Int) = q2 := ⟨_, rfl⟩
      have hq20 : ¬ q2 < 0 := by omega
      obtain ⟨res, hres⟩ : ∃ r, mergeD D E = r := ⟨_, rfl⟩
      have hrl : res.length ≤ 2097152 := by rw [← hres]; have := merge_length D E; omega
      go_enter Try.func7, Try.ntmps7
      go_wp2_with fail
      refine (lawsSzD A D.length cap 1048576 _ hn90 (by omega) (by omega)).mono ?_
      rintro e w1 ⟨rfl, rfl⟩
      rw [if_neg (by omega), hq]
      clear hq hbig
      go_wp2_with fail
      refine (lawsSzD A2 E.length c2 q _ hn91 (by omega) hq1).mono ?_
      rintro e w1 ⟨rfl, rfl⟩
      rw [if_neg (by omega), hq2]
      clear hq2 hbig2
      go_wp2_with fail
      have F0 := Lib.hid (LL.start w)
      refine (lawsToDepS A D.length cap D _ (F0.out.at HI.out) hn).mono ?_
      rintro e x1 ⟨g1, rfl, o1, b1⟩
      have F1 := Lib.hid (F0.out.bl b1)
      have T1 := Lib.hid (o1)
      clear o1 b1
      go_wp2_with fail
      refine (lawsToDepS A2 E.length c2 E _ (F1.out.at HI2.out) hn2).mono ?_
      rintro e x2 ⟨g2, rfl, o2, b2⟩
      have T1 := Lib.hid (own_below T1.out b2)
      have F2 := Lib.hid (F1.out.bl b2)
      have T2 := Lib.hid (o2)
      clear o2 b2
      go_wp2_with fail
      refine (specMerge (some ⟨g1, 0, none⟩) (some ⟨g2, 0, none⟩) D.length D.length E.length E.length D E _ (depAt_own T1.out (Nat.le_refl _)) (depAt_own T2.out (Nat.le_refl _)) (by omega) (by omega)).mono ?_
      rintro e x3 ⟨v0, rfl, o3, b3⟩
      rw [hres] at o3
      have F3 := Lib.hid (F2.out.add0 (r := rsD v0 res) o3 b3)
      clear o3 b3
      go_wp2_with fail
      refine (lawsToDepS A D.length cap D _ (F3.out.at HI.out) hn).mono ?_
      rintro e x4 ⟨g4, rfl, o4, b4⟩
      have F4 := Lib.hid (F3.out.add1 (r := rsD (.slice (some ⟨g4, 0, none⟩) D.length D.length) D) o4 b4)
      clear o4 b4
      go_wp2_with fail
      refine (lawsToDepS A2 E.length c2 E _ (F4.out.at HI2.out) hn2).mono ?_
      rintro e x5 ⟨g5, rfl, o5, b5⟩
      have F5 := Lib.hid (F4.out.add2 (r := rsD (.slice (some ⟨g5, 0, none⟩) E.length E.length) E) o5 b5)
      clear o5 b5
      go_wp2_with fail
      refine (implMerge (some ⟨g4, 0, none⟩) (some ⟨g5, 0, none⟩) D.length D.length E.length E.length D E _ (depAt_own F5.out.h1.1 (Nat.le_refl _)) (depAt_own F5.out.h2.1 (Nat.le_refl _)) (by omega) (by omega)).mono ?_
      rintro e x6 ⟨v8, rfl, o6, b6⟩
      rw [hres] at o6
      have F6 := Lib.hid (F5.out.add3 (r := rsD v8 res) o6 b6)
      clear o6 b6
      go_wp2_with fail
      refine (lawsEqOwnD v8 v0 _ _ res _ F6.out.h3.1 F6.out.h0.1 (by omega)).mono ?_
      rintro e x7 ⟨rfl, g7⟩
      have F7 := Lib.hid (F6.out.gb g7)
      clear g7
      go_wp2_with fail
      refine (lawsToDepS A D.length cap D _ (F7.out.at HI.out) hn).mono ?_
      rintro e x8 ⟨g8, rfl, o8, b8⟩
      have F8 := Lib.hid (F7.out.bl b8)
      have T8 := Lib.hid (o8)
      clear o8 b8
      go_wp2_with fail
      refine (lawsEqD (some ⟨g4, 0, none⟩) (some ⟨g8, 0, none⟩) D.length D.length D.length D _ (depAt_own F8.out.h1.1 (Nat.le_refl _)) (depAt_own T8.out (Nat.le_refl _)) (by omega)).mono ?_
      rintro e x9 ⟨rfl, g9⟩
      have F9 := Lib.hid (F8.out.gb g9)
      clear g9 T8
      go_wp2_with fail
      refine (lawsToDepS A2 E.length c2 E _ (F9.out.at HI2.out) hn2).mono ?_
      rintro e x10 ⟨g10, rfl, o10, b10⟩
      have F10 := Lib.hid (F9.out.bl b10)
      have T10 := Lib.hid (o10)
      clear o10 b10
      go_wp2_with fail
      refine (lawsEqD (some ⟨g5, 0, none⟩) (some ⟨g10, 0, none⟩) E.length E.length E.length E _ (depAt_own F10.out.h2.1 (Nat.le_refl _)) (depAt_own T10.out (Nat.le_refl _)) (by omega)).mono ?_
      rintro e x11 ⟨rfl, g11⟩
      have F11 := Lib.hid (F10.out.gb g11)
      clear g11 T10
      go_wp2_with fail
      refine (lawsMarkD _ _ D.length 1 D _ F11.out.h1.1 (by omega)).mono ?_
      rintro e x12 ⟨rfl, o12, g12⟩
      have F12 := Lib.hid (F11.out.set1 (r := rsD (.slice (some ⟨g4, 0, none⟩) D.length D.length) (marksD 1 D.length)) rfl (cast_deps o12) g12)
      clear o12 g12
      obtain ⟨k1, hk1⟩ : ∃ k, 1 + D.length * 2 = k := ⟨_, rfl⟩
      have hkn1 : ¬ (k1 : Int) < 0 := by omega
      have hkm1 : k1 ≤ 2097153 := by omega
      rw [hk1]
      clear hk1
      go_wp2_with fail
      refine (lawsMarkD _ _ E.length k1 E _ F12.out.h2.1 (by omega)).mono ?_
      rintro e x13 ⟨rfl, o13, g13⟩
      have F13 := Lib.hid (F12.out.set2 (r := rsD (.slice (some ⟨g5, 0, none⟩) E.length E.length) (marksD k1 E.length)) rfl (cast_deps o13) g13)
      clear o13 g13
      obtain ⟨k2, hk2⟩ : ∃ k, k1 + E.length * 2 = k := ⟨_, rfl⟩
      have hkn2 : ¬ (k2 : Int) < 0 := by omega
      have hkm2 : k2 ≤ 4194305 := by omega
      rw [hk2]
      clear hk2
      go_wp2_with fail
      refine (lawsEqOwnD v8 v0 _ _ res _ F13.out.h3.1 F13.out.h0.1 (by omega)).mono ?_
      rintro e x14 ⟨rfl, g14⟩
      have F14 := Lib.hid (F13.out.gb g14)
      clear g14
      go_wp2_with fail
      refine (lawsMarkD v8 _ res.length 1 res _ F14.out.h3.1 (by omega)).mono ?_
      rintro e x15 ⟨rfl, o15, g15⟩
      have F15 := Lib.hid (F14.out.set3 (r := rsD v8 (marksD 1 res.length)) rfl (cast_deps o15) g15)
      clear o15 g15
      obtain ⟨z1, hz1⟩ : ∃ k, 1 + res.length * 2 = k := ⟨_, rfl⟩
      have hzn : ¬ (z1 : Int) < 0 := by omega
      have hZ := Lib.hid hz1
      rw [hz1]
      clear hz1
      go_wp2_with fail
      refine (lawsHeldOwnD v8 _ res.length 1 _ (by have h := F15.out.h3.1; have e := marksD_length 1 res.length; unfold rsD at h; dsimp only at h; rw [e] at h; exact h) (by omega)).mono ?_
      rintro e x16 ⟨rfl, g16⟩
      have F16 := Lib.hid (F15.out.gb g16)
      clear g16
      rw [hZ.out]
      go_wp2_with fail
      refine (lawsToDepS A D.length cap D _ (F16.out.at HI.out) hn).mono ?_
      rintro e x17 ⟨g17, rfl, o17, b17⟩
      have F17 := Lib.hid (F16.out.bl b17)
      have T17 := Lib.hid (o17)
      clear o17 b17
      go_wp2_with fail
      refine (lawsToDepS A2 E.length c2 E _ (F17.out.at HI2.out) hn2).mono ?_
      rintro e x18 ⟨g18, rfl, o18, b18⟩
      have T17 := Lib.hid (own_below T17.out b18)
      have F18 := Lib.hid (F17.out.bl b18)
      have T18 := Lib.hid (o18)
      clear o18 b18
      go_wp2_with fail
      refine (implMerge (some ⟨g17, 0, none⟩) (some ⟨g18, 0, none⟩) D.length D.length E.length E.length D E _ (depAt_own T17.out (Nat.le_refl _)) (depAt_own T18.out (Nat.le_refl _)) (by omega) (by omega)).mono ?_
      rintro e x19 ⟨v9, rfl, o19, b19⟩
      rw [hres] at o19
      have R9 := Lib.hid o19
      have F19 := Lib.hid (F18.out.bl b19)
      clear o19 b19
      go_wp2_with fail
      refine (lawsEqOwnD v9 v0 _ _ res _ R9.out F19.out.h0.1 (by omega)).mono ?_
      rintro e x20 ⟨rfl, g20⟩
      have F20 := Lib.hid (F19.out.gb g20)
      clear g20
      go_wp2_with fail
      refine (lawsHeldOwnD v8 _ res.length 1 _ (by have h := F20.out.h3.1; have e := marksD_length 1 res.length; unfold rsD at h; dsimp only at h; rw [e] at h; exact h) (by omega)).mono ?_
      rintro e x21 ⟨rfl, g21⟩
      have F21 := Lib.hid (F20.out.gb g21)
      clear g21
      rw [hZ.out]
      go_wp2_with fail
      go_ret
      exact ⟨rfl, F21.out.lb⟩
end Go.Proofs.Ytnpjadofhpaapaa
