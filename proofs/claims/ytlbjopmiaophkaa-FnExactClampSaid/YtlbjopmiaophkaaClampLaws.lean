/- What is proved here: the laws on Clamp answer true, for every argument; only new blocks are written. -/
import Derived.Test.YtlbjopmiaophkaaClamp
import Derived.Test.YtlbjopmiaophkaaNumber
namespace Go.Proofs.Ytlbjopmiaophkaa
open Go.ChangeShapes Go.WideShapes Go.ChangeAt Go.RowKit
set_option linter.unusedVariables false

theorem walk_FnExactClamp (a0 a1 a2 : Int) (w : World) (w0 : (Lit.int .i64 a0).wf = true) (w1 : (Lit.int .i64 a1).wf = true) (w2 : (Lit.int .i64 a2).wf = true) :
    Calls Try.prog 7 #[.int .i64 a0, .int .i64 a1, .int .i64 a2] w fun e w' => e = .returned (.bool true) ∧ Below w.heap.size w w' := by
  clear w0 w1 w2
  go_enter Try.func7, Try.ntmps7
  go_wp2_with fail
  refine (specClamp _ _ _ _).mono ?_
  rintro e w' ⟨rfl, rfl⟩
  go_wp2_with fail
  refine (implClamp _ _ _ _).mono ?_
  rintro e w' ⟨rfl, rfl⟩
  go_wp2_with fail
  go_ret
  exact ⟨rfl, Below.refl _ _⟩

theorem lawsBig (A : Option Addr) (n cap : Nat) (w : World) :
    Calls Try.prog 8 #[.slice A n cap] w fun e w' => e = .returned (.bool (decide (1048576 < n))) ∧ w = w' := by
  go_enter Try.func8, Try.ntmps8
  go_wp2_with fail
  go_ret
  exact ⟨ret_bool (by simp; omega), rfl⟩

/-- Three 64-bit integers are returned. -/
def Drawn3 (w : World) (e : Ending) (w' : World) : Prop := ∃ a b c : Int, e = .returned (.tuple #[.int .i64 a, .int .i64 b, .int .i64 c]) ∧ Below w.heap.size w w'

theorem drawClamp (A : Option Addr) (n cap : Nat) (w : World) (hr : ByteRow w w.heap.size A n) (hn : n ≤ 1048576) :
    Calls Try.prog 9 #[.slice A n cap] w (Drawn3 w) := by
  go_enter Try.func9, Try.ntmps9
  go_wp2_with fail
  refine (l01New _ _ _ _ hr hn).mono ?_
  rintro e w1 ⟨g, rfl, hg, hc1, hb1⟩
  clear hr hn
  have HB1 := Lib.hid hb1
  have HG : Hid (w.heap.size ≤ g) := hg
  clear hb1 hg
  go_wp2_with fail
  refine (l01Once _ _ _ hc1).mono ?_
  rintro e w2 ⟨b, rfl, hc2, hg2⟩
  cases b
  · go_wp2_with fail
    refine (l01Below 40 _ _ hc2).mono ?_
    rintro e w3 ⟨r1, rfl, hr10, hr11, hr12, hc3, hg3⟩
    go_wp2_with fail
    refine (l01Below 80 _ _ hc3).mono ?_
    rintro e w4 ⟨r2, rfl, hr20, hr21, hr22, hc4, hg4⟩
    go_wp2_with fail
    refine (l01Below 30 _ _ hc4).mono ?_
    rintro e w5 ⟨r3, rfl, hr30, hr31, hr32, hc5, hg5⟩
    go_wp2_with fail
    go_ret3
    exact ⟨_, _, _, rfl, HB1.out.trans (gb_below (gb_trans hg2 (gb_trans hg3 (gb_trans hg4 hg5))) HB1.out.size HG.out)⟩
  · go_wp2_with fail
    refine (l01Number _ _ hc2).mono ?_
    rintro e w3 ⟨r1, rfl, hr1, hc3, hg3⟩
    go_wp2_with fail
    refine (l01Number _ _ hc3).mono ?_
    rintro e w4 ⟨r2, rfl, hr2, hc4, hg4⟩
    go_wp2_with fail
    refine (l01Number _ _ hc4).mono ?_
    rintro e w5 ⟨r3, rfl, hr3, hc5, hg5⟩
    go_wp2_with fail
    go_ret3
    exact ⟨_, _, _, rfl, HB1.out.trans (gb_below (gb_trans hg2 (gb_trans hg3 (gb_trans hg4 hg5))) HB1.out.size HG.out)⟩

theorem clamp_bounds (n a b : Int) (h : ¬ b < a) : a ≤ clampM n a b ∧ clampM n a b ≤ b := by unfold clampM; split <;> (try split) <;> omega
theorem clamp_again (n a b : Int) (h : ¬ b < a) : clampM (clampM n a b) a b = clampM n a b := by unfold clampM; (repeat' split) <;> omega
theorem clamp_same (n a b : Int) (h0 : a ≤ n) (h1 : n ≤ b) : clampM n a b = n := by unfold clampM; (repeat' split) <;> omega
theorem clamp_least (n a b : Int) (h : b < a) : clampM n a b = a := by unfold clampM; rw [if_pos (.inl h)]
theorem implClampV (n lo hi y : Int) (h : clampM n lo hi = y) (w : World) :
    Calls Try.prog 10 #[.int .i64 n, .int .i64 lo, .int .i64 hi] w fun e w' => e = .returned (.int .i64 y) ∧ w = w' := h ▸ implClamp n lo hi w
theorem clamp735 : clampM 7 3 5 = 5 := by decide

theorem walk_FnClamped (A : Option Addr) (n cap : Nat) (w : World) (hr : ByteRow w w.heap.size A n) :
    Calls Try.prog 3 #[.slice A n cap] w fun e w' => e = .returned (.bool true) ∧ Below w.heap.size w w' := by
  by_cases hn : 1048576 < n
  · have hd : decide (1048576 < n) = true := by simpa using hn
    clear hr
    go_enter Try.func3, Try.ntmps3
    go_wp2_with fail
    refine (lawsBig _ _ _ _).mono ?_
    rintro e w' ⟨rfl, rfl⟩
    go_wp2_with fail
    go_ret
    exact ⟨rfl, Below.refl _ _⟩
  · have hd : decide (1048576 < n) = false := by simpa using hn
    have Hr := Lib.hid hr
    have Hn := Lib.hid hn
    clear hr hn
    go_enter Try.func3, Try.ntmps3
    go_wp2_with fail
    refine (lawsBig _ _ _ _).mono ?_
    rintro e w' ⟨rfl, rfl⟩
    go_wp2_with fail
    refine (drawClamp _ _ _ _ Hr.out (by have := Hn.out; omega)).mono ?_
    rintro e w1 ⟨x, a, b, rfl, hb1⟩
    have HB1 := Lib.hid hb1
    clear hb1
    go_wp2_with fail
    by_cases hba : b < a
    · refine (implClampV x a b a (clamp_least x a b hba) _).mono ?_
      rintro e w' ⟨rfl, rfl⟩
      go_wp2_with fail
      refine (implClampV 7 3 5 5 clamp735 _).mono ?_
      rintro e w' ⟨rfl, rfl⟩
      go_wp2_with fail
      go_ret
      exact ⟨rfl, HB1.out⟩
    · obtain ⟨y, hy⟩ : ∃ y, clampM x a b = y := ⟨_, rfl⟩
      have h1 := clamp_bounds x a b hba
      have h2 := clamp_again x a b hba
      have h3 := clamp_same x a b
      rw [hy] at h1 h2 h3
      obtain ⟨ha, hb⟩ := h1
      have Hy := Lib.hid hy
      have H2 := Lib.hid h2
      have H3 := Lib.hid h3
      clear hy h2 h3
      refine (implClampV x a b y Hy.out _).mono ?_
      rintro e w' ⟨rfl, rfl⟩
      go_wp2_with fail
      refine (implClampV y a b y H2.out _).mono ?_
      rintro e w' ⟨rfl, rfl⟩
      by_cases hxa : x < a
      · go_wp2_with fail
        refine (implClampV 7 3 5 5 clamp735 _).mono ?_
        rintro e w' ⟨rfl, rfl⟩
        go_wp2_with fail
        go_ret
        exact ⟨rfl, HB1.out⟩
      · by_cases hxb : b < x
        · go_wp2_with fail
          refine (implClampV 7 3 5 5 clamp735 _).mono ?_
          rintro e w' ⟨rfl, rfl⟩
          go_wp2_with fail
          go_ret
          exact ⟨rfl, HB1.out⟩
        · obtain rfl : y = x := H3.out (by omega) (by omega)
          go_wp2_with fail
          refine (implClampV 7 3 5 5 clamp735 _).mono ?_
          rintro e w' ⟨rfl, rfl⟩
          go_wp2_with fail
          go_ret
          exact ⟨rfl, HB1.out⟩
end Go.Proofs.Ytlbjopmiaophkaa
