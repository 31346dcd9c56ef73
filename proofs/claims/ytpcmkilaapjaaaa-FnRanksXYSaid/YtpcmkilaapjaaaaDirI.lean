/- What is proved here: the program's functions of directions and its four rules, for nodes that exist; only new blocks are written. -/
import Derived.Test.YtpcmkilaapjaaaaDirM
import Derived.Test.YtpcmkilaapjaaaaPlaceI
namespace Go.Proofs.Ytpcmkilaapjaaaa
open Go.ChangeShapes Go.WideShapes Go.ChangeAt Go.RowKit
set_option linter.unusedVariables false

theorem implToward (s g lo hi : Int) (w : World) :
    Calls Try.prog 85 #[.int .i64 s, .int .i64 g, .int .i64 lo, .int .i64 hi] w (RetI (towardG s g lo hi) none w) := by
  by_cases h1 : g < s
  · go_enter Try.func85, Try.ntmps85
    go_wp2_with fail
    go_ret
    exact ⟨ret_int64 (by simp [towardG, h1]), gb_refl _ _⟩
  · by_cases h2 : g > s
    all_goals
      go_enter Try.func85, Try.ntmps85
      go_wp2_with fail
      go_ret
      exact ⟨ret_int64 (by unfold towardG; first | rw [if_neg (Int.not_lt.2 h1), if_pos h2] | rw [if_neg (Int.not_lt.2 h1), if_neg (Int.not_lt.2 h2)]), gb_refl _ _⟩
theorem implTowardV (s g lo hi r : Int) (h : towardG s g lo hi = r) (w : World) :
    Calls Try.prog 85 #[.int .i64 s, .int .i64 g, .int .i64 lo, .int .i64 hi] w (RetI r none w) := h ▸ implToward s g lo hi w

theorem implInRow (W H a b r : Int) (ha : hasG W H a = true) (hb : hasG W H b = true) (hr : rowTo W a b = r) (w : World) :
    Calls Try.prog 82 #[.agg #[.int .i64 W, .int .i64 H], .int .i64 a, .int .i64 b] w (RetI r none w) := by
  obtain ⟨x, hx⟩ : ∃ x, a % W = x := ⟨_, rfl⟩
  obtain ⟨u, hu⟩ : ∃ u, b % W = u := ⟨_, rfl⟩
  obtain ⟨y, hy⟩ : ∃ y, a / W = y := ⟨_, rfl⟩
  obtain ⟨v, hv⟩ : ∃ v, b / W = v := ⟨_, rfl⟩
  have HA := Lib.hid (fun w => implPlace W H a x y ha hx hy w)
  have HB := Lib.hid (fun w => implPlace W H b u v hb hu hv w)
  have HT := Lib.hid (fun w => implTowardV x u 3 1 r (by rw [← hr, rowTo, hx, hu]) w)
  clear ha hb hr hx hu hy hv
  go_enter Try.func82, Try.ntmps82
  go_wp2_with fail
  refine (HA.out _).mono ?_
  rintro e w1 ⟨rfl, g1⟩
  have hb1 := boxi_blk g1
  have a0 : w1.cell? ⟨w.heap.size, 0, none⟩ = some (.int .i64 W) := hb1.cell 0
  have a1 : w1.cell? ⟨w.heap.size, 1, none⟩ = some (.int .i64 H) := hb1.cell 1
  have HG1 := Lib.hid g1
  clear g1 hb1
  go_wp2_with fail
  refine (HB.out _).mono ?_
  rintro e w2 ⟨rfl, g2⟩
  have HG2 := Lib.hid (gb_trans HG1.out g2)
  clear g2
  go_wp2_with fail
  refine (HT.out _).mono ?_
  rintro e w3 ⟨rfl, g3⟩
  have HG3 := Lib.hid (gb_trans HG2.out g3)
  clear g3
  go_wp2_with fail
  go_ret
  exact ⟨rfl, boxi_gb HG3.out⟩
theorem implInColumn (W H a b r : Int) (ha : hasG W H a = true) (hb : hasG W H b = true) (hr : colTo W a b = r) (w : World) :
    Calls Try.prog 83 #[.agg #[.int .i64 W, .int .i64 H], .int .i64 a, .int .i64 b] w (RetI r none w) := by
  obtain ⟨x, hx⟩ : ∃ x, a % W = x := ⟨_, rfl⟩
  obtain ⟨u, hu⟩ : ∃ u, b % W = u := ⟨_, rfl⟩
  obtain ⟨y, hy⟩ : ∃ y, a / W = y := ⟨_, rfl⟩
  obtain ⟨v, hv⟩ : ∃ v, b / W = v := ⟨_, rfl⟩
  have HA := Lib.hid (fun w => implPlace W H a x y ha hx hy w)
  have HB := Lib.hid (fun w => implPlace W H b u v hb hu hv w)
  have HT := Lib.hid (fun w => implTowardV y v 0 2 r (by rw [← hr, colTo, hy, hv]) w)
  clear ha hb hr hx hu hy hv
  go_enter Try.func83, Try.ntmps83
  go_wp2_with fail
  refine (HA.out _).mono ?_
  rintro e w1 ⟨rfl, g1⟩
  have hb1 := boxi_blk g1
  have a0 : w1.cell? ⟨w.heap.size, 0, none⟩ = some (.int .i64 W) := hb1.cell 0
  have a1 : w1.cell? ⟨w.heap.size, 1, none⟩ = some (.int .i64 H) := hb1.cell 1
  have HG1 := Lib.hid g1
  clear g1 hb1
  go_wp2_with fail
  refine (HB.out _).mono ?_
  rintro e w2 ⟨rfl, g2⟩
  have HG2 := Lib.hid (gb_trans HG1.out g2)
  clear g2
  go_wp2_with fail
  refine (HT.out _).mono ?_
  rintro e w3 ⟨rfl, g3⟩
  have HG3 := Lib.hid (gb_trans HG2.out g3)
  clear g3
  go_wp2_with fail
  go_ret
  exact ⟨rfl, boxi_gb HG3.out⟩

theorem implXY (W H a b r : Int) (ha : hasG W H a = true) (hb : hasG W H b = true) (hr : xyG W a b = r) (w : World) :
    Calls Try.prog 73 #[.agg #[.int .i64 W, .int .i64 H], .int .i64 a, .int .i64 b] w (RetI r none w) := by
  obtain ⟨p, hp⟩ : ∃ p, rowTo W a b = p := ⟨_, rfl⟩
  obtain ⟨q, hq⟩ : ∃ q, colTo W a b = q := ⟨_, rfl⟩
  unfold xyG at hr
  rw [hp, hq] at hr
  have HA := Lib.hid (fun w => implInRow W H a b p ha hb hp w)
  have HB := Lib.hid (fun w => implInColumn W H a b q ha hb hq w)
  clear ha hb hp hq
  by_cases h4 : p = 4
  · rw [if_pos h4] at hr
    have h5 : (p != 4) = false := by simpa using h4
    subst hr
    clear h4
    go_enter Try.func73, Try.ntmps73
    go_wp2_with fail
    refine (HA.out _).mono ?_
    rintro e w1 ⟨rfl, g1⟩
    have hb1 := boxi_blk g1
    have a0 : w1.cell? ⟨w.heap.size, 0, none⟩ = some (.int .i64 W) := hb1.cell 0
    have a1 : w1.cell? ⟨w.heap.size, 1, none⟩ = some (.int .i64 H) := hb1.cell 1
    have HG1 := Lib.hid g1
    clear g1 hb1
    go_wp2_with fail
    refine (HB.out _).mono ?_
    rintro e w2 ⟨rfl, g2⟩
    have HG2 := Lib.hid (gb_trans HG1.out g2)
    clear g2
    go_wp2_with fail
    go_ret
    exact ⟨rfl, boxi_gb HG2.out⟩
  · rw [if_neg h4] at hr
    have h5 : (p != 4) = true := by simpa using h4
    subst hr
    clear h4
    go_enter Try.func73, Try.ntmps73
    go_wp2_with fail
    refine (HA.out _).mono ?_
    rintro e w1 ⟨rfl, g1⟩
    have HG1 := Lib.hid g1
    clear g1
    go_wp2_with fail
    go_ret
    exact ⟨rfl, boxi_gb HG1.out⟩
theorem implYX (W H a b r : Int) (ha : hasG W H a = true) (hb : hasG W H b = true) (hr : yxG W a b = r) (w : World) :
    Calls Try.prog 74 #[.agg #[.int .i64 W, .int .i64 H], .int .i64 a, .int .i64 b] w (RetI r none w) := by
  obtain ⟨p, hp⟩ : ∃ p, colTo W a b = p := ⟨_, rfl⟩
  obtain ⟨q, hq⟩ : ∃ q, rowTo W a b = q := ⟨_, rfl⟩
  unfold yxG at hr
  rw [hp, hq] at hr
  have HA := Lib.hid (fun w => implInColumn W H a b p ha hb hp w)
  have HB := Lib.hid (fun w => implInRow W H a b q ha hb hq w)
  clear ha hb hp hq
  by_cases h4 : p = 4
  · rw [if_pos h4] at hr
    have h5 : (p != 4) = false := by simpa using h4
    subst hr
    clear h4
    go_enter Try.func74, Try.ntmps74
    go_wp2_with fail
    refine (HA.out _).mono ?_
    rintro e w1 ⟨rfl, g1⟩
    have hb1 := boxi_blk g1
    have a0 : w1.cell? ⟨w.heap.size, 0, none⟩ = some (.int .i64 W) := hb1.cell 0
    have a1 : w1.cell? ⟨w.heap.size, 1, none⟩ = some (.int .i64 H) := hb1.cell 1
    have HG1 := Lib.hid g1
    clear g1 hb1
    go_wp2_with fail
    refine (HB.out _).mono ?_
    rintro e w2 ⟨rfl, g2⟩
    have HG2 := Lib.hid (gb_trans HG1.out g2)
    clear g2
    go_wp2_with fail
    go_ret
    exact ⟨rfl, boxi_gb HG2.out⟩
  · rw [if_neg h4] at hr
    have h5 : (p != 4) = true := by simpa using h4
    subst hr
    clear h4
    go_enter Try.func74, Try.ntmps74
    go_wp2_with fail
    refine (HA.out _).mono ?_
    rintro e w1 ⟨rfl, g1⟩
    have HG1 := Lib.hid g1
    clear g1
    go_wp2_with fail
    go_ret
    exact ⟨rfl, boxi_gb HG1.out⟩
theorem implWest (W H a b r : Int) (ha : hasG W H a = true) (hb : hasG W H b = true) (hr : westG W a b = r) (w : World) :
    Calls Try.prog 75 #[.agg #[.int .i64 W, .int .i64 H], .int .i64 a, .int .i64 b] w (RetI r none w) := by
  obtain ⟨p, hp⟩ : ∃ p, rowTo W a b = p := ⟨_, rfl⟩
  obtain ⟨q, hq⟩ : ∃ q, yxG W a b = q := ⟨_, rfl⟩
  unfold westG at hr
  rw [hp, hq] at hr
  have HA := Lib.hid (fun w => implInRow W H a b p ha hb hp w)
  have HB := Lib.hid (fun w => implYX W H a b q ha hb hq w)
  clear ha hb hp hq
  by_cases h4 : p = 3
  · rw [if_pos h4] at hr
    have h5 : (p == 3) = true := by simpa using h4
    subst hr
    clear h4
    go_enter Try.func75, Try.ntmps75
    go_wp2_with fail
    refine (HA.out _).mono ?_
    rintro e w1 ⟨rfl, g1⟩
    have HG1 := Lib.hid g1
    clear g1
    go_wp2_with fail
    go_ret
    exact ⟨rfl, boxi_gb HG1.out⟩
  · rw [if_neg h4] at hr
    have h5 : (p == 3) = false := by simpa using h4
    subst hr
    clear h4
    go_enter Try.func75, Try.ntmps75
    go_wp2_with fail
    refine (HA.out _).mono ?_
    rintro e w1 ⟨rfl, g1⟩
    have hb1 := boxi_blk g1
    have a0 : w1.cell? ⟨w.heap.size, 0, none⟩ = some (.int .i64 W) := hb1.cell 0
    have a1 : w1.cell? ⟨w.heap.size, 1, none⟩ = some (.int .i64 H) := hb1.cell 1
    have HG1 := Lib.hid g1
    clear g1 hb1
    go_wp2_with fail
    refine (HB.out _).mono ?_
    rintro e w2 ⟨rfl, g2⟩
    have HG2 := Lib.hid (gb_trans HG1.out g2)
    clear g2
    go_wp2_with fail
    go_ret
    exact ⟨rfl, boxi_gb HG2.out⟩
theorem implMixed (W H a b r : Int) (ha : hasG W H a = true) (hb : hasG W H b = true) (hr : mixG W a b = r) (w : World) :
    Calls Try.prog 76 #[.agg #[.int .i64 W, .int .i64 H], .int .i64 a, .int .i64 b] w (RetI r none w) := by
  obtain ⟨p, hp⟩ : ∃ p, xyG W a b = p := ⟨_, rfl⟩
  obtain ⟨q, hq⟩ : ∃ q, yxG W a b = q := ⟨_, rfl⟩
  unfold mixG at hr
  rw [hp, hq] at hr
  have HA := Lib.hid (fun w => implXY W H a b p ha hb hp w)
  have HB := Lib.hid (fun w => implYX W H a b q ha hb hq w)
  obtain ⟨b0, b1⟩ := hasG_le hb
  have hm : b.tmod 2 = b % 2 := by rw [Int.tmod_eq_emod_of_nonneg b0]
  clear ha hb hp hq
  rcases (show b % 2 = 0 ∨ b % 2 = 1 by omega) with h4 | h4
  · rw [if_pos h4] at hr
    rw [h4] at hm
    subst hr
    clear h4
    go_enter Try.func76, Try.ntmps76
    go_wp2_with fail
    refine (HA.out _).mono ?_
    rintro e w1 ⟨rfl, g1⟩
    have HG1 := Lib.hid g1
    clear g1
    go_wp2_with fail
    go_ret
    exact ⟨rfl, boxi_gb HG1.out⟩
  · rw [if_neg (by omega)] at hr
    rw [h4] at hm
    subst hr
    clear h4
    go_enter Try.func76, Try.ntmps76
    go_wp2_with fail
    refine (HB.out _).mono ?_
    rintro e w1 ⟨rfl, g1⟩
    have HG1 := Lib.hid g1
    clear g1
    go_wp2_with fail
    go_ret
    exact ⟨rfl, boxi_gb HG1.out⟩
end Go.Proofs.Ytpcmkilaapjaaaa
