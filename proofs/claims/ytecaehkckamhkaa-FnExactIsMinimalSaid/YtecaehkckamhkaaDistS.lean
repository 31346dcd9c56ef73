/- What is proved here: what the model's Distance returns, for all arguments; only new blocks are written. -/
import Derived.Test.YtecaehkckamhkaaGridS
namespace Go.Proofs.Ytecaehkckamhkaa
open Go.ChangeShapes Go.WideShapes Go.ChangeAt Go.RowKit
set_option linter.unusedVariables false

theorem specAbs (x : Int) (h0 : -1000 ≤ x) (h1 : x ≤ 1000) (w : World) :
    Calls Try.prog 101 #[.int .i64 x] w fun e w' => e = .returned (.int .i64 (absI x)) ∧ w = w' := by
  by_cases hx : x < 0
  all_goals
    go_enter Try.func101, Try.ntmps101
    go_wp2
    all_goals go_ret
    all_goals exact ⟨ret_int64 (by unfold absI; (repeat' split) <;> omega), rfl⟩

theorem specAbsV (x y : Int) (h : absI x = y) (h0 : -1000 ≤ x) (h1 : x ≤ 1000) (w : World) :
    Calls Try.prog 101 #[.int .i64 x] w fun e w' => e = .returned (.int .i64 y) ∧ w = w' := h ▸ specAbs x h0 h1 w

set_option maxRecDepth 100000 in
theorem specDistance (W H a b : Int) (w : World) :
    Calls Try.prog 65 #[.agg #[.int .i64 W, .int .i64 H], .int .i64 a, .int .i64 b] w (RetI (distG W H a b) none w) := by
  cases ha : hasG W H a with
  | true =>
    cases hb : hasG W H b with
    | true =>
      obtain ⟨hW, hH⟩ := okG_cases (hasG_ok ha).1
      have hW0 : 1 ≤ W ∧ W ≤ 4 := by omega
      have hH0 : 1 ≤ H ∧ H ≤ 4 := by omega
      have qa := row_wrap (hasG_le ha).1 (hasG_le ha).2 hW
      have qb := row_wrap (hasG_le hb).1 (hasG_le hb).2 hW
      have hD := distG_ok ha hb
      obtain ⟨a0, a1, a2, a3, a4⟩ := place_of ha
      obtain ⟨b0, b1, b2, b3, b4⟩ := place_of hb
      clear a4 b4
      obtain ⟨ha0, _⟩ := hasG_le ha
      obtain ⟨hb0, _⟩ := hasG_le hb
      obtain ⟨hW1, hW2⟩ := hW0
      obtain ⟨hH1, hH2⟩ := hH0
      obtain ⟨xa, hxa⟩ : ∃ x, a % W = x := ⟨_, rfl⟩
      obtain ⟨xb, hxb⟩ : ∃ x, b % W = x := ⟨_, rfl⟩
      obtain ⟨ya, hya⟩ : ∃ x, a / W = x := ⟨_, rfl⟩
      obtain ⟨yb, hyb⟩ : ∃ x, b / W = x := ⟨_, rfl⟩
      rw [hxa, hxb, hya, hyb] at hD
      rw [hxa] at a0 a1
      rw [hxb] at b0 b1
      rw [hya] at a2 a3 qa
      rw [hyb] at b2 b3 qb
      have da : a.tdiv W = ya := by rw [Int.tdiv_eq_ediv_of_nonneg ha0]; exact hya
      have db : b.tdiv W = yb := by rw [Int.tdiv_eq_ediv_of_nonneg hb0]; exact hyb
      have ta : a.tmod W = xa := by rw [Int.tmod_eq_emod_of_nonneg ha0]; exact hxa
      have tb : b.tmod W = xb := by rw [Int.tmod_eq_emod_of_nonneg hb0]; exact hxb
      have hWn : W ≠ 0 := by omega
      clear hya hyb hW hH qa qb hxa hxb ha0 hb0
      have n1 := absI_nonneg (xa - xb)
      have n2 := absI_lt a0 a1 b0 b1
      have n3 := absI_nonneg (ya - yb)
      have n4 := absI_lt a2 a3 b2 b3
      obtain ⟨p, hp⟩ : ∃ p, absI (xa - xb) = p := ⟨_, rfl⟩
      obtain ⟨q, hq⟩ : ∃ q, absI (ya - yb) = q := ⟨_, rfl⟩
      rw [hp] at n1 n2 hD
      rw [hq] at n3 n4 hD
      have HD := Lib.hid hD
      clear hD
      go_enter Try.func65, Try.ntmps65
      go_wp2_with fail
      refine (specHas W H a _).mono ?_
      rintro e w1 ⟨rfl, hg⟩
      have hb1 := box_blk hg
      have c0 := hb1.cell 0
      have c1 := hb1.cell 1
      simp at c0 c1
      have Hg := Lib.hid (box_gb hg)
      have Hb1 := Lib.hid hb1
      clear hg hb1
      rw [ha]
      go_wp2_with fail
      refine (specHas W H b _).mono ?_
      rintro e w2 ⟨rfl, hg2⟩
      have hb2 := Hb1.out.grown hg2 (by simp)
      have d0 := hb2.cell 0
      have d1 := hb2.cell 1
      simp at d0 d1
      have Hg2 := Lib.hid hg2
      clear hg2 hb2 c0 c1
      rw [hb]
      go_wp2_with fail
      go_quiet (first
        | (refine Calls.quiet_of_same (still_of (specAbsV (xa - xb) p hp (by omega) (by omega) _)))
        | (refine Calls.quiet_of_same (still_of (specAbsV (ya - yb) q hq (by omega) (by omega) _))))
      go_wp2_with fail
      go_ret
      exact ⟨ret_int64 (by rw [HD.out]), gb_trans Hg.out (gb_drewN Hg2.out _)⟩
    | false =>
      go_enter Try.func65, Try.ntmps65
      go_wp2_with fail
      refine (specHas W H a _).mono ?_
      rintro e w1 ⟨rfl, hg⟩
      have hb1 := box_blk hg
      have c0 := hb1.cell 0
      have c1 := hb1.cell 1
      simp at c0 c1
      have Hg := Lib.hid (box_gb hg)
      clear hg hb1
      rw [ha]
      go_wp2_with fail
      refine (specHas W H b _).mono ?_
      rintro e w2 ⟨rfl, hg2⟩
      rw [hb]
      go_wp2_with fail
      go_ret
      exact ⟨ret_int64 (by simp [distG, ha, hb]), gb_trans Hg.out hg2⟩
  | false =>
    go_enter Try.func65, Try.ntmps65
    go_wp2_with fail
    refine (specHas W H a _).mono ?_
    rintro e w1 ⟨rfl, hg⟩
    rw [ha]
    go_wp2_with fail
    go_ret
    exact ⟨ret_int64 (by simp [distG, ha]), box_gb hg⟩

end Go.Proofs.Ytecaehkckamhkaa
