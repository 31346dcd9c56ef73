/- What is proved here: what the program's Distance returns, for all arguments; only new blocks are written. -/
import Derived.Test.YtecaehkckamhkaaPlaceI
namespace Go.Proofs.Ytecaehkckamhkaa
open Go.ChangeShapes Go.WideShapes Go.ChangeAt Go.RowKit
set_option linter.unusedVariables false

theorem implDiff (a b d : Int) (h0 : -1000 ≤ a) (h1 : a ≤ 1000) (h2 : -1000 ≤ b) (h3 : b ≤ 1000) (hd : absI (a - b) = d) (w : World) :
    Calls Try.prog 80 #[.int .i64 a, .int .i64 b] w fun e w' => e = .returned (.int .i64 d) ∧ w = w' := by
  by_cases hx : a < b
  all_goals
    go_enter Try.func80, Try.ntmps80
    go_wp2
    all_goals go_ret
    all_goals exact ⟨ret_int64 (by rw [← hd]; unfold absI; (repeat' split) <;> omega), rfl⟩

theorem implDistance (W H a b : Int) (w : World) :
    Calls Try.prog 37 #[.agg #[.int .i64 W, .int .i64 H], .int .i64 a, .int .i64 b] w (RetI (distG W H a b) none w) := by
  cases ha : hasG W H a with
  | true =>
    cases hb : hasG W H b with
    | true =>
      have hD := distG_ok ha hb
      obtain ⟨a0, a1, a2, a3, a4⟩ := place_of ha
      obtain ⟨b0, b1, b2, b3, b4⟩ := place_of hb
      clear a4 b4
      obtain ⟨p1, p2, p3, p4⟩ := okG_iff.1 (hasG_ok ha).1
      obtain ⟨xa, hxa⟩ : ∃ x, a % W = x := ⟨_, rfl⟩
      obtain ⟨xb, hxb⟩ : ∃ x, b % W = x := ⟨_, rfl⟩
      obtain ⟨ya, hya⟩ : ∃ x, a / W = x := ⟨_, rfl⟩
      obtain ⟨yb, hyb⟩ : ∃ x, b / W = x := ⟨_, rfl⟩
      rw [hxa, hxb, hya, hyb] at hD
      rw [hxa] at a0 a1
      rw [hxb] at b0 b1
      rw [hya] at a2 a3
      rw [hyb] at b2 b3
      have n1 := absI_nonneg (xa - xb)
      have n2 := absI_lt a0 a1 b0 b1
      have n3 := absI_nonneg (ya - yb)
      have n4 := absI_lt a2 a3 b2 b3
      obtain ⟨p, hp⟩ : ∃ p, absI (xa - xb) = p := ⟨_, rfl⟩
      obtain ⟨q, hq⟩ : ∃ q, absI (ya - yb) = q := ⟨_, rfl⟩
      rw [hp] at n1 n2 hD
      rw [hq] at n3 n4 hD
      have HD := Lib.hid hD
      have PA := Lib.hid (fun w => implPlace W H a xa ya ha hxa hya w)
      have PB := Lib.hid (fun w => implPlace W H b xb yb hb hxb hyb w)
      have DX := Lib.hid (fun w => implDiff xa xb p (by omega) (by omega) (by omega) (by omega) hp w)
      have DY := Lib.hid (fun w => implDiff ya yb q (by omega) (by omega) (by omega) (by omega) hq w)
      have e0 : 0 ≤ p := n1
      have e1 : p ≤ 3 := by omega
      have e2 : 0 ≤ q := n3
      have e3 : q ≤ 3 := by omega
      clear hD a0 a1 a2 a3 b0 b1 b2 b3 p1 p2 p3 p4 n1 n2 n3 n4 hxa hxb hya hyb hp hq
      go_enter Try.func37, Try.ntmps37
      go_wp2_with fail
      refine (implHasNode W H a _).mono ?_
      rintro e w1 ⟨rfl, hg⟩
      have hb1 := boxi_blk hg
      have c0 := hb1.cell 0
      have c1 := hb1.cell 1
      simp at c0 c1
      have Hg := Lib.hid (boxi_gb hg)
      have Hb1 := Lib.hid hb1
      clear hg hb1
      rw [ha]
      go_wp2_with fail
      refine (implHasNode W H b _).mono ?_
      rintro e w2 ⟨rfl, hg2⟩
      have hb2 := Hb1.out.grown hg2 (by simp)
      have d0 := hb2.cell 0
      have d1 := hb2.cell 1
      simp at d0 d1
      have Hg2 := Lib.hid (gb_trans Hg.out hg2)
      have Hb2 := Lib.hid hb2
      clear hg2 hb2 c0 c1
      rw [hb]
      go_wp2_with fail
      refine (PA.out _).mono ?_
      rintro e w3 ⟨rfl, hg3⟩
      have hb3 := Hb2.out.grown hg3 (by simp)
      have e0 := hb3.cell 0
      have e1 := hb3.cell 1
      simp at e0 e1
      have Hg3 := Lib.hid (gb_trans Hg2.out hg3)
      clear hg3 hb3 d0 d1
      go_wp2_with fail
      refine (PB.out _).mono ?_
      rintro e w4 ⟨rfl, hg4⟩
      have Hg4 := Lib.hid (gb_trans Hg3.out hg4)
      clear hg4
      go_wp2_with fail
      refine (DX.out _).mono ?_
      rintro e w5 ⟨rfl, rfl⟩
      go_wp2_with fail
      refine (DY.out _).mono ?_
      rintro e w5 ⟨rfl, rfl⟩
      go_wp2_with fail
      go_ret
      exact ⟨ret_int64 (by rw [HD.out]), Hg4.out⟩
    | false =>
      go_enter Try.func37, Try.ntmps37
      go_wp2_with fail
      refine (implHasNode W H a _).mono ?_
      rintro e w1 ⟨rfl, hg⟩
      have hb1 := boxi_blk hg
      have c0 := hb1.cell 0
      have c1 := hb1.cell 1
      simp at c0 c1
      have Hg := Lib.hid (boxi_gb hg)
      clear hg hb1
      rw [ha]
      go_wp2_with fail
      refine (implHasNode W H b _).mono ?_
      rintro e w2 ⟨rfl, hg2⟩
      rw [hb]
      go_wp2_with fail
      go_ret
      exact ⟨ret_int64 (by simp [distG, ha, hb]), gb_trans Hg.out hg2⟩
  | false =>
    go_enter Try.func37, Try.ntmps37
    go_wp2_with fail
    refine (implHasNode W H a _).mono ?_
    rintro e w1 ⟨rfl, hg⟩
    rw [ha]
    go_wp2_with fail
    go_ret
    exact ⟨ret_int64 (by simp [distG, ha]), boxi_gb hg⟩

theorem implDistanceV (W H a b d : Int) (h : distG W H a b = d) (w : World) :
    Calls Try.prog 37 #[.agg #[.int .i64 W, .int .i64 H], .int .i64 a, .int .i64 b] w (RetI d none w) := h ▸ implDistance W H a b w
end Go.Proofs.Ytecaehkckamhkaa
