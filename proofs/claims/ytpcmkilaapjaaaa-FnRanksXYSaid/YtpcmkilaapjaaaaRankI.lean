/- What is proved here: what the program's RankRule returns, for all arguments (the channel: of 64 bits); only new blocks are written. -/
import Derived.Test.YtpcmkilaapjaaaaOrdM
import Derived.Test.YtpcmkilaapjaaaaNextI
namespace Go.Proofs.Ytpcmkilaapjaaaa
open Go.ChangeShapes Go.WideShapes Go.ChangeAt Go.RowKit
set_option linter.unusedVariables false
set_option maxRecDepth 20000

theorem leads_has {W H c : Int} (h : leadsG W H c = true) : 0 ≤ c ∧ hasG W H (c / 4) = true := by
  unfold leadsG at h
  obtain ⟨h0, h1, h2⟩ := of_decide_eq_true h
  refine ⟨h0, ?_⟩
  cases hh : hasG W H (c / 4) with
  | true => rfl
  | false =>
    exfalso
    simp [nextG, hh] at h2
theorem implRankRule (W H rule c : Int) (hcw : (Lit.int .i64 c).wf = true) (w : World) :
    Calls Try.prog 18 #[.agg #[.int .i64 W, .int .i64 H], .int .i64 rule, .int .i64 c] w (RetI (rankG W H rule c) none w) := by
  have BB := Lib.hid (Blk.new w 33 #[.int .i64 W, .int .i64 H])
  have BG := Lib.hid (gb_alloc (gb_refl w none) (.cells #[.int .i64 W, .int .i64 H] 33))
  obtain ⟨res, hres⟩ : ∃ r, rankG W H rule c = r := ⟨_, rfl⟩
  rw [hres]
  by_cases hr : rule = 1
  · obtain ⟨t, ht⟩ : ∃ t, endG W H c = t := ⟨_, rfl⟩
    have HE := Lib.hid (fun w => implEnd W H c t hcw ht w)
    have hld := leads_end W H c
    rw [ht] at hld
    cases hl : leadsG W H c with
    | false =>
      have ht0 : t < 0 := by
        have := of_decide_eq_false (hld.symm.trans hl)
        omega
      have HR := Lib.hid (show res = -1 by rw [← hres, rankG, if_neg (by rw [hl]; simp)])
      have hrb : (rule != 1) = false := by simpa using hr
      clear hl hres ht hld hcw hr
      go_enter Try.func18, Try.ntmps18
      go_wp2_with fail
      refine (HE.out _).mono ?_
      rintro e w1 ⟨rfl, hg1⟩
      have G1 := Lib.hid (gb_trans BG.out hg1)
      clear hg1
      go_wp2_with fail
      go_ret
      exact ⟨ret_int64 HR.out.symm, G1.out⟩
    | true =>
      have ht0 : ¬ t < 0 := by
        have := of_decide_eq_true (hld.symm.trans hl)
        omega
      obtain ⟨hc0, hhas⟩ := leads_has hl
      obtain ⟨hW, hH⟩ := okG_cases (hasG_ok hhas).1
      have hle := hasG_le hhas
      have hres2 : (if c % 4 = 1 then c / 4 % W else if c % 4 = 3 then W - 1 - c / 4 % W else if c % 4 = 2 then 10 + c / 4 / W else 10 + H - 1 - c / 4 / W) = res := by
        rw [← hres]
        unfold rankG
        exact (if_pos (show rule = 1 ∧ leadsG W H c = true from ⟨hr, hl⟩)).symm
      obtain ⟨u, hu⟩ : ∃ u, c / 4 = u := ⟨_, rfl⟩
      obtain ⟨p, hp⟩ : ∃ p, c % 4 = p := ⟨_, rfl⟩
      rw [hu, hp] at hres2
      rw [hu] at hhas hle
      obtain ⟨x, hx⟩ : ∃ x, u % W = x := ⟨_, rfl⟩
      obtain ⟨y, hy⟩ : ∃ y, u / W = y := ⟨_, rfl⟩
      obtain ⟨a0, a1, a2, a3, a4⟩ := place_of hhas
      have HP := Lib.hid (fun w => implPlace W H u x y hhas hx hy w)
      rw [hx, hy] at hres2
      rw [hx] at a0 a1
      rw [hy] at a2 a3
      have t1 : c.tdiv 4 = u := by rw [Int.tdiv_eq_ediv_of_nonneg hc0]; exact hu
      have t4 : c.tmod 4 = p := by rw [Int.tmod_eq_emod_of_nonneg hc0]; exact hp
      have w1 : wrap64 u = u := IntWalk.wrap64_in _ (by omega)
      have w4 : wrap64 p = p := IntWalk.wrap64_in _ (by omega)
      have hrb : (rule != 1) = false := by simpa using hr
      have HRES := Lib.hid hres2
      have hp4 : p = 1 ∨ p = 3 ∨ p = 2 ∨ p = 0 := by omega
      have hW1 : 1 ≤ W ∧ W ≤ 4 := by omega
      have hH1 : 1 ≤ H ∧ H ≤ 4 := by omega
      have e1 : wrap64 (W - 1) = W - 1 := IntWalk.wrap64_in _ (by omega)
      have e2 : wrap64 (W - 1 - x) = W - 1 - x := IntWalk.wrap64_in _ (by omega)
      have e3 : wrap64 (10 + y) = 10 + y := IntWalk.wrap64_in _ (by omega)
      have e4 : wrap64 (10 + H) = 10 + H := IntWalk.wrap64_in _ (by omega)
      have e5 : wrap64 (10 + H - 1) = 10 + H - 1 := IntWalk.wrap64_in _ (by omega)
      have e6 : wrap64 (10 + H - 1 - y) = 10 + H - 1 - y := IntWalk.wrap64_in _ (by omega)
      have E2 := Lib.hid e2
      have E3 := Lib.hid e3
      have E6 := Lib.hid e6
      clear hl hres hres2 hu hp hx hy hr hhas hle hW hH hld ht hcw a0 a1 a2 a3 a4
      go_enter Try.func18, Try.ntmps18
      go_wp2_with fail
      refine (HE.out _).mono ?_
      rintro e w5 ⟨rfl, hg1⟩
      have G1 := Lib.hid (gb_trans BG.out hg1)
      have bb := BB.out.grown hg1 (by simp)
      have a0 : w5.cell? ⟨w.heap.size, 0, none⟩ = some (.int .i64 W) := bb.cell 0
      have a1 : w5.cell? ⟨w.heap.size, 1, none⟩ = some (.int .i64 H) := bb.cell 1
      clear hg1 bb
      go_wp2_with fail
      simp only [w1]
      refine (HP.out _).mono ?_
      rintro e w6 ⟨rfl, hg2⟩
      have c0 := hg2.cell a0 (by simp)
      have c1 := hg2.cell a1 (by simp)
      have G2 := Lib.hid (gb_trans G1.out hg2)
      clear hg2 a0 a1
      rcases hp4 with hp | hp | hp | hp
      all_goals
        subst hp
        go_wp2_with fail
        go_ret
        exact ⟨ret_int64 (by rw [← HRES.out]; simp <;> first | exact E2.out | exact E3.out | exact E6.out), G2.out⟩
  · have HR := Lib.hid (show res = -1 by rw [← hres, rankG, if_neg (fun e => hr e.1)])
    have hrb : (rule != 1) = true := by simpa using hr
    clear hres
    go_enter Try.func18, Try.ntmps18
    go_wp2_with fail
    go_ret
    exact ⟨ret_int64 HR.out.symm, BG.out⟩
end Go.Proofs.Ytpcmkilaapjaaaa
