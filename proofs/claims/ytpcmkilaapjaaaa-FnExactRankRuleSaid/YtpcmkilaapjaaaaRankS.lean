/- What is proved here: what the model's RankRule returns, for all arguments; only new blocks are written. -/
import Derived.Test.YtpcmkilaapjaaaaOrdM
import Derived.Test.YtpcmkilaapjaaaaGridS
import Derived.Test.YtpcmkilaapjaaaaNextS
namespace Go.Proofs.Ytpcmkilaapjaaaa
open Go.ChangeShapes Go.WideShapes Go.ChangeAt Go.RowKit
set_option linter.unusedVariables false
set_option maxRecDepth 20000

theorem leads_all {W H c : Int} (h : leadsG W H c = true) : okG W H = true ∧ 0 ≤ c ∧ c < 4 * countG W H := by
  unfold leadsG at h
  have h1 := of_decide_eq_true h
  refine ⟨?_, h1.1, h1.2.1⟩
  cases hok : okG W H with
  | true => rfl
  | false =>
    have : countG W H = 0 := by simp [countG, hok]
    omega
theorem specRankRule (W H rule c : Int) (w : World) :
    Calls Try.prog 29 #[.agg #[.int .i64 W, .int .i64 H], .int .i64 rule, .int .i64 c] w (RetI (rankG W H rule c) none w) := by
  have BB := Lib.hid (Blk.new w 33 #[.int .i64 W, .int .i64 H])
  have BG := Lib.hid (gb_alloc (gb_refl w none) (.cells #[.int .i64 W, .int .i64 H] 33))
  obtain ⟨res, hres⟩ : ∃ r, rankG W H rule c = r := ⟨_, rfl⟩
  rw [hres]
  by_cases hr : rule = 1
  · cases hl : leadsG W H c with
    | false =>
      have HL := Lib.hid (fun w => specLeadsV W H c false hl w)
      have HR := Lib.hid (show res = -1 by rw [← hres, rankG, if_neg (by rw [hl]; simp)])
      have hrb : (rule != 1) = false := by simpa using hr
      clear hl hres
      go_enter Try.func29, Try.ntmps29
      go_wp2_with fail
      refine (HL.out _).mono ?_
      rintro e w1 ⟨rfl, hg1⟩
      have G1 := Lib.hid (gb_trans BG.out hg1)
      clear hg1
      go_wp2_with fail
      go_ret
      exact ⟨ret_int64 HR.out.symm, G1.out⟩
    | true =>
      obtain ⟨hok, hc0, hc1⟩ := leads_all hl
      obtain ⟨hW1, hW4, hH1, hH4⟩ := okG_iff.1 hok
      have hc64 := (countG_le W H).2
      have HL := Lib.hid (fun w => specLeadsV W H c true hl w)
      have hres2 : (if c % 4 = 1 then c / 4 % W else if c % 4 = 3 then W - 1 - c / 4 % W else if c % 4 = 2 then 10 + c / 4 / W else 10 + H - 1 - c / 4 / W) = res := by
        rw [← hres]
        unfold rankG
        exact (if_pos (show rule = 1 ∧ leadsG W H c = true from ⟨hr, hl⟩)).symm
      obtain ⟨u, hu⟩ : ∃ u, c / 4 = u := ⟨_, rfl⟩
      obtain ⟨p, hp⟩ : ∃ p, c % 4 = p := ⟨_, rfl⟩
      rw [hu, hp] at hres2
      obtain ⟨x, hx⟩ : ∃ x, u % W = x := ⟨_, rfl⟩
      obtain ⟨y, hy⟩ : ∃ y, u / W = y := ⟨_, rfl⟩
      rw [hx, hy] at hres2
      have hu0 : 0 ≤ u := by omega
      have hu1 : u ≤ 16 := by omega
      have hx0 : 0 ≤ x := by rw [← hx]; exact Int.emod_nonneg _ (by omega)
      have hx1 : x < W := by rw [← hx]; exact Int.emod_lt_of_pos _ (by omega)
      have hy0 : 0 ≤ y := by rw [← hy]; exact Int.ediv_nonneg hu0 (by omega)
      have hy1 : y ≤ u := by rw [← hy]; exact Int.ediv_le_self _ hu0
      have t1 : c.tdiv 4 = u := by rw [Int.tdiv_eq_ediv_of_nonneg hc0]; exact hu
      have t2 : u.tmod W = x := by rw [Int.tmod_eq_emod_of_nonneg hu0]; exact hx
      have t3 : u.tdiv W = y := by rw [Int.tdiv_eq_ediv_of_nonneg hu0]; exact hy
      have t4 : c.tmod 4 = p := by rw [Int.tmod_eq_emod_of_nonneg hc0]; exact hp
      have w1 : wrap64 u = u := IntWalk.wrap64_in _ (by omega)
      have w2 : wrap64 x = x := IntWalk.wrap64_in _ (by omega)
      have w3 : wrap64 y = y := IntWalk.wrap64_in _ (by omega)
      have w4 : wrap64 p = p := IntWalk.wrap64_in _ (by omega)
      have hW0 : (W == 0) = false := by simp; omega
      have hWn : W ≠ 0 := by omega
      have hrb : (rule != 1) = false := by simpa using hr
      have HRES := Lib.hid hres2
      have hp4 : p = 1 ∨ p = 3 ∨ p = 2 ∨ p = 0 := by omega
      have HB := Lib.hid (And.intro (And.intro hx0 hx1) (And.intro hy0 hy1))
      clear hl hok hres hres2 hu hp hx hy hc64 hc1 hr
      go_enter Try.func29, Try.ntmps29
      go_wp2_with fail
      refine (HL.out _).mono ?_
      rintro e w5 ⟨rfl, hg1⟩
      have G1 := Lib.hid (gb_trans BG.out hg1)
      have bb := BB.out.grown hg1 (by simp)
      have a0 : w5.cell? ⟨w.heap.size, 0, none⟩ = some (.int .i64 W) := bb.cell 0
      have a1 : w5.cell? ⟨w.heap.size, 1, none⟩ = some (.int .i64 H) := bb.cell 1
      clear hg1 bb
      rcases hp4 with hp | hp | hp | hp
      all_goals
        subst hp
        go_wp2_with fail
        go_ret
        exact ⟨ret_int64 (by rw [← HRES.out]; simp), G1.out⟩
  · have HR := Lib.hid (show res = -1 by rw [← hres, rankG, if_neg (fun e => hr e.1)])
    have hrb : (rule != 1) = true := by simpa using hr
    clear hres
    go_enter Try.func29, Try.ntmps29
    go_wp2_with fail
    go_ret
    exact ⟨ret_int64 HR.out.symm, BG.out⟩
end Go.Proofs.Ytpcmkilaapjaaaa
