/- What is proved here: what the model's ReverseRoute returns, for all arguments; only new blocks are written. -/
import Derived.Test.YtakigpgkcneboaaRouteS
import Derived.Test.YtakigpgkcneboaaOppS
namespace Go.Proofs.Ytakigpgkcneboaa
open Go.ChangeShapes Go.WideShapes Go.ChangeAt Go.RowKit
set_option linter.unusedVariables false

theorem specOppositeV (p r : Int) (h : oppG p = r) (w : World) :
    Calls Try.prog 60 #[.int .i64 p] w fun e w' => e = .returned (.int .i64 r) ∧ w = w' := h ▸ specOpposite p w

set_option maxRecDepth 20000 in
set_option maxHeartbeats 1600000 in
theorem specReverseRoute (W H : Int) (A A2 : Option Addr) (n cap n2 c2 : Nat) (L R : List Int) (b : Bool) (hb : backOk W H L R = b) (w : World) (h : IntAt w w.heap.size A n L) (h2 : IntAt w w.heap.size A2 n2 R) (hn : n ≤ 1000000000) (hn2 : n2 ≤ 1000000000) :
    Calls Try.prog 35 #[.agg #[.int .i64 W, .int .i64 H, .slice A n cap], .slice A2 n2 c2] w (NewR (backG W H L R) b w) := by
  obtain ⟨i0, hi, hz0, hz1, hz2⟩ := info_parts info_int
  have hp := h2.1
  have s0 := OneAt.made0 (W := W) (H := H) (A := A) (n := n) (cap := cap) (gb_refl (w.alloc (.cells (meshC W H A n cap) 28)) none)
  rw [one_size] at s0
  have S0 := Lib.hid s0
  have HI := Lib.hid h
  have HP := Lib.hid h2
  have H0 := Lib.hid (S0.out.row h)
  have H2 := Lib.hid (S0.out.row h2)
  cases hr : routeG W H L R with
  | false =>
    have HC := Lib.hid (specIsRoute W H A A2 n cap n2 c2 L R false hr _ H0.out H2.out hn hn2)
    have hbf : b = false := hb.symm.trans (backOk_route hr)
    have HV := Lib.hid (backG_no (backOk_route hr))
    clear hb h h2 hr s0 hp
    subst hbf
    go_enter Try.func35, Try.ntmps35
    go_wp2_with fail
    refine HC.out.mono ?_
    rintro e w1 ⟨rfl, hg1⟩
    have O1 := Lib.hid (S0.out.gb hg1)
    clear hg1
    go_wp2_with fail
    go_ret2
    have h1 := O1.out.new HV.out.symm
    exact ⟨_, rfl, h1.1, h1.2⟩
  | true =>
    have HC := Lib.hid (specIsRoute W H A A2 n cap n2 c2 L R true hr _ H0.out H2.out hn hn2)
    have HRO := Lib.hid (route_all hr)
    have HBad := Lib.hid (fun (i : Nat) (c : Int) (hi : i < n2) (hc : R.getD i 0 = c) (h : hasChG W H L (backC W H c) = false) => show b = false ∧ backG W H L R = [] by
      have hk : backOk W H L R = false := backOk_no (i := i) (by omega) hc h
      exact ⟨hb.symm.trans hk, backG_no hk⟩)
    have HGood := Lib.hid (fun (h : backsTo W H L R n2) => show b = true ∧ backTo W H R n2 = backG W H L R by
      have hk := backOk_yes hr (by rw [hp]; exact h)
      exact ⟨hb.symm.trans hk, by rw [backG_yes hk, hp]⟩)
    clear hb h h2 hr s0
    have e1 : wrap64 ((n2 : Int) - 1) = (n2 : Int) - 1 := IntWalk.wrap64_in _ (by omega)
    go_enter Try.func35, Try.ntmps35
    go_wp2_with fail
    refine HC.out.mono ?_
    rintro e w1 ⟨rfl, hg1⟩
    have O1 := Lib.hid (S0.out.gb hg1)
    clear hg1
    go_wp2_with fail
    go_loopw [6, 7] (fun v i wr => ∃ k : Nat, i = .int .i64 ((n2 : Int) - 1 - (k : Int)) ∧ k ≤ n2 ∧ backsTo W H L R k ∧ OneAt W H A n cap w (backTo W H R k) v wr) (fun _ i _ => (intOf i + 1).toNat)
    case atStart => exact ⟨0, by simp, Nat.zero_le _, backs_zero, O1.out⟩
    case round =>
      obtain ⟨k, rfl, hk, hbk, hone⟩ := hrel
      have HBK := Lib.hid hbk
      have HO := Lib.hid hone
      obtain ⟨a0, a1, a2⟩ := hone.cells
      obtain ⟨A', c', rfl, _⟩ := own_form hone.1
      clear hbk hone
      by_cases hlt : k < n2
      · obtain ⟨j, hj⟩ : ∃ j : Nat, (n2 : Int) - 1 - (k : Int) = (j : Int) := ⟨n2 - 1 - k, by omega⟩
        have hjn : j = n2 - 1 - k := by omega
        obtain ⟨bq, off, rfl, hbq, hc⟩ := (HP.out.below HO.out.old).at j (by omega)
        obtain ⟨c, hcc⟩ : ∃ x, R.getD j 0 = x := ⟨_, rfl⟩
        rw [hcc] at hc
        rw [hj]
        have hcl : hasChG W H L c = true := hcc ▸ link_has (HRO.out.2.2 j (by omega))
        have hc0 := has_leads hcl
        have hkn := countG_le W H
        obtain ⟨u, hu⟩ : ∃ u, c / 4 = u := ⟨_, rfl⟩
        obtain ⟨p, hpp⟩ : ∃ p, c % 4 = p := ⟨_, rfl⟩
        obtain ⟨y, hy⟩ : ∃ y, endC W H c = y := ⟨_, rfl⟩
        obtain ⟨o, ho⟩ : ∃ o, oppG p = o := ⟨_, rfl⟩
        obtain ⟨z, hz⟩ : ∃ z, backC W H c = z := ⟨_, rfl⟩
        have hzz : 4 * y + o = z := by rw [← hz, backC, hy, hpp, ho]
        have hye := endC_le W H c
        have hoe := oppG_le p
        rw [hy] at hye
        rw [ho] at hoe
        have q1 : c.tdiv 4 = u := by rw [Int.tdiv_eq_ediv_of_nonneg hc0.1, hu]
        have q2 : c.tmod 4 = p := by rw [Int.tmod_eq_emod_of_nonneg hc0.1, hpp]
        have q3 : IntKind.i64.wrap u = u := IntWalk.i64_in _ (by omega)
        have q4 : IntKind.i64.wrap (4 * y) = 4 * y := IntWalk.i64_in _ (by omega)
        have q5 : IntKind.i64.wrap (4 * y + o) = z := by rw [hzz]; exact IntWalk.i64_in _ (by omega)
        have HNx := Lib.hid (fun w => specNextNodeV W H u p y (by rw [← hu, ← hpp]; exact hy) w)
        have HOp := Lib.hid (fun w => specOppositeV p o ho w)
        have HCX := Lib.hid (show R.getD (R.length - 1 - k) 0 = c by rw [hp, ← hjn]; exact hcc)
        have HBS := Lib.hid (show backTo W H R (k + 1) = backTo W H R k ++ [z] by rw [back_succ (c := c) (by omega) (by rw [hp, ← hjn]; exact hcc), hz])
        have HBL := Lib.hid (back_len (W := W) (H := H) (r := R) (k := k) (by omega))
        have HZ := Lib.hid hz
        have HJ := Lib.hid hj
        have j0 : (j : Int) ≥ 0 := by omega
        have j1 : (j : Int) < (n2 : Int) := by omega
        have j2 : (0 : Int) ≤ (j : Int) := by omega
        have e2 : wrap64 ((j : Int) - 1) = (j : Int) - 1 := IntWalk.wrap64_in _ (by omega)
        cases hh : hasChG W H L z with
        | false =>
          have HCn := Lib.hid (fun w h => specHasChV W H A n cap L z false hh w h hn)
          have HB := Lib.hid (HBad.out j c (by omega) hcc (by rw [hz]; exact hh))
          clear hcc hcl hc0 hu hpp hy ho hz hzz hjn hj hh hkn hye hoe
          go_wp2_with fail
          go_region_held3 (fun w' => w'.cell? ⟨w.heap.size, 0, none⟩ = some (.int .i64 W) ∧ w'.cell? ⟨w.heap.size, 1, none⟩ = some (.int .i64 H) ∧ w'.cell? ⟨bq, off + j, none⟩ = some (.int .i64 c))
            (first | exact ⟨a0, a1, hc⟩ | exact ⟨d0, d1, dc⟩ | fail)
            (first
              | (go_at_call 56; (with_reducible refine (HNx.out _).mono ?_); rintro e w3 ⟨rfl, hg3⟩; have O3 := Lib.hid (HO.out.gb (gb_undraw hg3)); obtain ⟨d0, d1, d2⟩ := O3.out.cells; have dc := (gb_undraw hg3).cell hc (by simp); clear hg3)
              | (go_at_call 60; (with_reducible refine (HOp.out _).mono ?_); rintro e w4 ⟨rfl, rfl⟩)
              | fail)
          all_goals
            have hi3 := O3.out.row HI.out
            go_wp2_with fail
            refine (HCn.out _ hi3).mono ?_
            rintro e w5 ⟨rfl, hg5⟩
            have HEm := Lib.hid (own_empty HB.out.2 (O3.out.gb hg5).old)
            have HB1 := Lib.hid HB.out.1
            clear hg5 d0 d1 d2 dc hi3 a0 a1 a2 hc
            go_wp2_with fail
            go_ret2
            exact ⟨_, ret_pair HB1.out.symm, HEm.out.1, HEm.out.2⟩
        | true =>
          have HCn := Lib.hid (fun w h => specHasChV W H A n cap L z true hh w h hn)
          have HB := Lib.hid (backs_succ HBK.out HCX.out (by rw [hz]; exact hh))
          clear hcc hcl hc0 hu hpp hy ho hz hzz hjn hj hh hkn hye hoe
          go_wp2_with fail
          go_region_held3 (fun w' => w'.cell? ⟨w.heap.size, 0, none⟩ = some (.int .i64 W) ∧ w'.cell? ⟨w.heap.size, 1, none⟩ = some (.int .i64 H) ∧ w'.cell? ⟨bq, off + j, none⟩ = some (.int .i64 c))
            (first | exact ⟨a0, a1, hc⟩ | exact ⟨d0, d1, dc⟩ | fail)
            (first
              | (go_at_call 56; (with_reducible refine (HNx.out _).mono ?_); rintro e w3 ⟨rfl, hg3⟩; have O3 := Lib.hid (HO.out.gb (gb_undraw hg3)); obtain ⟨d0, d1, d2⟩ := O3.out.cells; have dc := (gb_undraw hg3).cell hc (by simp); clear hg3)
              | (go_at_call 60; (with_reducible refine (HOp.out _).mono ?_); rintro e w4 ⟨rfl, rfl⟩)
              | fail)
          all_goals
            have hi3 := O3.out.row HI.out
            go_wp2_with fail
            refine (HCn.out _ hi3).mono ?_
            rintro e w5 ⟨rfl, hg5⟩
            have O5 := Lib.hid (O3.out.gb hg5)
            have hown5 := O5.out.1
            have hsz5 := O5.out.le
            have b5' := Lib.hid (show ∀ u ∈ [Value.int .i64 z], u.oneCell' = true by simp [Value.oneCell'])
            have b6' := Lib.hid (show (backTo W H R k).length + 1 ≤ maxLen by rw [HBL.out]; unfold maxLen; omega)
            have b7' := Lib.hid (show ((backTo W H R k).length + 1) * 8 ≤ 140737488355328 by rw [HBL.out]; omega)
            clear hg5 d0 d1 d2 dc hi3 a0 a1 a2 hc
            go_wp2_with (at_builtin; refine wpList_append_own _ rfl _ _ 26 rfl (w.heap.size + 1) 3 i0 (.int .i64 0) 1 8 Try.underlying26 hi hz0 hz1 hz2 rfl (by decide) _ (backTo W H R k).length _ rfl (hown5.alloc _) ⟨w5.heap.size, 0, none⟩ 1 1 [.int .i64 z] rfl rfl (World.news_of_block (cs := #[.int .i64 z]) (t := 3) (fr := (0, 0)) (heap_alloc_new w5 _)) b5'.out b6'.out b7'.out (by simp; omega) ?_; intro v6 w6 hown6 hgrow6 _; have O6 := Lib.hid (O5.out.app hown6 hgrow6).1; clear hown6 hgrow6 hown5)
            go_roundw
            case rel => exact ⟨k + 1, by have := HJ.out; congr 1; omega, by omega, HB.out, by rw [HBS.out]; exact O6.out⟩
            case measure => have := HJ.out; simp [intOf] <;> omega
      · obtain rfl : k = n2 := by omega
        have j0 : ¬ ((k : Int) - 1 - (k : Int)) ≥ 0 := by omega
        obtain ⟨rfl, hbg⟩ := HGood.out HBK.out
        have HF := Lib.hid (HO.out.new hbg)
        clear a0 a1 a2 hbg
        go_wp2_with fail
        go_ret2
        exact ⟨_, rfl, HF.out.1, HF.out.2⟩
end Go.Proofs.Ytakigpgkcneboaa
