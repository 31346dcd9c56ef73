/- What is proved here: what the model's LongestWalk returns, for all arguments; only new blocks are written. -/
import Derived.Test.YtecaehkckamhkaaTokV
namespace Go.Proofs.Ytecaehkckamhkaa
open Go.ChangeShapes Go.WideShapes Go.ChangeAt Go.RowKit
set_option linter.unusedVariables false

theorem specLongest (W H : Int) (A A2 : Option Addr) (n cap n2 c2 : Nat) (L P : List Int) (w : World) (h : IntAt w w.heap.size A n L) (h2 : IntAt w w.heap.size A2 n2 P) (hn : n ≤ 1000000000) (hn2 : n2 ≤ 1000000000) :
    Calls Try.prog 21 #[.agg #[.int .i64 W, .int .i64 H, .slice A n cap], .agg #[.slice A2 n2 c2]] w (RetI (longG W H L P) none w) := by
  have HI := Lib.hid h
  have HP := Lib.hid h2
  have HT := Lib.hid (show IntAt (twoB W H A A2 n cap n2 c2 w) (twoB W H A A2 n cap n2 c2 w).heap.size A n L from h.two)
  have HT2 := Lib.hid (show IntAt (twoB W H A A2 n cap n2 c2 w) (twoB W H A A2 n cap n2 c2 w).heap.size A2 n2 P from h2.two)
  clear h h2
  cases ht : tableG W H L P with
  | false =>
    have HS := Lib.hid (fun w h h2 => specTableOkV W H A A2 n cap n2 c2 L P false ht w h h2 hn hn2)
    have HF := Lib.hid (show longG W H L P = -1 by simp [longG, ht])
    clear ht
    go_enter Try.func21, Try.ntmps21
    go_wp2_with fail
    refine (HS.out _ HT.out HT2.out).mono ?_
    rintro e w1 ⟨rfl, hg⟩
    have G1 := Lib.hid (box2 hg).2.2
    clear hg
    go_wp2_with fail
    go_ret
    exact ⟨ret_int64 HF.out.symm, G1.out⟩
  | true =>
    have HS := Lib.hid (fun w h h2 => specTableOkV W H A A2 n cap n2 c2 L P true ht w h h2 hn hn2)
    have HF := Lib.hid (show longG W H L P = (mostTo W H L P (sqG W H) : Int) by simp [longG, ht])
    obtain ⟨k, hk⟩ : ∃ k, countG W H = k := ⟨_, rfl⟩
    obtain ⟨hk0, hk1⟩ := countG_le W H
    have hsq := sq_int W H
    rw [hk] at hk0 hk1 hsq
    obtain ⟨m0, m1⟩ := sq_bounds hk0 hk1
    have HSQ := Lib.hid hsq
    have hw : wrap64 (k * k) = k * k := IntWalk.wrap64_in _ (by omega)
    have HN := Lib.hid (fun w => specNodeCountV W H k hk w)
    have HK := Lib.hid hk
    have HSZ := Lib.hid (tableG_sized ht)
    clear hk ht hsq
    go_enter Try.func21, Try.ntmps21
    go_wp2_with fail
    refine (HS.out _ HT.out HT2.out).mono ?_
    rintro e w1 ⟨rfl, hg⟩
    have B1 := Lib.hid (below_two hg)
    clear hg
    have a0 : w1.cell? ⟨w.heap.size, 0, none⟩ = some (.int .i64 W) := (twoB_mesh B1.out).cell 0
    have a1 : w1.cell? ⟨w.heap.size, 1, none⟩ = some (.int .i64 H) := (twoB_mesh B1.out).cell 1
    go_wp2_with fail
    refine (HN.out _).mono ?_
    rintro e w2 ⟨rfl, hg⟩
    have B2 := Lib.hid (below_then B1.out hg)
    clear hg a0 a1
    go_wp2_with fail
    go_loopw [5, 7] (fun v i wr => ∃ x : Nat, i = .int .i64 (x : Int) ∧ (x : Int) ≤ k * k ∧ v = .int .i64 (mostTo W H L P x : Int) ∧ Below (w.heap.size + 2) (twoB W H A A2 n cap n2 c2 w) wr) (fun _ i _ => 257 - (intOf i).toNat)
    case atStart => exact ⟨0, rfl, by omega, rfl, B2.out⟩
    case round =>
      obtain ⟨x, rfl, hx, rfl, hbel⟩ := hrel
      have BX := Lib.hid hbel
      clear hbel
      by_cases hlt : (x : Int) < k * k
      · obtain ⟨hax, hay⟩ := pair_at (W := W) (H := H) (i := x) (by have := HSQ.out; omega)
        have hk1' : 1 ≤ k := by
          rcases Int.lt_or_le k 1 with h | h
          · have : k = 0 := by omega
            subst this; omega
          · exact h
        obtain ⟨u, hu⟩ : ∃ u, (x : Int) / countG W H = u := ⟨_, rfl⟩
        obtain ⟨y, hy⟩ : ∃ y, (x : Int) % countG W H = y := ⟨_, rfl⟩
        rw [hu] at hax
        rw [hy] at hay
        have hu15 := hasG_le hax
        have hy15 := hasG_le hay
        have hmost : mostTo W H L P (x + 1) = max (mostTo W H L P x) (walkOf W H L P u y).length := by rw [mostTo, lenAt, hu, hy]
        have HM := Lib.hid hmost
        rw [HK.out] at hu hy
        have q1 : (x : Int).tdiv k = u := by rw [Int.tdiv_eq_ediv_of_nonneg (by omega)]; exact hu
        have q2 : (x : Int).tmod k = y := by rw [Int.tmod_eq_emod_of_nonneg (by omega)]; exact hy
        have q3 : IntKind.i64.wrap u = u := IntWalk.i64_in _ (by omega)
        have q4 : IntKind.i64.wrap y = y := IntWalk.i64_in _ (by omega)
        have q5 : (k == 0) = false := by simp; omega
        have q6 : k ≠ 0 := by omega
        have HWK := Lib.hid (fun w h h2 => specWalk W H A A2 n cap n2 c2 L P u y w h h2 hn hn2 HSZ.out hax hay)
        have hm16 := mostTo_16 (W := W) (H := H) (L := L) (P := P) x
        have a0 : wr.cell? ⟨w.heap.size, 0, none⟩ = some (.int .i64 W) := (twoB_mesh BX.out).cell 0
        have a1 : wr.cell? ⟨w.heap.size, 1, none⟩ = some (.int .i64 H) := (twoB_mesh BX.out).cell 1
        have a2 : wr.cell? ⟨w.heap.size, 2, none⟩ = some (.slice A n cap) := (twoB_mesh BX.out).cell 2
        have b0 : wr.cell? ⟨w.heap.size + 1, 0, none⟩ = some (.slice A2 n2 c2) := (twoB_table BX.out).cell 0
        have HI2 : Hid (IntAt wr.drew wr.drew.heap.size A n L) := (HI.out.old BX.out : IntAt wr wr.heap.size A n L)
        have HP2 : Hid (IntAt wr.drew wr.drew.heap.size A2 n2 P) := (HP.out.old BX.out : IntAt wr wr.heap.size A2 n2 P)
        obtain ⟨mo, hmo⟩ : ∃ m, mostTo W H L P x = m := ⟨_, rfl⟩
        rw [hmo] at hm16 HM ⊢
        clear hax hay hu hy hmost hmo
        go_wp2_with fail
        go_region_held3 (fun w' => w'.cell? ⟨w.heap.size, 0, none⟩ = some (.int .i64 W) ∧ w'.cell? ⟨w.heap.size, 1, none⟩ = some (.int .i64 H) ∧ w'.cell? ⟨w.heap.size, 2, none⟩ = some (.slice A n cap) ∧ w'.cell? ⟨w.heap.size + 1, 0, none⟩ = some (.slice A2 n2 c2))
          (first | exact ⟨a0, a1, a2, b0⟩ | exact ⟨d0, d1, d2, d3⟩)
          (first
            | (go_at_call 61; (with_reducible refine (HWK.out _ HI2.out HP2.out).mono ?_); rintro e w4 ⟨v, rfl, o4, b4⟩; obtain ⟨A4, c4, rfl, _⟩ := own_form o4; have B4 := Lib.hid (below_then BX.out (gb_of_below (below_undrew3 b4) none)); have d0 : w4.cell? ⟨w.heap.size, 0, none⟩ = some (.int .i64 W) := (twoB_mesh B4.out).cell 0; have d1 : w4.cell? ⟨w.heap.size, 1, none⟩ = some (.int .i64 H) := (twoB_mesh B4.out).cell 1; have d2 : w4.cell? ⟨w.heap.size, 2, none⟩ = some (.slice A n cap) := (twoB_mesh B4.out).cell 2; have d3 : w4.cell? ⟨w.heap.size + 1, 0, none⟩ = some (.slice A2 n2 c2) := (twoB_table B4.out).cell 0; clear o4 b4)
            | fail)
        all_goals
          go_wp2_with fail
          go_roundw
          case rel => exact ⟨x + 1, by go_num, by omega, by rw [HM.out]; go_num, B4.out⟩
          case measure => simp [intOf]; omega
      · have hxk : x = sqG W H := by have := HSQ.out; omega
        have HE := Lib.hid hxk
        clear hxk
        go_wp2_with fail
        go_ret
        exact ⟨ret_int64 (by rw [HF.out, HE.out]), gb_of_below (twoB_old BX.out) none⟩
end Go.Proofs.Ytecaehkckamhkaa
