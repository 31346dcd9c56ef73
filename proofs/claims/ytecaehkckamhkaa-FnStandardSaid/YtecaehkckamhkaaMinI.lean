/- What is proved here: what the program's IsMinimal returns, for all arguments; only new blocks are written. -/
import Derived.Test.YtecaehkckamhkaaTabI
import Derived.Test.YtecaehkckamhkaaDistI
import Derived.Deep.RegionHeld3
namespace Go.Proofs.Ytecaehkckamhkaa
open Go.ChangeShapes Go.WideShapes Go.ChangeAt Go.RowKit
set_option linter.unusedVariables false
set_option maxRecDepth 20000

theorem gb_drM {a b : World} {row : Option Nat} (h : a.drew.grownBy b row) : a.grownBy b row := ⟨h.os, h.tape, h.output, h.size, h.block⟩
theorem min_end {W H : Int} {L P : List Int} (h : minTo W H L P (wlkN W H L P)) : decide (0 < wlkN W H L P) = minimalG W H L P := by
  cases ht : tableG W H L P with
  | false => rw [wlkN_no ht, minimalG_bad ht]; rfl
  | true =>
    rw [wlkN_yes ht] at h ⊢
    rw [minimalG_yes ht h]
    exact decide_eq_true (sqG_pos ht)
theorem wlkN_sq (W H : Int) (L P : List Int) : wlkN W H L P ≤ sqG W H := by
  unfold wlkN
  split
  · exact Nat.le_refl _
  · exact Nat.zero_le _
theorem min_len {W H : Int} {L P : List Int} {k : Nat} {R : List Int} (h : pairW W H L P k = R) {u y d : Int} (hu : (k : Int) / countG W H = u) (hy : (k : Int) % countG W H = y) (hd : distG W H u y = d) : minAt W H L P k = decide ((R.length : Int) = d) := by
  have e : lenAt W H L P k = R.length := by rw [← h]; rfl
  rw [minAt, e, hu, hy, hd]

set_option maxHeartbeats 1600000 in
theorem implIsMinimal (W H : Int) (A A2 : Option Addr) (n cap n2 c2 : Nat) (L P : List Int) (hL : WfL L) (w : World) (h : IntAt w w.heap.size A n L) (h2 : IntAt w w.heap.size A2 n2 P) (hn : n ≤ 1000000000) (hn2 : n2 ≤ 1000000000) :
    Calls Try.prog 24 #[.agg #[.int .i64 W, .int .i64 H, .slice A n cap], .agg #[.slice A2 n2 c2]] w (RetB (minimalG W H L P) w) := by
  have HT1 := Lib.hid (h.twoI (W := W) (H := H) (A := A) (A2 := A2) (n := n) (cap := cap) (n2 := n2) (c2 := c2))
  have HT2 := Lib.hid (h2.twoI (W := W) (H := H) (A := A) (A2 := A2) (n := n) (cap := cap) (n2 := n2) (c2 := c2))
  have HWK := Lib.hid (fun w h h2 => implWalksOf W H A A2 n cap n2 c2 L P hL w h h2 hn hn2)
  have HI := Lib.hid h
  have HI2 := Lib.hid h2
  have HEND := Lib.hid (min_end (W := W) (H := H) (L := L) (P := P))
  have hN256 := wlkN_small W H L P
  have hNsq := wlkN_sq W H L P
  have HDI := Lib.hid (fun (a b d : Int) (h : distG W H a b = d) w => implDistanceV W H a b d h w)
  obtain ⟨c, hc⟩ : ∃ c, countG W H = c := ⟨_, rfl⟩
  obtain ⟨hc0, hc1⟩ := countG_le W H
  have hsq := sq_int W H
  rw [hc] at hc0 hc1 hsq
  have HC := Lib.hid hc
  have HN := Lib.hid (fun w => show Calls Try.prog 66 #[.agg #[.int .i64 W, .int .i64 H]] w (RetI c none w) from hc ▸ implNodeCount W H w)
  obtain ⟨N, hN⟩ : ∃ N, wlkN W H L P = N := ⟨_, rfl⟩
  rw [hN] at HWK HEND hN256 hNsq
  obtain ⟨mm, hmm⟩ : ∃ m, minimalG W H L P = m := ⟨_, rfl⟩
  rw [hmm] at HEND
  rw [hmm]
  have HNO := Lib.hid (fun k (hk : k < N) (h : minAt W H L P k = false) => hmm.symm.trans (minimalG_no (W := W) (H := H) (L := L) (P := P) (Nat.lt_of_lt_of_le hk hNsq) h))
  have HSQ := Lib.hid (And.intro hsq hNsq)
  have X0 := Lib.hid (gb_refl (twoI W H A A2 n cap n2 c2 w) none)
  clear h h2 hL hN hmm hc hsq hNsq
  go_enter Try.func24, Try.ntmps24
  go_wp2_with fail
  refine (HN.out _).mono ?_
  rintro e w1 ⟨rfl, hg1⟩
  have X1 := Lib.hid (show (twoI W H A A2 n cap n2 c2 w).grownBy w1 none from hg1)
  have tm := twoI_mesh X1.out
  have a0 : w1.cell? ⟨w.heap.size, 0, none⟩ = some (.int .i64 W) := tm.cell 0
  have a1 : w1.cell? ⟨w.heap.size, 1, none⟩ = some (.int .i64 H) := tm.cell 1
  have a2 : w1.cell? ⟨w.heap.size, 2, none⟩ = some (.slice A n cap) := tm.cell 2
  have a3 : w1.cell? ⟨w.heap.size + 1, 0, none⟩ = some (.slice A2 n2 c2) := (twoI_table X1.out).cell 0
  clear hg1 tm
  go_wp2_with fail
  refine (HWK.out _ (HI.out.oldI (twoI_old X1.out)) (HI2.out.oldI (twoI_old X1.out))).mono ?_
  rintro e w2 ⟨va, rfl, hl1, hb1⟩
  obtain ⟨Aw, cw, rfl, _⟩ := hl1.form
  have X2 := Lib.hid (show WkAt W H A A2 n cap n2 c2 L P w Aw N cw w2 from ⟨hl1.less (twoI_le X1.out), gb_trans X1.out (gb_of_below hb1 none)⟩)
  clear hl1 hb1 a0 a1 a2 a3
  go_wp2_with fail
  go_loopw [17] (fun i wr => ∃ k : Nat, i = .int .i64 (k : Int) ∧ k ≤ N ∧ minTo W H L P k ∧ WkAt W H A A2 n cap n2 c2 L P w Aw N cw wr) (fun i _ => 257 - (intOf i).toNat)
  case atStart => exact ⟨0, rfl, Nat.zero_le _, minTo_zero, X2.out⟩
  case round =>
    obtain ⟨k, rfl, hk, hmt, hx⟩ := hrel
    have X3 := Lib.hid hx
    have HMT := Lib.hid hmt
    clear hx hmt
    by_cases hlt : k < N
    · obtain ⟨R, hR⟩ : ∃ R, pairW W H L P k = R := ⟨_, rfl⟩
      obtain ⟨gw, B, d0, hA, hcell⟩ := X3.out.one hlt hR
      subst hA
      have hcc1 : 1 ≤ c := by
        rcases Int.lt_or_le c 1 with h | h
        · have : c = 0 := by omega
          subst this
          have := HSQ.out.1
          have := HSQ.out.2
          omega
        · exact h
      obtain ⟨u, hu⟩ : ∃ u, (k : Int) / c = u := ⟨_, rfl⟩
      obtain ⟨y, hy⟩ : ∃ y, (k : Int) % c = y := ⟨_, rfl⟩
      obtain ⟨d, hd⟩ : ∃ d, distG W H u y = d := ⟨_, rfl⟩
      have hml := min_len hR (by rw [HC.out]; exact hu) (by rw [HC.out]; exact hy) hd
      have HD := Lib.hid (fun w => HDI.out u y d hd w)
      have hy0 : 0 ≤ y := by rw [← hy]; exact Int.emod_nonneg _ (by omega)
      have hy1 : y < c := by rw [← hy]; exact Int.emod_lt_of_pos _ (by omega)
      have hu0 : 0 ≤ u := by rw [← hu]; exact Int.ediv_nonneg (by omega) (by omega)
      have hu1 : u ≤ (k : Int) := by rw [← hu]; exact Int.ediv_le_self _ (by omega)
      have q1 : (k : Int).tdiv c = u := by rw [Int.tdiv_eq_ediv_of_nonneg (by omega)]; exact hu
      have q2 : (k : Int).tmod c = y := by rw [Int.tmod_eq_emod_of_nonneg (by omega)]; exact hy
      have q3 : IntKind.i64.wrap u = u := IntWalk.i64_in _ (by omega)
      have q4 : IntKind.i64.wrap y = y := IntWalk.i64_in _ (by omega)
      have q5 : (c == 0) = false := by simp; omega
      have q6 : c ≠ 0 := by omega
      have k0 : (0 : Int) ≤ (k : Int) := by omega
      have k1 : (k : Int) < (N : Int) := by omega
      obtain ⟨M, hM⟩ : ∃ M, R.length = M := ⟨_, rfl⟩
      rw [hM] at hcell hml
      have tm := twoI_mesh X3.out.2
      have a0 : wr.cell? ⟨w.heap.size, 0, none⟩ = some (.int .i64 W) := tm.cell 0
      have a1 : wr.cell? ⟨w.heap.size, 1, none⟩ = some (.int .i64 H) := tm.cell 1
      clear hR hu hy hd hM tm hy0 hy1 hu0 hu1
      by_cases hqd : (M : Int) = d
      · have hb : ((M : Int) != d) = false := bne_eq_false_iff_eq.2 hqd
        have HMN := Lib.hid (minTo_succ HMT.out (hml.trans (decide_eq_true hqd)))
        clear hqd hml
        go_wp2_with fail
        go_region_held3 (fun w' => w'.cell? ⟨w.heap.size, 0, none⟩ = some (.int .i64 W) ∧ w'.cell? ⟨w.heap.size, 1, none⟩ = some (.int .i64 H))
          (first | exact ⟨a0, a1⟩ | exact ⟨d1, d2⟩ | fail)
          (first
            | (go_at_call 37; (with_reducible refine (HD.out _).mono ?_); rintro e w5 ⟨rfl, hg5⟩; have X5 := Lib.hid (X3.out.gb (gb_drM hg5)); have d1 : w5.cell? ⟨w.heap.size, 0, none⟩ = some (.int .i64 W) := (twoI_mesh X5.out.2).cell 0; have d2 : w5.cell? ⟨w.heap.size, 1, none⟩ = some (.int .i64 H) := (twoI_mesh X5.out.2).cell 1; clear hg5)
            | fail)
        all_goals
          clear a0 a1 d1 d2 q1 q2 q3 q4 q5 q6
          go_wp2_with fail
          go_roundw
          case rel => exact ⟨k + 1, by go_num, by omega, HMN.out, X5.out⟩
          case measure => simp [intOf]; omega
      · have hb : ((M : Int) != d) = true := bne_iff_ne.2 hqd
        have HMN := Lib.hid (HNO.out k hlt (hml.trans (decide_eq_false hqd)))
        clear hqd hml
        go_wp2_with fail
        go_region_held3 (fun w' => w'.cell? ⟨w.heap.size, 0, none⟩ = some (.int .i64 W) ∧ w'.cell? ⟨w.heap.size, 1, none⟩ = some (.int .i64 H))
          (first | exact ⟨a0, a1⟩ | exact ⟨d1, d2⟩ | fail)
          (first
            | (go_at_call 37; (with_reducible refine (HD.out _).mono ?_); rintro e w5 ⟨rfl, hg5⟩; have X5 := Lib.hid (X3.out.gb (gb_drM hg5)); have d1 : w5.cell? ⟨w.heap.size, 0, none⟩ = some (.int .i64 W) := (twoI_mesh X5.out.2).cell 0; have d2 : w5.cell? ⟨w.heap.size, 1, none⟩ = some (.int .i64 H) := (twoI_mesh X5.out.2).cell 1; clear hg5)
            | fail)
        all_goals
          clear a0 a1 d1 d2 q1 q2 q3 q4 q5 q6
          go_wp2_with fail
          go_ret
          exact ⟨ret_bool HMN.out.symm, twoI_old X5.out.2⟩
    · obtain rfl : k = N := by omega
      have HE := Lib.hid (HEND.out HMT.out)
      go_wp2_with fail
      go_ret
      exact ⟨ret_bool (by rw [← HE.out] <;> simp), twoI_old X3.out.2⟩
end Go.Proofs.Ytecaehkckamhkaa
