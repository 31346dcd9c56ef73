/- What is proved here: what the program's IsMinimal returns, for all arguments; only new blocks are written. -/
import Derived.Test.YtbnpihkianggiaaLensI
import Derived.Test.YtbnpihkianggiaaDistI
namespace Go.Proofs.Ytbnpihkianggiaa
open Go.ChangeShapes Go.WideShapes Go.ChangeAt Go.RowKit
set_option linter.unusedVariables false

theorem gb_undrewI {w w' : World} {row : Option Nat} (h : w.drew.grownBy w' row) : w.grownBy w' row := ⟨h.os, h.tape, h.output, h.size, h.block⟩
/-- The square of lengths, in a block of the call's own. -/
def MinX (W H : Int) (A A2 : Option Addr) (n cap n2 c2 : Nat) (X : List Int) (w : World) (g : Nat) (wr : World) : Prop :=
  Blk wr g 65 (cellsX X) ∧ (twoI W H A A2 n cap n2 c2 w).grownBy wr none
theorem MinX.more {W H : Int} {A A2 : Option Addr} {n cap n2 c2 : Nat} {X : List Int} {w wr wr' : World} {g : Nat} (h : MinX W H A A2 n cap n2 c2 X w g wr) (hg : wr.grownBy wr' none) : MinX W H A A2 n cap n2 c2 X w g wr' :=
  ⟨h.1.grown hg (by simp), gb_trans h.2 hg⟩
theorem lens_at {W H : Int} {L P : List Int} {k x y : Nat} (hk : cntN W H = k) (hx : x < k) (hy : y < k) : (lensX W H L P (sqG W H)).getD (16 * x + y) 0 = ((walkOf W H L P x y).length : Int) ∧ (lensX W H L P (sqG W H)).length = 256 ∧ minAt W H L P (x * k + y) = decide (((walkOf W H L P x y).length : Int) = distG W H x y) ∧ x * k + y < sqG W H := by
  subst hk
  have hki := cntN_int W H
  have hlt : x * cntN W H + y < sqG W H := sq_lt hx hy
  have e1 : ((x * cntN W H + y : Nat) : Int) / countG W H = x := by rw [← hki, ← Int.natCast_ediv, pair_div hy]
  have e2 : ((x * cntN W H + y : Nat) : Int) % countG W H = y := by rw [← hki, ← Int.natCast_emod, pair_mod hy]
  refine ⟨?_, sqTo_length _ _ _, ?_, hlt⟩
  · rw [lensX, sqTo_at _ (cntN_le W H) hx hy hlt, lenAt_pair (by omega)]
  · rw [minAt, lenAt_pair (by omega), e1, e2]

set_option maxHeartbeats 1600000 in
theorem implIsMinimal (W H : Int) (A A2 : Option Addr) (n cap n2 c2 : Nat) (L P : List Int) (hL : WfL L) (w : World) (h : IntAt w w.heap.size A n L) (h2 : IntAt w w.heap.size A2 n2 P) (hn : n ≤ 1000000000) (hn2 : n2 ≤ 1000000000) :
    Calls Try.prog 13 #[.agg #[.int .i64 W, .int .i64 H, .slice A n cap], .agg #[.slice A2 n2 c2]] w (RetB (minimalG W H L P) w) := by
  have HT1 := Lib.hid (h.twoI (W := W) (H := H) (A := A) (A2 := A2) (n := n) (cap := cap) (n2 := n2) (c2 := c2))
  have HT2 := Lib.hid (h2.twoI (W := W) (H := H) (A := A) (A2 := A2) (n := n) (cap := cap) (n2 := n2) (c2 := c2))
  clear h2 h
  cases ht : tableG W H L P with
  | false =>
    have HLN := Lib.hid (fun w h h2 => show Calls Try.prog 35 #[.agg #[.int .i64 W, .int .i64 H, .slice A n cap], .agg #[.slice A2 n2 c2]] w (RetX zerosX false w) by
      have := implLengths W H A A2 n cap n2 c2 L P hL w h h2 hn hn2
      rw [lensRes_no ht, ht] at this
      exact this)
    have HR := Lib.hid (minimalG_bad ht)
    clear ht hL
    go_enter Try.func13, Try.ntmps13
    go_wp2_with fail
    refine (HLN.out _ HT1.out HT2.out).mono ?_
    rintro e w1 ⟨rfl, hg⟩
    have HG1 := Lib.hid (show (twoI W H A A2 n cap n2 c2 w).grownBy w1 none from hg)
    clear hg
    go_wp2_with (refine wpList_storeX rfl (.tmp 5) _ rfl w1.heap.size zerosX zerosX rfl rfl (new_square w1) zerosX_length zerosX_length ?_; intro w2 hb2 hg2; have HG2 := Lib.hid (gb_square HG1.out hg2); clear hb2 hg2)
    go_ret
    exact ⟨ret_bool HR.out.symm, twoI_old HG2.out⟩
  | true =>
    obtain ⟨k, hk⟩ : ∃ k, cntN W H = k := ⟨_, rfl⟩
    have hki := cntN_int W H
    have hk1 := cntN_le W H
    rw [hk] at hki hk1
    have HNC := Lib.hid (fun w => show Calls Try.prog 34 #[.agg #[.int .i64 W, .int .i64 H]] w (RetI (k : Int) none w) from hki ▸ implNodeCount W H w)
    obtain ⟨X, hX⟩ : ∃ X, lensX W H L P (sqG W H) = X := ⟨_, rfl⟩
    have HLN := Lib.hid (fun w h h2 => show Calls Try.prog 35 #[.agg #[.int .i64 W, .int .i64 H, .slice A n cap], .agg #[.slice A2 n2 c2]] w (RetX X true w) by
      have := implLengths W H A A2 n cap n2 c2 L P hL w h h2 hn hn2
      rw [lensRes_yes ht, ht, hX] at this
      exact this)
    have HAT := Lib.hid (fun (x y : Nat) (hx : x < k) (hy : y < k) => hX ▸ lens_at (L := L) (P := P) hk hx hy)
    have HXL := Lib.hid (show X.length = 256 by rw [← hX]; exact sqTo_length _ _ _)
    have HT := Lib.hid ht
    have HSQ := Lib.hid (show sqG W H = k * k by rw [← hk]; rfl)
    have HDI := Lib.hid (fun (a b d : Int) (h : distG W H a b = d) w => implDistanceV W H a b d h w)
    clear ht hL hX hk hki
    obtain ⟨mm, hmm⟩ : ∃ m, minimalG W H L P = m := ⟨_, rfl⟩
    rw [hmm]
    have HMM := Lib.hid hmm
    clear hmm
    go_enter Try.func13, Try.ntmps13
    go_wp2_with fail
    refine (HLN.out _ HT1.out HT2.out).mono ?_
    rintro e w1 ⟨rfl, hg⟩
    have HG1 := Lib.hid (show (twoI W H A A2 n cap n2 c2 w).grownBy w1 none from hg)
    clear hg
    go_wp2_with (refine wpList_storeX rfl (.tmp 5) _ rfl w1.heap.size zerosX X rfl rfl (new_square w1) zerosX_length HXL.out ?_; intro w2 hb2 hg2; have HX2 := Lib.hid (show MinX W H A A2 n cap n2 c2 X w w1.heap.size w2 from ⟨hb2, gb_square HG1.out hg2⟩); have tm := twoI_mesh HX2.out.2; have a0 : w2.cell? ⟨w.heap.size, 0, none⟩ = some (.int .i64 W) := tm.cell 0; have a1 : w2.cell? ⟨w.heap.size, 1, none⟩ = some (.int .i64 H) := tm.cell 1; clear hb2 hg2 tm)
    refine (HNC.out _).mono ?_
    rintro e w3 ⟨rfl, hg3⟩
    have HX3 := Lib.hid (HX2.out.more hg3)
    obtain ⟨g, hg⟩ : ∃ g, w1.heap.size = g := ⟨_, rfl⟩
    rw [hg] at HX3
    clear hg3 a0 a1
    go_wp2_with fail
    (try rw [hg])
    clear hg
    go_loopw [20] (fun i wr => ∃ x : Nat, i = .int .i64 (x : Int) ∧ x ≤ k ∧ minTo W H L P (x * k) ∧ MinX W H A A2 n cap n2 c2 X w g wr) (fun i _ => 17 - (intOf i).toNat)
    case atStart => exact ⟨0, rfl, Nat.zero_le _, by rw [Nat.zero_mul]; exact minTo_zero, HX3.out⟩
    case round =>
      obtain ⟨x, rfl, hxk, hmin, hmx⟩ := hrel
      have HM0 := Lib.hid hmin
      have HX4 := Lib.hid hmx
      have tm := twoI_mesh hmx.2
      have a0 : wr.cell? ⟨w.heap.size, 0, none⟩ = some (.int .i64 W) := tm.cell 0
      have a1 : wr.cell? ⟨w.heap.size, 1, none⟩ = some (.int .i64 H) := tm.cell 1
      clear hmin hmx tm
      by_cases hlt : x < k
      · have HXK := Lib.hid hlt
        have hx16 : (x : Int) < 16 := by omega
        go_wp2_with fail
        refine (HNC.out _).mono ?_
        rintro e w4 ⟨rfl, hg4⟩
        have HX5 := Lib.hid (HX4.out.more hg4)
        clear hg4 a0 a1
        go_wp2_with fail
        go_loopw [26] (fun i wr => ∃ y : Nat, i = .int .i64 (y : Int) ∧ y ≤ k ∧ minTo W H L P (x * k + y) ∧ MinX W H A A2 n cap n2 c2 X w g wr) (fun i _ => 17 - (intOf i).toNat)
        case atStart => exact ⟨0, rfl, Nat.zero_le _, HM0.out, HX5.out⟩
        case round =>
          obtain ⟨y, rfl, hyk, hmin, hmx⟩ := hrel
          have HM1 := Lib.hid hmin
          have HX6 := Lib.hid hmx
          clear hmin hmx
          by_cases hlt2 : y < k
          · have hy16 : (y : Int) < 16 := by omega
            obtain ⟨hv, _, hma, hjk⟩ := HAT.out x y HXK.out hlt2
            obtain ⟨d, hd⟩ : ∃ d, distG W H x y = d := ⟨_, rfl⟩
            obtain ⟨q, hq⟩ : ∃ q : Nat, (walkOf W H L P x y).length = q := ⟨_, rfl⟩
            rw [hd, hq] at hma
            rw [hq] at hv
            have HMA := Lib.hid hma
            have HJK := Lib.hid hjk
            have HD := Lib.hid (fun w => HDI.out x y d hd w)
            have tm := twoI_mesh HX6.out.2
            have a0 : wr.cell? ⟨w.heap.size, 0, none⟩ = some (.int .i64 W) := tm.cell 0
            have a1 : wr.cell? ⟨w.heap.size, 1, none⟩ = some (.int .i64 H) := tm.cell 1
            have c1 : wr.cell? ⟨g, x * 16 + y, none⟩ = some (.int .i64 (q : Int)) := by
              rw [Nat.mul_comm x 16]; exact (HX6.out.1.cell (16 * x + y)).trans (cellsX_at (by rw [HXL.out]; omega) hv)
            have HC := Lib.hid (fun (w6 : World) (h6 : MinX W H A A2 n cap n2 c2 X w g w6) => show w6.cell? ⟨g, x * 16 + y, none⟩ = some (.int .i64 (q : Int)) by
              rw [Nat.mul_comm x 16]; exact (h6.1.cell (16 * x + y)).trans (cellsX_at (by rw [HXL.out]; omega) hv))
            clear tm hma hjk hd hq hv
            by_cases hqd : (q : Int) = d
            · have hb : ((q : Int) != d) = false := bne_eq_false_iff_eq.2 hqd
              have HMN := Lib.hid (minTo_succ HM1.out (HMA.out.trans (decide_eq_true hqd)))
              clear hqd
              go_wp2_with fail
              go_region_held3 (fun w' => w'.cell? ⟨w.heap.size, 0, none⟩ = some (.int .i64 W) ∧ w'.cell? ⟨w.heap.size, 1, none⟩ = some (.int .i64 H) ∧ w'.cell? ⟨g, x * 16 + y, none⟩ = some (.int .i64 (q : Int)))
                (first | exact ⟨a0, a1, c1⟩ | exact ⟨d0, d1, d2⟩)
                (first
                  | (go_at_call 36; (with_reducible refine (HD.out _).mono ?_); rintro e w5 ⟨rfl, hg5⟩; have B5 := Lib.hid (HX6.out.more (gb_undrewI hg5)); have d0 : w5.cell? ⟨w.heap.size, 0, none⟩ = some (.int .i64 W) := (twoI_mesh B5.out.2).cell 0; have d1 : w5.cell? ⟨w.heap.size, 1, none⟩ = some (.int .i64 H) := (twoI_mesh B5.out.2).cell 1; have d2 := HC.out w5 B5.out; clear hg5)
                  | fail)
              all_goals
                go_wp2_with fail
                go_roundw
                case rel => exact ⟨y + 1, by go_num, by omega, HMN.out, B5.out⟩
                case measure => simp [intOf]; omega
            · have hb : ((q : Int) != d) = true := bne_iff_ne.2 hqd
              have HMN := Lib.hid (minimalG_no (W := W) (H := H) (L := L) (P := P) HJK.out (HMA.out.trans (decide_eq_false hqd)))
              clear hqd
              go_wp2_with fail
              go_region_held3 (fun w' => w'.cell? ⟨w.heap.size, 0, none⟩ = some (.int .i64 W) ∧ w'.cell? ⟨w.heap.size, 1, none⟩ = some (.int .i64 H) ∧ w'.cell? ⟨g, x * 16 + y, none⟩ = some (.int .i64 (q : Int)))
                (first | exact ⟨a0, a1, c1⟩ | exact ⟨d0, d1, d2⟩)
                (first
                  | (go_at_call 36; (with_reducible refine (HD.out _).mono ?_); rintro e w5 ⟨rfl, hg5⟩; have B5 := Lib.hid (HX6.out.more (gb_undrewI hg5)); have d0 : w5.cell? ⟨w.heap.size, 0, none⟩ = some (.int .i64 W) := (twoI_mesh B5.out.2).cell 0; have d1 : w5.cell? ⟨w.heap.size, 1, none⟩ = some (.int .i64 H) := (twoI_mesh B5.out.2).cell 1; have d2 := HC.out w5 B5.out; clear hg5)
                  | fail)
              all_goals
                go_wp2_with fail
                go_ret
                exact ⟨ret_bool (by first | rw [← HMM.out, HMN.out] | rw [HMN.out]), twoI_old B5.out.2⟩
          · obtain rfl : y = k := by omega
            go_wp2_with fail
            go_roundw
            case rel => exact ⟨x + 1, by go_num, by omega, by rw [Nat.add_mul, Nat.one_mul]; exact HM1.out, HX6.out⟩
            case measure => simp [intOf]; omega
      · obtain rfl : x = k := by omega
        have HE := Lib.hid (minimalG_yes HT.out (HSQ.out ▸ HM0.out))
        clear a0 a1
        go_wp2_with fail
        go_ret
        exact ⟨ret_bool (by first | rw [← HMM.out, HE.out] | rw [HE.out]), twoI_old HX4.out.2⟩
end Go.Proofs.Ytbnpihkianggiaa
