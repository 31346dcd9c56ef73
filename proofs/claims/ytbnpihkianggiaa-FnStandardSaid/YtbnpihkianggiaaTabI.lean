/- What is proved here: what the program's TableOk and LongestWalk return, for all arguments; only new blocks are written. -/
import Derived.Test.YtbnpihkianggiaaLensI
import Derived.Test.YtbnpihkianggiaaMaxI
namespace Go.Proofs.Ytbnpihkianggiaa
open Go.ChangeShapes Go.WideShapes Go.ChangeAt Go.RowKit
set_option linter.unusedVariables false

theorem implTableOk (W H : Int) (A A2 : Option Addr) (n cap n2 c2 : Nat) (L P : List Int) (hL : WfL L) (w : World) (h : IntAt w w.heap.size A n L) (h2 : IntAt w w.heap.size A2 n2 P) (hn : n ≤ 1000000000) (hn2 : n2 ≤ 1000000000) :
    Calls Try.prog 12 #[.agg #[.int .i64 W, .int .i64 H, .slice A n cap], .agg #[.slice A2 n2 c2]] w (RetB (tableG W H L P) w) := by
  have HT1 := Lib.hid (h.twoI (W := W) (H := H) (A := A) (A2 := A2) (n := n) (cap := cap) (n2 := n2) (c2 := c2))
  have HT2 := Lib.hid (h2.twoI (W := W) (H := H) (A := A) (A2 := A2) (n := n) (cap := cap) (n2 := n2) (c2 := c2))
  have HLN := Lib.hid (fun w h h2 => implLengths W H A A2 n cap n2 c2 L P hL w h h2 hn hn2)
  clear h h2 hL
  go_enter Try.func12, Try.ntmps12
  go_wp2_with fail
  refine (HLN.out _ HT1.out HT2.out).mono ?_
  rintro e w1 ⟨rfl, hg⟩
  have HG1 := Lib.hid (show (twoI W H A A2 n cap n2 c2 w).grownBy w1 none from hg)
  clear hg
  go_wp2_with (refine wpList_storeX rfl (.tmp 5) _ rfl w1.heap.size zerosX (lensRes W H L P) rfl rfl (new_square w1) zerosX_length (lensRes_length _ _ _ _) ?_; intro w2 hb2 hg2; have HG2 := Lib.hid (gb_square HG1.out hg2); clear hb2 hg2)
  go_ret
  exact ⟨rfl, twoI_old HG2.out⟩

theorem implLongestWalk (W H : Int) (A A2 : Option Addr) (n cap n2 c2 : Nat) (L P : List Int) (hL : WfL L) (w : World) (h : IntAt w w.heap.size A n L) (h2 : IntAt w w.heap.size A2 n2 P) (hn : n ≤ 1000000000) (hn2 : n2 ≤ 1000000000) :
    Calls Try.prog 14 #[.agg #[.int .i64 W, .int .i64 H, .slice A n cap], .agg #[.slice A2 n2 c2]] w (RetI (longG W H L P) none w) := by
  have HT1 := Lib.hid (h.twoI (W := W) (H := H) (A := A) (A2 := A2) (n := n) (cap := cap) (n2 := n2) (c2 := c2))
  have HT2 := Lib.hid (h2.twoI (W := W) (H := H) (A := A) (A2 := A2) (n := n) (cap := cap) (n2 := n2) (c2 := c2))
  clear h2 h
  cases ht : tableG W H L P with
  | false =>
    have HLN := Lib.hid (fun w h h2 => show Calls Try.prog 35 #[.agg #[.int .i64 W, .int .i64 H, .slice A n cap], .agg #[.slice A2 n2 c2]] w (RetX zerosX false w) by
      have := implLengths W H A A2 n cap n2 c2 L P hL w h h2 hn hn2
      rw [lensRes_no ht, ht] at this
      exact this)
    have HR := Lib.hid (show longG W H L P = -1 by simp [longG, ht])
    clear ht hL
    go_enter Try.func14, Try.ntmps14
    go_wp2_with fail
    refine (HLN.out _ HT1.out HT2.out).mono ?_
    rintro e w1 ⟨rfl, hg⟩
    have HG1 := Lib.hid (show (twoI W H A A2 n cap n2 c2 w).grownBy w1 none from hg)
    clear hg
    go_wp2_with (refine wpList_storeX rfl (.tmp 5) _ rfl w1.heap.size zerosX zerosX rfl rfl (new_square w1) zerosX_length zerosX_length ?_; intro w2 hb2 hg2; have HG2 := Lib.hid (gb_square HG1.out hg2); clear hb2 hg2)
    go_ret
    exact ⟨ret_int64 HR.out.symm, twoI_old HG2.out⟩
  | true =>
    obtain ⟨X, hX⟩ : ∃ X, lensX W H L P (sqG W H) = X := ⟨_, rfl⟩
    have HLN := Lib.hid (fun w h h2 => show Calls Try.prog 35 #[.agg #[.int .i64 W, .int .i64 H, .slice A n cap], .agg #[.slice A2 n2 c2]] w (RetX X true w) by
      have := implLengths W H A A2 n cap n2 c2 L P hL w h h2 hn hn2
      rw [lensRes_yes ht, ht, hX] at this
      exact this)
    have HXL := Lib.hid (show X.length = 256 by rw [← hX]; exact sqTo_length _ _ _)
    have HR := Lib.hid (show longG W H L P = topTo X 256 by rw [← hX, lensX_top]; simp [longG, ht])
    clear ht hL hX
    go_enter Try.func14, Try.ntmps14
    go_wp2_with fail
    refine (HLN.out _ HT1.out HT2.out).mono ?_
    rintro e w1 ⟨rfl, hg⟩
    have HG1 := Lib.hid (show (twoI W H A A2 n cap n2 c2 w).grownBy w1 none from hg)
    clear hg
    go_wp2_with (first | (refine wpList_storeX rfl (.tmp 5) _ rfl w1.heap.size zerosX X rfl rfl (new_square w1) zerosX_length HXL.out ?_; intro w2 hb2 hg2; have HB2 := Lib.hid hb2; have HG2 := Lib.hid (gb_square HG1.out hg2); clear hb2 hg2) | (refine wpList_loadX rfl (.tmp 5) rfl w1.heap.size rfl X HB2.out HXL.out ?_))
    go_loopw [7, 19] (fun m i wr => ∃ r : Nat, m = .int .i64 (topTo X (r * 16)) ∧ i = .int .i64 (r : Int) ∧ r ≤ 16 ∧ (twoI W H A A2 n cap n2 c2 w).grownBy wr none) (fun _ i _ => 17 - (intOf i).toNat)
    case atStart => exact ⟨0, rfl, rfl, Nat.zero_le _, HG2.out⟩
    case round =>
      obtain ⟨r, rfl, rfl, hr, hg⟩ := hrel
      have HG3 := Lib.hid hg
      clear hg
      by_cases hlt : r < 16
      · obtain ⟨R, hR⟩ : ∃ R, rowX X r = R := ⟨_, rfl⟩
        have HRL := Lib.hid (show R.length = 16 by rw [← hR]; exact rowX_length HXL.out hlt)
        obtain ⟨m, hm⟩ : ∃ m, mxTo R 15 = m := ⟨_, rfl⟩
        obtain ⟨t, ht⟩ : ∃ t, topTo X (r * 16) = t := ⟨_, rfl⟩
        have HS := Lib.hid (show max t m = topTo X ((r + 1) * 16) by
          rw [← ht, ← hm, ← hR, top_row 15 (fun j hj => rowX_at (by omega))]
          congr 1; omega)
        have HMX := Lib.hid (fun (w : World) (g : Nat) (h : IntAt w w.heap.size (some ⟨g, 0, none⟩) (15 + 1) R) => show Calls Try.prog 37 #[.slice (some ⟨g, 0, none⟩) 16 16] w (fun e w' => e = .returned (.int .i64 m) ∧ w = w') from hm ▸ implMax _ 15 16 _ R w h (by omega))
        have HRR := Lib.hid hR
        rw [ht]
        clear hm ht hR
        go_wp2_with (first | (refine wpList_indexX rfl (.tmp 18) (.tmp 19) rfl X r rfl rfl HXL.out hlt ?_; rw [HRR.out]) | (refine wpList_storeR rfl (.tmp 9) _ rfl wr.heap.size _ R rfl rfl (Blk.new _ _ _) rfl HRL.out ?_; intro w4 hb4 hg4; have HB4 := Lib.hid hb4; have HG4 := Lib.hid (gb_new (gb_alloc HG3.out _) hg4 HG3.out.size); clear hb4 hg4))
        refine (HMX.out _ _ (by have := intAt_row HB4.out; rw [HRL.out] at this; exact this)).mono ?_
        rintro e w5 ⟨rfl, rfl⟩
        go_wp2_with fail
        go_roundw
        case rel => exact ⟨r + 1, by rw [← HS.out, int_max], by go_num, by omega, HG4.out⟩
        case measure => simp [intOf]; omega
      · obtain rfl : r = 16 := by omega
        go_wp2_with fail
        go_ret
        exact ⟨ret_int64 HR.out.symm, twoI_old HG3.out⟩
end Go.Proofs.Ytbnpihkianggiaa
