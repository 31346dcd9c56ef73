/- What is proved here: the program's EncodeHex returns the hexadecimal text, for every string; only new blocks are written. -/
import Derived.Test.YtlbjopmiaophkaaDoorHexM
namespace Go.Proofs.YtlbjopmiaophkaaDoor
open Go.ChangeShapes Go.WideShapes Go.ChangeAt Go.RowKit
set_option linter.unusedVariables false
attribute [local go_sem ↓] Go.wp_at_zero Go.wp_at_succ

set_option maxRecDepth 100000 in
theorem implEnc (s : ByteArray) (w : World) :
    Calls Tryd.prog 10 #[.string s] w (EncPost s w) := by
  by_cases hs : 20000 < s.size
  · go_enter Tryd.func10, Tryd.ntmps10
    go_wp2
    go_ret2
    exact ⟨by simp [hs], Below.refl _ _⟩
  · obtain ⟨i0, hi, hz0, hz1, hz2⟩ := info_parts info_u8
    go_enter Tryd.func10, Tryd.ntmps10
    have hs' : s.size ≤ 20000 := by omega
    go_wp2_with (at_make; refine wpList_make_own _ rfl _ _ 22 rfl w.heap.size 5 i0 (.int .u8 0) 1 Tryd.underlying22 hi hz0 hz1 .i64 .i64 _ (2 * s.size) rfl rfl (by omega) (by rw [hz2]; omega) (by unfold maxLen; omega) (Nat.le_refl _) ?_; intro w0 hown0 hgrow0)
    have HG0 := Lib.hid hgrow0
    clear hgrow0
    go_loopw [4, 15] (fun v i wr => ∃ k : Nat, k ≤ s.size ∧ i = .int .i64 k ∧ wr.ownsRow w.heap.size 5 1 v (2 * k) (bytesV (hexL (s.data.toList.take k))) ∧ Below w.heap.size w wr) (fun _ i _ => s.size - (intOf i).toNat)
    case atStart => exact ⟨0, Nat.zero_le _, rfl, hown0, gb_below_none HG0.out (Nat.le_refl _)⟩
    case round =>
      obtain ⟨k, hk, rfl, hown, hbel⟩ := hrel
      clear hown0
      by_cases hlt : k < s.size
      · go_wp2_with fail
        obtain ⟨c, hc⟩ : ∃ c : Nat, s[k].toNat = c := ⟨_, rfl⟩
        have hc8 : c < 256 := by rw [← hc]; exact s[k].toNat_lt
        have ea := and15_u8 c hc8
        have hx1 := hexDigD c hc8
        have hx2 := hexDigM c
        have em0 : (0 : Int) ≤ (c : Int) % 16 := by omega
        have em1 : (c : Int) % 16 < 16 := by omega
        have ed0 : (0 : Int) ≤ (c : Int) / 16 := by omega
        have ed1 : (c : Int) / 16 < 16 := by omega
        have hk0 : (0 : Int) ≤ (k : Int) := by omega
        have hk1 : (k : Int) < (s.size : Int) := by omega
        have hsz := hbel.size
        have b1 : 2 * k + 2 ≤ maxLen := by unfold maxLen; omega
        have b2 : (2 * k + 2) * 1 ≤ 140737488355328 := by omega
        have b3 : w.heap.size ≤ ((wr.alloc (.cells #[.int .u8 (fig (c / 16) : Int), .int .u8 (fig (c % 16) : Int)] 5)).drew).heap.size := by simp; omega
        have b4 : ∀ u ∈ [Value.int .u8 (fig (c / 16) : Int), Value.int .u8 (fig (c % 16) : Int)], u.oneCell' = true := by simp [Value.oneCell']
        go_region_held3 (fun w' => Tru w') (exact tru _)
          (first
            | (refine step_append_lies _ (by rfl) _ _ _ (by rfl) w.heap.size 5 i0 _ 1 1 Tryd.underlying22 hi hz0 hz1 hz2 rfl (by omega) u4 (2 * k) (bytesV (hexL (s.data.toList.take k))) (by rfl) ((hown.alloc _).drew)
                ⟨wr.heap.size, 0, none⟩ 2 2 [.int .u8 (fig (c / 16) : Int), .int .u8 (fig (c % 16) : Int)] (by rfl) (by rfl) (World.news_of_block (cs := #[.int .u8 (fig (c / 16) : Int), .int .u8 (fig (c % 16) : Int)]) (t := 5) (fr := (0, 0)) (heap_alloc_new wr _)) b4
                (by omega) b1 b2 b3 (wr.heap.size + 1) (by simp) ?_; intro g cap w1 hown1 hgrow hat hltg)
            | fail)
        all_goals
          have X : w1.ownsRow w.heap.size 5 1 (.slice (some ⟨g, 0, none⟩) (2 * k + 2) cap) (2 * (k + 1)) (bytesV (hexL (s.data.toList.take (k + 1)))) ∧ Below w.heap.size w w1 :=
            ⟨by rw [hexL_step s k c hlt hc]; exact hown1, (below_drewN (hbel.alloc hbel.size _) 1).grown hgrow (by simp; have := hbel.size; omega) (fun j hj => (hown.lt j hj).1)⟩
          have HX := Lib.hid X
          clear X hown1 hgrow hown hbel ea hx1 hx2 hat hc
          go_wp2_with fail
          go_roundw
          case rel => exact ⟨k + 1, by omega, by go_num, HX.out.1, HX.out.2⟩
          case measure => simp [intOf]; omega
      · obtain rfl : k = s.size := by omega
        have hl : (hexL (s.data.toList.take s.size)).length = 2 * s.size := by rw [hexL_length]; simp
        have ht : s.data.toList.take s.size = s.data.toList := List.take_of_length_le (by simp)
        rw [ht] at hown hl
        rw [← hl] at hown
        have hcv := convert_owned hown
        have HB := Lib.hid hbel
        clear hown hbel hl ht
        go_wp2_with fail
        go_ret2
        exact ⟨by simp [hs], HB.out⟩
end Go.Proofs.YtlbjopmiaophkaaDoor
