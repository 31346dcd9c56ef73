/- What is proved here: both EncodeHex functions return the hexadecimal text, for every string; only new blocks are written. -/
import Derived.Test.YtlbjopmiaophkaaBase
namespace Go.Proofs.Ytlbjopmiaophkaa
open Go.ChangeShapes Go.WideShapes Go.ChangeAt Go.RowKit
set_option linter.unusedVariables false
attribute [local go_sem ↓] Go.wp_at_zero Go.wp_at_succ

def fig (x : Nat) : Nat := if x < 10 then 48 + x else 87 + x
def hexOf (c : UInt8) : List UInt8 := [UInt8.ofNat (fig (c.toNat / 16)), UInt8.ofNat (fig (c.toNat % 16))]
def hexL (l : List UInt8) : List UInt8 := l.flatMap hexOf
theorem hexL_snoc (l : List UInt8) (c : UInt8) : hexL (l ++ [c]) = hexL l ++ hexOf c := by simp [hexL]
theorem hexL_length (l : List UInt8) : (hexL l).length = 2 * l.length := by
  induction l with
  | nil => rfl
  | cons c l ih => simp only [hexL, List.flatMap_cons, List.length_append, List.length_cons] at ih ⊢; rw [ih]; simp [hexOf]; omega
theorem fig_u8 {x : Nat} (h : x < 16) : ((UInt8.ofNat (fig x)).toNat : Int) = (fig x : Int) := by
  have : fig x < 256 := by unfold fig; split <;> omega
  simp [Nat.mod_eq_of_lt this]

theorem specFigure (x : Nat) (hx : x < 16) (w : World) :
    Calls Try.prog 25 #[.int .i64 (x : Int)] w fun e w' => e = .returned (.int .u8 (fig x : Int)) ∧ w = w' := by
  by_cases h : x < 10
  · have hf : fig x = 48 + x := by unfold fig; rw [if_pos h]
    go_enter Try.func25, Try.ntmps25
    go_wp2
    go_ret
    exact ⟨congrArg Ending.returned (congrArg (Value.int .u8) (by rw [hf]; rfl)), rfl⟩
  · have hf : fig x = 87 + x := by unfold fig; rw [if_neg h]
    go_enter Try.func25, Try.ntmps25
    go_wp2
    go_ret
    exact ⟨congrArg Ending.returned (congrArg (Value.int .u8) (by rw [hf]; simp; omega)), rfl⟩

theorem specFigureD (c : Nat) (hc : c < 256) (w : World) :
    Calls Try.prog 25 #[.int .i64 ((c : Int) / 16)] w fun e w' => e = .returned (.int .u8 (fig (c / 16) : Int)) ∧ w = w' := by
  have h := specFigure (c / 16) (by omega) w
  rw [show ((c / 16 : Nat) : Int) = (c : Int) / 16 by omega] at h
  exact h
theorem specFigureM (c : Nat) (w : World) :
    Calls Try.prog 25 #[.int .i64 ((c : Int) % 16)] w fun e w' => e = .returned (.int .u8 (fig (c % 16) : Int)) ∧ w = w' := by
  have h := specFigure (c % 16) (by omega) w
  rw [show ((c % 16 : Nat) : Int) = (c : Int) % 16 by omega] at h
  exact h

theorem and15_all : ∀ n : Fin 256, bits .and .u8 (n.val : Int) 15 = (n.val : Int) % 16 := by decide +kernel
theorem and15_u8 (c : Nat) (h : c < 256) : bits .and .u8 (c : Int) 15 = (c : Int) % 16 := and15_all ⟨c, h⟩
theorem hexDig_all : ∀ n : Fin 16, ((⟨#[48, 49, 50, 51, 52, 53, 54, 55, 56, 57, 97, 98, 99, 100, 101, 102]⟩ : ByteArray)[n.val]'n.isLt).toNat = fig n.val := by decide +kernel
theorem hexDigD (c : Nat) (h : c < 256) : ((⟨#[48, 49, 50, 51, 52, 53, 54, 55, 56, 57, 97, 98, 99, 100, 101, 102]⟩ : ByteArray)[((c : Int) / 16).toNat]'(by show ((c : Int) / 16).toNat < 16; omega)).toNat = fig (c / 16) := by
  have e : ((c : Int) / 16).toNat = c / 16 := by omega
  have := hexDig_all ⟨c / 16, by omega⟩
  simpa [e] using this
theorem hexDigM (c : Nat) : ((⟨#[48, 49, 50, 51, 52, 53, 54, 55, 56, 57, 97, 98, 99, 100, 101, 102]⟩ : ByteArray)[((c : Int) % 16).toNat]'(by show ((c : Int) % 16).toNat < 16; omega)).toNat = fig (c % 16) := by
  have e : ((c : Int) % 16).toNat = c % 16 := by omega
  have := hexDig_all ⟨c % 16, by omega⟩
  simpa [e] using this
theorem hexL_step (s : ByteArray) (k c : Nat) (h : k < s.size) (hc : s[k].toNat = c) :
    bytesV (hexL (s.data.toList.take (k + 1))) = bytesV (hexL (s.data.toList.take k)) ++ [.int .u8 (fig (c / 16) : Int), .int .u8 (fig (c % 16) : Int)] := by
  have hc8 : c < 256 := by rw [← hc]; exact s[k].toNat_lt
  rw [take_snoc s k h, hexL_snoc, bytesV_append]
  congr 1
  simp only [hexOf, bytesV, List.map_cons, List.map_nil, hc]
  rw [fig_u8 (by omega), fig_u8 (by omega)]

def EncPost (s : ByteArray) (w : World) (e : Ending) (w' : World) : Prop :=
  e = .returned (.tuple #[.string (if 20000 < s.size then ⟨#[]⟩ else ⟨(hexL s.data.toList).toArray⟩), .bool (!decide (20000 < s.size))]) ∧ Below w.heap.size w w'

set_option maxRecDepth 100000 in
theorem specEnc (s : ByteArray) (w : World) :
    Calls Try.prog 11 #[.string s] w (EncPost s w) := by
  by_cases hs : 20000 < s.size
  · go_enter Try.func11, Try.ntmps11
    go_wp2
    go_ret2
    exact ⟨by simp [hs], Below.refl _ _⟩
  · obtain ⟨i0, hi, hz0, hz1, hz2⟩ := info_parts info_u8
    go_enter Try.func11, Try.ntmps11
    go_wp2
    go_loopw [4, 5] (fun v i wr => ∃ k : Nat, k ≤ s.size ∧ i = .int .i64 k ∧ wr.ownsRow w.heap.size 5 1 v (2 * k) (bytesV (hexL (s.data.toList.take k))) ∧ Below w.heap.size w wr) (fun _ i _ => s.size - (intOf i).toNat)
    case atStart => exact ⟨0, Nat.zero_le _, rfl, World.ownsRow_made _ _ _ (Nat.le_refl _) (by decide) rfl, (Below.refl _ _).alloc (Nat.le_refl _) _⟩
    case round =>
      obtain ⟨k, hk, rfl, hown, hbel⟩ := hrel
      by_cases hlt : k < s.size
      · go_wp2_with fail
        obtain ⟨c, hc⟩ : ∃ c : Nat, s[k].toNat = c := ⟨_, rfl⟩
        have hc8 : c < 256 := by rw [← hc]; exact s[k].toNat_lt
        have e1 : IntKind.i64.wrap (c : Int) = c := IntWalk.i64_in _ (by omega)
        have e2 : IntKind.i64.wrap ((c : Int) / 16) = (c : Int) / 16 := IntWalk.i64_in _ (by omega)
        have e3 : (c : Int).tmod 16 = (c : Int) % 16 := Int.tmod_eq_emod_of_nonneg (by omega)
        have hk0 : (0 : Int) ≤ (k : Int) := by omega
        have hk1 : (k : Int) < (s.size : Int) := by omega
        have C1 := Lib.hid (specFigureD c hc8)
        have C2 := Lib.hid (specFigureM c)
        have hsz := hbel.size
        have b1 : 2 * k + 2 ≤ maxLen := by unfold maxLen; omega
        have b2 : (2 * k + 2) * 1 ≤ 140737488355328 := by omega
        have b3 : w.heap.size ≤ ((wr.alloc (.cells #[.int .u8 (fig (c / 16) : Int), .int .u8 (fig (c % 16) : Int)] 5)).drew).heap.size := by simp; omega
        have b4 : ∀ u ∈ [Value.int .u8 (fig (c / 16) : Int), Value.int .u8 (fig (c % 16) : Int)], u.oneCell' = true := by simp [Value.oneCell']
        go_region_held3 (fun w' => Tru w') (exact tru _)
          (first
            | (go_at_call 25; (with_reducible refine (C1.out _).mono ?_); rintro e w' ⟨rfl, rfl⟩)
            | (go_at_call 25; (with_reducible refine (C2.out _).mono ?_); rintro e w' ⟨rfl, rfl⟩)
            | (refine step_append_lies _ (by rfl) _ _ _ (by rfl) w.heap.size 5 i0 _ 1 1 Try.underlying22 hi hz0 hz1 hz2 rfl (by omega) u4 (2 * k) (bytesV (hexL (s.data.toList.take k))) (by rfl) ((hown.alloc _).drew)
                ⟨wr.heap.size, 0, none⟩ 2 2 [.int .u8 (fig (c / 16) : Int), .int .u8 (fig (c % 16) : Int)] (by rfl) (by rfl) (World.news_of_block (cs := #[.int .u8 (fig (c / 16) : Int), .int .u8 (fig (c % 16) : Int)]) (t := 5) (fr := (0, 0)) (heap_alloc_new wr _)) b4
                (by omega) b1 b2 b3 (wr.heap.size + 1) (by simp) ?_; intro g cap w1 hown1 hgrow hat hltg)
            | fail)
        all_goals
          have X : w1.ownsRow w.heap.size 5 1 (.slice (some ⟨g, 0, none⟩) (2 * k + 2) cap) (2 * (k + 1)) (bytesV (hexL (s.data.toList.take (k + 1)))) ∧ Below w.heap.size w w1 :=
            ⟨by rw [hexL_step s k c hlt hc]; exact hown1, (below_drewN (hbel.alloc hbel.size _) 1).grown hgrow (by simp; have := hbel.size; omega) (fun j hj => (hown.lt j hj).1)⟩
          have HX := Lib.hid X
          clear X hown1 hgrow hown hbel e1 e2 e3 hat hc
          go_wp2_with fail
          go_roundw
          case rel => exact ⟨k + 1, by omega, by go_num, HX.out.1, HX.out.2⟩
          case measure => simp [intOf]; omega
      · obtain rfl : k = s.size := by omega
        have hl : (hexL (s.data.toList.take s.size)).length = 2 * s.size := by rw [hexL_length]; simp
        have ht : s.data.toList.take s.size = s.data.toList := List.take_of_length_le (by simp)
        rw [ht] at hown hl
        rw [← hl] at hown
        have hcv := convert_owned hown
        have HB := Lib.hid hbel
        clear hown hbel hl ht
        go_wp2_with fail
        go_ret2
        exact ⟨by simp [hs], HB.out⟩

set_option maxRecDepth 100000 in
theorem implEnc (s : ByteArray) (w : World) :
    Calls Try.prog 12 #[.string s] w (EncPost s w) := by
  by_cases hs : 20000 < s.size
  · go_enter Try.func12, Try.ntmps12
    go_wp2
    go_ret2
    exact ⟨by simp [hs], Below.refl _ _⟩
  · obtain ⟨i0, hi, hz0, hz1, hz2⟩ := info_parts info_u8
    go_enter Try.func12, Try.ntmps12
    have hs' : s.size ≤ 20000 := by omega
    go_wp2_with (at_make; refine wpList_make_own _ rfl _ _ 22 rfl w.heap.size 5 i0 (.int .u8 0) 1 Try.underlying22 hi hz0 hz1 .i64 .i64 _ (2 * s.size) rfl rfl (by omega) (by rw [hz2]; omega) (by unfold maxLen; omega) (Nat.le_refl _) ?_; intro w0 hown0 hgrow0)
    have HG0 := Lib.hid hgrow0
    clear hgrow0
    go_loopw [4, 15] (fun v i wr => ∃ k : Nat, k ≤ s.size ∧ i = .int .i64 k ∧ wr.ownsRow w.heap.size 5 1 v (2 * k) (bytesV (hexL (s.data.toList.take k))) ∧ Below w.heap.size w wr) (fun _ i _ => s.size - (intOf i).toNat)
    case atStart => exact ⟨0, Nat.zero_le _, rfl, hown0, gb_below_none HG0.out (Nat.le_refl _)⟩
    case round =>
      obtain ⟨k, hk, rfl, hown, hbel⟩ := hrel
      clear hown0
      by_cases hlt : k < s.size
      · go_wp2_with fail
        obtain ⟨c, hc⟩ : ∃ c : Nat, s[k].toNat = c := ⟨_, rfl⟩
        have hc8 : c < 256 := by rw [← hc]; exact s[k].toNat_lt
        have ea := and15_u8 c hc8
        have hx1 := hexDigD c hc8
        have hx2 := hexDigM c
        have em0 : (0 : Int) ≤ (c : Int) % 16 := by omega
        have em1 : (c : Int) % 16 < 16 := by omega
        have ed0 : (0 : Int) ≤ (c : Int) / 16 := by omega
        have ed1 : (c : Int) / 16 < 16 := by omega
        have hk0 : (0 : Int) ≤ (k : Int) := by omega
        have hk1 : (k : Int) < (s.size : Int) := by omega
        have hsz := hbel.size
        have b1 : 2 * k + 2 ≤ maxLen := by unfold maxLen; omega
        have b2 : (2 * k + 2) * 1 ≤ 140737488355328 := by omega
        have b3 : w.heap.size ≤ ((wr.alloc (.cells #[.int .u8 (fig (c / 16) : Int), .int .u8 (fig (c % 16) : Int)] 5)).drew).heap.size := by simp; omega
        have b4 : ∀ u ∈ [Value.int .u8 (fig (c / 16) : Int), Value.int .u8 (fig (c % 16) : Int)], u.oneCell' = true := by simp [Value.oneCell']
        go_region_held3 (fun w' => Tru w') (exact tru _)
          (first
            | (refine step_append_lies _ (by rfl) _ _ _ (by rfl) w.heap.size 5 i0 _ 1 1 Try.underlying22 hi hz0 hz1 hz2 rfl (by omega) u4 (2 * k) (bytesV (hexL (s.data.toList.take k))) (by rfl) ((hown.alloc _).drew)
                ⟨wr.heap.size, 0, none⟩ 2 2 [.int .u8 (fig (c / 16) : Int), .int .u8 (fig (c % 16) : Int)] (by rfl) (by rfl) (World.news_of_block (cs := #[.int .u8 (fig (c / 16) : Int), .int .u8 (fig (c % 16) : Int)]) (t := 5) (fr := (0, 0)) (heap_alloc_new wr _)) b4
                (by omega) b1 b2 b3 (wr.heap.size + 1) (by simp) ?_; intro g cap w1 hown1 hgrow hat hltg)
            | fail)
        all_goals
          have X : w1.ownsRow w.heap.size 5 1 (.slice (some ⟨g, 0, none⟩) (2 * k + 2) cap) (2 * (k + 1)) (bytesV (hexL (s.data.toList.take (k + 1)))) ∧ Below w.heap.size w w1 :=
            ⟨by rw [hexL_step s k c hlt hc]; exact hown1, (below_drewN (hbel.alloc hbel.size _) 1).grown hgrow (by simp; have := hbel.size; omega) (fun j hj => (hown.lt j hj).1)⟩
          have HX := Lib.hid X
          clear X hown1 hgrow hown hbel ea hx1 hx2 hat hc
          go_wp2_with fail
          go_roundw
          case rel => exact ⟨k + 1, by omega, by go_num, HX.out.1, HX.out.2⟩
          case measure => simp [intOf]; omega
      · obtain rfl : k = s.size := by omega
        have hl : (hexL (s.data.toList.take s.size)).length = 2 * s.size := by rw [hexL_length]; simp
        have ht : s.data.toList.take s.size = s.data.toList := List.take_of_length_le (by simp)
        rw [ht] at hown hl
        rw [← hl] at hown
        have hcv := convert_owned hown
        have HB := Lib.hid hbel
        clear hown hbel hl ht
        go_wp2_with fail
        go_ret2
        exact ⟨by simp [hs], HB.out⟩
end Go.Proofs.Ytlbjopmiaophkaa
