/- What is proved here: the program's DecodeHex returns the decoded text, or none, for every string; only new blocks are written. -/
import Derived.Test.YtlbjopmiaophkaaDoorDecM
import Derived.Test.YtlbjopmiaophkaaDoorShelf
namespace Go.Proofs.YtlbjopmiaophkaaDoor
open Go.ChangeShapes Go.WideShapes Go.ChangeAt Go.RowKit
set_option linter.unusedVariables false

theorem implValue (c : Nat) (hc : c < 256) (w : World) :
    Calls Tryd.prog 27 #[.string ⟨#[48, 49, 50, 51, 52, 53, 54, 55, 56, 57, 97, 98, 99, 100, 101, 102]⟩, .int .u8 (c : Int)] w fun e w' => e = .returned (.int .i64 (hv c)) ∧ w = w' := by
  refine (Tryd.strings_IndexByte _ _ _).mono ?_
  rintro e w' ⟨rfl, rfl⟩
  refine ⟨ret_int64 ?_, rfl⟩
  rw [← index_all ⟨c, hc⟩]
  rfl

set_option maxRecDepth 100000 in
theorem implDec (s : ByteArray) (w : World) (hm : s.size ≤ maxLen) :
    Calls Tryd.prog 12 #[.string s] w (DecPost s w) := by
  unfold maxLen at hm
  by_cases hs : 40000 < s.size
  · have hd : decB s = false := decide_eq_false (by omega)
    have HD := Lib.hid hd
    clear hd
    go_enter Tryd.func12, Tryd.ntmps12
    go_wp2_with fail
    all_goals go_ret2
    all_goals exact DecPost.no HD.out (Below.refl _ _)
  · by_cases he : s.size % 2 = 0
    · obtain ⟨n, hn⟩ : ∃ n, s.size = 2 * n := ⟨s.size / 2, by omega⟩
      have hnI : (s.size : Int) % 2 = 0 := by omega
      obtain ⟨i0, hi, hz0, hz1, hz2⟩ := info_parts info_u8
      have HN := Lib.hid hn
      have hdiv : (s.size : Int) / 2 = (n : Int) := by omega
      have hn2 : n ≤ 20000 := by omega
      clear hn he
      go_enter Tryd.func12, Tryd.ntmps12
      go_wp2_with (at_make; refine wpList_make_own _ rfl _ _ 22 rfl w.heap.size 5 i0 (.int .u8 0) 1 Tryd.underlying22 hi hz0 hz1 .i64 .i64 _ n rfl rfl (by omega) (by rw [hz2]; omega) (by unfold maxLen; omega) (Nat.le_refl _) ?_; intro w0 hown0 hgrow0)
      have HG0 := Lib.hid hgrow0
      clear hgrow0 hdiv
      go_loopw [4, 5] (fun v i wr => ∃ k : Nat, 2 * k ≤ s.size ∧ i = .int .i64 ((2 * k : Nat) : Int) ∧ wr.ownsRow w.heap.size 5 1 v k (bytesV (decL s k)) ∧ Below w.heap.size w wr ∧ ∀ j, j < k → okAt s j) (fun _ i _ => s.size - (intOf i).toNat)
      case atStart => exact ⟨0, Nat.zero_le _, rfl, hown0, gb_below_none HG0.out (Nat.le_refl _), fun j h => absurd h (by omega)⟩
      case round =>
        obtain ⟨k, hk, rfl, hown, hbel, hall⟩ := hrel
        have HALL := Lib.hid hall
        clear hall hown0
        by_cases hlt : 2 * k < s.size
        · have hlt1 : 2 * k + 1 < s.size := by have := HN.out; omega
          have hb0 := Lib.hid (byteAt_get s (2 * k) hlt)
          have hb1 := Lib.hid (byteAt_get s (2 * k + 1) hlt1)
          have c0 := implValue (s[2 * k].toNat) s[2 * k].toNat_lt
          have c1 := implValue (s[2 * k + 1].toNat) s[2 * k + 1].toNat_lt
          rw [hb0.out] at c0
          rw [hb1.out] at c1
          obtain ⟨x, hx⟩ : ∃ x, hv (byteAt s (2 * k)) = x := ⟨_, rfl⟩
          obtain ⟨y, hy⟩ : ∃ y, hv (byteAt s (2 * k + 1)) = y := ⟨_, rfl⟩
          have hxl := hv_lt (byteAt s (2 * k))
          have hyl := hv_lt (byteAt s (2 * k + 1))
          rw [hx] at hxl c0
          rw [hy] at hyl c1
          obtain ⟨hx0, hx1⟩ := hxl
          obtain ⟨hy0, hy1⟩ := hyl
          have g0 := hb0.out
          have g1 := hb1.out
          have C0 := Lib.hid c0
          have C1 := Lib.hid c1
          have HX := Lib.hid hx
          have HY := Lib.hid hy
          clear hb0 hb1 c0 c1 hx hy
          go_wp2_with fail
          refine (C0.out _).mono ?_
          rintro e w' ⟨rfl, rfl⟩
          go_wp2_with fail
          refine (C1.out _).mono ?_
          rintro e w' ⟨rfl, rfl⟩
          by_cases hxn : x < 0
          · have hd : decB s = false := decide_eq_false (fun h => by have := (h.2.2 k (by omega)).1; rw [HX.out] at this; omega)
            have HD := Lib.hid hd
            clear hd
            go_wp2_with fail
            go_ret2
            exact DecPost.no HD.out hbel
          · by_cases hyn : y < 0
            · have hd : decB s = false := decide_eq_false (fun h => by have := (h.2.2 k (by omega)).2; rw [HY.out] at this; omega)
              have HD := Lib.hid hd
              clear hd
              go_wp2_with fail
              go_ret2
              exact DecPost.no HD.out hbel
            · have hok : okAt s k := ⟨by rw [HX.out]; omega, by rw [HY.out]; omega⟩
              have hat : [Value.int .u8 (x * 16 + y)] = bytesV [decAt s k] := by simp only [bytesV, List.map_cons, List.map_nil]; rw [decAt_toNat s k hok, HX.out, HY.out]; try (congr 2; omega)
              have HOK := Lib.hid hok
              have HAT := Lib.hid hat
              have hsz := hbel.size
              have hor := or_xy x y (by omega) hx1 (by omega) hy1
              have b2 : ∀ u ∈ [Value.int .u8 (x * 16 + y)], u.oneCell' = true := by simp [Value.oneCell']
              have b3 : k + 1 ≤ maxLen := by unfold maxLen; omega
              have B2 := Lib.hid b2
              have B3 := Lib.hid b3
              clear hok hat b2 b3
              go_wp2_with (at_builtin; refine wpList_append_own _ rfl _ _ 22 rfl w.heap.size 5 i0 (.int .u8 0) 1 1 Tryd.underlying22 hi hz0 hz1 hz2 rfl (by decide) _ k _ rfl (hown.alloc _) ⟨wr.heap.size, 0, none⟩ 1 1 [.int .u8 (x * 16 + y)] rfl rfl (World.news_of_block (cs := #[.int .u8 (x * 16 + y)]) (t := 5) (fr := (0, 0)) (heap_alloc_new wr _)) B2.out B3.out (by omega) (by simp; omega) ?_; intro v' w1 hown1 hgrow _)
              have X : w1.ownsRow w.heap.size 5 1 v' (k + 1) (bytesV (decL s (k + 1))) ∧ Below w.heap.size w w1 ∧ ∀ j, j < k + 1 → okAt s j :=
                ⟨by rw [decL_succ, bytesV_append, ← HAT.out]; exact hown1, (hbel.alloc hbel.size _).grown hgrow (by simp; omega) (fun j hj => (hown.lt j hj).1), fun j hj => by
                  by_cases e : j = k
                  · rw [e]; exact HOK.out
                  · exact HALL.out j (by omega)⟩
              have HXX := Lib.hid X
              clear X hown1 hgrow hown hbel hor
              go_wp2_with fail
              go_roundw
              case rel => exact ⟨k + 1, by omega, by go_num, HXX.out.1, HXX.out.2.1, HXX.out.2.2⟩
              case measure => simp [intOf]; omega
        · have hkn : k = s.size / 2 := by have := HN.out; omega
          have hd : decB s = true := decide_eq_true ⟨by have := HN.out; omega, by omega, fun j hj => HALL.out j (by omega)⟩
          have HD := Lib.hid hd
          rw [show k = (decL s k).length from (decL_length s k).symm] at hown
          have hcv := convert_owned (l := decL s k) (by rw [decL_length] at hown ⊢; exact hown)
          have HB := Lib.hid hbel
          have HK := Lib.hid hkn
          clear hown hbel hd hkn
          go_wp2_with fail
          go_ret2
          have e := DecPost.yes HD.out HB.out
          rw [← HK.out] at e
          exact e
    · have hd : decB s = false := decide_eq_false (by omega)
      have HD := Lib.hid hd
      have hnI : (s.size : Int) % 2 = 1 := by omega
      clear hd he
      go_enter Tryd.func12, Tryd.ntmps12
      go_wp2_with fail
      go_ret2
      exact DecPost.no HD.out (Below.refl _ _)
end Go.Proofs.YtlbjopmiaophkaaDoor
