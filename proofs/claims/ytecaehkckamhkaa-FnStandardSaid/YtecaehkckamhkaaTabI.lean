/- What is proved here: what the program's LongestWalk returns, for all arguments; only new blocks are written. -/
import Derived.Test.YtecaehkckamhkaaTokI
namespace Go.Proofs.Ytecaehkckamhkaa
open Go.ChangeShapes Go.WideShapes Go.ChangeAt Go.RowKit
set_option linter.unusedVariables false
set_option maxRecDepth 20000

/-- The greatest length of the first k walks. -/
def mxW (W H : Int) (L P : List Int) (k : Nat) : Int := if k = 0 then -1 else (mostTo W H L P k : Int)
theorem mxW_next {W H : Int} {L P : List Int} {k : Nat} {R : List Int} (h : pairW W H L P k = R) : max (mxW W H L P k) (R.length : Int) = mxW W H L P (k + 1) := by
  have e : lenAt W H L P k = R.length := by rw [← h]; rfl
  unfold mxW
  rw [if_neg (Nat.succ_ne_zero k), mostTo, e]
  split
  · rename_i h0
    subst h0
    simp only [mostTo]
    omega
  · omega
theorem mxW_all (W H : Int) (L P : List Int) : mxW W H L P (wlkN W H L P) = longG W H L P := by
  unfold longG
  cases ht : tableG W H L P with
  | false => rw [wlkN_no ht]; rfl
  | true =>
    rw [wlkN_yes ht, mxW, if_neg (by have := sqG_pos ht; omega)]
    rfl
/-- The row of walks. -/
def WkAt (W H : Int) (A A2 : Option Addr) (n cap n2 c2 : Nat) (L P : List Int) (w : World) (Aw : Option Addr) (N cw : Nat) (wr : World) : Prop :=
  ListsAt wr (w.heap.size + 2) (.slice Aw N cw) N (pairW W H L P) ∧ (twoI W H A A2 n cap n2 c2 w).grownBy wr none
section
variable {W H : Int} {A A2 : Option Addr} {n cap n2 c2 : Nat} {L P : List Int} {w wr w' : World} {Aw : Option Addr} {N cw : Nat}
theorem WkAt.gb (h : WkAt W H A A2 n cap n2 c2 L P w Aw N cw wr) (hg : wr.grownBy w' none) : WkAt W H A A2 n cap n2 c2 L P w Aw N cw w' := ⟨h.1.gb hg, gb_trans h.2 hg⟩
theorem WkAt.one (h : WkAt W H A A2 n cap n2 c2 L P w Aw N cw wr) {k : Nat} (hk : k < N) {R : List Int} (hR : pairW W H L P k = R) : ∃ g B d, Aw = some ⟨g, 0, none⟩ ∧ wr.cell? ⟨g, k, none⟩ = some (.slice B R.length d) := by
  obtain ⟨g, B, d, h1, h2, _⟩ := h.1.at k hk
  rw [hR] at h2
  exact ⟨g, B, d, h1, h2⟩
end
theorem int_maxW (a b : Int) : (if a < b then b else a) = max a b := by omega

theorem implLongestWalk (W H : Int) (A A2 : Option Addr) (n cap n2 c2 : Nat) (L P : List Int) (hL : WfL L) (w : World) (h : IntAt w w.heap.size A n L) (h2 : IntAt w w.heap.size A2 n2 P) (hn : n ≤ 1000000000) (hn2 : n2 ≤ 1000000000) :
    Calls Try.prog 22 #[.agg #[.int .i64 W, .int .i64 H, .slice A n cap], .agg #[.slice A2 n2 c2]] w (RetI (longG W H L P) none w) := by
  have HT1 := Lib.hid (h.twoI (W := W) (H := H) (A := A) (A2 := A2) (n := n) (cap := cap) (n2 := n2) (c2 := c2))
  have HT2 := Lib.hid (h2.twoI (W := W) (H := H) (A := A) (A2 := A2) (n := n) (cap := cap) (n2 := n2) (c2 := c2))
  have HWK := Lib.hid (fun w h h2 => implWalksOf W H A A2 n cap n2 c2 L P hL w h h2 hn hn2)
  have HRES := Lib.hid (mxW_all W H L P)
  have hN256 := wlkN_small W H L P
  have TZ := Lib.hid (twoI_size (W := W) (H := H) (A := A) (A2 := A2) (n := n) (cap := cap) (n2 := n2) (c2 := c2) (w := w))
  obtain ⟨N, hN⟩ : ∃ N, wlkN W H L P = N := ⟨_, rfl⟩
  rw [hN] at HWK HRES hN256
  clear h h2 hL hN
  go_enter Try.func22, Try.ntmps22
  go_wp2_with fail
  refine (HWK.out _ HT1.out HT2.out).mono ?_
  rintro e w1 ⟨va, rfl, hl1, hb1⟩
  obtain ⟨Aw, cw, rfl, _⟩ := hl1.form
  have X1 := Lib.hid (show WkAt W H A A2 n cap n2 c2 L P w Aw N cw w1 from ⟨by rw [TZ.out] at hl1; exact hl1, twoI_new hb1⟩)
  clear hl1 hb1
  go_wp2_with fail
  go_loopw [5, 12] (fun m i wr => ∃ k : Nat, m = .int .i64 (mxW W H L P k) ∧ i = .int .i64 (k : Int) ∧ k ≤ N ∧ WkAt W H A A2 n cap n2 c2 L P w Aw N cw wr) (fun _ i _ => 257 - (intOf i).toNat)
  case atStart => exact ⟨0, rfl, rfl, Nat.zero_le _, X1.out⟩
  case round =>
    obtain ⟨k, rfl, rfl, hk, hx⟩ := hrel
    have X2 := Lib.hid hx
    clear hx
    by_cases hlt : k < N
    · obtain ⟨R, hR⟩ : ∃ R, pairW W H L P k = R := ⟨_, rfl⟩
      obtain ⟨gw, B, d, hA, hc⟩ := X2.out.one hlt hR
      subst hA
      have hnx := mxW_next hR
      have HNX := Lib.hid hnx
      have k0 : (0 : Int) ≤ (k : Int) := by omega
      have k1 : (k : Int) < (N : Int) := by omega
      obtain ⟨M, hM⟩ : ∃ M, R.length = M := ⟨_, rfl⟩
      obtain ⟨q, hq⟩ : ∃ q, mxW W H L P k = q := ⟨_, rfl⟩
      rw [hM] at hc
      rw [hM, hq] at HNX
      rw [hq]
      clear hnx hR hM hq
      go_wp2_with fail
      go_roundw
      case rel => exact ⟨k + 1, by rw [← HNX.out]; first | rfl | (rw [int_max]) | (rw [← int_maxW]), by go_num, by omega, X2.out⟩
      case measure => simp [intOf]; omega
    · obtain rfl : k = N := by omega
      go_wp2_with fail
      go_ret
      exact ⟨ret_int64 HRES.out, twoI_old X2.out.2⟩
end Go.Proofs.Ytecaehkckamhkaa
