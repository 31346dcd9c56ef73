/- What is proved here: the laws' look for the marks in lists of packets, and their copies of such lists; only new blocks are written. -/
import Derived.Test.YtfloekbmgjmhbaaPksK
namespace Go.Proofs.Ytfloekbmgjmhbaa
open Go.ChangeShapes Go.WideShapes Go.ChangeAt Go.RowKit
set_option linter.unusedVariables false
set_option maxRecDepth 20000

set_option maxHeartbeats 1600000 in
theorem lawsHeldP (A : Option Addr) (n cap B k0 : Nat) (w : World) (h : RecAt 5 pktC w B A n (marksP k0 n)) (hk : k0 + n * 5 ≤ 1000000000) :
    Calls Try.prog 29 #[.slice A n cap, .int .i64 (k0 : Int)] w fun e w' => e = .returned (.int .i64 ((k0 + n * 5 : Nat) : Int)) ∧ w.grownBy w' none := by
  have H0 := Lib.hid h
  clear h
  go_enter Try.func29, Try.ntmps29
  go_wp2_with fail
  go_loopw [1, 5] (fun q i wr => ∃ j m : Nat, j ≤ n ∧ q = .int .i64 ((k0 + j * 5 : Nat) : Int) ∧ i = .int .i64 (j : Int) ∧ wr = w.drewN m) (fun _ i _ => n - (intOf i).toNat)
  case atStart => exact ⟨0, 0, Nat.zero_le _, rfl, rfl, rfl⟩
  case round =>
    obtain ⟨j, m, hj, rfl, rfl, rfl⟩ := hrel
    by_cases hlt : j < n
    · obtain ⟨g, off, x, rfl, _, hx, hc⟩ := H0.out.at j hlt
      rw [marksP_get k0 n j hlt] at hx
      have hx' := Option.some.inj hx
      subst hx'
      obtain ⟨c0, c1, c2, c3, c4⟩ := pkt_five hc
      obtain ⟨y, hy⟩ : ∃ y : Nat, k0 + j * 5 = y := ⟨_, rfl⟩
      have hy9 : y + 5 ≤ 1000000005 := by omega
      obtain ⟨y1, e1⟩ : ∃ z, y + 1 = z := ⟨_, rfl⟩
      obtain ⟨y2, e2⟩ : ∃ z, y + 2 = z := ⟨_, rfl⟩
      obtain ⟨y3, e3⟩ : ∃ z, y + 3 = z := ⟨_, rfl⟩
      obtain ⟨y4, e4⟩ : ∃ z, y + 4 = z := ⟨_, rfl⟩
      obtain ⟨y5, e5⟩ : ∃ z, y + 5 = z := ⟨_, rfl⟩
      simp only [mkP, hy, e1, e2, e3, e4] at c0 c1 c2 c3 c4
      have v1 : IntKind.i64.wrap ((y : Int) + 1) = (y1 : Int) := by rw [IntWalk.i64_in _ (by omega)]; omega
      have v2 : IntKind.i64.wrap ((y1 : Int) + 1) = (y2 : Int) := by rw [IntWalk.i64_in _ (by omega)]; omega
      have v3 : IntKind.i64.wrap ((y2 : Int) + 1) = (y3 : Int) := by rw [IntWalk.i64_in _ (by omega)]; omega
      have v4 : IntKind.i64.wrap ((y3 : Int) + 1) = (y4 : Int) := by rw [IntWalk.i64_in _ (by omega)]; omega
      have v5 : IntKind.i64.wrap ((y4 : Int) + 1) = (y5 : Int) := by rw [IntWalk.i64_in _ (by omega)]; omega
      have HY := Lib.hid hy
      have HY5 := Lib.hid (show y + 5 = y5 from e5)
      have j0 : (0 : Int) ≤ (j : Int) := by omega
      have j1 : (j : Int) < (n : Int) := by omega
      rw [hy]
      have d0 : (w.drewN m).cell? ⟨g, off + j * 5, none⟩ = some (.int .i64 (y : Int)) := c0
      have d1 : (w.drewN m).cell? ⟨g, off + j * 5 + 1, none⟩ = some (.int .i64 (y1 : Int)) := c1
      have d2 : (w.drewN m).cell? ⟨g, off + j * 5 + 2, none⟩ = some (.int .i64 (y2 : Int)) := c2
      have d3 : (w.drewN m).cell? ⟨g, off + j * 5 + 3, none⟩ = some (.int .i64 (y3 : Int)) := c3
      have d4 : (w.drewN m).cell? ⟨g, off + j * 5 + 4, none⟩ = some (.int .i64 (y4 : Int)) := c4
      clear c0 c1 c2 c3 c4 hc hx hy e1 e2 e3 e4 e5
      go_wp2_with fail
      go_roundw
      case rel => exact ⟨j + 1, _, by omega, by have h1 := HY.out; have h2 := HY5.out; go_num, by go_num, rfl⟩
      case measure => simp [intOf]; omega
    · obtain rfl : j = n := by omega
      go_wp2_with fail
      go_ret
      exact ⟨rfl, gb_drewN (gb_refl _ _) _⟩
theorem lawsHeldOwnP (v : Value) (base n k0 : Nat) (w : World) (h : w.ownsRow base 44 5 v n (recV pktC (marksP k0 n))) (hk : k0 + n * 5 ≤ 1000000000) :
    Calls Try.prog 29 #[v, .int .i64 (k0 : Int)] w fun e w' => e = .returned (.int .i64 ((k0 + n * 5 : Nat) : Int)) ∧ w.grownBy w' none := by
  obtain ⟨A, c, rfl, _⟩ := own_form h
  exact lawsHeldP A n c _ k0 w (recAt_own pktL (by decide) h (Nat.le_refl _)) hk
end Go.Proofs.Ytfloekbmgjmhbaa
