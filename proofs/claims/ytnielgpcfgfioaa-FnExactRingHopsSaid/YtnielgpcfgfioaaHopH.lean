/- What is proved here: the laws' look for the marks in lists of hops; only new blocks are written. -/
import Derived.Test.YtnielgpcfgfioaaHopI
namespace Go.Proofs.Ytnielgpcfgfioaa
open Go.ChangeShapes Go.WideShapes Go.ChangeAt Go.RowKit
set_option linter.unusedVariables false
set_option maxRecDepth 20000

theorem lawsHeldHp (A : Option Addr) (n cap B k0 : Nat) (w : World) (h : DepAt w B A n (marksD k0 n)) (hk : k0 + n * 2 ≤ 1000000000) :
    Calls Try.prog 18 #[.slice A n cap, .int .i64 (k0 : Int)] w fun e w' => e = .returned (.int .i64 ((k0 + n * 2 : Nat) : Int)) ∧ w.grownBy w' none := by
  have H0 := Lib.hid h
  clear h
  go_enter Try.func18, Try.ntmps18
  go_wp2_with fail
  go_loopw [1, 5] (fun q i wr => ∃ j m : Nat, j ≤ n ∧ q = .int .i64 ((k0 + j * 2 : Nat) : Int) ∧ i = .int .i64 (j : Int) ∧ wr = w.drewN m) (fun _ i _ => n - (intOf i).toNat)
  case atStart => exact ⟨0, 0, Nat.zero_le _, rfl, rfl, rfl⟩
  case round =>
    obtain ⟨j, m, hj, rfl, rfl, rfl⟩ := hrel
    by_cases hlt : j < n
    · obtain ⟨g, off, rfl, _, hc0, hc1⟩ := H0.out.at j hlt
      rw [marksD_get k0 n j hlt] at hc0 hc1
      obtain ⟨y, hy⟩ : ∃ y : Nat, k0 + j * 2 = y := ⟨_, rfl⟩
      rw [hy] at hc0 hc1
      have HY := Lib.hid hy
      have j0 : (0 : Int) ≤ (j : Int) := by omega
      have j1 : (j : Int) < (n : Int) := by omega
      have hy9 : y + 2 ≤ 1000000002 := by omega
      rw [hy]
      clear hy
      have d0 : (w.drewN m).cell? ⟨g, off + j * 2, none⟩ = some (.int .i64 (y : Int)) := hc0
      have d1 : (w.drewN m).cell? ⟨g, off + j * 2 + 1, none⟩ = some (.int .i64 ((y : Int) + 1)) := hc1
      clear hc0 hc1
      go_wp2_with fail
      go_roundw
      case rel => exact ⟨j + 1, _, by omega, by have := HY.out; go_num, by go_num, rfl⟩
      case measure => simp [intOf]; omega
    · obtain rfl : j = n := by omega
      go_wp2_with fail
      go_ret
      exact ⟨rfl, gb_drewN (gb_refl _ _) _⟩

theorem lawsHeldOwnHp (v : Value) (base n k0 : Nat) (w : World) (h : w.ownsRow base 31 2 v n (depV (marksD k0 n))) (hk : k0 + n * 2 ≤ 1000000000) :
    Calls Try.prog 18 #[v, .int .i64 (k0 : Int)] w fun e w' => e = .returned (.int .i64 ((k0 + n * 2 : Nat) : Int)) ∧ w.grownBy w' none := by
  obtain ⟨A, c, rfl, _⟩ := own_form h
  exact lawsHeldHp A n c _ k0 w (hopAt_own h (Nat.le_refl _)) hk
end Go.Proofs.Ytnielgpcfgfioaa
