/- What is proved here: what the model's BufferAt and l15Sum return; only new blocks are written. -/
import Derived.Test.YtffnbmaoainhmaaNetM
import Derived.Test.YtffnbmaoainhmaaInS
namespace Go.Proofs.Ytffnbmaoainhmaa
open Go.ChangeShapes Go.WideShapes Go.ChangeAt Go.RowKit
set_option linter.unusedVariables false
set_option maxRecDepth 20000

theorem specBufferAt (n p c : Int) (w : World) :
    Calls Try.prog 17 #[.int .i64 n, .int .i64 p, .int .i64 c] w (RetI (bufN n p c) none w) := by
  have HR := Lib.hid (fun (x lo hi : Int) (b : Bool) (hb : decide (lo ≤ x ∧ x ≤ hi) = b) w => specInV x lo hi b hb w)
  cases h1 : decide (0 ≤ n ∧ n ≤ 15) with
  | false =>
    have hr : bufN n p c = -1 := if_neg (fun h => of_decide_eq_false h1 h.1)
    have H1 := Lib.hid (HR.out n 0 15 false h1)
    rw [hr]
    clear h1
    go_enter Try.func17, Try.ntmps17
    go_wp2_with fail
    refine (H1.out _).mono ?_
    rintro e w1 ⟨rfl, rfl⟩
    go_wp2_with fail
    go_ret
    exact ⟨rfl, gb_refl _ _⟩
  | true =>
    have hn := of_decide_eq_true h1
    have H1 := Lib.hid (HR.out n 0 15 true h1)
    cases h2 : decide (0 ≤ p ∧ p ≤ 4) with
    | false =>
      have hr : bufN n p c = -1 := if_neg (fun h => of_decide_eq_false h2 h.2.1)
      have H2 := Lib.hid (HR.out p 0 4 false h2)
      rw [hr]
      clear h1 h2
      go_enter Try.func17, Try.ntmps17
      go_wp2_with fail
      refine (H1.out _).mono ?_
      rintro e w1 ⟨rfl, rfl⟩
      go_wp2_with fail
      refine (H2.out _).mono ?_
      rintro e w1 ⟨rfl, rfl⟩
      go_wp2_with fail
      go_ret
      exact ⟨rfl, gb_refl _ _⟩
    | true =>
      have hp := of_decide_eq_true h2
      have H2 := Lib.hid (HR.out p 0 4 true h2)
      cases h3 : decide (0 ≤ c ∧ c ≤ 1) with
      | false =>
        have hr : bufN n p c = -1 := if_neg (fun h => of_decide_eq_false h3 h.2.2)
        have H3 := Lib.hid (HR.out c 0 1 false h3)
        rw [hr]
        clear h1 h2 h3
        go_enter Try.func17, Try.ntmps17
        go_wp2_with fail
        refine (H1.out _).mono ?_
        rintro e w1 ⟨rfl, rfl⟩
        go_wp2_with fail
        refine (H2.out _).mono ?_
        rintro e w1 ⟨rfl, rfl⟩
        go_wp2_with fail
        refine (H3.out _).mono ?_
        rintro e w1 ⟨rfl, rfl⟩
        go_wp2_with fail
        go_ret
        exact ⟨rfl, gb_refl _ _⟩
      | true =>
        have hc := of_decide_eq_true h3
        have H3 := Lib.hid (HR.out c 0 1 true h3)
        have hr : bufN n p c = (5 * n + p) * 2 + c := if_pos ⟨hn, hp, hc⟩
        rw [hr]
        have e1 : wrap64 (5 * n) = 5 * n := IntWalk.wrap64_in _ (by omega)
        have e2 : IntKind.i64.wrap (5 * n) = 5 * n := IntWalk.i64_in _ (by omega)
        have e3 : IntKind.i64.wrap (5 * n + p) = 5 * n + p := IntWalk.i64_in _ (by omega)
        have e4 : wrap64 ((5 * n + p) * 2) = (5 * n + p) * 2 := IntWalk.wrap64_in _ (by omega)
        have e5 : IntKind.i64.wrap ((5 * n + p) * 2) = (5 * n + p) * 2 := IntWalk.i64_in _ (by omega)
        have e6 : IntKind.i64.wrap ((5 * n + p) * 2 + c) = (5 * n + p) * 2 + c := IntWalk.i64_in _ (by omega)
        clear h1 h2 h3
        go_enter Try.func17, Try.ntmps17
        go_wp2_with fail
        refine (H1.out _).mono ?_
        rintro e w1 ⟨rfl, rfl⟩
        go_wp2_with fail
        refine (H2.out _).mono ?_
        rintro e w1 ⟨rfl, rfl⟩
        go_wp2_with fail
        refine (H3.out _).mono ?_
        rintro e w1 ⟨rfl, rfl⟩
        go_wp2_with fail
        go_ret
        exact ⟨rfl, gb_refl _ _⟩
set_option maxHeartbeats 1600000 in
theorem specSum (A : Option Addr) (n cap : Nat) (DD : List (List Flt)) (w : World) (h : RecsAt 5 fltC w w.heap.size A n DD) (hn : n ≤ 1000000000) (hs : sumL DD ≤ 1000000000) :
    Calls Try.prog 71 #[.slice A n cap] w (RetI (sumL DD : Int) none w) := by
  have HI := Lib.hid h
  have hl := h.1
  have HZ := Lib.hid (sumL_zero DD)
  clear h
  go_enter Try.func71, Try.ntmps71
  go_wp2_with fail
  go_loopw [3, 4] (fun c i wr => ∃ k : Nat, i = .int .i64 (k : Int) ∧ k ≤ n ∧ c = .int .i64 (sumL (DD.take k) : Int) ∧ w.grownBy wr none) (fun _ i _ => n - (intOf i).toNat)
  case atStart => exact ⟨0, rfl, Nat.zero_le _, by rw [HZ.out]; rfl, gb_refl _ _⟩
  case round =>
    obtain ⟨k, rfl, hk, rfl, hg⟩ := hrel
    have HG := Lib.hid hg
    obtain ⟨t, ht⟩ : ∃ t, sumL (DD.take k) = t := ⟨_, rfl⟩
    by_cases hlt : k < n
    · obtain ⟨b, off, D, A', c', rfl, _, hD, hc, _, _⟩ := (HI.out.none (Nat.le_refl _) hg).at k hlt
      have hat := sumL_at hD
      have HNX := Lib.hid (sumL_next hD)
      rw [ht] at hat HNX ⊢
      obtain ⟨x, hx⟩ : ∃ x, D.length = x := ⟨_, rfl⟩
      rw [hx] at hc hat HNX
      have e1 : IntKind.i64.wrap ((t : Int) + (x : Int)) = ((t + x : Nat) : Int) := by rw [IntWalk.i64_in _ (by omega)]; omega
      have k0 : (0 : Int) ≤ (k : Int) := by omega
      have k1 : (k : Int) < (n : Int) := by omega
      clear hD hg ht hx hat
      go_wp2_with fail
      go_roundw
      case rel => exact ⟨k + 1, by go_num, by omega, by rw [HNX.out]; simp, by first | exact HG.out | exact gb_drewN HG.out _⟩
      case measure => simp [intOf]; omega
    · have hkn : k = n := by omega
      have HR := Lib.hid (show sumL (DD.take k) = sumL DD by rw [hkn, ← hl, sumL_all])
      have k1 : ¬ (k : Int) < (n : Int) := by omega
      clear hg ht hkn
      go_wp2_with fail
      go_ret
      exact ⟨by rw [HR.out]; rfl, HG.out⟩
end Go.Proofs.Ytffnbmaoainhmaa
