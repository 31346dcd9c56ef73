/- What is proved here: what the model's RisesAlong and RankRule return, for all arguments; only new blocks are written. -/
import Derived.Test.YtpcmkilaapjaaaaOrdM
import Derived.Test.YtpcmkilaapjaaaaIntAt
import Derived.Test.YtpcmkilaapjaaaaGridS
import Derived.Test.YtpcmkilaapjaaaaNextS
namespace Go.Proofs.Ytpcmkilaapjaaaa
open Go.ChangeShapes Go.WideShapes Go.ChangeAt Go.RowKit
set_option linter.unusedVariables false
set_option maxRecDepth 20000

set_option maxHeartbeats 1600000 in
theorem specRises (AR AT : Option Addr) (nR cR nT cT : Nat) (R T : List Int) (w : World) (hR : IntAt w w.heap.size AR nR R) (hT : IntAt w w.heap.size AT nT T) (hnR : nR ≤ 1000000000) (hnT : nT ≤ 1000000000) :
    Calls Try.prog 31 #[.slice AR nR cR, .slice AT nT cT] w (RetB (risesO R T) w) := by
  have hRl := hR.1
  have hTl := hT.1
  have HR := Lib.hid hR
  have HT := Lib.hid hT
  have HYES := Lib.hid (risesO_of (R := R) (T := T))
  have HNO := Lib.hid (fun i hi h => risesO_not (R := R) (T := T) (i := i) hi h)
  have HIV := Lib.hid (fun (x hi : Int) (b : Bool) (hb : decide (0 ≤ x ∧ x ≤ hi) = b) w => specInV x 0 hi b hb w)
  have HUP := Lib.hid (fun i => show upO R T i = (decide (0 ≤ T.getD i 0 ∧ T.getD i 0 ≤ (nR : Int) - 1) && (decide (i = 0) || decide (R.getD (T.getD (i - 1) 0).toNat 0 < R.getD (T.getD i 0).toNat 0))) by unfold upO; rw [hRl])
  obtain ⟨b, hb⟩ : ∃ b, risesO R T = b := ⟨_, rfl⟩
  rw [hb] at HYES HNO
  rw [hb]
  have e0 : IntKind.i64.wrap ((nR : Int) - 1) = (nR : Int) - 1 := IntWalk.i64_in _ (by omega)
  clear hR hT hb
  go_enter Try.func31, Try.ntmps31
  go_wp2_with fail
  go_loopw [5] (fun i wr => ∃ k : Nat, i = .int .i64 (k : Int) ∧ k ≤ nT ∧ (∀ j, j < k → upO R T j = true) ∧ w.grownBy wr none) (fun i _ => nT - (intOf i).toNat)
  case atStart => exact ⟨0, rfl, Nat.zero_le _, fun j h => by omega, gb_refl _ _⟩
  case round =>
    obtain ⟨k, rfl, hk, hall, hg⟩ := hrel
    have HS := Lib.hid hall
    have HG := Lib.hid hg
    clear hall hg
    by_cases hlt : k < nT
    · obtain ⟨b1, off, rfl, hb1, c0⟩ := (HT.out.none (Nat.le_refl _) HG.out).at k hlt
      obtain ⟨x, hx⟩ : ∃ x, T.getD k 0 = x := ⟨_, rfl⟩
      have hup := HUP.out k
      rw [hx] at c0 hup
      have k0 : (0 : Int) ≤ (k : Int) := by omega
      have k1 : (k : Int) < (nT : Int) := by omega
      cases hin : decide (0 ≤ x ∧ x ≤ (nR : Int) - 1) with
      | false =>
        have HB := Lib.hid (HNO.out k (by omega) (by rw [hup, hin, Bool.false_and]))
        have HI := Lib.hid (fun w => HIV.out x ((nR : Int) - 1) false hin w)
        clear hin hup hx
        go_wp2_with fail
        go_quiet (first
          | (with_reducible refine Calls.quiet_of_same (still_of (HI.out _))))
        go_wp2_with fail
        go_ret
        exact ⟨ret_bool HB.out.symm, gb_drewN HG.out _⟩
      | true =>
        have hxx := of_decide_eq_true hin
        have HI := Lib.hid (fun w => HIV.out x ((nR : Int) - 1) true hin w)
        by_cases h0 : k = 0
        · have HB := Lib.hid (show upO R T k = true by rw [hup, hin, decide_eq_true h0]; rfl)
          have H0 := Lib.hid h0
          have hd : decide (0 < k) = false := decide_eq_false (by omega)
          clear hin hup hx h0 hxx
          go_wp2_with fail
          go_quiet (first
            | (with_reducible refine Calls.quiet_of_same (still_of (HI.out _))))
          go_wp2_with fail
          go_roundw
          case rel => exact ⟨k + 1, by go_num, by omega, fun j hj => by have h0 := H0.out; obtain rfl : j = k := (by omega); exact HB.out, gb_drewN HG.out _⟩
          case measure => simp [intOf]; omega
        · obtain ⟨m, hm⟩ : ∃ m, k = m + 1 := ⟨k - 1, by omega⟩
          obtain ⟨_, _, hA, _, c1⟩ := (HT.out.none (Nat.le_refl _) HG.out).at m (by omega)
          injection hA with hA
          injection hA with hA1 hA2
          subst hA1
          subst hA2
          obtain ⟨y, hy⟩ : ∃ y, T.getD m 0 = y := ⟨_, rfl⟩
          rw [hy] at c1
          have hym := HUP.out m
          rw [HS.out m (by omega), hy] at hym
          have hy2 : 0 ≤ y ∧ y ≤ (nR : Int) - 1 := by
            have := hym.symm
            simp only [Bool.and_eq_true, decide_eq_true_eq] at this
            exact this.1
          obtain ⟨p, hp⟩ : ∃ p : Nat, x = (p : Int) := ⟨x.toNat, by omega⟩
          obtain ⟨q, hq⟩ : ∃ q : Nat, y = (q : Int) := ⟨y.toNat, by omega⟩
          obtain ⟨b2, off2, rfl, hb2, d0⟩ := (HR.out.none (Nat.le_refl _) HG.out).at p (by omega)
          obtain ⟨_, _, hA, _, d1⟩ := (HR.out.none (Nat.le_refl _) HG.out).at q (by omega)
          injection hA with hA
          injection hA with hA1 hA2
          subst hA1
          subst hA2
          obtain ⟨u, hu⟩ : ∃ u, R.getD p 0 = u := ⟨_, rfl⟩
          obtain ⟨v, hv⟩ : ∃ v, R.getD q 0 = v := ⟨_, rfl⟩
          rw [hu] at d0
          rw [hv] at d1
          have hst : upO R T k = decide (v < u) := by
            have e1 : decide (k = 0) = false := decide_eq_false h0
            rw [hup, hin, e1, Bool.true_and, Bool.false_or, show k - 1 = m by omega, hy, hp, hq, Int.toNat_natCast, Int.toNat_natCast, hu, hv]
          have m0 : (0 : Int) ≤ (m : Int) := by omega
          have m1 : (m : Int) < (nT : Int) := by omega
          have p0 : (0 : Int) ≤ (p : Int) := by omega
          have p1 : (p : Int) < (nR : Int) := by omega
          have q0 : (0 : Int) ≤ (q : Int) := by omega
          have q1 : (q : Int) < (nR : Int) := by omega
          have e2 : IntKind.i64.wrap ((k : Int) - 1) = (m : Int) := by rw [IntWalk.i64_in _ (by omega)]; omega
          have hd : decide (0 < k) = true := decide_eq_true (by omega)
          have hpos : (0 : Int) < (k : Int) := by omega
          have HM := Lib.hid hm
          have HI2 := Lib.hid (fun w => show Calls Try.prog 54 #[.int .i64 (p : Int), .int .i64 0, .int .i64 ((nR : Int) - 1)] w _ from hp ▸ HI.out w)
          rw [hp] at c0
          rw [hq] at c1
          clear hin hup hx h0 hxx hy hym hy2 hp hq hu hv hm HI
          by_cases huv : v < u
          · have HB := Lib.hid (hst.trans (decide_eq_true huv))
            have hge : ¬ u ≤ v := by omega
            clear hst
            go_wp2_with fail
            go_quiet (first
              | (with_reducible refine Calls.quiet_of_same (still_of (HI2.out _))))
            go_wp2_with fail
            go_roundw
            case rel => exact ⟨k + 1, by go_num, by omega, fun j hj => by rcases Nat.lt_succ_iff_lt_or_eq.1 hj with h | h; exact HS.out j h; rw [h]; exact HB.out, gb_drewN HG.out _⟩
            case measure => simp [intOf]; omega
          · have HB := Lib.hid (HNO.out k (by omega) (hst.trans (decide_eq_false huv)))
            have hge : u ≤ v := by omega
            clear hst
            go_wp2_with fail
            go_quiet (first
              | (with_reducible refine Calls.quiet_of_same (still_of (HI2.out _))))
            go_wp2_with fail
            go_ret
            exact ⟨ret_bool HB.out.symm, gb_drewN HG.out _⟩
    · obtain rfl : k = nT := by omega
      have HB := Lib.hid (HYES.out (fun j hj => HS.out j (by omega)))
      go_wp2_with fail
      go_ret
      exact ⟨ret_bool HB.out.symm, HG.out⟩
end Go.Proofs.Ytpcmkilaapjaaaa
