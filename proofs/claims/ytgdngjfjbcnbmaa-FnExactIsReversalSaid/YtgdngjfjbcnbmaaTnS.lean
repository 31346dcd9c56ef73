/- What is proved here: what the model's IsReversal and TurnName return, for all arguments; only new blocks are written. -/
import Derived.Test.YtgdngjfjbcnbmaaTurnM
import Derived.Test.YtgdngjfjbcnbmaaOppS
import Derived.Test.YtgdngjfjbcnbmaaPnS
namespace Go.Proofs.Ytgdngjfjbcnbmaa
open Go.ChangeShapes Go.WideShapes Go.ChangeAt Go.RowKit
set_option linter.unusedVariables false

theorem specIsReversal (x : Int) (w : World) : Calls Try.prog 31 #[.int .i64 x] w (RetB (backT x) w) := by
  by_cases hx : 0 ≤ x ∧ x ≤ 15
  · obtain ⟨p, hp⟩ : ∃ p, x / 4 = p := ⟨_, rfl⟩
    obtain ⟨q, hq⟩ : ∃ q, x % 4 = q := ⟨_, rfl⟩
    obtain ⟨o, ho⟩ : ∃ o, oppG p = o := ⟨_, rfl⟩
    have HB := Lib.hid (show backT x = (q == o) by rw [backT, decide_eq_true hx, Bool.true_and, hp, hq, ho]; rfl)
    have hb : decide (0 ≤ x ∧ x ≤ 15) = true := decide_eq_true hx
    have HIn := Lib.hid (fun w => specInV x 0 15 true hb w)
    have HO := Lib.hid (fun w => ho ▸ specOpposite p w)
    have t1 : x.tdiv 4 = p := by rw [Int.tdiv_eq_ediv_of_nonneg hx.1, hp]
    have t2 : x.tmod 4 = q := by rw [Int.tmod_eq_emod_of_nonneg hx.1, hq]
    have p0 : 0 ≤ p := by omega
    have p3 : p ≤ 3 := by omega
    have q0 : 0 ≤ q := by omega
    have q3 : q ≤ 3 := by omega
    clear hx hp hq ho hb
    go_enter Try.func31, Try.ntmps31
    go_wp2_with fail
    refine (HIn.out _).mono ?_
    rintro e w1 ⟨rfl, rfl⟩
    go_wp2_with fail
    refine (HO.out _).mono ?_
    rintro e w2 ⟨rfl, rfl⟩
    go_wp2_with fail
    go_ret
    exact ⟨ret_bool HB.out.symm, gb_refl _ _⟩
  · have HB := Lib.hid (show backT x = false by rw [backT, decide_eq_false hx, Bool.false_and])
    have hb : decide (0 ≤ x ∧ x ≤ 15) = false := decide_eq_false hx
    have HIn := Lib.hid (fun w => specInV x 0 15 false hb w)
    clear hx hb
    go_enter Try.func31, Try.ntmps31
    go_wp2_with fail
    refine (HIn.out _).mono ?_
    rintro e w1 ⟨rfl, rfl⟩
    go_wp2_with fail
    go_ret
    exact ⟨ret_bool HB.out.symm, gb_refl _ _⟩

theorem specTurnName (x : Int) (w : World) : Calls Try.prog 32 #[.int .i64 x] w (RetS (nameT x) w) := by
  by_cases hx : 0 ≤ x ∧ x ≤ 15
  · obtain ⟨p, hp⟩ : ∃ p, x / 4 = p := ⟨_, rfl⟩
    obtain ⟨q, hq⟩ : ∃ q, x % 4 = q := ⟨_, rfl⟩
    have hb : decide (0 ≤ x ∧ x ≤ 15) = true := decide_eq_true hx
    have HIn := Lib.hid (fun w => specInV x 0 15 true hb w)
    have t1 : x.tdiv 4 = p := by rw [Int.tdiv_eq_ediv_of_nonneg hx.1, hp]
    have t2 : x.tmod 4 = q := by rw [Int.tmod_eq_emod_of_nonneg hx.1, hq]
    have p0 : 0 ≤ p := by omega
    have p3 : p ≤ 3 := by omega
    have q0 : 0 ≤ q := by omega
    have q3 : q ≤ 3 := by omega
    by_cases hpq : p = q
    · have HV := Lib.hid (show nameT x = ⟨#[]⟩ by rw [nameT, if_neg]; simp [hp, hq, hpq])
      clear hx hp hq hb
      subst hpq
      go_enter Try.func32, Try.ntmps32
      go_wp2_with fail
      refine (HIn.out _).mono ?_
      rintro e w1 ⟨rfl, rfl⟩
      go_wp2_with fail
      go_ret
      exact ⟨by rw [HV.out]; rfl, gb_refl _ _⟩
    · have HV := Lib.hid (show nameT x = portB p ++ ⟨#[45]⟩ ++ portB q by rw [nameT, if_pos, hp, hq]; simp [hx, hp, hq, hpq])
      have H1 := Lib.hid (fun w => specPortName p w)
      have H2 := Lib.hid (fun w => specPortName q w)
      have L1 := Lib.hid (portB_size p)
      have L2 := Lib.hid (portB_size q)
      have hpe : (p == q) = false := by simpa using hpq
      clear hx hp hq hb hpq
      obtain ⟨s, hs⟩ : ∃ s, portB p = s := ⟨_, rfl⟩
      obtain ⟨t, ht⟩ : ∃ t, portB q = t := ⟨_, rfl⟩
      rw [hs] at H1 L1 HV
      rw [ht] at H2 L2 HV
      clear hs ht
      go_enter Try.func32, Try.ntmps32
      go_wp2_with fail
      refine (HIn.out _).mono ?_
      rintro e w1 ⟨rfl, rfl⟩
      go_wp2_with fail
      refine (H1.out _).mono ?_
      rintro e w1 ⟨rfl, hg1⟩
      have G1 := Lib.hid hg1
      clear hg1
      have s1 := L1.out
      go_wp2_with fail
      refine (H2.out _).mono ?_
      rintro e w2 ⟨rfl, hg2⟩
      have G2 := Lib.hid (G1.out.trans hg2)
      clear hg2
      have s2 := L2.out
      go_wp2_with fail
      go_ret
      exact ⟨by rw [HV.out]; rfl, G2.out⟩
  · have HV := Lib.hid (show nameT x = ⟨#[]⟩ by rw [nameT, decide_eq_false hx]; rfl)
    have hb : decide (0 ≤ x ∧ x ≤ 15) = false := decide_eq_false hx
    have HIn := Lib.hid (fun w => specInV x 0 15 false hb w)
    clear hx hb
    go_enter Try.func32, Try.ntmps32
    go_wp2_with fail
    refine (HIn.out _).mono ?_
    rintro e w1 ⟨rfl, rfl⟩
    go_wp2_with fail
    go_ret
    exact ⟨by rw [HV.out]; rfl, gb_refl _ _⟩
end Go.Proofs.Ytgdngjfjbcnbmaa
