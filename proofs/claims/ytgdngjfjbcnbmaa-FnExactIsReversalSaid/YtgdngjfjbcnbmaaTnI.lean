/- What is proved here: what the program's IsReversal and TurnName return, for all arguments; only new blocks are written. -/
import Derived.Test.YtgdngjfjbcnbmaaTurnM
import Derived.Test.YtgdngjfjbcnbmaaOppI
import Derived.Test.YtgdngjfjbcnbmaaPnI
namespace Go.Proofs.Ytgdngjfjbcnbmaa
open Go.ChangeShapes Go.WideShapes Go.ChangeAt Go.RowKit
set_option linter.unusedVariables false

theorem implTurnPorts (x p q : Int) (h0 : 0 ≤ x) (h1 : x ≤ 15) (hp : x / 4 = p) (hq : x % 4 = q) (w : World) :
    Calls Try.prog 47 #[.int .i64 x] w fun e w' => e = .returned (.tuple #[.int .i64 p, .int .i64 q, .bool true]) ∧ w = w' := by
  have t1 : x.tdiv 4 = p := by rw [Int.tdiv_eq_ediv_of_nonneg h0, hp]
  have t2 : x.tmod 4 = q := by rw [Int.tmod_eq_emod_of_nonneg h0, hq]
  have p0 : 0 ≤ p := by omega
  have p3 : p ≤ 3 := by omega
  have q0 : 0 ≤ q := by omega
  have q3 : q ≤ 3 := by omega
  have n0 : ¬ x < 0 := by omega
  have n1 : ¬ x ≥ 16 := by omega
  clear hp hq
  go_enter Try.func47, Try.ntmps47
  go_wp2_with fail
  go_ret3
  exact ⟨rfl, rfl⟩
theorem implTurnPortsNo (x : Int) (h : ¬ (0 ≤ x ∧ x ≤ 15)) (w : World) :
    Calls Try.prog 47 #[.int .i64 x] w fun e w' => e = .returned (.tuple #[.int .i64 0, .int .i64 0, .bool false]) ∧ w = w' := by
  by_cases hx : x < 0
  · go_enter Try.func47, Try.ntmps47
    go_wp2_with fail
    go_ret3
    exact ⟨rfl, rfl⟩
  · have hx2 : x ≥ 16 := by omega
    go_enter Try.func47, Try.ntmps47
    go_wp2_with fail
    go_ret3
    exact ⟨rfl, rfl⟩

theorem implIsReversal (x : Int) (w : World) : Calls Try.prog 16 #[.int .i64 x] w (RetB (backT x) w) := by
  by_cases hx : 0 ≤ x ∧ x ≤ 15
  · obtain ⟨p, hp⟩ : ∃ p, x / 4 = p := ⟨_, rfl⟩
    obtain ⟨q, hq⟩ : ∃ q, x % 4 = q := ⟨_, rfl⟩
    obtain ⟨o, ho⟩ : ∃ o, oppG p = o := ⟨_, rfl⟩
    have HB := Lib.hid (show backT x = (q == o) by rw [backT, decide_eq_true hx, Bool.true_and, hp, hq, ho]; rfl)
    have HP := Lib.hid (fun w => implTurnPorts x p q hx.1 hx.2 hp hq w)
    have HO := Lib.hid (fun w => ho ▸ implOpposite p w)
    clear hx hp hq ho
    go_enter Try.func16, Try.ntmps16
    go_wp2_with fail
    refine (HP.out _).mono ?_
    rintro e w1 ⟨rfl, rfl⟩
    go_wp2_with fail
    refine (HO.out _).mono ?_
    rintro e w2 ⟨rfl, hg⟩
    have HG := Lib.hid hg
    clear hg
    go_wp2_with fail
    go_ret
    exact ⟨ret_bool HB.out.symm, HG.out⟩
  · have HB := Lib.hid (show backT x = false by rw [backT, decide_eq_false hx, Bool.false_and])
    have HP := Lib.hid (fun w => implTurnPortsNo x hx w)
    clear hx
    go_enter Try.func16, Try.ntmps16
    go_wp2_with fail
    refine (HP.out _).mono ?_
    rintro e w1 ⟨rfl, rfl⟩
    go_wp2_with fail
    go_ret
    exact ⟨ret_bool HB.out.symm, gb_refl _ _⟩

theorem implTurnName (x : Int) (w : World) : Calls Try.prog 17 #[.int .i64 x] w (RetS (nameT x) w) := by
  by_cases hx : 0 ≤ x ∧ x ≤ 15
  · obtain ⟨p, hp⟩ : ∃ p, x / 4 = p := ⟨_, rfl⟩
    obtain ⟨q, hq⟩ : ∃ q, x % 4 = q := ⟨_, rfl⟩
    have HP := Lib.hid (fun w => implTurnPorts x p q hx.1 hx.2 hp hq w)
    by_cases hpq : p = q
    · have HV := Lib.hid (show nameT x = ⟨#[]⟩ by rw [nameT, if_neg]; simp [hp, hq, hpq])
      clear hx hp hq
      subst hpq
      go_enter Try.func17, Try.ntmps17
      go_wp2_with fail
      refine (HP.out _).mono ?_
      rintro e w1 ⟨rfl, rfl⟩
      go_wp2_with fail
      go_ret
      exact ⟨by rw [HV.out]; rfl, gb_refl _ _⟩
    · have HV := Lib.hid (show nameT x = portB p ++ ⟨#[45]⟩ ++ portB q by rw [nameT, if_pos, hp, hq]; simp [hx, hp, hq, hpq])
      have H1 := Lib.hid (fun w => implPortName p w)
      have H2 := Lib.hid (fun w => implPortName q w)
      have L1 := Lib.hid (portB_size p)
      have L2 := Lib.hid (portB_size q)
      clear hx hp hq
      obtain ⟨s, hs⟩ : ∃ s, portB p = s := ⟨_, rfl⟩
      obtain ⟨t, ht⟩ : ∃ t, portB q = t := ⟨_, rfl⟩
      rw [hs] at H1 L1 HV
      rw [ht] at H2 L2 HV
      clear hs ht
      go_enter Try.func17, Try.ntmps17
      go_wp2_with fail
      refine (HP.out _).mono ?_
      rintro e w1 ⟨rfl, rfl⟩
      go_wp2_with fail
      refine (H1.out _).mono ?_
      rintro e w1 ⟨rfl, hg1⟩
      have G1 := Lib.hid hg1
      clear hg1
      have s1 := L1.out
      go_wp2_with fail
      refine (H2.out _).mono ?_
      rintro e w2 ⟨rfl, hg2⟩
      have G2 := Lib.hid (G1.out.trans hg2)
      clear hg2
      have s2 := L2.out
      go_wp2_with fail
      go_ret
      exact ⟨by rw [HV.out]; rfl, G2.out⟩
  · have HV := Lib.hid (show nameT x = ⟨#[]⟩ by rw [nameT, decide_eq_false hx]; rfl)
    have HP := Lib.hid (fun w => implTurnPortsNo x hx w)
    clear hx
    go_enter Try.func17, Try.ntmps17
    go_wp2_with fail
    refine (HP.out _).mono ?_
    rintro e w1 ⟨rfl, rfl⟩
    go_wp2_with fail
    go_ret
    exact ⟨by rw [HV.out]; rfl, gb_refl _ _⟩
end Go.Proofs.Ytgdngjfjbcnbmaa
