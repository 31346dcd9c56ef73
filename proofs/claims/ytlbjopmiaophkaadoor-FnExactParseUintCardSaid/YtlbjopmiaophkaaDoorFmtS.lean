/- What is proved here: the model's FormatInt returns the decimal text of every 64-bit number; only new blocks are written. -/
import Derived.Test.YtlbjopmiaophkaaDoorFig
import Derived.Test.YtlbjopmiaophkaaDoorFmtM
namespace Go.Proofs.YtlbjopmiaophkaaDoor
open Go.ChangeShapes Go.WideShapes Go.ChangeAt Go.RowKit
set_option linter.unusedVariables false

def itoaB (n : Int) : ByteArray := ⟨(Lib.itoa n).toArray⟩

theorem specFigure10 (c : Nat) (w : World) :
    Calls Tryd.prog 32 #[.int .i64 ((c : Int) % 10)] w fun e w' => e = .returned (.int .u8 (48 + (c : Int) % 10)) ∧ w = w' := by
  have h := specFigure (c % 10) (by omega) w
  have e : ((fig (c % 10) : Nat) : Int) = 48 + (c : Int) % 10 := by
    unfold fig; rw [if_pos (by omega)]; omega
  rw [e, show ((c % 10 : Nat) : Int) = (c : Int) % 10 by omega] at h
  exact h

theorem specFmtPos (m0 : Nat) (hm0 : 0 < m0) (hmax : m0 ≤ 9223372036854775807) (w : World) :
    Calls Tryd.prog 19 #[.int .i64 (m0 : Int)] w (RetS (itoaB m0) w) := by
  have hlen : (Lib.decDigits m0).length ≤ 30 := Nat.le_trans (dec_length 19 m0 (by omega)) (by omega)
  have HL := Lib.hid hlen
  have HI := Lib.hid (itoa_pos m0 hm0)
  have HS := Lib.hid (RD.start m0 hm0)
  obtain ⟨D, hD⟩ : ∃ D, Lib.decDigits m0 = D := ⟨_, rfl⟩
  rw [hD] at HL HI HS
  have hd0 : ((m0 : Int) == 0) = false := by simp; omega
  have hd1 : decide ((m0 : Int) < 0) = false := decide_eq_false (by omega)
  clear hD hlen
  go_enter Tryd.func19, Tryd.ntmps19
  go_wp2_with fail
  go_loopw [0, 4] (fun z o wr => ∃ (m : Nat) (out : ByteArray), z = .int .i64 (m : Int) ∧ o = .string out ∧ m ≤ m0 ∧ RD D m out ∧ w.grownBy wr none) (fun z _ _ => (intOf z).toNat)
  case atStart => exact ⟨m0, ⟨#[]⟩, rfl, rfl, Nat.le_refl _, HS.out, gb_refl _ _⟩
  case round =>
    obtain ⟨m, out, rfl, rfl, hm, hrd, hg⟩ := hrel
    have hsz := hrd.size HL.out
    have HG := Lib.hid hg
    by_cases hp : 0 < m
    · have HR := Lib.hid (hrd.step hp)
      have hne : ((m : Int) != 0) = true := by simp; omega
      have hmod : decide ((m : Int) % 10 < 0) = false := decide_eq_false (by omega)
      clear hrd hg
      go_wp2_with fail
      refine (specFigure10 m _).mono ?_
      rintro e w' ⟨rfl, rfl⟩
      have hcv := conv_one wr (48 + m % 10) (48 + (m : Int) % 10) (by omega) (by omega)
      obtain ⟨dg, hdg⟩ : ∃ dg, UInt8.ofNat (48 + m % 10) = dg := ⟨_, rfl⟩
      rw [hdg] at hcv HR
      clear hdg
      go_wp2_with fail
      go_roundw
      case rel => exact ⟨m / 10, _, by go_num, rfl, by omega, HR.out, gb_alloc HG.out _⟩
      case measure => simp [intOf]; omega
    · obtain rfl : m = 0 := by omega
      have HO := Lib.hid (ba_eq (hrd.1 rfl))
      clear hrd hg
      go_wp2_with fail
      go_ret
      refine ⟨?_, HG.out⟩
      unfold itoaB
      rw [HI.out, ← HO.out]
      rfl

theorem cons45 (D : List UInt8) : (⟨#[45]⟩ : ByteArray) ++ ⟨D.toArray⟩ = ⟨(45 :: D).toArray⟩ := by apply ByteArray.ext; simp
theorem specFmtNeg (m0 : Nat) (hm0 : 0 < m0) (hmax : m0 ≤ 9223372036854775808) (w : World) :
    Calls Tryd.prog 19 #[.int .i64 (-(m0 : Int))] w (RetS (itoaB (-(m0 : Int))) w) := by
  have hlen : (Lib.decDigits m0).length ≤ 30 := Nat.le_trans (dec_length 19 m0 (by omega)) (by omega)
  have HL := Lib.hid hlen
  have HI := Lib.hid (itoa_neg m0 hm0)
  have HS := Lib.hid (RD.start m0 hm0)
  obtain ⟨D, hD⟩ : ∃ D, Lib.decDigits m0 = D := ⟨_, rfl⟩
  rw [hD] at HL HI HS
  obtain ⟨z0, hz0⟩ : ∃ z0 : Int, -(m0 : Int) = z0 := ⟨_, rfl⟩
  rw [hz0] at HI ⊢
  have hzneg : z0 < 0 := by omega
  have hzmin : -9223372036854775808 ≤ z0 := by omega
  have hd0 : (z0 == 0) = false := by simp; omega
  have hd1 : decide (z0 < 0) = true := decide_eq_true hzneg
  have HZ := Lib.hid hz0
  clear hD hlen hz0
  go_enter Tryd.func19, Tryd.ntmps19
  go_wp2_with fail
  go_loopw [0, 4] (fun z o wr => ∃ (y : Int) (out : ByteArray), z = .int .i64 y ∧ o = .string out ∧ -9223372036854775808 ≤ y ∧ y ≤ 0 ∧ RD D y.natAbs out ∧ w.grownBy wr none) (fun z _ _ => (intOf z).natAbs)
  case atStart => exact ⟨z0, ⟨#[]⟩, rfl, rfl, hzmin, by omega, by rw [show z0.natAbs = m0 by have := HZ.out; omega]; exact HS.out, gb_refl _ _⟩
  case round =>
    obtain ⟨y, out, rfl, rfl, hy0, hy1, hrd, hg⟩ := hrel
    have hsz := hrd.size HL.out
    have HG := Lib.hid hg
    by_cases hp : y < 0
    · obtain ⟨c, hc⟩ : ∃ c : Nat, y.natAbs = c := ⟨_, rfl⟩
      rw [hc] at hrd
      have HR := Lib.hid (hrd.step (by omega))
      have et : y.tmod 10 = -((c : Int) % 10) := by
        have : y = -(c : Int) := by omega
        rw [this, Int.neg_tmod, Int.tmod_eq_emod_of_nonneg (by omega)]
      have ed : y.tdiv 10 = -((c : Int) / 10) := by
        have : y = -(c : Int) := by omega
        rw [this, Int.neg_tdiv, Int.tdiv_eq_ediv_of_nonneg (by omega)]
      have HE : Hid (∀ x : Int, x = -((c : Int) / 10) → x.natAbs = c / 10 ∧ -9223372036854775808 ≤ x ∧ x ≤ 0 ∧ x.natAbs < y.natAbs) := fun x hx => by omega
      obtain ⟨dg, hdg⟩ : ∃ dg, UInt8.ofNat (48 + c % 10) = dg := ⟨_, rfl⟩
      rw [hdg] at HR
      have hcb : (c : Int) ≤ 9223372036854775808 := by omega
      have hcp : 0 < (c : Int) := by omega
      clear hrd hg hc
      by_cases hr : (c : Int) % 10 = 0
      · have hz : 0 = (c : Int) % 10 := hr.symm
        have et0 : y.tmod 10 = 0 := by omega
        have hsf := specFigure10 c
        rw [hr] at hsf
        have hcv := conv_one wr (48 + c % 10) 48 (by omega) (by omega)
        rw [hdg] at hcv
        have HSF := Lib.hid hsf
        clear hr hz et hsf hdg
        go_wp2_with fail
        refine (HSF.out _).mono ?_
        rintro e w' ⟨rfl, rfl⟩
        go_wp2_with fail
        go_roundw
        case rel => exact ⟨-((c : Int) / 10), _, by go_num, rfl, (HE.out (-((c : Int) / 10)) rfl).2.1, (HE.out (-((c : Int) / 10)) rfl).2.2.1, by rw [(HE.out (-((c : Int) / 10)) rfl).1]; exact HR.out, gb_alloc HG.out _⟩
        case measure => have := (HE.out (-((c : Int) / 10)) rfl).2.2.2; simp [intOf]; omega
      · have hlt0 : -((c : Int) % 10) < 0 := by omega
        have hcv := conv_one wr (48 + c % 10) (48 + (c : Int) % 10) (by omega) (by omega)
        rw [hdg] at hcv
        clear hr hdg
        go_wp2_with fail
        refine (specFigure10 c _).mono ?_
        rintro e w' ⟨rfl, rfl⟩
        go_wp2_with fail
        go_roundw
        case rel => exact ⟨-((c : Int) / 10), _, by go_num, rfl, (HE.out (-((c : Int) / 10)) rfl).2.1, (HE.out (-((c : Int) / 10)) rfl).2.2.1, by rw [(HE.out (-((c : Int) / 10)) rfl).1]; exact HR.out, gb_alloc HG.out _⟩
        case measure => have := (HE.out (-((c : Int) / 10)) rfl).2.2.2; simp [intOf]; omega
    · obtain rfl : y = 0 := by omega
      have HO := Lib.hid (ba_eq (hrd.1 rfl))
      clear hrd hg
      go_wp2_with fail
      go_ret
      refine ⟨?_, HG.out⟩
      unfold itoaB
      rw [HI.out, HO.out]
      show Ending.returned (.string (⟨#[45]⟩ ++ ⟨D.toArray⟩)) = _
      rw [cons45]

theorem specFmt (n : Int) (h0 : -9223372036854775808 ≤ n) (h1 : n ≤ 9223372036854775807) (w : World) :
    Calls Tryd.prog 19 #[.int .i64 n] w (RetS (itoaB n) w) := by
  rcases Int.lt_trichotomy n 0 with h | rfl | h
  · obtain ⟨m, rfl⟩ : ∃ m : Nat, n = -(m : Int) := ⟨n.natAbs, by omega⟩
    exact specFmtNeg m (by omega) (by omega) w
  · have HI := Lib.hid itoa_zero
    go_enter Tryd.func19, Tryd.ntmps19
    go_wp2_with fail
    go_ret
    refine ⟨?_, gb_refl _ _⟩
    unfold itoaB
    rw [HI.out]
    rfl
  · obtain ⟨m, rfl⟩ : ∃ m : Nat, n = (m : Int) := ⟨n.toNat, by omega⟩
    exact specFmtPos m (by omega) (by omega) w
end Go.Proofs.YtlbjopmiaophkaaDoor
