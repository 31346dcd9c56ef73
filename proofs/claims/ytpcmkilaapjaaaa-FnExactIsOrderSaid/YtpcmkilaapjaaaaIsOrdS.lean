/- What is proved here: what the model's IsOrder and RisesAlong return, for all arguments; only new blocks are written. -/
import Derived.Test.YtpcmkilaapjaaaaOrdM
import Derived.Test.YtpcmkilaapjaaaaDokS
import Derived.Test.YtpcmkilaapjaaaaFindS
namespace Go.Proofs.Ytpcmkilaapjaaaa
open Go.ChangeShapes Go.WideShapes Go.ChangeAt Go.RowKit
set_option linter.unusedVariables false
set_option maxRecDepth 20000

set_option maxHeartbeats 1600000 in
theorem specIsOrder (A AR : Option Addr) (n cap nR cR : Nat) (D : List Dep) (R : List Int) (w : World) (h : DepAt w w.heap.size A n D) (hR : IntAt w w.heap.size AR nR R) (hn : n ≤ 1000000000) (hnR : nR ≤ 1000000000) :
    Calls Try.prog 27 #[.slice A n cap, .slice AR nR cR] w (RetB (isOrdO D R) w) := by
  have hl := h.1
  have hRl := hR.1
  have HI := Lib.hid h
  have HR := Lib.hid hR
  have HOK := Lib.hid (specDependsOk A n cap D w h (by omega))
  clear h hR
  cases hok : okD D with
  | false =>
    rw [isOrdO_bad hok]
    rw [hok] at HOK
    clear hok
    go_enter Try.func27, Try.ntmps27
    go_wp2_with fail
    refine HOK.out.mono ?_
    rintro e w1 ⟨rfl, hg1⟩
    have G1 := Lib.hid hg1
    clear hg1
    go_wp2_with fail
    go_ret
    exact ⟨rfl, G1.out⟩
  | true =>
    by_cases h128 : nR = 128
    · have HIN := Lib.hid (fun k (hk : k < D.length) => inD_iff.1 (okD_in hok (atD_mem hk)))
      have HYES := Lib.hid (fun (h3 : ∀ r : Nat, r < 128 → inG R (r : Int) = true) h4 => isOrdO_of hok (hRl.trans h128) h3 h4)
      have HLA := Lib.hid (fun (r : Nat) (hr : r < 128) h => isOrdO_lack (D := D) (R := R) (r := r) hr h)
      have HFA := Lib.hid (fun i hi h => isOrdO_fall (D := D) (R := R) (i := i) hi h)
      obtain ⟨b, hb⟩ : ∃ b, isOrdO D R = b := ⟨_, rfl⟩
      rw [hb] at HYES HLA HFA
      rw [hb]
      rw [hok] at HOK
      have HF := Lib.hid (fun (r : Nat) (b : Bool) (hb : inG R (r : Int) = b) B (w : World) (h : IntAt w B AR 128 R) => specFindV AR 128 cR B R (r : Int) b hb w h (by omega))
      subst h128
      clear hok hb
      go_enter Try.func27, Try.ntmps27
      go_wp2_with fail
      refine HOK.out.mono ?_
      rintro e w1 ⟨rfl, hg1⟩
      have G1 := Lib.hid hg1
      clear hg1
      go_wp2_with fail
      go_loopw [5] (fun i wr => ∃ r : Nat, i = .int .i64 (r : Int) ∧ r ≤ 128 ∧ (∀ j : Nat, j < r → inG R (j : Int) = true) ∧ w.grownBy wr none) (fun i _ => 128 - (intOf i).toNat)
      case atStart => exact ⟨0, rfl, Nat.zero_le _, fun j h => by omega, G1.out⟩
      case round =>
        obtain ⟨r, rfl, hr, hall, hg⟩ := hrel
        have HA := Lib.hid hall
        have HG := Lib.hid hg
        clear hall hg
        by_cases hlt : r < 128
        · cases hf : inG R (r : Int) with
          | false =>
            have HB := Lib.hid (HLA.out r hlt hf)
            have HF2 := Lib.hid (fun B w h => HF.out r false hf B w h)
            clear hf
            go_wp2_with fail
            refine (HF2.out _ _ (HR.out.none (Nat.le_refl _) HG.out)).mono ?_
            rintro e w2 ⟨rfl, rfl⟩
            go_wp2_with fail
            go_ret
            exact ⟨ret_bool HB.out.symm, HG.out⟩
          | true =>
            have HB := Lib.hid hf
            have HF2 := Lib.hid (fun B w h => HF.out r true hf B w h)
            clear hf
            go_wp2_with fail
            refine (HF2.out _ _ (HR.out.none (Nat.le_refl _) HG.out)).mono ?_
            rintro e w2 ⟨rfl, rfl⟩
            go_wp2_with fail
            go_roundw
            case rel => exact ⟨r + 1, by go_num, by omega, fun j hj => by rcases Nat.lt_succ_iff_lt_or_eq.1 hj with h | h; exact HA.out j h; rw [h]; exact HB.out, HG.out⟩
            case measure => simp [intOf]; omega
        · obtain rfl : r = 128 := by omega
          go_wp2_with fail
          simp only [show ((128 : Nat) : Int) = 128 from rfl]
          go_loopw [6] (fun i wr => ∃ k : Nat, i = .int .i64 (k : Int) ∧ k ≤ n ∧ (∀ j, j < k → riseO D R j = true) ∧ w.grownBy wr none) (fun i _ => n - (intOf i).toNat)
          case atStart => exact ⟨0, rfl, Nat.zero_le _, fun j h => by omega, HG.out⟩
          case round =>
            obtain ⟨k, rfl, hk, hall, hg⟩ := hrel
            have HS := Lib.hid hall
            have HG2 := Lib.hid hg
            clear hall hg
            by_cases hlt2 : k < n
            · obtain ⟨b1, off, rfl, hb1, c0, c1⟩ := (HI.out.none (Nat.le_refl _) HG2.out).at k hlt2
              obtain ⟨x, hx⟩ : ∃ x, atD D k = x := ⟨_, rfl⟩
              obtain ⟨x0, x1, x2, x3⟩ := HIN.out k (by omega)
              rw [hx] at c0 c1 x0 x1 x2 x3
              obtain ⟨m, hm⟩ : ∃ m : Nat, x.1 = (m : Int) := ⟨x.1.toNat, by omega⟩
              obtain ⟨q, hq⟩ : ∃ q : Nat, x.2 = (q : Int) := ⟨x.2.toNat, by omega⟩
              rw [hm] at c0 x0 x1
              rw [hq] at c1 x2 x3
              obtain ⟨b2, off2, rfl, hb2, e0⟩ := (HR.out.none (Nat.le_refl _) HG2.out).at m (by omega)
              obtain ⟨b3, off3, hA3, hb3, e1⟩ := (HR.out.none (Nat.le_refl _) HG2.out).at q (by omega)
              injection hA3 with hA
              injection hA with hA1 hA2
              subst hA1
              subst hA2
              obtain ⟨y, hy⟩ : ∃ y, R.getD m 0 = y := ⟨_, rfl⟩
              obtain ⟨z, hz⟩ : ∃ z, R.getD q 0 = z := ⟨_, rfl⟩
              rw [hy] at e0
              rw [hz] at e1
              have hh : riseO D R k = decide (y < z) := by unfold riseO; rw [hx, hm, hq, Int.toNat_natCast, Int.toNat_natCast, hy, hz]
              have k0 : (0 : Int) ≤ (k : Int) := by omega
              have k1 : (k : Int) < (n : Int) := by omega
              have m0 : (0 : Int) ≤ (m : Int) := by omega
              have m1 : (m : Int) < 128 := by omega
              have q0 : (0 : Int) ≤ (q : Int) := by omega
              have q1 : (q : Int) < 128 := by omega
              clear hx hm hq hy hz
              by_cases hyz : y < z
              · have HB := Lib.hid (hh.trans (decide_eq_true hyz))
                have hge : ¬ z ≤ y := by omega
                clear hh
                go_wp2_with fail
                go_quiet (fail)
                go_wp2_with fail
                go_roundw
                case rel => exact ⟨k + 1, by go_num, by omega, fun j hj => by rcases Nat.lt_succ_iff_lt_or_eq.1 hj with h | h; exact HS.out j h; rw [h]; exact HB.out, gb_drewN HG2.out _⟩
                case measure => simp [intOf]; omega
              · have HB := Lib.hid (HFA.out k (by omega) (hh.trans (decide_eq_false hyz)))
                have hge : z ≤ y := by omega
                clear hh
                go_wp2_with fail
                go_quiet (fail)
                go_wp2_with fail
                go_ret
                exact ⟨ret_bool HB.out.symm, gb_drewN HG2.out _⟩
            · obtain rfl : k = n := by omega
              have HB := Lib.hid (HYES.out (fun r hr => HA.out r hr) (fun j hj => HS.out j (by omega)))
              go_wp2_with fail
              go_ret
              exact ⟨ret_bool HB.out.symm, HG2.out⟩
    · rw [isOrdO_len (fun e => h128 (hRl.symm.trans e))]
      have hne : ((nR : Int) != 128) = true := by simpa using (fun e : (nR : Int) = 128 => h128 (by omega))
      rw [hok] at HOK
      clear hok
      go_enter Try.func27, Try.ntmps27
      go_wp2_with fail
      refine HOK.out.mono ?_
      rintro e w1 ⟨rfl, hg1⟩
      have G1 := Lib.hid hg1
      clear hg1
      go_wp2_with fail
      go_ret
      exact ⟨rfl, G1.out⟩
end Go.Proofs.Ytpcmkilaapjaaaa
