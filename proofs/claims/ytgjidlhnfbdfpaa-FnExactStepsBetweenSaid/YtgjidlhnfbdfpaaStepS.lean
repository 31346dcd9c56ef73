/- What is proved here: what the model's StepsBetween returns, for all arguments; only new blocks are written. -/
import Derived.Test.YtgjidlhnfbdfpaaDeepS
namespace Go.Proofs.Ytgjidlhnfbdfpaa
open Go.ChangeShapes Go.WideShapes Go.ChangeAt Go.RowKit
set_option linter.unusedVariables false
set_option maxRecDepth 20000

theorem steps_bad {D : List Dep} (h : okD D = false) (x y : Int) : stepsG D x y = -1 := by simp [stepsG, h]
theorem steps_x {D : List Dep} {x y : Int} (h : decide (0 ≤ x ∧ x ≤ 127) = false) : stepsG D x y = -1 := if_neg (fun e => of_decide_eq_false h e.2.1)
theorem steps_y {D : List Dep} {x y : Int} (h : decide (0 ≤ y ∧ y ≤ 127) = false) : stepsG D x y = -1 := if_neg (fun e => of_decide_eq_false h e.2.2)
theorem steps_nat {D : List Dep} (h : okD D = true) {a b : Nat} (ha : a < 128) (hb : b < 128) : stepsG D (a : Int) (b : Int) = if distD D a b = 0 then -1 else (distD D a b : Int) := by
  unfold stepsG
  rw [if_pos ⟨h, by omega, by omega⟩, Int.toNat_natCast, Int.toNat_natCast]
set_option maxHeartbeats 1600000 in
theorem specSteps (A : Option Addr) (n cap : Nat) (D : List Dep) (x y : Int) (w : World) (h : DepAt w w.heap.size A n D) (hn : n ≤ 1000000000) :
    Calls Try.prog 27 #[.slice A n cap, .int .i64 x, .int .i64 y] w (RetI (stepsG D x y) none w) := by
  have HI := Lib.hid h
  have HOK := Lib.hid (specDependsOk A n cap D w h (by omega))
  have HIV := Lib.hid (fun (x : Int) (b : Bool) (hb : decide (0 ≤ x ∧ x ≤ 127) = b) w => specInV x 0 127 b hb w)
  clear h
  cases hok : okD D with
  | false =>
    have HR := Lib.hid (steps_bad hok x y)
    rw [hok] at HOK
    clear hok
    go_enter Try.func27, Try.ntmps27
    go_wp2_with fail
    refine HOK.out.mono ?_
    rintro e w1 ⟨rfl, hg1⟩
    have G1 := Lib.hid hg1
    clear hg1
    go_wp2_with fail
    go_ret
    exact ⟨ret_int64 HR.out.symm, G1.out⟩
  | true =>
    have HD := Lib.hid hok
    rw [hok] at HOK
    clear hok
    cases hx : decide (0 ≤ x ∧ x ≤ 127) with
    | false =>
      have HR := Lib.hid (steps_x (D := D) (y := y) hx)
      have HX := Lib.hid (fun w => HIV.out x false hx w)
      clear hx
      go_enter Try.func27, Try.ntmps27
      go_wp2_with fail
      refine HOK.out.mono ?_
      rintro e w1 ⟨rfl, hg1⟩
      have G1 := Lib.hid hg1
      clear hg1
      go_wp2_with fail
      refine (HX.out _).mono ?_
      rintro e w2 ⟨rfl, rfl⟩
      go_wp2_with fail
      go_ret
      exact ⟨ret_int64 HR.out.symm, G1.out⟩
    | true =>
      have hx2 := of_decide_eq_true hx
      have HX := Lib.hid (fun w => HIV.out x true hx w)
      cases hy : decide (0 ≤ y ∧ y ≤ 127) with
      | false =>
        have HR := Lib.hid (steps_y (D := D) (x := x) hy)
        have HY := Lib.hid (fun w => HIV.out y false hy w)
        clear hx hy hx2
        go_enter Try.func27, Try.ntmps27
        go_wp2_with fail
        refine HOK.out.mono ?_
        rintro e w1 ⟨rfl, hg1⟩
        have G1 := Lib.hid hg1
        clear hg1
        go_wp2_with fail
        refine (HX.out _).mono ?_
        rintro e w2 ⟨rfl, rfl⟩
        go_wp2_with fail
        refine (HY.out _).mono ?_
        rintro e w2 ⟨rfl, rfl⟩
        go_wp2_with fail
        go_ret
        exact ⟨ret_int64 HR.out.symm, G1.out⟩
      | true =>
        have hy2 := of_decide_eq_true hy
        have HY := Lib.hid (fun w => HIV.out y true hy w)
        obtain ⟨a, rfl⟩ : ∃ a : Nat, x = (a : Int) := ⟨x.toNat, by omega⟩
        obtain ⟨b, rfl⟩ : ∃ b : Nat, y = (b : Int) := ⟨y.toNat, by omega⟩
        have ha : a < 128 := by omega
        have hb : b < 128 := by omega
        have HR := Lib.hid (steps_nat HD.out ha hb)
        have HC := Lib.hid (fun w h => specDepths A n cap D a ha HD.out w h hn)
        have HA := Lib.hid (distL_at (D := D) (a := a) hb)
        have HLE := Lib.hid (dist_le HD.out a b)
        obtain ⟨d, hd⟩ : ∃ d, distD D a b = d := ⟨_, rfl⟩
        rw [hd] at HR HA HLE
        have HB := Lib.hid hb
        have b0 : (0 : Int) ≤ (b : Int) := by omega
        have b1 : (b : Int) < 128 := by omega
        clear hx hy hx2 hy2 hd ha hb
        go_enter Try.func27, Try.ntmps27
        go_wp2_with fail
        refine HOK.out.mono ?_
        rintro e w1 ⟨rfl, hg1⟩
        have G1 := Lib.hid hg1
        clear hg1
        go_wp2_with fail
        refine (HX.out _).mono ?_
        rintro e w2 ⟨rfl, rfl⟩
        go_wp2_with fail
        refine (HY.out _).mono ?_
        rintro e w2 ⟨rfl, rfl⟩
        go_wp2_with fail
        refine (HC.out _ ((HI.out.none (Nat.le_refl _) G1.out).more G1.out.size)).mono ?_
        rintro e w3 ⟨v3, rfl, o3, b3⟩
        rw [distL_len] at o3
        obtain ⟨A3, c3, rfl, ha3⟩ := own_form o3
        obtain ⟨g3, rfl⟩ := ha3 (by omega)
        have c0 := ints_at o3 (distL_len D a) HB.out
        rw [HA.out] at c0
        have G3 := Lib.hid (gb_trans G1.out (gb_of_below b3 none))
        clear o3 b3 ha3
        by_cases hd0 : d = 0
        · have HR2 := Lib.hid (HR.out.trans (if_pos hd0))
          subst hd0
          go_wp2_with fail
          go_ret
          exact ⟨ret_int64 HR2.out.symm, G3.out⟩
        · have HR2 := Lib.hid (HR.out.trans (if_neg hd0))
          have hdb : ((d : Int) == 0) = false := by simpa using hd0
          go_wp2_with fail
          go_ret
          exact ⟨ret_int64 HR2.out.symm, G3.out⟩
end Go.Proofs.Ytgjidlhnfbdfpaa
