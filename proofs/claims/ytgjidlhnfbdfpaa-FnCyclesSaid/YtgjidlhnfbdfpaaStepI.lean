/- What is proved here: the program's least number of steps between two channels; only new blocks are written. -/
import Derived.Test.YtgjidlhnfbdfpaaToI
import Derived.Test.YtgjidlhnfbdfpaaDokI
namespace Go.Proofs.Ytgjidlhnfbdfpaa
open Go.ChangeShapes Go.WideShapes Go.ChangeAt Go.RowKit
set_option linter.unusedVariables false
set_option maxRecDepth 20000

theorem steps_badI {D : List Dep} {x y : Int} (h : okD D = false) : stepsG D x y = -1 := if_neg (fun k => by rw [h] at k; cases k.1)
theorem steps_out {D : List Dep} {x y : Int} (h : inD (x, y) = false) : stepsG D x y = -1 := if_neg (fun k => inD_no.1 h (by simp only; omega))
theorem steps_in {D : List Dep} {a b : Nat} (hD : okD D = true) (ha : a < 128) (hb : b < 128) : stepsG D (a : Int) (b : Int) = (toL D b).getD a 0 := by
  rw [toL_at ha]
  unfold stepsG
  rw [if_pos ⟨hD, by omega, by omega⟩, Int.toNat_natCast, Int.toNat_natCast]
theorem implSteps (A : Option Addr) (n cap : Nat) (D : List Dep) (x y : Int) (w : World) (h : DepAt w w.heap.size A n D) (hn : n ≤ 1000000000) :
    Calls Try.prog 14 #[.slice A n cap, .int .i64 x, .int .i64 y] w (RetI (stepsG D x y) none w) := by
  have HI := Lib.hid (h.none (Nat.le_refl _) (boxD_gb (x, y) w))
  have hl := h.1
  have HOKC := Lib.hid (fun w h => implDependsOk A n cap D w h (by omega))
  have HIN := Lib.hid (fun w => implInRange (x, y) w)
  have HI2 := Lib.hid (HI.out.more (by rw [show (boxD (x, y) w).heap.size = w.heap.size + 1 from alloc_size _ _]; omega : w.heap.size ≤ (boxD (x, y) w).heap.size))
  have HG := Lib.hid (boxD_gb (x, y) w)
  have HB := Lib.hid (boxD_blk (x, y) w)
  clear h
  cases hok : okD D with
  | false =>
    rw [steps_badI hok]
    rw [hok] at HOKC
    clear hok
    go_enter Try.func14, Try.ntmps14
    go_wp2_with fail
    refine (HOKC.out _ HI2.out).mono ?_
    rintro e w1 ⟨rfl, hg⟩
    go_wp2_with fail
    go_ret
    exact ⟨rfl, gb_trans HG.out hg⟩
  | true =>
    have HWA := Lib.hid (fun w h => implWaiters A n cap D w h hok hn)
    have HTO := Lib.hid (fun a ha g w h => implStepsTo D a ha g hok (by omega) w h)
    have HOK := Lib.hid hok
    rw [hok] at HOKC
    clear hok
    cases hin : inD (x, y) with
    | false =>
      rw [steps_out hin]
      rw [hin] at HIN
      clear hin
      go_enter Try.func14, Try.ntmps14
      go_wp2_with fail
      refine (HOKC.out _ HI2.out).mono ?_
      rintro e w1 ⟨rfl, hg⟩
      have c0 : w1.cell? ⟨w.heap.size, 0, none⟩ = some (.int .i64 x) := (HB.out.grown hg (by simp)).cell 0
      have c1 : w1.cell? ⟨w.heap.size, 1, none⟩ = some (.int .i64 y) := (HB.out.grown hg (by simp)).cell 1
      have HG1 := Lib.hid (gb_trans HG.out hg)
      clear hg
      go_wp2_with fail
      refine (HIN.out _).mono ?_
      rintro e w2 ⟨rfl, hg⟩
      have HG2 := Lib.hid (gb_trans HG1.out hg)
      clear hg
      go_wp2_with fail
      go_ret
      exact ⟨rfl, HG2.out⟩
    | true =>
      have hr := inD_iff.1 hin
      simp only at hr
      obtain ⟨a, rfl⟩ : ∃ a : Nat, x = (a : Int) := ⟨x.toNat, by omega⟩
      obtain ⟨b, rfl⟩ : ∃ b : Nat, y = (b : Int) := ⟨y.toNat, by omega⟩
      rw [steps_in HOK.out (by omega) (by omega)]
      obtain ⟨r, hrr⟩ : ∃ r, (toL D b).getD a 0 = r := ⟨_, rfl⟩
      rw [hrr]
      have HR := Lib.hid hrr
      rw [hin] at HIN
      have a0 : (0 : Int) ≤ (a : Int) := by omega
      have a1 : (a : Int) < 128 := by omega
      have ha : a < 128 := by omega
      have hb : b < 128 := by omega
      clear hin hr hrr
      go_enter Try.func14, Try.ntmps14
      go_wp2_with fail
      refine (HOKC.out _ HI2.out).mono ?_
      rintro e w1 ⟨rfl, hg⟩
      have c0 : w1.cell? ⟨w.heap.size, 0, none⟩ = some (.int .i64 (a : Int)) := (HB.out.grown hg (by simp)).cell 0
      have c1 : w1.cell? ⟨w.heap.size, 1, none⟩ = some (.int .i64 (b : Int)) := (HB.out.grown hg (by simp)).cell 1
      have HG1 := Lib.hid hg
      clear hg
      go_wp2_with fail
      refine (HIN.out _).mono ?_
      rintro e w2 ⟨rfl, hg⟩
      have HG2 := Lib.hid (gb_trans HG1.out hg)
      have HI3 := Lib.hid ((HI2.out.none (Nat.le_refl _) HG2.out).more HG2.out.size)
      clear hg c0 c1
      go_wp2_with fail
      refine (HWA.out _ HI3.out).mono ?_
      rintro e w3 ⟨g, V, rfl, hx, hb3⟩
      have HX3 := Lib.hid (hx.read (Nat.le_refl _))
      have HG3 := Lib.hid (gb_trans HG2.out (gb_of_below hb3 none))
      clear hx hb3
      go_wp2_with fail
      refine (HTO.out b hb g _ HX3.out).mono ?_
      rintro e w4 ⟨v, rfl, ho, hb4⟩
      have HG4 := Lib.hid (gb_trans (gb_trans HG.out HG3.out) (gb_of_below hb4 none))
      rw [toL_len] at ho
      obtain ⟨Ao, co, rfl, hAo⟩ := own_form ho
      obtain ⟨q, rfl⟩ := hAo (by omega)
      have c0 := ints_get ho ha
      rw [HR.out] at c0
      clear ho hb4 hAo
      go_wp2_with fail
      go_ret
      exact ⟨rfl, HG4.out⟩
end Go.Proofs.Ytgjidlhnfbdfpaa
