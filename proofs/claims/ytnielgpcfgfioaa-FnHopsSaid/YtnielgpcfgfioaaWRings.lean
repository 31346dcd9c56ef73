/- What is proved here: the law on rings answers true, for every draw; only new blocks are written. -/
import Derived.Test.YtnielgpcfgfioaaDrawPlaces
import Derived.Test.YtnielgpcfgfioaaBig
import Derived.Test.YtnielgpcfgfioaaRdI
namespace Go.Proofs.Ytnielgpcfgfioaa
open Go.ChangeShapes Go.WideShapes Go.ChangeAt Go.RowKit
set_option linter.unusedVariables false
set_option maxRecDepth 20000

theorem modR {x : Int} (h : 0 ≤ x) {n : Nat} (hn : 0 < n) : ∃ y : Nat, Int.tmod x (n : Int) = (y : Int) ∧ y < n := by
  have h1 := Int.emod_nonneg x (show (n : Int) ≠ 0 by omega)
  have h2 := Int.emod_lt_of_pos x (show (0 : Int) < (n : Int) by omega)
  refine ⟨(Int.tmod x n).toNat, ?_, ?_⟩ <;> rw [Int.tmod_eq_emod_of_nonneg h] <;> omega
theorem walk_FnRings (A : Option Addr) (n cap : Nat) (w : World) (hr : ByteRow w w.heap.size A n) :
    Calls Try.prog 3 #[.slice A n cap] w fun e w' => e = .returned (.bool true) ∧ Below w.heap.size w w' := by
  by_cases hbig : 1048576 < n
  · go_enter Try.func3, Try.ntmps3
    go_wp2_with fail
    refine (lawsBig A n cap _).mono ?_
    rintro e w1 ⟨rfl, rfl⟩
    rw [decide_eq_true hbig]
    go_wp2_with fail
    go_ret
    exact ⟨rfl, Below.refl _ _⟩
  · have HR := Lib.hid hr
    have hn : n ≤ 1048576 := by omega
    clear hr
    go_enter Try.func3, Try.ntmps3
    go_wp2_with fail
    refine (lawsBig A n cap _).mono ?_
    rintro e w1 ⟨rfl, rfl⟩
    rw [decide_eq_false hbig]
    go_wp2_with fail
    refine (drawPlaces A n cap _ HR.out hn).mono ?_
    rintro e w2 ⟨pb, c3, l, rfl, hl, hlb, hlc, hb2⟩
    obtain ⟨x0, hx0⟩ : ∃ x, l[0]? = some x := ⟨_, List.getElem?_eq_getElem (by omega)⟩
    obtain ⟨y0, hy0, hy1⟩ := modR (hlb x0 (List.mem_of_getElem? hx0)).1 (n := 11) (by omega)
    have p0 := hlc 0 x0 hx0
    have hy0' : Int.tmod x0 11 = (y0 : Int) := hy0
    obtain ⟨m, hm⟩ : ∃ m, 2 + y0 = m := ⟨_, rfl⟩
    have e1 : IntKind.i64.wrap (2 + (y0 : Int)) = (m : Int) := by rw [IntWalk.i64_in _ (by omega)]; omega
    have e0 : IntKind.i64.wrap (y0 : Int) = (y0 : Int) := IntWalk.i64_in _ (by omega)
    have C1 := Lib.hid (fun w => show Calls Try.prog 11 #[.int .i64 (m : Int), .bool true] w (RetB true w) by have h := implRingIsSafe (m : Int) true w; rw [ringS_line (n := m) (by omega) (by omega)] at h; exact h)
    have C2 := Lib.hid (fun w => show Calls Try.prog 11 #[.int .i64 (m : Int), .bool false] w (RetB (decide (m = 2)) w) by have h := implRingIsSafe (m : Int) false w; rw [ringS_none (n := m) (by omega) (by omega)] at h; exact h)
    have B2 := Lib.hid hb2
    clear hl hlb hlc hb2 hx0 hy0
    go_wp2_with fail
    refine (C1.out _).mono ?_
    rintro e w3 ⟨rfl, g3⟩
    have B3 := Lib.hid (below_gb B2.out (Nat.le_refl _) g3)
    clear g3 p0
    go_wp2_with fail
    refine (C2.out _).mono ?_
    rintro e w4 ⟨rfl, g4⟩
    have B4 := Lib.hid (below_gb B3.out (Nat.le_refl _) g4)
    clear g4
    by_cases h2 : m = 2
    · have d1 : decide (m = 2) = true := decide_eq_true h2
      have d2 : ((m : Int) == 2) = true := by simp; omega
      go_wp2_with fail
      go_ret
      exact ⟨ret_bool (by simp), B4.out⟩
    · have d1 : decide (m = 2) = false := decide_eq_false h2
      have d2 : ((m : Int) == 2) = false := by simp; omega
      go_wp2_with fail
      go_ret
      exact ⟨ret_bool (by simp), B4.out⟩
end Go.Proofs.Ytnielgpcfgfioaa
