/- What is proved here: the laws' helper that looks for the marks in a table's list; only new blocks are written. -/
import Derived.Test.YtbnpihkianggiaaTabL
namespace Go.Proofs.Ytbnpihkianggiaa
open Go.ChangeShapes Go.WideShapes Go.ChangeAt Go.RowKit
set_option linter.unusedVariables false

theorem lawsHeldTable (v : Value) (base n k0 : Nat) (w : World) (h : w.ownsRow base 3 1 v n (intsV (marksI k0 n))) (hk : k0 + n ≤ 1000000000) :
    Calls Try.prog 24 #[.agg #[v], .int .i64 (k0 : Int)] w fun e w' => e = .returned (.int .i64 ((k0 + n : Nat) : Int)) ∧ w.grownBy w' none := by
  obtain ⟨A, cap, rfl, ha⟩ := own_form h
  have HO := Lib.hid (h.alloc (.cells #[.slice A n cap] 30))
  clear h ha
  go_enter Try.func24, Try.ntmps24
  go_wp2_with fail
  refine (lawsHeldOwn _ base n k0 _ HO.out hk).mono ?_
  rintro e w1 ⟨rfl, g1⟩
  have G1 := Lib.hid (gb_trans (gb_alloc (gb_refl w _) _) g1)
  clear g1
  have hk0 : ¬ (((k0 + n : Nat) : Int)) < 0 := by omega
  go_wp2_with fail
  go_ret
  exact ⟨rfl, G1.out⟩
theorem lawsEqTabOwn (v1 v2 : Value) (b1 b2 : Nat) (P : List Int) (w : World) (h1 : w.ownsRow b1 3 1 v1 P.length (intsV P)) (h2 : w.ownsRow b2 3 1 v2 P.length (intsV P)) (hn : P.length ≤ 1000000000) :
    Calls Try.prog 22 #[.agg #[v1], .agg #[v2]] w (RetB true w) := by
  obtain ⟨A1, c1, rfl, _⟩ := own_form h1
  obtain ⟨A2, c2, rfl, _⟩ := own_form h2
  exact lawsEqTable A1 A2 P.length c1 c2 _ _ P w (intAt_own h1 rfl (Nat.le_refl _)) (intAt_own h2 rfl (Nat.le_refl _)) (Nat.le_refl _) (Nat.le_refl _) hn
end Go.Proofs.Ytbnpihkianggiaa
