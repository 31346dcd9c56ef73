/- What is proved here: the number of places at which two lists differ, counted place by place; nothing of the program. -/
import Derived.Test.YtecaehkckamhkaaBase
namespace Go.Proofs.Ytecaehkckamhkaa
open Go.ChangeShapes Go.WideShapes Go.ChangeAt Go.RowKit
set_option linter.unusedVariables false

def differAt (X Y : List Int) (k : Nat) : Bool := decide (X.length ≤ k) || decide (Y.length ≤ k) || decide (X.getD k 0 ≠ Y.getD k 0)
def diffTo (X Y : List Int) : Nat → Nat
  | 0 => 0
  | k + 1 => diffTo X Y k + if differAt X Y k = true then 1 else 0
def diffG (X Y : List Int) : Nat := diffTo X Y (max X.length Y.length)
theorem diffTo_yes {X Y : List Int} {k : Nat} (h : differAt X Y k = true) : diffTo X Y (k + 1) = diffTo X Y k + 1 := by rw [diffTo, if_pos h]
theorem diffTo_no {X Y : List Int} {k : Nat} (h : differAt X Y k = false) : diffTo X Y (k + 1) = diffTo X Y k := by rw [diffTo, if_neg (by simp [h])]; rfl
theorem diffTo_le (X Y : List Int) (k : Nat) : diffTo X Y k ≤ k := by
  induction k with
  | zero => simp [diffTo]
  | succ k ih => rw [diffTo]; split <;> omega
theorem diffTo_behind {X Y : List Int} {k : Nat} (h : min X.length Y.length ≤ k) (j : Nat) : diffTo X Y (k + j) = diffTo X Y k + j := by
  induction j with
  | zero => rfl
  | succ j ih =>
    rw [← Nat.add_assoc, diffTo_yes, ih, Nat.add_assoc]
    have : X.length ≤ k + j ∨ Y.length ≤ k + j := by omega
    rcases this with h | h <;> simp [differAt, h]
/-- The common places, and the rest. -/
theorem diffG_parts (X Y : List Int) : diffG X Y = max X.length Y.length - min X.length Y.length + diffTo X Y (min X.length Y.length) := by
  have h := diffTo_behind (X := X) (Y := Y) (Nat.le_refl (min X.length Y.length)) (max X.length Y.length - min X.length Y.length)
  have e : min X.length Y.length + (max X.length Y.length - min X.length Y.length) = max X.length Y.length := by omega
  rw [e] at h
  rw [diffG, h]; omega
theorem diffTo_same (X : List Int) (k : Nat) (h : k ≤ X.length) : diffTo X X k = 0 := by
  induction k with
  | zero => rfl
  | succ k ih =>
    rw [diffTo_no, ih (by omega)]
    have : ¬ X.length ≤ k := by omega
    simp [differAt, this]
theorem diffG_same (X : List Int) : diffG X X = 0 := diffTo_same X _ (by omega)
end Go.Proofs.Ytecaehkckamhkaa
