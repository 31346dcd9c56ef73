/- What is proved here: small facts on numbers around a ring as Go reckons them; nothing of the program. -/
import Derived.Test.YtnielgpcfgfioaaRingM
namespace Go.Proofs.Ytnielgpcfgfioaa
open Go.ChangeShapes Go.WideShapes Go.ChangeAt Go.RowKit
set_option linter.unusedVariables false

theorem tmod_nat (x n : Nat) : Int.tmod (x : Int) (n : Int) = ((x % n : Nat) : Int) := by
  rw [Int.tmod_eq_emod_of_nonneg (by omega)]; rfl
theorem tdiv_nat (x n : Nat) : Int.tdiv (x : Int) (n : Int) = ((x / n : Nat) : Int) := by
  rw [Int.tdiv_eq_ediv_of_nonneg (by omega)]; rfl
theorem next_mod {n a k : Nat} (hn : 0 < n) : ((a + k) % n + 1) % n = (a + (k + 1)) % n := by
  rw [Nat.mod_add_mod, Nat.add_assoc]
def lenHp : Value → Nat | .slice _ n _ => n | _ => 0
end Go.Proofs.Ytnielgpcfgfioaa
