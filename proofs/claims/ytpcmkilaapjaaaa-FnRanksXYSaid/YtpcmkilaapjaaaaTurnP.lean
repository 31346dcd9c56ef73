/- What is proved here: the ways of a valid table between the nodes of a pair; nothing of the program. -/
import Derived.Test.YtpcmkilaapjaaaaTurnM
import Derived.Test.YtpcmkilaapjaaaaSqM
namespace Go.Proofs.Ytpcmkilaapjaaaa
open Go.ChangeShapes Go.WideShapes Go.ChangeAt Go.RowKit
set_option linter.unusedVariables false
variable {W H : Int} {L P : List Int}

theorem pairW_at {k x y : Nat} (hk : cntN W H = k) (hy : y < k) : pairW W H L P (x * k + y) = walkOf W H L P x y := by
  have hki := cntN_int W H
  subst hk
  have e1 : ((x * cntN W H + y : Nat) : Int) / countG W H = x := by rw [← hki, ← Int.natCast_ediv, pair_div hy]
  have e2 : ((x * cntN W H + y : Nat) : Int) % countG W H = y := by rw [← hki, ← Int.natCast_emod, pair_mod hy]
  rw [pairW, e1, e2]
theorem walkG_valid {a b : Int} (h : tableG W H L P = true) (ha : hasG W H a = true) (hb : hasG W H b = true) : walkG W H L P a b = walkOf W H L P a b := by
  have hs := tableG_sized h
  unfold walkG
  by_cases e : a = b
  · subst e
    have he := tableG_entry h ha ha
    rw [entry_same, decide_eq_true_eq] at he
    rw [if_neg (by simp), walkOf, walkF_end he rfl]
    rfl
  · rw [if_pos ⟨by simp [askG, hs, ha, hb], e⟩]
theorem sqG_cnt {k : Nat} (hk : cntN W H = k) : sqG W H = k * k := by subst hk; rfl
end Go.Proofs.Ytpcmkilaapjaaaa
