/- What is proved here: the dependencies of a table as mathematics: the pairs of channels that follow each other on the ways between all pairs of nodes; nothing of the program. -/
import Derived.Test.YtnpjadofhpaapaaDepM
import Derived.Test.YtnpjadofhpaapaaTurnM
import Derived.Test.YtnpjadofhpaapaaSqM
namespace Go.Proofs.Ytnpjadofhpaapaa
open Go.ChangeShapes Go.WideShapes Go.ChangeAt Go.RowKit
set_option linter.unusedVariables false

/-- The first j pairs of a way. -/
def wayD (R : List Int) (j : Nat) : List Dep := (List.range j).map fun t => (R.getD t 0, R.getD (t + 1) 0)
theorem wayD_zero (R : List Int) : wayD R 0 = [] := rfl
theorem wayD_length (R : List Int) (j : Nat) : (wayD R j).length = j := by simp [wayD]
theorem wayD_next (R : List Int) (j : Nat) : wayD R (j + 1) = wayD R j ++ [(R.getD j 0, R.getD (j + 1) 0)] := by
  unfold wayD
  rw [List.range_succ, List.map_append]
  rfl
theorem ins_way {D : List Dep} {R : List Int} {j : Nat} {x y : Int} (hx : R.getD j 0 = x) (hy : R.getD (j + 1) 0 = y) : insD (insAll D (wayD R j)) (x, y) = insAll D (wayD R (j + 1)) := by
  rw [wayD_next, insAll_append, hx, hy]
  rfl
section
variable {W H : Int} {L P : List Int}
/-- The pairs of the first k ways. -/
def allD (W H : Int) (L P : List Int) : Nat → List Dep
  | 0 => []
  | k + 1 => insAll (allD W H L P k) (wayD (pairW W H L P k) ((pairW W H L P k).length - 1))
theorem allD_asc : ∀ k, ascD (allD W H L P k)
  | 0 => asc_nil
  | k + 1 => insAll_asc (allD_asc k) _
theorem allD_next {k : Nat} {R : List Int} (h : pairW W H L P k = R) : insAll (allD W H L P k) (wayD R (R.length - 1)) = allD W H L P (k + 1) := by subst h; rfl
theorem allD_len : ∀ k, (allD W H L P k).length ≤ k * 16
  | 0 => Nat.le_refl _
  | k + 1 => by
    have h1 := (insAll_length (allD W H L P k) (wayD (pairW W H L P k) ((pairW W H L P k).length - 1))).1
    have h2 := allD_len k
    have h3 := pairW_len (W := W) (H := H) (L := L) (P := P) k
    rw [wayD_length] at h1
    show (insAll _ _).length ≤ _
    omega
theorem ins_len {k j : Nat} {R : List Int} (hk : k ≤ 256) (hj : j ≤ 16) : (insAll (allD W H L P k) (wayD R j)).length ≤ 5000 := by
  have h1 := (insAll_length (allD W H L P k) (wayD R j)).1
  have h2 := allD_len (W := W) (H := H) (L := L) (P := P) k
  rw [wayD_length] at h1
  omega
theorem mem_allD : ∀ {k : Nat} {d : Dep}, d ∈ allD W H L P k → ∃ i j, i < k ∧ j + 1 < (pairW W H L P i).length ∧ d = ((pairW W H L P i).getD j 0, (pairW W H L P i).getD (j + 1) 0)
  | 0, d, h => by cases h
  | k + 1, d, h => by
    rcases mem_insAll.1 h with h | h
    · obtain ⟨i, j, h1, h2, h3⟩ := mem_allD h
      exact ⟨i, j, by omega, h2, h3⟩
    · unfold wayD at h
      obtain ⟨j, h1, rfl⟩ := List.mem_map.1 h
      have := List.mem_range.1 h1
      exact ⟨k, j, Nat.lt_succ_self k, by omega, rfl⟩
def depG (W H : Int) (L P : List Int) : List Dep := if tableG W H L P then allD W H L P (sqG W H) else []
theorem depG_yes (h : tableG W H L P = true) : depG W H L P = allD W H L P (sqG W H) := if_pos h
theorem depG_no (h : tableG W H L P = false) : depG W H L P = [] := if_neg (by simp [h])
theorem sqG_le : sqG W H ≤ 256 := by
  have h := cntN_le W H
  exact Nat.mul_le_mul h h
theorem depG_asc : ascD (depG W H L P) := by
  unfold depG
  split
  · exact allD_asc _
  · exact asc_nil
theorem depG_len : (depG W H L P).length ≤ 4096 := by
  unfold depG
  split
  · have h1 := allD_len (W := W) (H := H) (L := L) (P := P) (sqG W H)
    have h2 := sqG_le (W := W) (H := H)
    omega
  · simp
theorem depG_in {d : Dep} (h : d ∈ depG W H L P) : 0 ≤ d.1 ∧ d.1 < 64 ∧ 0 ≤ d.2 ∧ d.2 < 64 := by
  unfold depG at h
  split at h
  · obtain ⟨i, j, _, h2, rfl⟩ := mem_allD h
    have h3 := pairW_range (W := W) (H := H) (L := L) (P := P) (i := i) (j := j) (by omega)
    have h4 := pairW_range (W := W) (H := H) (L := L) (P := P) (i := i) (j := j + 1) h2
    exact ⟨h3.1, h3.2, h4.1, h4.2⟩
  · cases h
theorem depG_ok : okD (depG W H L P) = true := okD_of depG_asc fun d hd => by
  have := depG_in hd
  exact inD_iff.2 (by omega)
end
end Go.Proofs.Ytnpjadofhpaapaa
