/- What is proved here: the walk of a valid and minimal table between two nodes is a route that visits no node twice, follows its ports and is as long as the distance; as mathematics, nothing of the program. -/
import Derived.Test.YtakigpgkcneboaaRouteL
namespace Go.Proofs.Ytakigpgkcneboaa
open Go.ChangeShapes Go.WideShapes Go.ChangeAt Go.RowKit
set_option linter.unusedVariables false

section
variable {W H : Int} {L P : List Int}
theorem ask_of {a b : Int} (ht : tableG W H L P = true) (ha : hasG W H a = true) (hb : hasG W H b = true) : askG W H L P a b = true := by
  simp [askG, tableG_sized ht, ha, hb]
theorem walk_self {a : Int} : walkG W H L P a a = [] := by simp [walkG]
theorem port_self {a : Int} (ht : tableG W H L P = true) (ha : hasG W H a = true) : portAtG W H L P a a = 4 := by
  have h1 := tableG_entry ht ha ha
  rw [entry_same] at h1
  have h2 := of_decide_eq_true h1
  rw [portAtG, if_pos ⟨ask_of ht ha ha, by omega, by omega⟩, h2]
theorem walk_min {a b : Int} (hm : minimalG W H L P = true) (ha : hasG W H a = true) (hb : hasG W H b = true) : ((walkOf W H L P a b).length : Int) = distG W H a b := by
  have h1 := hasG_iff.1 ha
  have h2 := hasG_iff.1 hb
  have h3 := tab_at (k := countG W H) (n := sqG W H) (sq_int W H) h1.1 h1.2 h2.1 h2.2
  have e1 : (((a * countG W H + b).toNat : Nat) : Int) = a * countG W H + b := Int.toNat_of_nonneg h3.1
  have e2 : (a * countG W H + b) / countG W H = a := by
    rw [Int.add_comm, Int.add_mul_ediv_right _ _ (by omega), Int.ediv_eq_zero_of_lt h2.1 h2.2]; omega
  have e3 : (a * countG W H + b) % countG W H = b := by
    rw [Int.add_comm, Int.add_mul_emod_self_right]; exact Int.emod_eq_of_lt h2.1 h2.2
  simp only [minimalG, Bool.and_eq_true, List.all_eq_true, List.mem_range] at hm
  have h4 := hm.2 (a * countG W H + b).toNat (by omega)
  rw [minAt, lenAt, e1, e2, e3] at h4
  exact of_decide_eq_true h4
theorem table_walk {a b : Int} (ht : tableG W H L P = true) (hm : minimalG W H L P = true) (ha : hasG W H a = true) (hb : hasG W H b = true) (hne : a ≠ b) :
    ∃ (l : List Int) (p : Int), walkG W H L P a b = l ∧ 0 < l.length ∧ l.length ≤ 16 ∧ routeG W H L l = true ∧ freeG (nodesG W H L l) = true ∧ l.getD 0 0 / 4 = a ∧ 0 ≤ l.getD 0 0 ∧ l.getD 0 0 % 4 = p ∧ portAtG W H L P a b = p ∧ atR W H l l.length = b ∧ (l.length : Int) = distG W H a b := by
  have hg : walkG W H L P a b = walkOf W H L P a b := if_pos ⟨ask_of ht ha hb, hne⟩
  have h1 := tableG_entry ht ha hb
  rw [entry_two hne] at h1
  have hme := (sizedG_mesh (tableG_sized ht)).1
  have hd := walk_min hm ha hb
  have hle := walkOf_len (W := W) (H := H) (L := L) (P := P) a b
  obtain ⟨l, hl⟩ : ∃ l, walkOf W H L P a b = l := ⟨_, rfl⟩
  rw [hl] at hg h1 hd hle
  have h0 : 0 < l.length := by
    rcases Nat.eq_zero_or_pos l.length with h | h
    · rw [List.eq_nil_of_length_eq_zero h] at h1; simp at h1
    · exact h
  have hw : walkF W H L P b ((countG W H).toNat + 1) a = some l := by
    unfold walkOf at hl
    cases hf : walkF W H L P b ((countG W H).toNat + 1) a with
    | none => rw [hf] at hl; simp only [Option.getD_none] at hl; rw [← hl] at h0; simp at h0
    | some m => rw [hf] at hl; simp only [Option.getD_some] at hl; rw [hl]
  obtain ⟨hr, hf⟩ := walk_free hw hme h0
  obtain ⟨_, h2, _⟩ := walk_links _ a l hw
  obtain ⟨h3, h4, h5⟩ := h2 h0
  have h6 := (has_leads (route_at hr h0).1).1
  refine ⟨l, l.getD 0 0 % 4, hg, h0, hle, hr, hf, h3, h6, rfl, ?_, h5, hd⟩
  rw [portAtG, if_pos ⟨ask_of ht ha hb, by omega, by omega⟩, h4]
end
end Go.Proofs.Ytakigpgkcneboaa
