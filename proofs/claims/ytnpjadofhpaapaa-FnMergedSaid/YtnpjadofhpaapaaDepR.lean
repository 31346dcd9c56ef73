/- What is proved here: the second channel of a dependency of a table begins where the first one ends; what merging with a table's dependencies and shifting back yield; nothing of the program. -/
import Derived.Test.YtnpjadofhpaapaaDepG
import Derived.Test.YtnpjadofhpaapaaRouteL
import Derived.Test.YtnpjadofhpaapaaWfL
namespace Go.Proofs.Ytnpjadofhpaapaa
open Go.ChangeShapes Go.WideShapes Go.ChangeAt Go.RowKit
set_option linter.unusedVariables false

theorem wfl_nilD : WfL [] := fun x h => by cases h
section
variable {W H : Int} {L P : List Int}
theorem pair_step {i j : Nat} (h : j + 1 < (pairW W H L P i).length) : (pairW W H L P i).getD (j + 1) 0 / 4 = nextG W H ((pairW W H L P i).getD j 0 / 4) ((pairW W H L P i).getD j 0 % 4) := by
  unfold pairW walkOf at h ⊢
  cases hw : walkF W H L P ((i : Int) % countG W H) ((countG W H).toNat + 1) ((i : Int) / countG W H) with
  | none => simp [hw] at h
  | some l =>
    simp only [hw, Option.getD_some] at h ⊢
    have hl := (walk_links _ _ _ hw).1 (j + 1) h
    have hh := link_has hl
    have he := link_next (W := W) (H := H) (L := L) (r := l) (i := j) rfl rfl hh
    rw [hl] at he
    exact of_decide_eq_true he.symm
theorem depG_step {d : Dep} (h : d ∈ depG W H L P) : d.2 / 4 = nextG W H (d.1 / 4) (d.1 % 4) := by
  unfold depG at h
  split at h
  · obtain ⟨i, j, _, h2, rfl⟩ := mem_allD h
    exact pair_step h2
  · cases h
theorem succ_has {D : List Dep} {d : Dep} (h : d ∈ D) : inG (succD D d.1) d.2 = true := by
  obtain ⟨k, hk, e⟩ := List.getElem_of_mem (mem_succ h)
  exact inG_yes hk (by rw [List.getD_eq_getElem?_getD, List.getElem?_eq_getElem hk]; exact e)
end
theorem insAll_comm {D E : List Dep} (hD : ascD D) (hE : ascD E) : insAll D E = insAll E D :=
  asc_ext _ _ (insAll_asc hD E) (insAll_asc hE D) (fun x => by rw [mem_insAll, mem_insAll]; exact or_comm)
theorem insAll_ok {D E : List Dep} (hD : okD D = true) (hE : okD E = true) : okD (insAll D E) = true :=
  okD_of (insAll_asc (okD_asc hD) E) (fun d hd => by rcases mem_insAll.1 hd with h | h; exact okD_in hD h; exact okD_in hE h)
theorem move_ok {D : List Dep} {z : Int} (hD : ascD D) (h : ∀ d ∈ D, 0 ≤ d.1 + z ∧ d.1 + z ≤ 127 ∧ 0 ≤ d.2 + z ∧ d.2 + z ≤ 127) : okD (moveD D z) = true := by
  refine okD_of ?_ ?_
  · refine List.pairwise_map.2 (hD.imp fun {a b} hab => ?_)
    rw [ltD_iff] at hab ⊢
    simp only
    omega
  · intro d hd
    obtain ⟨x, hx, rfl⟩ := List.mem_map.1 hd
    exact inD_iff.2 (h x hx)
theorem move_back (D : List Dep) (z : Int) : moveD (moveD D z) (-z) = D := by
  unfold moveD
  rw [List.map_map]
  refine (List.map_congr_left (fun d _ => ?_)).trans (List.map_id D)
  exact Prod.ext (by simp; omega) (by simp; omega)
/-- Small lists: their shift by 64, and back. -/
theorem shift64 {D : List Dep} (hD : ascD D) (h : ∀ d ∈ D, 0 ≤ d.1 ∧ d.1 ≤ 5 ∧ 0 ≤ d.2 ∧ d.2 ≤ 5) : okD D = true ∧ shiftD D 64 = moveD D 64 ∧ shiftD (moveD D 64) (-64) = D := by
  have h1 : okD D = true := okD_of hD fun d hd => by have := h d hd; exact inD_iff.2 (by omega)
  have h2 : okD (moveD D 64) = true := move_ok hD fun d hd => by have := h d hd; omega
  have h3 : moveD (moveD D 64) (-64) = D := move_back D 64
  exact ⟨h1, shift_yes h1 (by decide) h2, by rw [shift_yes h2 (by decide) (by rw [h3]; exact h1), h3]⟩
end Go.Proofs.Ytnpjadofhpaapaa
