/- What is proved here: a slice of dependencies that came in as an argument can be read; nothing of the program. -/
import Derived.Test.YtgjidlhnfbdfpaaDepI
import Derived.Deep.SlicePairs
namespace Go.Proofs.Ytgjidlhnfbdfpaa
open Go.ChangeShapes Go.WideShapes Go.ChangeAt Go.RowKit
set_option linter.unusedVariables false

def wfD (d : Dep) : Prop := (Lit.int .i64 d.1).wf = true ∧ (Lit.int .i64 d.2).wf = true
theorem choose_dep {n : Nat} {p : Nat → Dep → Prop} (h : ∀ i, i < n → ∃ d, p i d) : ∃ D : List Dep, D.length = n ∧ ∀ i, i < n → p i (atD D i) := by
  induction n with
  | zero => exact ⟨[], rfl, fun i hi => by omega⟩
  | succ n ih =>
    obtain ⟨D, hl, hD⟩ := ih (fun i hi => h i (by omega))
    obtain ⟨d, hd⟩ := h n (by omega)
    refine ⟨D ++ [d], by simp [hl], fun i hi => ?_⟩
    rcases Nat.lt_succ_iff_lt_or_eq.1 hi with h1 | rfl
    · have e : atD (D ++ [d]) i = atD D i := by simp [atD, List.getD_eq_getElem?_getD, List.getElem?_append_left (show i < D.length by omega)]
      rw [e]; exact hD i h1
    · have e : atD (D ++ [d]) i = d := by simp [atD, List.getD_eq_getElem?_getD, ← hl]
      rw [e]; exact hd
section
variable {H : Type} {enc : TypeId × Value → H} {w : World} {spare : Nat → Bool} {held : Bool} {base fuel : Nat}
theorem open_depS {cs : List Value} {y : DataW H × List MemPlace} (hf : DataW.trod enc Try.prog w base spare held fuel 34 cs = some y) :
    ∃ (A : Option Addr) (n cap : Nat) (D : List Dep), cs = [.slice A n cap] ∧ n ≤ cap ∧ cap ≤ maxLen ∧ DepAt w w.heap.size A n D ∧ ∀ d ∈ D, wfD d := by
  rcases Go.Deep.open_slice_pairs Try.underlying34 Try.underlying65 (by kernel_rfl) (by rfl) (by rfl) (by kernel_rfl) (by kernel_rfl) hf with ⟨hcs, _⟩ | ⟨x, len, cap, m, k, V0, V1, D0, D1, P0, P1, hcs, _, hl, hm, hmm, _, hx⟩
  · exact ⟨none, 0, 0, [], hcs, Nat.le_refl _, Nat.zero_le _, DepAt.nil _ _ _, fun d h => by cases h⟩
  · have hlm : len ≤ m := by rw [hmm]; split <;> omega
    obtain ⟨D, hD, hd⟩ := choose_dep (n := len) (p := fun i d => w.cell? (x.add (i * 2)) = some (.int .i64 d.1) ∧ w.cell? (x.add (i * 2 + 1)) = some (.int .i64 d.2) ∧ wfD d) (fun i hi => by
      obtain ⟨h0, h1, h2, h3⟩ := hx i (by omega)
      obtain ⟨a, ea, _, wa⟩ := DataW.trod_int Try.underlying3 h2
      obtain ⟨b, eb, _, wb⟩ := DataW.trod_int Try.underlying3 h3
      simp at ea eb
      exact ⟨(a, b), by rw [h0, ea], by rw [h1, eb], wa, wb⟩)
    refine ⟨some x, len, cap, D, hcs, hl, hm, ⟨hD, fun hn => ?_⟩, fun d hdm => ?_⟩
    · obtain ⟨b, off, spot⟩ := x
      have hc := (hd 0 hn).1
      have hspot : spot = none := by simpa [Addr.add] using World.cell?_spot hc
      subst hspot
      have hlt : b < w.heap.size := by simpa [Addr.add] using World.block_lt_of_cell? _ _ hc
      refine ⟨b, off, rfl, hlt, fun j hj => ?_⟩
      obtain ⟨h1, h2, _⟩ := hd j hj
      rw [Addr.add_lit] at h1 h2
      exact ⟨h1, h2⟩
    · obtain ⟨j, hj, rfl⟩ := atD_ex hdm
      exact (hd j (by omega)).2.2
end
end Go.Proofs.Ytgjidlhnfbdfpaa
