/- What is proved here: lists of hops as cells: rows of the call's own and slices that can be read; nothing of the program. -/
import Derived.Test.YtnielgpcfgfioaaDepT
namespace Go.Proofs.Ytnielgpcfgfioaa
open Go.ChangeShapes Go.WideShapes Go.ChangeAt Go.RowKit
set_option linter.unusedVariables false

theorem hop_cell {w : World} {base n g cap : Nat} {D : List Dep} (h : w.ownsRow base 31 2 (.slice (some ⟨g, 0, none⟩) n cap) n (depV D)) (k : Nat) (hk : k < D.length) :
    w.cell? ⟨g, k * 2, none⟩ = some (.int .i64 (atD D k).1) ∧ w.cell? ⟨g, k * 2 + 1, none⟩ = some (.int .i64 (atD D k).2) := by
  have hl := h.1
  rw [depV_length] at hl
  obtain ⟨h1, h2⟩ := depV_at D k hk
  exact ⟨(h.cellAt (k * 2) (by omega)).trans h1, (h.cellAt (k * 2 + 1) (by omega)).trans h2⟩
theorem own_hop_length {w : World} {base n : Nat} {v : Value} {D : List Dep} (h : w.ownsRow base 31 2 v n (depV D)) : D.length = n := by
  have := h.1
  rw [depV_length] at this
  omega
theorem hopAt_own {w : World} {base n B cap : Nat} {A : Option Addr} {D : List Dep} (h : w.ownsRow base 31 2 (.slice A n cap) n (depV D)) (hB : w.heap.size ≤ B) : DepAt w B A n D :=
  ⟨own_hop_length h, fun hn => by
    have hl := own_hop_length h
    obtain ⟨A', cap', hv, ha⟩ := own_form h
    obtain ⟨g, hg⟩ := ha hn
    obtain ⟨rfl, rfl⟩ : A = A' ∧ cap = cap' := by injection hv with h1 h2 h3; exact ⟨h1, h3⟩
    subst hg
    exact ⟨g, 0, rfl, by have := (h.lt g rfl).2; omega, fun k hk => by rw [Nat.zero_add]; exact hop_cell h k (by omega)⟩⟩
/-- A new list of hops. -/
def NewHp (D : List Dep) (w : World) (e : Ending) (w' : World) : Prop :=
  ∃ v, e = .returned v ∧ w'.ownsRow w.heap.size 31 2 v D.length (depV D) ∧ Below w.heap.size w w'
theorem own_nilHp {D : List Dep} (h : D = []) (w : World) (base : Nat) : w.ownsRow base 31 2 (.slice none 0 0) D.length (depV D) := by subst h; exact World.ownsRow_nil _ _ _ _
theorem info_hop : (Try.prog.info? 31).map (fun i => (i.zero, i.size, i.bytes)) = some (some (.agg #[.int .i64 0, .int .i64 0]), 2, 16) := by kernel_rfl
end Go.Proofs.Ytnielgpcfgfioaa
