/- What is proved here: the contract of a function that builds one new list of numbers and says whether there is one; nothing of the program. -/
import Derived.Test.YtfloekbmgjmhbaaNewI
namespace Go.Proofs.Ytfloekbmgjmhbaa
open Go.ChangeShapes Go.WideShapes Go.ChangeAt Go.RowKit
set_option linter.unusedVariables false

/-- A new list of numbers, and whether there is one. -/
def NewR (L : List Int) (b : Bool) (w : World) (e : Ending) (w' : World) : Prop :=
  ∃ v, e = .returned (.tuple #[v, .bool b]) ∧ w'.ownsRow w.heap.size 3 1 v L.length (intsV L) ∧ Below w.heap.size w w'
theorem ret_pair {v : Value} {a b : Bool} (h : a = b) : Ending.returned (.tuple #[v, .bool a]) = Ending.returned (.tuple #[v, .bool b]) := by rw [h]
theorem own_nil {L : List Int} (h : L = []) (w : World) (base : Nat) : w.ownsRow base 3 1 (.slice none 0 0) L.length (intsV L) := by subst h; exact World.ownsRow_nil _ _ _ _
/-- An empty list of the function's own. -/
theorem own_empty {L : List Int} (h : L = []) {w wr : World} (hb : Below w.heap.size w wr) : (wr.alloc (.cells #[] 3)).ownsRow w.heap.size 3 1 (.slice (some ⟨wr.heap.size, 0, none⟩) 0 0) L.length (intsV L) ∧ Below w.heap.size w (wr.alloc (.cells #[] 3)) := by
  subst h
  exact ⟨World.ownsRow_made (base := w.heap.size) (e := 3) (size := 1) wr #[] 0 hb.size (by decide) rfl, hb.alloc hb.size _⟩
theorem own_cap {w : World} {base : Nat} {e : TypeId} {size n cap : Nat} {A : Option Addr} {xs : List Value} (h : w.ownsRow base e size (.slice A n cap) n xs) : n ≤ cap ∧ cap ≤ maxLen := by
  rcases h.2 with ⟨h1, h2⟩ | ⟨g, cap', cur, h1, _, _, h2, h3, _⟩
  · simp only [Value.slice.injEq] at h1
    obtain ⟨_, _, rfl⟩ := h1
    exact ⟨by omega, Nat.zero_le _⟩
  · simp only [Value.slice.injEq] at h1
    obtain ⟨_, _, rfl⟩ := h1
    exact ⟨h2, h3⟩
/-- The first k numbers of a slice. -/
theorem IntAt.take {w : World} {B n : Nat} {A : Option Addr} {L : List Int} (h : IntAt w B A n L) {k : Nat} (hk : k ≤ n) : IntAt w B A k (L.take k) := ⟨by have := h.1; simp; omega, fun h0 => by
  obtain ⟨b, off, hA, hb, hc⟩ := h.2 (by omega)
  refine ⟨b, off, hA, hb, fun j x hx => hc j x ?_⟩
  rcases Nat.lt_or_ge j k with h1 | h1
  · rwa [List.getElem?_take_of_lt h1] at hx
  · rw [List.getElem?_eq_none (by simp; omega)] at hx; cases hx⟩
end Go.Proofs.Ytfloekbmgjmhbaa
