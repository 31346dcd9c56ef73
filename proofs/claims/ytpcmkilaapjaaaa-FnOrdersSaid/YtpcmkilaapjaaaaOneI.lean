/- What is proved here: small facts on a function that holds a mesh in a box of its own and builds one new list of numbers; nothing of the program. -/
import Derived.Test.YtpcmkilaapjaaaaNewI
import Derived.Test.YtpcmkilaapjaaaaMeshC
namespace Go.Proofs.Ytpcmkilaapjaaaa
open Go.ChangeShapes Go.WideShapes Go.ChangeAt Go.RowKit
set_option linter.unusedVariables false

/-- The mesh's box lies first; the list lies behind it. -/
def OneAt (W H : Int) (A : Option Addr) (n cap : Nat) (w : World) (acc : List Int) (v : Value) (wr : World) : Prop :=
  wr.ownsRow (w.heap.size + 1) 3 1 v acc.length (intsV acc) ∧ Below (w.heap.size + 1) (w.alloc (.cells (meshC W H A n cap) 36)) wr
section
variable {W H : Int} {A : Option Addr} {n cap : Nat} {w wr w' : World} {acc : List Int} {v : Value}
theorem one_size : (w.alloc (.cells (meshC W H A n cap) 36)).heap.size = w.heap.size + 1 := by simp
theorem OneAt.le (h : OneAt W H A n cap w acc v wr) : w.heap.size + 1 ≤ wr.heap.size := by have h1 := h.2.size; rw [one_size] at h1; exact h1
theorem OneAt.gb (h : OneAt W H A n cap w acc v wr) (hg : wr.grownBy w' none) : OneAt W H A n cap w acc v w' := ⟨own_none h.1 hg, below_gb h.2 (by rw [one_size]; exact Nat.le_refl _) hg⟩
theorem OneAt.old (h : OneAt W H A n cap w acc v wr) : Below w.heap.size w wr := below_box h.2
theorem OneAt.mesh (h : OneAt W H A n cap w acc v wr) : Blk wr w.heap.size 36 (meshC W H A n cap) := (Blk.new w 36 (meshC W H A n cap)).below h.2 (by omega)
theorem OneAt.cells (h : OneAt W H A n cap w acc v wr) : wr.cell? ⟨w.heap.size, 0, none⟩ = some (.int .i64 W) ∧ wr.cell? ⟨w.heap.size, 1, none⟩ = some (.int .i64 H) ∧ wr.cell? ⟨w.heap.size, 2, none⟩ = some (.slice A n cap) :=
  ⟨h.mesh.cell 0, h.mesh.cell 1, h.mesh.cell 2⟩
theorem OneAt.row (h : OneAt W H A n cap w acc v wr) {B : Option Addr} {m : Nat} {X : List Int} (hi : IntAt w w.heap.size B m X) : IntAt wr wr.heap.size B m X := (hi.below h.old).more h.old.size
theorem OneAt.app {x : Int} {v' : Value} {o : Obj} (h : OneAt W H A n cap w acc v wr) (ho : w'.ownsRow (w.heap.size + 1) 3 1 v' (acc.length + 1) (intsV acc ++ [.int .i64 x])) (hg : (wr.alloc o).grownBy w' v.ownBlock) :
    OneAt W H A n cap w (acc ++ [x]) v' w' ∧ ∃ A' c', v' = .slice A' (acc.length + 1) c' := by
  have h1 : w'.ownsRow (w.heap.size + 1) 3 1 v' (acc ++ [x]).length (intsV (acc ++ [x])) := by rw [List.length_append, intsV_append]; exact ho
  refine ⟨⟨h1, (h.2.alloc h.le _).grown hg (by have := h.le; simp; omega) (fun j hj => (h.1.lt j hj).1)⟩, ?_⟩
  obtain ⟨A', c', rfl, _⟩ := own_form ho
  exact ⟨A', c', rfl⟩
theorem OneAt.start (hg : (w.alloc (.cells (meshC W H A n cap) 36)).grownBy wr none) : OneAt W H A n cap w [] (.slice none 0 0) wr := ⟨World.ownsRow_nil _ _ _ _, gb_below_none hg (by rw [one_size]; exact Nat.le_refl _)⟩
/-- A list of one number. -/
theorem OneAt.made (hg : (w.alloc (.cells (meshC W H A n cap) 36)).grownBy wr none) (x : Int) :
    OneAt W H A n cap w [x] (.slice (some ⟨wr.heap.size, 0, none⟩) 1 1) (wr.alloc (.cells #[.int .i64 x] 3)) := by
  have hb := gb_below_none hg (B := w.heap.size + 1) (by rw [one_size]; exact Nat.le_refl _)
  have hs := hb.size
  rw [one_size] at hs
  exact ⟨World.ownsRow_lit (base := w.heap.size + 1) (e := 3) (size := 1) wr #[.int .i64 x] 1 hs (by decide) rfl, hb.alloc hs _⟩
theorem OneAt.made0 (hg : (w.alloc (.cells (meshC W H A n cap) 36)).grownBy wr none) :
    OneAt W H A n cap w [] (.slice (some ⟨wr.heap.size, 0, none⟩) 0 0) (wr.alloc (.cells #[] 3)) := by
  have hb := gb_below_none hg (B := w.heap.size + 1) (by rw [one_size]; exact Nat.le_refl _)
  have hs := hb.size
  rw [one_size] at hs
  exact ⟨World.ownsRow_made (base := w.heap.size + 1) (e := 3) (size := 1) wr #[] 0 hs (by decide) rfl, hb.alloc hs _⟩
theorem OneAt.new (h : OneAt W H A n cap w acc v wr) {L : List Int} (hL : acc = L) : wr.ownsRow w.heap.size 3 1 v L.length (intsV L) ∧ Below w.heap.size w wr := by
  subst hL; exact ⟨own_less h.1 (by omega), h.old⟩
end
/-- A new list of numbers, and whether there is one. -/
def NewR (L : List Int) (b : Bool) (w : World) (e : Ending) (w' : World) : Prop :=
  ∃ v, e = .returned (.tuple #[v, .bool b]) ∧ w'.ownsRow w.heap.size 3 1 v L.length (intsV L) ∧ Below w.heap.size w w'
theorem ret_pair {v : Value} {a b : Bool} (h : a = b) : Ending.returned (.tuple #[v, .bool a]) = Ending.returned (.tuple #[v, .bool b]) := by rw [h]
theorem own_nil {L : List Int} (h : L = []) (w : World) (base : Nat) : w.ownsRow base 3 1 (.slice none 0 0) L.length (intsV L) := by subst h; exact World.ownsRow_nil _ _ _ _
/-- An empty list of the function's own. -/
theorem own_empty {L : List Int} (h : L = []) {w wr : World} (hb : Below w.heap.size w wr) : (wr.alloc (.cells #[] 3)).ownsRow w.heap.size 3 1 (.slice (some ⟨wr.heap.size, 0, none⟩) 0 0) L.length (intsV L) ∧ Below w.heap.size w (wr.alloc (.cells #[] 3)) := by
  subst h
  exact ⟨World.ownsRow_made (base := w.heap.size) (e := 3) (size := 1) wr #[] 0 hb.size (by decide) rfl, hb.alloc hb.size _⟩
theorem own_cap {w : World} {base : Nat} {e : TypeId} {size n cap : Nat} {A : Option Addr} {xs : List Value} (h : w.ownsRow base e size (.slice A n cap) n xs) : n ≤ cap ∧ cap ≤ maxLen := by
  rcases h.2 with ⟨h1, h2⟩ | ⟨g, cap', cur, h1, _, _, h2, h3, _⟩
  · simp only [Value.slice.injEq] at h1
    obtain ⟨_, _, rfl⟩ := h1
    exact ⟨by omega, Nat.zero_le _⟩
  · simp only [Value.slice.injEq] at h1
    obtain ⟨_, _, rfl⟩ := h1
    exact ⟨h2, h3⟩
/-- The first k numbers of a slice. -/
theorem IntAt.take {w : World} {B n : Nat} {A : Option Addr} {L : List Int} (h : IntAt w B A n L) {k : Nat} (hk : k ≤ n) : IntAt w B A k (L.take k) := ⟨by have := h.1; simp; omega, fun h0 => by
  obtain ⟨b, off, hA, hb, hc⟩ := h.2 (by omega)
  refine ⟨b, off, hA, hb, fun j x hx => hc j x ?_⟩
  rcases Nat.lt_or_ge j k with h1 | h1
  · rwa [List.getElem?_take_of_lt h1] at hx
  · rw [List.getElem?_eq_none (by simp; omega)] at hx; cases hx⟩
end Go.Proofs.Ytpcmkilaapjaaaa
