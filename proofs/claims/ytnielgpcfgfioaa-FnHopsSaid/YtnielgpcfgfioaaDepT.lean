/- What is proved here: lists of dependencies as rows: copies, marks, what is read of them; nothing of the program. -/
import Derived.Test.YtnielgpcfgfioaaDepI
import Derived.Deep.RegionHeld3
import Derived.Deep.MidRow
namespace Go.Proofs.Ytnielgpcfgfioaa
open Go.ChangeShapes Go.WideShapes Go.ChangeAt Go.RowKit
set_option linter.unusedVariables false
set_option maxRecDepth 20000

theorem gb_drD {a b : World} {row : Option Nat} (h : a.drew.grownBy b row) : a.grownBy b row := ⟨h.os, h.tape, h.output, h.size, h.block⟩
theorem depV_cons (d : Dep) (D : List Dep) : depV (d :: D) = .int .i64 d.1 :: .int .i64 d.2 :: depV D := rfl
theorem depV_set : ∀ (D : List Dep) (k : Nat) (x y : Int), ((depV D).set (k * 2) (.int .i64 x)).set (k * 2 + 1) (.int .i64 y) = depV (D.set k (x, y))
  | [], k, x, y => by simp [depV, depC_nil, intsV]
  | d :: D, 0, x, y => rfl
  | d :: D, k + 1, x, y => by
    have e1 : (k + 1) * 2 = k * 2 + 1 + 1 := by omega
    have e2 : (k + 1) * 2 + 1 = k * 2 + 1 + 1 + 1 := by omega
    rw [e2, e1, depV_cons, List.set_cons_succ, List.set_cons_succ, List.set_cons_succ, List.set_cons_succ, depV_set D k x y, List.set_cons_succ, depV_cons]
theorem madeDeps (n : Nat) : (madeCells (Value.agg #[.int .i64 0, .int .i64 0]).cells (n * 2)).toList = depV (List.replicate n (0, 0)) := by
  have e : ∀ n, depV (List.replicate n (0, 0)) = List.replicate (n * 2) (.int .i64 0) := fun n => by
    induction n with
    | zero => rfl
    | succ n ih => rw [List.replicate_succ, depV_cons, ih, show (n + 1) * 2 = n * 2 + 1 + 1 by omega, List.replicate_succ, List.replicate_succ]
  rw [e]
  apply List.ext_getElem?
  intro j
  by_cases hj : j < n * 2
  · have : j % 2 = 0 ∨ j % 2 = 1 := by omega
    rcases this with h | h <;> simp [madeCells, Value.cells, hj, h]
  · simp [madeCells, Value.cells, hj]

/-- The first k elements of D, then zeros. -/
def fillD (D : List Dep) (n k : Nat) : List Dep := (List.range n).map fun t => if t < k then atD D t else (0, 0)
theorem fillD_zero (D : List Dep) (n : Nat) : fillD D n 0 = List.replicate n (0, 0) := by
  refine List.ext_getElem (by simp [fillD]) fun i h1 h2 => ?_
  simp [fillD]
theorem fillD_succ (D : List Dep) (n k : Nat) : (fillD D n k).set k (atD D k) = fillD D n (k + 1) := by
  refine List.ext_getElem (by simp [fillD]) fun i h1 h2 => ?_
  rw [List.getElem_set]
  by_cases e : k = i
  · subst e; simp [fillD]
  · simp only [e, if_false, fillD, List.getElem_map, List.getElem_range]
    by_cases hi : i < k
    · rw [if_pos hi, if_pos (by omega)]
    · rw [if_neg hi, if_neg (by omega)]
theorem fillD_next (D : List Dep) (n k : Nat) (x : Dep) (h : atD D k = x) : (fillD D n k).set k (x.1, x.2) = fillD D n (k + 1) := by rw [← h]; exact fillD_succ D n k
theorem fillD_all (D : List Dep) (n : Nat) (h : D.length = n) : fillD D n n = D := by
  refine List.ext_getElem (by simp [fillD, h]) fun i h1 h2 => ?_
  have : i < n := by omega
  simp only [fillD, List.getElem_map, List.getElem_range, this, if_true]
  exact atD_get h2
theorem fillD_length (D : List Dep) (n k : Nat) : (fillD D n k).length = n := by simp [fillD]

/-- A new row that holds the elements of D. -/
def NewDep (D : List Dep) (w : World) (e : Ending) (w' : World) : Prop :=
  ∃ g, e = .returned (.slice (some ⟨g, 0, none⟩) D.length D.length) ∧ w'.ownsRow w.heap.size 49 2 (.slice (some ⟨g, 0, none⟩) D.length D.length) D.length (depV D) ∧ Below w.heap.size w w'
def FillAt (w : World) (n : Nat) (D : List Dep) (k : Nat) (v : Value) (wr : World) : Prop := wr.ownsRow w.heap.size 49 2 v n (depV (fillD D n k)) ∧ Below w.heap.size w wr

def markD (k0 n j : Nat) (l : List Dep) : List Dep := (List.range n).map fun t => if t < j then (((k0 + t * 2 : Nat) : Int), ((k0 + t * 2 + 1 : Nat) : Int)) else atD l t
theorem markD_zero (k0 n : Nat) (l : List Dep) (h : l.length = n) : markD k0 n 0 l = l := by
  refine List.ext_getElem (by simp [markD, h]) fun i h1 h2 => ?_
  simp only [markD, List.getElem_map, List.getElem_range, Nat.not_lt_zero, if_false]
  exact atD_get h2
theorem markD_succ (k0 n j : Nat) (l : List Dep) : (markD k0 n j l).set j (((k0 + j * 2 : Nat) : Int), ((k0 + j * 2 + 1 : Nat) : Int)) = markD k0 n (j + 1) l := by
  refine List.ext_getElem (by simp [markD]) fun i h1 h2 => ?_
  rw [List.getElem_set]
  by_cases e : j = i
  · subst e; simp [markD]
  · simp only [e, if_false, markD, List.getElem_map, List.getElem_range]
    by_cases hi : i < j
    · rw [if_pos hi, if_pos (by omega)]
    · rw [if_neg hi, if_neg (by omega)]
theorem markD_length (k0 n j : Nat) (l : List Dep) : (markD k0 n j l).length = n := by simp [markD]
def marksD (k0 n : Nat) : List Dep := markD k0 n n []
theorem markD_all (k0 n : Nat) (l : List Dep) : markD k0 n n l = marksD k0 n := by
  refine List.ext_getElem (by simp [markD, marksD]) fun i h1 h2 => ?_
  have : i < n := by simpa [markD] using h1
  simp [markD, marksD, this]
theorem marksD_length (k0 n : Nat) : (marksD k0 n).length = n := markD_length k0 n n []
theorem marksD_get (k0 n j : Nat) (h : j < n) : atD (marksD k0 n) j = (((k0 + j * 2 : Nat) : Int), ((k0 + j * 2 + 1 : Nat) : Int)) := by
  rw [atD_get (by rw [marksD_length]; exact h)]
  simp [marksD, markD, h]
theorem there_own {w : World} {base g n cap : Nat} {D : List Dep} (h : w.ownsRow base 49 2 (.slice (some ⟨g, 0, none⟩) n cap) n (depV D)) {k : Nat} (hk : k < n) : w.there g (k * 2) 2 := fun j hj => by
  have hl := h.1
  refine ⟨?_, h.frozenAt _⟩
  rw [h.cellAt (k * 2 + j) (by omega), List.getElem?_eq_getElem (by omega)]
  rfl
theorem stored_own {w : World} {base g n cap : Nat} {D : List Dep} (h : w.ownsRow base 49 2 (.slice (some ⟨g, 0, none⟩) n cap) n (depV D)) (k : Nat) (x y : Int) :
    (w.setCells g (k * 2) [.int .i64 x, .int .i64 y]).ownsRow base 49 2 (.slice (some ⟨g, 0, none⟩) n cap) n (depV (D.set k (x, y))) ∧ w.grownBy (w.setCells g (k * 2) [.int .i64 x, .int .i64 y]) (some g) := by
  obtain ⟨h1, g1⟩ := h.stored (k * 2) (.int .i64 x)
  obtain ⟨h2, g2⟩ := h1.stored (k * 2 + 1) (.int .i64 y)
  rw [depV_set] at h2
  exact ⟨h2, gb_trans g1 g2⟩
end Go.Proofs.Ytnielgpcfgfioaa
