/- What is proved here: rows of records as cells: each record is laid out as so many cells; slices that can be read and rows of the call's own; nothing of the program. -/
import Derived.Test.YtfloekbmgjmhbaaNewI
import Derived.Test.YtfloekbmgjmhbaaNewR
namespace Go.Proofs.Ytfloekbmgjmhbaa
open Go.ChangeShapes Go.WideShapes Go.ChangeAt Go.RowKit
set_option linter.unusedVariables false

/-- A record takes z cells, each of them one cell. -/
structure Lay {α : Type} (z : Nat) (c : α → List Value) : Prop where
  len : ∀ x, (c x).length = z
  one : ∀ x, ∀ v ∈ c x, v.oneCell' = true
def recV {α : Type} (c : α → List Value) (D : List α) : List Value := D.flatMap c
section
variable {α : Type} {z : Nat} {c : α → List Value}
theorem recV_nil : recV c [] = [] := rfl
theorem recV_cons (x : α) (D : List α) : recV c (x :: D) = c x ++ recV c D := by simp [recV]
theorem recV_append (D E : List α) : recV c (D ++ E) = recV c D ++ recV c E := by simp [recV]
theorem recV_length (h : Lay z c) (D : List α) : (recV c D).length = D.length * z := by
  induction D with
  | nil => simp [recV_nil]
  | cons x D ih => rw [recV_cons, List.length_append, h.len, ih, List.length_cons, Nat.add_mul, Nat.one_mul]; omega
theorem recV_one (h : Lay z c) (D : List α) : ∀ v ∈ recV c D, v.oneCell' = true := by
  intro v hv
  obtain ⟨x, _, hx⟩ := List.mem_flatMap.1 hv
  exact h.one x v hx
theorem recV_at (h : Lay z c) : ∀ (D : List α) (k j : Nat) (x : α) (v : Value), D[k]? = some x → (c x)[j]? = some v → (recV c D)[k * z + j]? = some v
  | [], k, j, x, v, hx, _ => by simp at hx
  | y :: D, 0, j, x, v, hx, hv => by
    have e : y = x := by simpa using hx
    subst e
    have hj : j < (c y).length := (List.getElem?_eq_some_iff.1 hv).1
    rw [recV_cons, Nat.zero_mul, Nat.zero_add, List.getElem?_append_left hj]
    exact hv
  | y :: D, k + 1, j, x, v, hx, hv => by
    have ih := recV_at h D k j x v (by simpa using hx) hv
    have hl := h.len y
    rw [recV_cons, List.getElem?_append_right (by rw [hl, Nat.add_mul, Nat.one_mul]; omega), hl, show (k + 1) * z + j - z = k * z + j by rw [Nat.add_mul, Nat.one_mul]; omega]
    exact ih
/-- Every cell of the row belongs to a record. -/
theorem recV_of (h : Lay z c) (hz : 0 < z) (D : List α) {i : Nat} {v : Value} (hv : (recV c D)[i]? = some v) : ∃ x, D[i / z]? = some x ∧ (c x)[i % z]? = some v := by
  have hi := (List.getElem?_eq_some_iff.1 hv).1
  rw [recV_length h] at hi
  have hk : i / z < D.length := Nat.div_lt_of_lt_mul (by rw [Nat.mul_comm]; exact hi)
  have hj : i % z < z := Nat.mod_lt _ hz
  refine ⟨D[i / z], List.getElem?_eq_getElem hk, ?_⟩
  have hc : i % z < (c D[i / z]).length := by rw [h.len]; exact hj
  have h1 := recV_at h D (i / z) (i % z) D[i / z] _ (List.getElem?_eq_getElem hk) (List.getElem?_eq_getElem hc)
  rw [show i / z * z + i % z = i by rw [Nat.mul_comm]; exact Nat.div_add_mod i z] at h1
  rw [h1] at hv
  rw [List.getElem?_eq_getElem hc]
  exact hv
theorem recV_take (h : Lay z c) (D : List α) (i : Nat) : recV c (D.take i) = (recV c D).take (i * z) := by
  induction D generalizing i with
  | nil => simp [recV_nil]
  | cons x D ih =>
    cases i with
    | zero => simp [recV_nil]
    | succ i =>
      have e : List.take ((i + 1) * z) (c x) = c x := List.take_of_length_le (by rw [h.len, Nat.add_mul, Nat.one_mul]; omega)
      rw [List.take_succ_cons, recV_cons, recV_cons, ih, List.take_append, h.len, e, show (i + 1) * z - z = i * z by rw [Nat.add_mul, Nat.one_mul]; omega]
theorem recV_drop (h : Lay z c) (D : List α) (i : Nat) : recV c (D.drop i) = (recV c D).drop (i * z) := by
  induction D generalizing i with
  | nil => simp [recV_nil]
  | cons x D ih =>
    cases i with
    | zero => simp
    | succ i =>
      have e : List.drop ((i + 1) * z) (c x) = [] := List.drop_of_length_le (by rw [h.len, Nat.add_mul, Nat.one_mul]; omega)
      rw [List.drop_succ_cons, recV_cons, ih, List.drop_append, h.len, e, show (i + 1) * z - z = i * z by rw [Nat.add_mul, Nat.one_mul]; omega, List.nil_append]
/-- The slice's n records are those of D, in a block below B. -/
def RecAt (z : Nat) (c : α → List Value) (w : World) (B : Nat) (A : Option Addr) (n : Nat) (D : List α) : Prop :=
  D.length = n ∧ (0 < n → ∃ b off, A = some ⟨b, off, none⟩ ∧ b < B ∧ ∀ k x, D[k]? = some x → ∀ j v, (c x)[j]? = some v → w.cell? ⟨b, off + k * z + j, none⟩ = some v)
variable {w w' : World} {B B' n : Nat} {A : Option Addr} {D : List α}
theorem RecAt.keep (h : RecAt z c w B A n D) (hk : ∀ p : Addr, p.block < B → w'.cell? p = w.cell? p) : RecAt z c w' B A n D := ⟨h.1, fun hn => by
  obtain ⟨b, off, hA, hb, hc⟩ := h.2 hn
  exact ⟨b, off, hA, hb, fun k x hx j v hv => (hk _ hb).trans (hc k x hx j v hv)⟩⟩
theorem RecAt.more (h : RecAt z c w B A n D) (hB : B ≤ B') : RecAt z c w B' A n D := ⟨h.1, fun hn => by
  obtain ⟨b, off, hA, hb, hc⟩ := h.2 hn
  exact ⟨b, off, hA, by omega, hc⟩⟩
theorem RecAt.grown {row : Option Nat} (h : RecAt z c w B A n D) (hB : B ≤ w.heap.size) (hg : w.grownBy w' row) (hr : ∀ k, row = some k → B ≤ k) : RecAt z c w' B A n D :=
  h.keep fun p hp => World.cell?_of_block (hg.block p.block (by omega) (fun e => by have := hr _ e.symm; omega))
theorem RecAt.none (h : RecAt z c w B A n D) (hB : B ≤ w.heap.size) (hg : w.grownBy w' none) : RecAt z c w' B A n D := h.grown hB hg (fun k e => by cases e)
theorem RecAt.below (h : RecAt z c w B A n D) (hb : Below B w w') : RecAt z c w' B A n D := h.keep fun p hp => World.cell?_of_block (hb.block p.block hp)
theorem RecAt.nil (w : World) (B : Nat) (A : Option Addr) : RecAt z c w B A 0 [] := ⟨rfl, fun h => by omega⟩
/-- One record: where it lies, and its cells. -/
theorem RecAt.at (h : RecAt z c w B A n D) (k : Nat) (hk : k < n) : ∃ b off x, A = some ⟨b, off, Option.none⟩ ∧ b < B ∧ D[k]? = some x ∧ ∀ j v, (c x)[j]? = some v → w.cell? ⟨b, off + k * z + j, Option.none⟩ = some v := by
  obtain ⟨b, off, hA, hb, hc⟩ := h.2 (by omega)
  have hkD : k < D.length := by have := h.1; omega
  exact ⟨b, off, D[k], hA, hb, List.getElem?_eq_getElem hkD, hc k D[k] (List.getElem?_eq_getElem hkD)⟩
variable {base cap g : Nat} {e : TypeId} {v : Value}
theorem own_rec_length (hL : Lay z c) (hz : 0 < z) (h : w.ownsRow base e z v n (recV c D)) : D.length = n := by
  have := h.1
  rw [recV_length hL] at this
  exact Nat.eq_of_mul_eq_mul_right hz this
/-- A record's cells in a row of the call's own. -/
theorem rec_cell (hL : Lay z c) (h : w.ownsRow base e z (.slice (some ⟨g, 0, none⟩) n cap) n (recV c D)) {k : Nat} {x : α} (hx : D[k]? = some x) {j : Nat} {u : Value} (hu : (c x)[j]? = some u) :
    w.cell? ⟨g, k * z + j, Option.none⟩ = some u := by
  have hr := recV_at hL D k j x u hx hu
  have hi := (List.getElem?_eq_some_iff.1 hr).1
  exact (h.cellAt (k * z + j) (by have := h.1; omega)).trans hr
theorem recAt_own (hL : Lay z c) (hz : 0 < z) (h : w.ownsRow base e z (.slice A n cap) n (recV c D)) (hB : w.heap.size ≤ B) : RecAt z c w B A n D :=
  ⟨own_rec_length hL hz h, fun hn => by
    obtain ⟨A', cap', hv, ha⟩ := own_form h
    obtain ⟨g, hg⟩ := ha hn
    obtain ⟨rfl, rfl⟩ : A = A' ∧ cap = cap' := by injection hv with h1 h2 h3; exact ⟨h1, h3⟩
    subst hg
    exact ⟨g, 0, rfl, by have := (h.lt g rfl).2; omega, fun k x hx j u hu => by rw [Nat.zero_add]; exact rec_cell hL h hx hu⟩⟩
/-- The first records of a slice, and those behind. -/
theorem RecAt.take (h : RecAt z c w B A n D) {k : Nat} (hk : k ≤ n) : RecAt z c w B A k (D.take k) := ⟨by have := h.1; simp; omega, fun h0 => by
  obtain ⟨b, off, hA, hb, hc⟩ := h.2 (by omega)
  refine ⟨b, off, hA, hb, fun j x hx => hc j x ?_⟩
  rw [List.getElem?_take] at hx
  split at hx
  · exact hx
  · cases hx⟩
theorem RecAt.drop {b off : Nat} (h : RecAt z c w B (some ⟨b, off, Option.none⟩) n D) {k : Nat} (hk : k ≤ n) : RecAt z c w B (some ⟨b, off + k * z, Option.none⟩) (n - k) (D.drop k) := ⟨by have := h.1; simp; omega, fun h0 => by
  obtain ⟨b', off', hA, hb, hc⟩ := h.2 (by omega)
  obtain ⟨rfl, rfl⟩ : b = b' ∧ off = off' := by injection hA with h1; injection h1 with h2 h3; exact ⟨h2, h3⟩
  refine ⟨b, off + k * z, rfl, hb, fun j x hx i u hu => ?_⟩
  rw [List.getElem?_drop] at hx
  have := hc (k + j) x hx i u hu
  rw [Nat.add_mul] at this
  rw [show off + k * z + j * z + i = off + (k * z + j * z) + i by omega]
  exact this⟩
/-- What is appended: the cells of a slice of records. -/
theorem recAt_news (hL : Lay z c) (hz : 0 < z) {b off : Nat} (h : RecAt z c w B (some ⟨b, off, Option.none⟩) n D) : ∀ j u, (recV c D)[j]? = some u → w.cell? ((⟨b, off, Option.none⟩ : Addr).add j) = some u := fun j u hu => by
  have hj := (List.getElem?_eq_some_iff.1 hu).1
  rw [recV_length hL] at hj
  have hn : 0 < n := by
    rcases Nat.eq_zero_or_pos n with h0 | h0
    · have := h.1; rw [this, h0] at hj; simp at hj
    · exact h0
  obtain ⟨b', off', hA, _, hc⟩ := h.2 hn
  obtain ⟨rfl, rfl⟩ : b = b' ∧ off = off' := by injection hA with h1; injection h1 with h2 h3; exact ⟨h2, h3⟩
  obtain ⟨x, hx, hxu⟩ := recV_of hL hz D hu
  have := hc _ x hx _ u hxu
  rw [Addr.add_lit]
  rw [show off + j = off + j / z * z + j % z by have := Nat.div_add_mod j z; rw [Nat.mul_comm] at this; omega]
  exact this
end
end Go.Proofs.Ytfloekbmgjmhbaa
