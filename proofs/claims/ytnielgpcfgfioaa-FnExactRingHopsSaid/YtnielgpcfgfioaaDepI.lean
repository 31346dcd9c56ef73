/- What is proved here: lists of dependencies as cells: rows of the call's own and slices that can be read; nothing of the program. -/
import Derived.Test.YtnielgpcfgfioaaDepM
import Derived.Test.YtnielgpcfgfioaaNewI
namespace Go.Proofs.Ytnielgpcfgfioaa
open Go.ChangeShapes Go.WideShapes Go.ChangeAt Go.RowKit
set_option linter.unusedVariables false

def depC (D : List Dep) : List Int := D.flatMap fun d => [d.1, d.2]
def depV (D : List Dep) : List Value := intsV (depC D)
theorem depC_nil : depC [] = [] := rfl
theorem depC_cons (d : Dep) (D : List Dep) : depC (d :: D) = d.1 :: d.2 :: depC D := rfl
theorem depC_append (D E : List Dep) : depC (D ++ E) = depC D ++ depC E := by simp [depC]
theorem depC_length (D : List Dep) : (depC D).length = D.length * 2 := by
  induction D with
  | nil => rfl
  | cons d D ih => rw [depC_cons, List.length_cons, List.length_cons, ih, List.length_cons]; omega
theorem depC_at : ∀ (D : List Dep) (k : Nat), k < D.length → (depC D)[k * 2]? = some (atD D k).1 ∧ (depC D)[k * 2 + 1]? = some (atD D k).2
  | [], k, h => by simp at h
  | d :: D, 0, h => ⟨rfl, rfl⟩
  | d :: D, k + 1, h => by
    have ih := depC_at D k (by simpa using h)
    have e1 : (k + 1) * 2 = k * 2 + 1 + 1 := by omega
    rw [depC_cons, e1]
    exact ih
theorem depC_take (D : List Dep) (i : Nat) : depC (D.take i) = (depC D).take (i * 2) := by
  induction D generalizing i with
  | nil => simp [depC_nil]
  | cons d D ih =>
    cases i with
    | zero => simp [depC_nil]
    | succ i =>
      have e1 : (i + 1) * 2 = i * 2 + 1 + 1 := by omega
      rw [List.take_succ_cons, depC_cons, depC_cons, e1, List.take_succ_cons, List.take_succ_cons, ih]
theorem depC_drop (D : List Dep) (i : Nat) : depC (D.drop i) = (depC D).drop (i * 2) := by
  induction D generalizing i with
  | nil => simp [depC_nil]
  | cons d D ih =>
    cases i with
    | zero => simp
    | succ i =>
      have e1 : (i + 1) * 2 = i * 2 + 1 + 1 := by omega
      rw [List.drop_succ_cons, depC_cons, e1, List.drop_succ_cons, List.drop_succ_cons, ih]
theorem depV_append (D E : List Dep) : depV (D ++ E) = depV D ++ depV E := by rw [depV, depC_append, intsV_append]; rfl
theorem depV_length (D : List Dep) : (depV D).length = D.length * 2 := by rw [depV, intsV_length, depC_length]
theorem depV_one (x y : Int) : depV [(x, y)] = [.int .i64 x, .int .i64 y] := rfl
theorem depV_take (D : List Dep) (i : Nat) : depV (D.take i) = (depV D).take (i * 2) := by rw [depV, depC_take, depV, intsV, intsV, List.map_take]
theorem depV_drop (D : List Dep) (i : Nat) : depV (D.drop i) = (depV D).drop (i * 2) := by rw [depV, depC_drop, depV, intsV, intsV, List.map_drop]
theorem depV_at (D : List Dep) (k : Nat) (h : k < D.length) : (depV D)[k * 2]? = some (.int .i64 (atD D k).1) ∧ (depV D)[k * 2 + 1]? = some (.int .i64 (atD D k).2) := by
  obtain ⟨h1, h2⟩ := depC_at D k h
  simp [depV, intsV, h1, h2]
theorem depV_one1 (D : List Dep) : ∀ v ∈ depV D, v.oneCell' = true := by
  intro v hv
  simp only [depV, intsV, List.mem_map] at hv
  obtain ⟨x, _, rfl⟩ := hv
  rfl

/-- The slice's n elements are those of D, in a block below B. -/
def DepAt (w : World) (B : Nat) (A : Option Addr) (n : Nat) (D : List Dep) : Prop :=
  D.length = n ∧ (0 < n → ∃ b off, A = some ⟨b, off, none⟩ ∧ b < B ∧ ∀ k, k < n → w.cell? ⟨b, off + k * 2, none⟩ = some (.int .i64 (atD D k).1) ∧ w.cell? ⟨b, off + k * 2 + 1, none⟩ = some (.int .i64 (atD D k).2))
section
variable {w w' : World} {B B' n : Nat} {A : Option Addr} {D : List Dep}
theorem DepAt.keep (h : DepAt w B A n D) (hk : ∀ p : Addr, p.block < B → w'.cell? p = w.cell? p) : DepAt w' B A n D := ⟨h.1, fun hn => by
  obtain ⟨b, off, hA, hb, hc⟩ := h.2 hn
  exact ⟨b, off, hA, hb, fun k hk' => ⟨(hk _ hb).trans (hc k hk').1, (hk _ hb).trans (hc k hk').2⟩⟩⟩
theorem DepAt.more (h : DepAt w B A n D) (hB : B ≤ B') : DepAt w B' A n D := ⟨h.1, fun hn => by
  obtain ⟨b, off, hA, hb, hc⟩ := h.2 hn
  exact ⟨b, off, hA, by omega, hc⟩⟩
theorem DepAt.grown {row : Option Nat} (h : DepAt w B A n D) (hB : B ≤ w.heap.size) (hg : w.grownBy w' row) (hr : ∀ k, row = some k → B ≤ k) : DepAt w' B A n D :=
  h.keep fun p hp => World.cell?_of_block (hg.block p.block (by omega) (fun e => by have := hr _ e.symm; omega))
theorem DepAt.none (h : DepAt w B A n D) (hB : B ≤ w.heap.size) (hg : w.grownBy w' none) : DepAt w' B A n D := h.grown hB hg (fun k e => by cases e)
theorem DepAt.below (h : DepAt w B A n D) (hb : Below B w w') : DepAt w' B A n D := h.keep fun p hp => World.cell?_of_block (hb.block p.block hp)
theorem DepAt.nil (w : World) (B : Nat) (A : Option Addr) : DepAt w B A 0 [] := ⟨rfl, fun h => by omega⟩
/-- One element. -/
theorem DepAt.at (h : DepAt w B A n D) (k : Nat) (hk : k < n) : ∃ b off, A = some ⟨b, off, Option.none⟩ ∧ b < B ∧ w.cell? ⟨b, off + k * 2, Option.none⟩ = some (.int .i64 (atD D k).1) ∧ w.cell? ⟨b, off + k * 2 + 1, Option.none⟩ = some (.int .i64 (atD D k).2) := by
  obtain ⟨b, off, hA, hb, hc⟩ := h.2 (by omega)
  exact ⟨b, off, hA, hb, hc k hk⟩
end
theorem dep_cell {w : World} {base n g cap : Nat} {D : List Dep} (h : w.ownsRow base 49 2 (.slice (some ⟨g, 0, none⟩) n cap) n (depV D)) (k : Nat) (hk : k < D.length) :
    w.cell? ⟨g, k * 2, none⟩ = some (.int .i64 (atD D k).1) ∧ w.cell? ⟨g, k * 2 + 1, none⟩ = some (.int .i64 (atD D k).2) := by
  have hl := h.1
  rw [depV_length] at hl
  obtain ⟨h1, h2⟩ := depV_at D k hk
  exact ⟨(h.cellAt (k * 2) (by omega)).trans h1, (h.cellAt (k * 2 + 1) (by omega)).trans h2⟩
theorem own_dep_length {w : World} {base n : Nat} {v : Value} {D : List Dep} (h : w.ownsRow base 49 2 v n (depV D)) : D.length = n := by
  have := h.1
  rw [depV_length] at this
  omega
theorem depAt_own {w : World} {base n B cap : Nat} {A : Option Addr} {D : List Dep} (h : w.ownsRow base 49 2 (.slice A n cap) n (depV D)) (hB : w.heap.size ≤ B) : DepAt w B A n D :=
  ⟨own_dep_length h, fun hn => by
    have hl := own_dep_length h
    obtain ⟨A', cap', hv, ha⟩ := own_form h
    obtain ⟨g, hg⟩ := ha hn
    obtain ⟨rfl, rfl⟩ : A = A' ∧ cap = cap' := by injection hv with h1 h2 h3; exact ⟨h1, h3⟩
    subst hg
    exact ⟨g, 0, rfl, by have := (h.lt g rfl).2; omega, fun k hk => by rw [Nat.zero_add]; exact dep_cell h k (by omega)⟩⟩
/-- A new list of dependencies. -/
def NewD (D : List Dep) (w : World) (e : Ending) (w' : World) : Prop :=
  ∃ v, e = .returned v ∧ w'.ownsRow w.heap.size 49 2 v D.length (depV D) ∧ Below w.heap.size w w'
theorem own_nilD {D : List Dep} (h : D = []) (w : World) (base : Nat) : w.ownsRow base 49 2 (.slice none 0 0) D.length (depV D) := by subst h; exact World.ownsRow_nil _ _ _ _
def depX (d : Dep) : Value := .agg #[.int .i64 d.1, .int .i64 d.2]
/-- A dependency in a box of the callee's own. -/
def boxD (d : Dep) (w : World) : World := w.alloc (.cells #[.int .i64 d.1, .int .i64 d.2] 49)
theorem boxD_gb (d : Dep) (w : World) : w.grownBy (boxD d w) none := gb_alloc (gb_refl _ _) _
theorem boxD_blk (d : Dep) (w : World) : Blk (boxD d w) w.heap.size 49 #[.int .i64 d.1, .int .i64 d.2] := Blk.new w 49 #[.int .i64 d.1, .int .i64 d.2]
theorem info_dep : (Try.prog.info? 49).map (fun i => (i.zero, i.size, i.bytes)) = some (some (.agg #[.int .i64 0, .int .i64 0]), 2, 16) := by kernel_rfl
end Go.Proofs.Ytnielgpcfgfioaa
