/- What is proved here: lists of dependencies as cells: rows of the call's own and slices that can be read; nothing of the program; what 'append' yields where a whole slice of dependencies is appended onto a row of the call's own, and what the library's copy of such a slice is; nothing of the program; the model's comparison of two dependencies, and what it makes of an ascending list and one dependency: the same list if it is there, else a new list with it at its place; only new blocks are written; what the model says of a list of dependencies, of successors, and what its ShiftDepends and MergeDepends return; only new blocks are written; small facts on a list of dependencies of the call's own; nothing of the program; what the model's DependsOf returns, for all arguments; only new blocks are written; what the model's OrderOf and IsOrder return, for all arguments; only new blocks are written; the search level by level as mathematics: what is known of the numbers of steps while a level is gone through, and that they are the least ones at the end; nothing of the program; what the model's SuccessorsOf and ShiftDepends return; only new blocks are written; the model's least numbers of steps from a channel to all others; only new blocks are written; what the model's ShortestCycle and HasCycle return, for all arguments; only new blocks are written; the model's verdict on a table; only new blocks are written; what the library's search in a list of numbers returns; only new blocks are written; what the program's search in a list and its test of a channel of a mesh return for numbers of 64 bits; only new blocks are written; what the program's walk of a square of ports returns for two nodes; only new blocks are written; the ways of a valid table between the nodes of a pair; nothing of the program; the program's list of the walks between all pairs of nodes: empty for a table that is not valid, else the walk of each pair in its order; only new blocks are written; what the program's TableOk returns, for all arguments; only new blocks are written; what the library's comparisons of integers return, and the program's comparison of two dependencies; only new blocks are written; what the library's binary search finds in an ascending list of dependencies, with the program's comparison; only new blocks are written. -/
import Derived.Test.YtidilfakganooaaGreatDoorZB
import Derived.Deep.AppendSrc
import Derived.Laws.StructEq
import Derived.Deep.RegionHeld3
import Derived.Deep.RegionLaw
import Derived.Deep.AppendLies
import Derived.Shelf.Abstract
section
namespace Go.Proofs.YtidilfakganooaaGreatDoor
open Go.ChangeShapes Go.WideShapes Go.ChangeAt Go.RowKit
set_option linter.unusedVariables false

def depC (D : List Dep) : List Int := D.flatMap fun d => [d.1, d.2]
def depV (D : List Dep) : List Value := intsV (depC D)
theorem depC_nil : depC [] = [] := rfl
theorem depC_cons (d : Dep) (D : List Dep) : depC (d :: D) = d.1 :: d.2 :: depC D := rfl
theorem depC_append (D E : List Dep) : depC (D ++ E) = depC D ++ depC E := by simp [depC]
theorem depC_length (D : List Dep) : (depC D).length = D.length * 2 := by
  induction D with
  | nil => rfl
  | cons d D ih => rw [depC_cons, List.length_cons, List.length_cons, ih, List.length_cons]; omega
theorem depC_at : ∀ (D : List Dep) (k : Nat), k < D.length → (depC D)[k * 2]? = some (atD D k).1 ∧ (depC D)[k * 2 + 1]? = some (atD D k).2
  | [], k, h => by simp at h
  | d :: D, 0, h => ⟨rfl, rfl⟩
  | d :: D, k + 1, h => by
    have ih := depC_at D k (by simpa using h)
    have e1 : (k + 1) * 2 = k * 2 + 1 + 1 := by omega
    rw [depC_cons, e1]
    exact ih
theorem depC_take (D : List Dep) (i : Nat) : depC (D.take i) = (depC D).take (i * 2) := by
  induction D generalizing i with
  | nil => simp [depC_nil]
  | cons d D ih =>
    cases i with
    | zero => simp [depC_nil]
    | succ i =>
      have e1 : (i + 1) * 2 = i * 2 + 1 + 1 := by omega
      rw [List.take_succ_cons, depC_cons, depC_cons, e1, List.take_succ_cons, List.take_succ_cons, ih]
theorem depC_drop (D : List Dep) (i : Nat) : depC (D.drop i) = (depC D).drop (i * 2) := by
  induction D generalizing i with
  | nil => simp [depC_nil]
  | cons d D ih =>
    cases i with
    | zero => simp
    | succ i =>
      have e1 : (i + 1) * 2 = i * 2 + 1 + 1 := by omega
      rw [List.drop_succ_cons, depC_cons, e1, List.drop_succ_cons, List.drop_succ_cons, ih]
theorem depV_append (D E : List Dep) : depV (D ++ E) = depV D ++ depV E := by rw [depV, depC_append, intsV_append]; rfl
theorem depV_length (D : List Dep) : (depV D).length = D.length * 2 := by rw [depV, intsV_length, depC_length]
theorem depV_one (x y : Int) : depV [(x, y)] = [.int .i64 x, .int .i64 y] := rfl
theorem depV_take (D : List Dep) (i : Nat) : depV (D.take i) = (depV D).take (i * 2) := by rw [depV, depC_take, depV, intsV, intsV, List.map_take]
theorem depV_drop (D : List Dep) (i : Nat) : depV (D.drop i) = (depV D).drop (i * 2) := by rw [depV, depC_drop, depV, intsV, intsV, List.map_drop]
theorem depV_at (D : List Dep) (k : Nat) (h : k < D.length) : (depV D)[k * 2]? = some (.int .i64 (atD D k).1) ∧ (depV D)[k * 2 + 1]? = some (.int .i64 (atD D k).2) := by
  obtain ⟨h1, h2⟩ := depC_at D k h
  simp [depV, intsV, h1, h2]
theorem depV_one1 (D : List Dep) : ∀ v ∈ depV D, v.oneCell' = true := by
  intro v hv
  simp only [depV, intsV, List.mem_map] at hv
  obtain ⟨x, _, rfl⟩ := hv
  rfl

/-- The slice's n elements are those of D, in a block below B. -/
def DepAt (w : World) (B : Nat) (A : Option Addr) (n : Nat) (D : List Dep) : Prop :=
  D.length = n ∧ (0 < n → ∃ b off, A = some ⟨b, off, none⟩ ∧ b < B ∧ ∀ k, k < n → w.cell? ⟨b, off + k * 2, none⟩ = some (.int .i64 (atD D k).1) ∧ w.cell? ⟨b, off + k * 2 + 1, none⟩ = some (.int .i64 (atD D k).2))
section
variable {w w' : World} {B B' n : Nat} {A : Option Addr} {D : List Dep}
theorem DepAt.keep (h : DepAt w B A n D) (hk : ∀ p : Addr, p.block < B → w'.cell? p = w.cell? p) : DepAt w' B A n D := ⟨h.1, fun hn => by
  obtain ⟨b, off, hA, hb, hc⟩ := h.2 hn
  exact ⟨b, off, hA, hb, fun k hk' => ⟨(hk _ hb).trans (hc k hk').1, (hk _ hb).trans (hc k hk').2⟩⟩⟩
theorem DepAt.more (h : DepAt w B A n D) (hB : B ≤ B') : DepAt w B' A n D := ⟨h.1, fun hn => by
  obtain ⟨b, off, hA, hb, hc⟩ := h.2 hn
  exact ⟨b, off, hA, by omega, hc⟩⟩
theorem DepAt.grown {row : Option Nat} (h : DepAt w B A n D) (hB : B ≤ w.heap.size) (hg : w.grownBy w' row) (hr : ∀ k, row = some k → B ≤ k) : DepAt w' B A n D :=
  h.keep fun p hp => World.cell?_of_block (hg.block p.block (by omega) (fun e => by have := hr _ e.symm; omega))
theorem DepAt.none (h : DepAt w B A n D) (hB : B ≤ w.heap.size) (hg : w.grownBy w' none) : DepAt w' B A n D := h.grown hB hg (fun k e => by cases e)
theorem DepAt.below (h : DepAt w B A n D) (hb : Below B w w') : DepAt w' B A n D := h.keep fun p hp => World.cell?_of_block (hb.block p.block hp)
theorem DepAt.nil (w : World) (B : Nat) (A : Option Addr) : DepAt w B A 0 [] := ⟨rfl, fun h => by omega⟩
/-- One element. -/
theorem DepAt.at (h : DepAt w B A n D) (k : Nat) (hk : k < n) : ∃ b off, A = some ⟨b, off, Option.none⟩ ∧ b < B ∧ w.cell? ⟨b, off + k * 2, Option.none⟩ = some (.int .i64 (atD D k).1) ∧ w.cell? ⟨b, off + k * 2 + 1, Option.none⟩ = some (.int .i64 (atD D k).2) := by
  obtain ⟨b, off, hA, hb, hc⟩ := h.2 (by omega)
  exact ⟨b, off, hA, hb, hc k hk⟩
end
theorem dep_cell {w : World} {base n g cap : Nat} {D : List Dep} (h : w.ownsRow base 94 2 (.slice (some ⟨g, 0, none⟩) n cap) n (depV D)) (k : Nat) (hk : k < D.length) :
    w.cell? ⟨g, k * 2, none⟩ = some (.int .i64 (atD D k).1) ∧ w.cell? ⟨g, k * 2 + 1, none⟩ = some (.int .i64 (atD D k).2) := by
  have hl := h.1
  rw [depV_length] at hl
  obtain ⟨h1, h2⟩ := depV_at D k hk
  exact ⟨(h.cellAt (k * 2) (by omega)).trans h1, (h.cellAt (k * 2 + 1) (by omega)).trans h2⟩
theorem own_dep_length {w : World} {base n : Nat} {v : Value} {D : List Dep} (h : w.ownsRow base 94 2 v n (depV D)) : D.length = n := by
  have := h.1
  rw [depV_length] at this
  omega
theorem depAt_own {w : World} {base n B cap : Nat} {A : Option Addr} {D : List Dep} (h : w.ownsRow base 94 2 (.slice A n cap) n (depV D)) (hB : w.heap.size ≤ B) : DepAt w B A n D :=
  ⟨own_dep_length h, fun hn => by
    have hl := own_dep_length h
    obtain ⟨A', cap', hv, ha⟩ := own_form h
    obtain ⟨g, hg⟩ := ha hn
    obtain ⟨rfl, rfl⟩ : A = A' ∧ cap = cap' := by injection hv with h1 h2 h3; exact ⟨h1, h3⟩
    subst hg
    exact ⟨g, 0, rfl, by have := (h.lt g rfl).2; omega, fun k hk => by rw [Nat.zero_add]; exact dep_cell h k (by omega)⟩⟩
/-- A new list of dependencies. -/
def NewD (D : List Dep) (w : World) (e : Ending) (w' : World) : Prop :=
  ∃ v, e = .returned v ∧ w'.ownsRow w.heap.size 94 2 v D.length (depV D) ∧ Below w.heap.size w w'
theorem own_nilD {D : List Dep} (h : D = []) (w : World) (base : Nat) : w.ownsRow base 94 2 (.slice none 0 0) D.length (depV D) := by subst h; exact World.ownsRow_nil _ _ _ _
def depX (d : Dep) : Value := .agg #[.int .i64 d.1, .int .i64 d.2]
/-- A dependency in a box of the callee's own. -/
def boxD (d : Dep) (w : World) : World := w.alloc (.cells #[.int .i64 d.1, .int .i64 d.2] 94)
theorem boxD_gb (d : Dep) (w : World) : w.grownBy (boxD d w) none := gb_alloc (gb_refl _ _) _
theorem boxD_blk (d : Dep) (w : World) : Blk (boxD d w) w.heap.size 94 #[.int .i64 d.1, .int .i64 d.2] := Blk.new w 94 #[.int .i64 d.1, .int .i64 d.2]
theorem info_dep : (Tryz.prog.info? 94).map (fun i => (i.zero, i.size, i.bytes)) = some (some (.agg #[.int .i64 0, .int .i64 0]), 2, 16) := by kernel_rfl
end Go.Proofs.YtidilfakganooaaGreatDoor
end

section
namespace Go.Proofs.YtidilfakganooaaGreatDoor
open Go.ChangeShapes Go.WideShapes Go.ChangeAt Go.RowKit
set_option linter.unusedVariables false

theorem depAt_news {w : World} {B n b off : Nat} {D : List Dep} (h : DepAt w B (some ⟨b, off, none⟩) n D) : ∀ j u, (depV D)[j]? = some u → w.cell? ((⟨b, off, none⟩ : Addr).add j) = some u := fun j u hu => by
  have hj := (List.getElem?_eq_some_iff.1 hu).1
  rw [depV_length] at hj
  have hl := h.1
  obtain ⟨b', off', hA, _, hc⟩ := h.2 (by omega)
  obtain ⟨rfl, rfl⟩ : b = b' ∧ off = off' := by injection hA with h1; injection h1 with h2 h3; exact ⟨h2, h3⟩
  obtain ⟨h1, h2⟩ := depV_at D (j / 2) (by omega)
  obtain ⟨c1, c2⟩ := hc (j / 2) (by omega)
  rw [Addr.add_lit]
  rcases (show j = j / 2 * 2 ∨ j = j / 2 * 2 + 1 by omega) with e | e
  · rw [e, h1] at hu
    rw [e]
    exact c1.trans hu
  · rw [e, h2] at hu
    rw [e]
    exact c2.trans hu
theorem src_deps {w : World} {B n : Nat} {A : Option Addr} {D : List Dep} (h : DepAt w B A n D) (c : Nat) : Src Tryz.prog 2 62 (.slice A n c) n (depV D) w := by
  have hl := h.1
  rcases Nat.eq_zero_or_pos n with h0 | h0
  · subst h0
    obtain rfl : D = [] := List.eq_nil_of_length_eq_zero hl
    cases A with
    | none => exact Src.ofNil w Tryz.underlying62 c
    | some a => exact Src.ofSlice w Tryz.underlying62 a 0 c [] rfl (fun j u hu => by cases hu) (fun u hu => by cases hu)
  · obtain ⟨b, off, rfl, _⟩ := h.2 h0
    exact Src.ofSlice w Tryz.underlying62 _ n c (depV D) (by rw [depV_length, hl]) (depAt_news h) (depV_one1 D)
theorem run_app_nothingD (w : World) (ty : TypeId) (base : Option Addr) (sLen sCap : Nat) (hle : sLen ≤ sCap) (x : Value) (i0 : TypeInfo) (hi : Tryz.prog.info? 94 = some i0) (h1 : i0.size = 2) (hs : Src Tryz.prog 2 62 x 0 [] w) :
    (Builtin.append_ #[62, 62] ty #[.slice base sLen sCap, x]).run Tryz.prog w = .ok (.slice base sLen sCap) w := by
  have hc := hs.cells
  rw [← h1] at hc
  cases base <;> simp [Builtin.append_, run_underlying Tryz.underlying62, sizeOf, typeInfo, hi, hs.len, hle, hc, storeCells]
theorem run_app_ownD (w : World) (ty : TypeId) (i0 : TypeInfo) (hi : Tryz.prog.info? 94 = some i0) (hz0 : i0.zero = some (.agg #[.int .i64 0, .int .i64 0])) (hz1 : i0.size = 2) (hz2 : i0.bytes = 16)
    (base n m c B : Nat) (A : Option Addr) (X L : List Dep) (v : Value) (hown : w.ownsRow base 94 2 v n (depV X)) (h : DepAt w B A m L) (hm : n + m ≤ 4000000001) (hb : base ≤ w.heap.size) :
    ∃ v' w', (Builtin.append_ #[62, 62] ty #[v, .slice A m c]).run Tryz.prog w = .ok v' w' ∧ w'.ownsRow base 94 2 v' (n + m) (depV (X ++ L)) ∧ w.grownBy w' v.ownBlock := by
  have hl := h.1
  rcases Nat.eq_zero_or_pos m with h0 | h0
  · subst h0
    obtain rfl : L = [] := List.eq_nil_of_length_eq_zero hl
    obtain ⟨A', c', rfl, _⟩ := own_form hown
    exact ⟨_, _, run_app_nothingD w ty A' n c' (own_cap hown).1 _ i0 hi hz1 (src_deps h c), by rw [List.append_nil]; exact hown, gb_refl _ _⟩
  · obtain ⟨b, off, rfl, _⟩ := h.2 h0
    obtain ⟨v', w', h1, h2, h3, _⟩ := run_append_own (P := Tryz.prog) w base 62 ty 94 i0 (.agg #[.int .i64 0, .int .i64 0]) 2 16 Tryz.underlying62 hi hz0 hz1 hz2 rfl (by decide) v n (depV X) hown ⟨b, off, none⟩ m c (depV L)
      (by rw [depV_length, hl]) (depAt_news h) (depV_one1 L) (by unfold maxLen; omega) (by omega) hb
    exact ⟨v', w', h1, by rw [depV_append]; exact h2, h3⟩
theorem wpList_app_ownD {ops : Array Oper} {rest : List Oper} {o : Oper} {a : Act} {Q : Exit → Act → World → Prop} (w : World) (hgd : o.guard = none) (s x : Operand)
    (ho : o.op = .call { callee := .builtin .append, args := #[s, x], argTypes := #[62, 62] })
    (i0 : TypeInfo) (hi : Tryz.prog.info? 94 = some i0) (hz0 : i0.zero = some (.agg #[.int .i64 0, .int .i64 0])) (hz1 : i0.size = 2) (hz2 : i0.bytes = 16)
    (base n m c B : Nat) (A : Option Addr) (X L : List Dep) (v : Value) (hs : a.eval s = v) (hx : a.eval x = .slice A m c) (hown : w.ownsRow base 94 2 v n (depV X)) (h : DepAt w B A m L) (hm : n + m ≤ 4000000001) (hb : base ≤ w.heap.size)
    (hk : ∀ v' w', w'.ownsRow base 94 2 v' (n + m) (depV (X ++ L)) → w.grownBy w' v.ownBlock → wpList Tryz.prog ops Q rest (a.put o.dst v') w') : wpList Tryz.prog ops Q (o :: rest) a w := by
  refine wpList_plain hgd fun K hK => ?_
  obtain ⟨v', w', hr, h2, h3⟩ := run_app_ownD w o.type i0 hi hz0 hz1 hz2 base n m c B A X L v hown h hm hb
  unfold Oper.wp execOp
  simp only [ho, resolve, invoke, builtin, Sem.run_bind, Sem.run_pure, Result.andThen_ok, List.map_toArray, List.map_cons, List.map_nil, hs, hx, hr]
  exact hK _ _ (hk v' w' h2 h3)
/-- The same onto a list that is not nil: nor is what it becomes. -/
theorem wpList_app_ownN {ops : Array Oper} {rest : List Oper} {o : Oper} {a : Act} {Q : Exit → Act → World → Prop} (w : World) (hgd : o.guard = none) (s x : Operand)
    (ho : o.op = .call { callee := .builtin .append, args := #[s, x], argTypes := #[62, 62] })
    (i0 : TypeInfo) (hi : Tryz.prog.info? 94 = some i0) (hz0 : i0.zero = some (.agg #[.int .i64 0, .int .i64 0])) (hz1 : i0.size = 2) (hz2 : i0.bytes = 16)
    (base n m c B g c0 : Nat) (A : Option Addr) (X L : List Dep) (hs : a.eval s = .slice (some ⟨g, 0, none⟩) n c0) (hx : a.eval x = .slice A m c) (hown : w.ownsRow base 94 2 (.slice (some ⟨g, 0, none⟩) n c0) n (depV X)) (h : DepAt w B A m L) (hm : n + m ≤ 4000000001) (hb : base ≤ w.heap.size)
    (hk : ∀ g' c' w', w'.ownsRow base 94 2 (.slice (some ⟨g', 0, none⟩) (n + m) c') (n + m) (depV (X ++ L)) → w.grownBy w' (some g) → wpList Tryz.prog ops Q rest (a.put o.dst (.slice (some ⟨g', 0, none⟩) (n + m) c')) w') : wpList Tryz.prog ops Q (o :: rest) a w := by
  refine wpList_plain hgd fun K hK => ?_
  have key : ∃ g' c' w', (Builtin.append_ #[62, 62] o.type #[.slice (some ⟨g, 0, none⟩) n c0, .slice A m c]).run Tryz.prog w = .ok (.slice (some ⟨g', 0, none⟩) (n + m) c') w' ∧ w'.ownsRow base 94 2 (.slice (some ⟨g', 0, none⟩) (n + m) c') (n + m) (depV (X ++ L)) ∧ w.grownBy w' (some g) := by
    rcases Nat.eq_zero_or_pos m with h0 | h0
    · subst h0
      obtain rfl : L = [] := List.eq_nil_of_length_eq_zero h.1
      exact ⟨g, c0, w, run_app_nothingD w o.type _ n c0 (own_cap hown).1 _ i0 hi hz1 (src_deps h c), by rw [List.append_nil]; exact hown, gb_refl _ _⟩
    · obtain ⟨v', w', hr, h2, h3⟩ := run_app_ownD w o.type i0 hi hz0 hz1 hz2 base n m c B A X L _ hown h hm hb
      obtain ⟨A', c', rfl, hA⟩ := own_form h2
      obtain ⟨g', rfl⟩ := hA (by omega)
      exact ⟨g', c', w', hr, h2, h3⟩
  obtain ⟨g', c', w', hr, h2, h3⟩ := key
  unfold Oper.wp execOp
  simp only [ho, resolve, invoke, builtin, Sem.run_bind, Sem.run_pure, Result.andThen_ok, List.map_toArray, List.map_cons, List.map_nil, hs, hx, hr]
  exact hK _ _ (hk g' c' w' h2 h3)
/-- An empty row of the call's own. -/
theorem own_madeD (w : World) {base : Nat} (hb : base ≤ w.heap.size) : (w.alloc (.cells #[] 94)).ownsRow base 94 2 (.slice (some ⟨w.heap.size, 0, none⟩) 0 0) 0 (depV []) :=
  World.ownsRow_made (base := base) (e := 94) (size := 2) w #[] 0 hb (by decide) rfl
theorem own_emptyD {D : List Dep} (h : D = []) {w wr : World} (hb : Below w.heap.size w wr) : (wr.alloc (.cells #[] 94)).ownsRow w.heap.size 94 2 (.slice (some ⟨wr.heap.size, 0, none⟩) 0 0) D.length (depV D) ∧ Below w.heap.size w (wr.alloc (.cells #[] 94)) := by
  subst h
  exact ⟨own_madeD wr hb.size, hb.alloc hb.size _⟩
/-- The first k elements of a slice, and those behind. -/
theorem DepAt.take {w : World} {B n : Nat} {A : Option Addr} {D : List Dep} (h : DepAt w B A n D) {k : Nat} (hk : k ≤ n) : DepAt w B A k (D.take k) := ⟨by have := h.1; simp; omega, fun h0 => by
  obtain ⟨b, off, hA, hb, hc⟩ := h.2 (by omega)
  refine ⟨b, off, hA, hb, fun j hj => ?_⟩
  have e : atD (D.take k) j = atD D j := by simp [atD, List.getD_eq_getElem?_getD, List.getElem?_take_of_lt hj]
  rw [e]
  exact hc j (by omega)⟩
theorem DepAt.drop {w : World} {B n b off : Nat} {D : List Dep} (h : DepAt w B (some ⟨b, off, Option.none⟩) n D) {k : Nat} (hk : k ≤ n) : DepAt w B (some ⟨b, off + k * 2, Option.none⟩) (n - k) (D.drop k) := ⟨by have := h.1; simp; omega, fun h0 => by
  obtain ⟨b', off', hA, hb, hc⟩ := h.2 (by omega)
  obtain ⟨rfl, rfl⟩ : b = b' ∧ off = off' := by injection hA with h1; injection h1 with h2 h3; exact ⟨h2, h3⟩
  refine ⟨b, off + k * 2, rfl, hb, fun j hj => ?_⟩
  have e : atD (D.drop k) j = atD D (k + j) := by simp [atD, List.getD_eq_getElem?_getD, List.getElem?_drop]
  rw [e, show off + k * 2 + j * 2 = off + (k + j) * 2 by omega]
  exact hc (k + j) (by omega)⟩
theorem gb_made {w w' : World} {t : TypeId} (h : (w.alloc (.cells #[] t)).grownBy w' (some w.heap.size)) : w.grownBy w' none :=
  ⟨h.os, h.tape, h.output, by have := h.size; simp at this; omega, fun i hi _ => (h.block i (by simp; omega) (fun e => by have := Option.some.inj e; omega)).trans (Below.heap_alloc w _ i hi)⟩
end Go.Proofs.YtidilfakganooaaGreatDoor
end

section
namespace Go.Proofs.YtidilfakganooaaGreatDoor
open Go.ChangeShapes Go.WideShapes Go.ChangeAt Go.RowKit
set_option linter.unusedVariables false
set_option maxRecDepth 20000

theorem gb_drP {a b : World} {row : Option Nat} (h : a.drew.grownBy b row) : a.grownBy b row := ⟨h.os, h.tape, h.output, h.size, h.block⟩
theorem specLess (a b : Dep) (w : World) : Calls Tryz.prog 98 #[.agg #[.int .i64 a.1, .int .i64 a.2], .agg #[.int .i64 b.1, .int .i64 b.2]] w (RetB (ltD a b) w) := by
  obtain ⟨r, hr⟩ : ∃ r, ltD a b = r := ⟨_, rfl⟩
  rw [hr]
  obtain ⟨a1, a2⟩ := a
  obtain ⟨b1, b2⟩ := b
  have hr2 : r = decide (a1 < b1 ∨ a1 = b1 ∧ a2 < b2) := hr.symm
  clear hr
  by_cases h1 : a1 < b1
  · have HR := Lib.hid (show r = true by rw [hr2]; exact decide_eq_true (.inl h1))
    clear hr2
    go_enter Tryz.func98, Tryz.ntmps98
    go_wp2_with fail
    go_ret
    exact ⟨ret_bool (by rw [HR.out]), gb_alloc (gb_alloc (gb_refl _ _) _) _⟩
  · by_cases h2 : a1 = b1
    · by_cases h3 : a2 < b2
      · have HR := Lib.hid (show r = true by rw [hr2]; exact decide_eq_true (.inr ⟨h2, h3⟩))
        clear hr2
        go_enter Tryz.func98, Tryz.ntmps98
        go_wp2_with fail
        go_ret
        exact ⟨ret_bool (by rw [HR.out]), gb_alloc (gb_alloc (gb_refl _ _) _) _⟩
      · have HR := Lib.hid (show r = false by rw [hr2]; exact decide_eq_false (by omega))
        clear hr2
        go_enter Tryz.func98, Tryz.ntmps98
        go_wp2_with fail
        go_ret
        exact ⟨ret_bool (by rw [HR.out]), gb_alloc (gb_alloc (gb_refl _ _) _) _⟩
    · have HR := Lib.hid (show r = false by rw [hr2]; exact decide_eq_false (by omega))
      clear hr2
      go_enter Tryz.func98, Tryz.ntmps98
      go_wp2_with fail
      go_ret
      exact ⟨ret_bool (by rw [HR.out]), gb_alloc (gb_alloc (gb_refl _ _) _) _⟩
/-- A list of the caller's own that is not nil, or a new one. -/
def PutN (base : Nat) (D : List Dep) (w : World) (e : Ending) (w' : World) : Prop :=
  ∃ g c, e = .returned (.slice (some ⟨g, 0, none⟩) D.length c) ∧ w'.ownsRow base 94 2 (.slice (some ⟨g, 0, none⟩) D.length c) D.length (depV D) ∧ w.grownBy w' none
/-- From the end, the place k has been reached. -/
def downD (D : List Dep) (d : Dep) (k : Nat) : Prop := k ≤ D.length ∧ ∀ t, k ≤ t → t < D.length → ltD d (atD D t) = true
theorem down_put {D : List Dep} (hD : ascD D) {d : Dep} {k : Nat} (h : downD D d k) (h1 : ∀ m, k = m + 1 → ltD d (atD D m) = false ∧ atD D m ≠ d) : insD D d = D.take k ++ d :: D.drop k := by
  have key : ∀ t, t < k → ltD (atD D t) d = true := fun t ht => by
    obtain ⟨m, rfl⟩ : ∃ m, k = m + 1 := ⟨k - 1, by omega⟩
    obtain ⟨h2, h3⟩ := h1 m rfl
    have h4 : ltD (atD D m) d = true := ltD_tri h2 (fun e => h3 e.symm)
    rcases Nat.lt_or_eq_of_le (Nat.le_of_lt_succ ht) with h5 | h5
    · exact ltD_trans (asc_at hD h5 (by have := h.1; omega)) h4
    · rw [h5]; exact h4
  have hlow : lowN D d = k := lowN_of h.1 key (fun hk => ltD_asymm (h.2 k (Nat.le_refl _) hk))
  have hn : d ∉ D := fun hd => by
    obtain ⟨h2, h3⟩ := (there_iff hD).1 hd
    rw [hlow] at h2 h3
    have := h.2 k (Nat.le_refl _) h2
    rw [h3, ltD_irrefl] at this
    cases this
  rw [ins_new hn, putD, hlow]
theorem down_next {D : List Dep} {d : Dep} {m : Nat} (h : downD D d (m + 1)) (h1 : ltD d (atD D m) = true) : downD D d m :=
  ⟨by have := h.1; omega, fun t h2 h3 => by
    rcases Nat.lt_or_eq_of_le h2 with h4 | h4
    · exact h.2 t h4 h3
    · rw [← h4]; exact h1⟩

theorem run_neD {x d : Dep} (h : x ≠ d) (w : World) : (binOp .eql 94 (.agg #[.int .i64 x.1, .int .i64 x.2]) (.agg #[.int .i64 d.1, .int .i64 d.2])).run Tryz.prog w = .ok (.bool false) w := by
  have hst : Tryz.prog.stoodInHeld 94 = false := by kernel_rfl
  by_cases h1 : x.1 = d.1
  · have h2 : ¬ x.2 = d.2 := fun e => h (Prod.ext h1 e)
    simp [go_sem, Tryz.underlying94, Tryz.underlying3, hst, h1, h2]
  · simp [go_sem, Tryz.underlying94, Tryz.underlying3, hst, h1]
theorem gb_un {a b : World} {m : Nat} {row : Option Nat} (h : (a.drewN m).grownBy b row) : a.grownBy b row := ⟨h.os, h.tape, h.output, h.size, h.block⟩
theorem own_castD {w : World} {base n k : Nat} {v : Value} {X Y : List Value} (h : w.ownsRow base 94 2 v n X) (hk : n = k) (hx : X = Y) : w.ownsRow base 94 2 v k Y := by subst hk; subst hx; exact h
theorem put_ret {R : List Dep} {w w4 : World} {base B : Nat} {v : Value} {k : Nat} {X : List Dep} (hR : R = X) (hk : k = X.length) (h0 : 0 < k) (hb : base ≤ B) (ho : w4.ownsRow B 94 2 v k (depV X)) (hg : w.grownBy w4 none) : PutN base R w (.returned v) w4 := by
  subst hR
  subst hk
  obtain ⟨A, c, rfl, hA⟩ := own_form ho
  obtain ⟨g, rfl⟩ := hA h0
  exact ⟨g, c, rfl, own_less ho hb, hg⟩

theorem put_there {D R : List Dep} {w w4 : World} {base n g cap : Nat} (hR : D = R) (hl : D.length = n) (hbase : base ≤ w.heap.size) (ho : w.ownsRow base 94 2 (.slice (some ⟨g, 0, none⟩) n cap) n (depV D)) (hg : w.grownBy w4 none) : PutN base R w (.returned (.slice (some ⟨g, 0, none⟩) n cap)) w4 := by
  subst hR
  subst hl
  exact ⟨g, cap, rfl, own_none ho hg, hg⟩
theorem specPut (base n g cap : Nat) (D : List Dep) (d : Dep) (hD : ascD D) (w : World) (h : w.ownsRow base 94 2 (.slice (some ⟨g, 0, none⟩) n cap) n (depV D)) (hbase : base ≤ w.heap.size) (hn : n ≤ 2000000000) :
    Calls Tryz.prog 66 #[.slice (some ⟨g, 0, none⟩) n cap, .agg #[.int .i64 d.1, .int .i64 d.2]] w (PutN base (insD D d) w) := by
  obtain ⟨i0, hi, hz0, hz1, hz2⟩ := info_parts info_dep
  have hl := own_dep_length h
  have HL := Lib.hid hl
  have HO := Lib.hid h
  have HI := Lib.hid (depAt_own h (Nat.le_refl w.heap.size))
  obtain ⟨hcap, hcap2⟩ := own_cap h
  have c63 : cap ≤ 9223372036854775807 := by unfold maxLen at hcap2; omega
  have BG := Lib.hid (boxD_gb d w)
  have BB := Lib.hid (boxD_blk d w)
  have HLT := Lib.hid (fun (a b : Dep) w => specLess a b w)
  have HDP := Lib.hid (fun k (hk : downD D d k) h1 => down_put hD hk h1)
  have HTH := Lib.hid (fun (m : Nat) (hm : m < n) (e : atD D m = d) => ins_there (D := D) (d := d) (by rw [← e]; exact atD_mem (by omega)))
  obtain ⟨R, hR⟩ : ∃ R, insD D d = R := ⟨_, rfl⟩
  rw [hR] at HDP HTH
  rw [hR]
  have b2 := Lib.hid (show ∀ u ∈ [Value.int .i64 d.1, Value.int .i64 d.2], u.oneCell' = true by simp [Value.oneCell'])
  clear h hD hR hcap2
  go_enter Tryz.func66, Tryz.ntmps66
  go_wp2_with fail
  go_loopw [5] (fun i wr => ∃ k : Nat, i = .int .i64 (k : Int) ∧ k ≤ n ∧ downD D d k ∧ (boxD d w).grownBy wr none) (fun i _ => (intOf i).toNat)
  case atStart => exact ⟨n, rfl, Nat.le_refl _, ⟨by omega, fun t h1 h2 => by omega⟩, gb_refl _ _⟩
  case round =>
    obtain ⟨k, rfl, hk, hs, hg⟩ := hrel
    have HS := Lib.hid hs
    have HG := Lib.hid hg
    have HS1 := Lib.hid (show w.heap.size + 1 ≤ wr.heap.size by have := hg.size; rw [boxD, alloc_size] at this; exact this)
    have bb := BB.out.grown hg (by simp)
    have t0 : wr.cell? ⟨w.heap.size, 0, none⟩ = some (.int .i64 d.1) := bb.cell 0
    have t1 : wr.cell? ⟨w.heap.size, 1, none⟩ = some (.int .i64 d.2) := bb.cell 1
    have BBR := Lib.hid bb
    have HAIR := Lib.hid (HI.out.none (Nat.le_refl _) (gb_trans BG.out hg))
    have HK := Lib.hid hk
    clear bb hs hg
    by_cases h0 : k = 0
    · have H0 := Lib.hid h0
      have hd : decide (0 < k) = false := decide_eq_false (by omega)
      have HR := Lib.hid (HDP.out k HS.out (fun m e => by omega))
      have HAI := HAIR
      have HSW := Lib.hid (show w.heap.size ≤ wr.heap.size by have := HS1.out; omega)
      have BBW := BBR
      have GWS := Lib.hid (gb_refl wr none)
      clear h0 BBR HAIR
      by_cases hck : cap = k
      · have HCK := Lib.hid (show n - k = 0 by omega)
        have HDN := Lib.hid (show D.drop k = [] by rw [List.drop_eq_nil_iff]; omega)
        go_wp2_with fail
        go_quiet (fail)
        go_wp2_with fail
        go_quiet (fail)
        go_wp2_with (first
          | (at_builtin; refine wpList_app_ownD _ rfl (.tmp 34) (.tmp 37) rfl i0 hi hz0 hz1 hz2 wr.heap.size 0 k _ w.heap.size _ [] (D.take k) _ rfl rfl (own_madeD _ (Nat.le_refl _)) ((HAI.out.none HSW.out (gb_alloc (gb_drewN (gb_refl _ none) _) _)).take HK.out) (by omega) (by simp) ?_; intro v1 wA ho2 hg2; have HG3 := Lib.hid (gb_un (gb_made hg2)); have HS2 := Lib.hid HG3.out.size; have bb2 := BBW.out.grown HG3.out (by simp); have t2 : wA.cell? ⟨w.heap.size, 0, none⟩ = some (.int .i64 d.1) := bb2.cell 0; have t3 : wA.cell? ⟨w.heap.size, 1, none⟩ = some (.int .i64 d.2) := bb2.cell 1; have O2 := Lib.hid (own_castD ho2 (Nat.zero_add k) (congrArg depV (List.nil_append _))); clear ho2 hg2 bb2)
          | (at_builtin; refine wpList_append_own _ rfl (.tmp 39) (.tmp 41) 62 rfl wr.heap.size 94 i0 (.agg #[.int .i64 0, .int .i64 0]) 2 16 Tryz.underlying62 hi hz0 hz1 hz2 rfl (by decide) _ k _ rfl (O2.out.alloc _) ⟨wA.heap.size, 0, none⟩ 1 1 [.int .i64 d.1, .int .i64 d.2] rfl rfl (World.news_of_block (cs := #[.int .i64 d.1, .int .i64 d.2]) (t := 94) (fr := (0, 0)) (heap_alloc_new wA _)) b2.out (by unfold maxLen; omega) (by omega) (by have := HS2.out; simp; omega) ?_; intro v3 wB ho3 hg3 _; have B3 := Lib.hid (show Below wr.heap.size wr wB from (((gb_below_none HG3.out (Nat.le_refl _)).alloc HS2.out _).grown hg3 (by have := HS2.out; simp; omega) (fun q hq => (O2.out.lt q hq).1))); have O3 := Lib.hid (own_castD ho3 rfl (show depV (D.take k) ++ [Value.int .i64 d.1, Value.int .i64 d.2] = depV (D.take k ++ [d]) by rw [depV_append]; rfl)); clear ho3 hg3 t2 t3)
          | (at_builtin; refine wpList_app_ownD _ rfl (.tmp 43) (.tmp 46) rfl i0 hi hz0 hz1 hz2 wr.heap.size (k + 1) (n - k) _ w.heap.size _ (D.take k ++ [d]) (D.drop k) _ rfl rfl O3.out (by first | (have h5 := (HAI.out.below (B3.out.mono HSW.out)).drop HK.out; rw [Nat.zero_add] at h5; exact h5) | (have h5 := HDN.out; simp only [HCK.out, h5]; exact DepAt.nil _ _ _)) (by omega) B3.out.size ?_; intro v4 wC ho4 hg4; have O4 := Lib.hid ho4; have G4 := Lib.hid (gb_of_below (B3.out.grown hg4 B3.out.size (fun q hq => (O3.out.lt q hq).1)) none); clear ho4 hg4))
        go_ret
        exact put_ret (HR.out.trans (by simp)) (by simp [HL.out]; omega) (by omega) (Nat.le_trans hbase HSW.out) O4.out (gb_trans (gb_trans BG.out HG.out) (gb_trans GWS.out G4.out))
      · have HCK := Lib.hid hck
        have HDN := Lib.hid hck
        go_wp2_with fail
        go_quiet (fail)
        go_wp2_with fail
        go_quiet (fail)
        go_wp2_with (first
          | (at_builtin; refine wpList_app_ownD _ rfl (.tmp 34) (.tmp 37) rfl i0 hi hz0 hz1 hz2 wr.heap.size 0 k _ w.heap.size _ [] (D.take k) _ rfl rfl (own_madeD _ (Nat.le_refl _)) ((HAI.out.none HSW.out (gb_alloc (gb_drewN (gb_refl _ none) _) _)).take HK.out) (by omega) (by simp) ?_; intro v1 wA ho2 hg2; have HG3 := Lib.hid (gb_un (gb_made hg2)); have HS2 := Lib.hid HG3.out.size; have bb2 := BBW.out.grown HG3.out (by simp); have t2 : wA.cell? ⟨w.heap.size, 0, none⟩ = some (.int .i64 d.1) := bb2.cell 0; have t3 : wA.cell? ⟨w.heap.size, 1, none⟩ = some (.int .i64 d.2) := bb2.cell 1; have O2 := Lib.hid (own_castD ho2 (Nat.zero_add k) (congrArg depV (List.nil_append _))); clear ho2 hg2 bb2)
          | (at_builtin; refine wpList_append_own _ rfl (.tmp 39) (.tmp 41) 62 rfl wr.heap.size 94 i0 (.agg #[.int .i64 0, .int .i64 0]) 2 16 Tryz.underlying62 hi hz0 hz1 hz2 rfl (by decide) _ k _ rfl (O2.out.alloc _) ⟨wA.heap.size, 0, none⟩ 1 1 [.int .i64 d.1, .int .i64 d.2] rfl rfl (World.news_of_block (cs := #[.int .i64 d.1, .int .i64 d.2]) (t := 94) (fr := (0, 0)) (heap_alloc_new wA _)) b2.out (by unfold maxLen; omega) (by omega) (by have := HS2.out; simp; omega) ?_; intro v3 wB ho3 hg3 _; have B3 := Lib.hid (show Below wr.heap.size wr wB from (((gb_below_none HG3.out (Nat.le_refl _)).alloc HS2.out _).grown hg3 (by have := HS2.out; simp; omega) (fun q hq => (O2.out.lt q hq).1))); have O3 := Lib.hid (own_castD ho3 rfl (show depV (D.take k) ++ [Value.int .i64 d.1, Value.int .i64 d.2] = depV (D.take k ++ [d]) by rw [depV_append]; rfl)); clear ho3 hg3 t2 t3)
          | (at_builtin; refine wpList_app_ownD _ rfl (.tmp 43) (.tmp 46) rfl i0 hi hz0 hz1 hz2 wr.heap.size (k + 1) (n - k) _ w.heap.size _ (D.take k ++ [d]) (D.drop k) _ rfl rfl O3.out (by first | (have h5 := (HAI.out.below (B3.out.mono HSW.out)).drop HK.out; rw [Nat.zero_add] at h5; exact h5) | (have h5 := HDN.out; simp only [HCK.out, h5]; exact DepAt.nil _ _ _)) (by omega) B3.out.size ?_; intro v4 wC ho4 hg4; have O4 := Lib.hid ho4; have G4 := Lib.hid (gb_of_below (B3.out.grown hg4 B3.out.size (fun q hq => (O3.out.lt q hq).1)) none); clear ho4 hg4))
        go_ret
        exact put_ret (HR.out.trans (by simp)) (by simp [HL.out]; omega) (by omega) (Nat.le_trans hbase HSW.out) O4.out (gb_trans (gb_trans BG.out HG.out) (gb_trans GWS.out G4.out))
    · obtain ⟨m, hm⟩ : ∃ m, k = m + 1 := ⟨k - 1, by omega⟩
      obtain ⟨_, _, hA, _, c0, c1⟩ := HAIR.out.at m (by omega)
      injection hA with hA
      injection hA with hA1 hA2
      subst hA1
      subst hA2
      rw [Nat.zero_add] at c0 c1
      obtain ⟨x, hx⟩ : ∃ x, atD D m = x := ⟨_, rfl⟩
      rw [hx] at c0 c1
      have HX := Lib.hid hx
      have HM := Lib.hid hm
      have m0 : (0 : Int) ≤ (m : Int) := by omega
      have m1 : (m : Int) < (n : Int) := by omega
      have e2 : IntKind.i64.wrap ((k : Int) - 1) = (m : Int) := by rw [IntWalk.i64_in _ (by omega)]; omega
      have hd : decide (0 < k) = true := decide_eq_true (by omega)
      have hpos : (0 : Int) < (k : Int) := by omega
      cases hlt : ltD d x with
      | true =>
        have HL2 := Lib.hid (fun w => show Calls Tryz.prog 98 #[.agg #[.int .i64 d.1, .int .i64 d.2], .agg #[.int .i64 x.1, .int .i64 x.2]] w (RetB true w) from hlt ▸ HLT.out d x w)
        have HNX := Lib.hid (show downD D d m from down_next (by have := HS.out; rw [HM.out] at this; exact this) (by rw [HX.out]; exact hlt))
        clear hx hlt h0 hm
        go_wp2_with fail
        go_region_held3 (fun w' => w'.cell? ⟨w.heap.size, 0, none⟩ = some (.int .i64 d.1) ∧ w'.cell? ⟨w.heap.size, 1, none⟩ = some (.int .i64 d.2) ∧ w'.cell? ⟨g, m * 2, none⟩ = some (.int .i64 x.1) ∧ w'.cell? ⟨g, m * 2 + 1, none⟩ = some (.int .i64 x.2))
          (first | exact ⟨t0, t1, c0, c1⟩ | exact ⟨d0, d1, d2, d3⟩ | fail)
          (first
            | (go_at_call 98; (with_reducible refine (HL2.out _).mono ?_); rintro e w4 ⟨rfl, hg4⟩; have h4 := gb_drP hg4; have d0 := h4.cell t0 (by simp); have d1 := h4.cell t1 (by simp); have d2 := h4.cell c0 (by simp); have d3 := h4.cell c1 (by simp); have G4 := Lib.hid (gb_trans HG.out h4); clear h4 hg4)
            | fail)
        all_goals
          clear d0 d1 d2 d3 t0 t1 c0 c1 hd hpos e2
          go_wp2_with fail
          go_roundw
          case rel => exact ⟨m, by have := HM.out; go_num, by have := HM.out; omega, HNX.out, G4.out⟩
          case measure => have := HM.out; simp [intOf]; omega
      | false =>
        by_cases hxd : x = d
        · subst hxd
          have HL2 := Lib.hid (fun w => show Calls Tryz.prog 98 #[.agg #[.int .i64 x.1, .int .i64 x.2], .agg #[.int .i64 x.1, .int .i64 x.2]] w (RetB false w) from hlt ▸ HLT.out x x w)
          have HR := Lib.hid (HTH.out m (by omega) hx)
          clear hx hlt h0 hm
          go_wp2_with fail
          go_region_held3 (fun w' => w'.cell? ⟨w.heap.size, 0, none⟩ = some (.int .i64 x.1) ∧ w'.cell? ⟨w.heap.size, 1, none⟩ = some (.int .i64 x.2) ∧ w'.cell? ⟨g, m * 2, none⟩ = some (.int .i64 x.1) ∧ w'.cell? ⟨g, m * 2 + 1, none⟩ = some (.int .i64 x.2))
            (first | exact ⟨t0, t1, c0, c1⟩ | exact ⟨d0, d1, d2, d3⟩ | fail)
            (first
              | (go_at_call 98; (with_reducible refine (HL2.out _).mono ?_); rintro e w4 ⟨rfl, hg4⟩; have h4 := gb_drP hg4; have d0 := h4.cell t0 (by simp); have d1 := h4.cell t1 (by simp); have d2 := h4.cell c0 (by simp); have d3 := h4.cell c1 (by simp); have G4 := Lib.hid (gb_trans BG.out (gb_trans HG.out h4)); clear h4 hg4)
              | fail)
          all_goals
            clear t0 t1 c0 c1
            go_wp2_with fail
            go_quiet (fail)
            go_wp2_with fail
            go_ret
            exact put_there HR.out.symm HL.out hbase HO.out (gb_drewN G4.out _)
        · have HL2 := Lib.hid (fun w => show Calls Tryz.prog 98 #[.agg #[.int .i64 d.1, .int .i64 d.2], .agg #[.int .i64 x.1, .int .i64 x.2]] w (RetB false w) from hlt ▸ HLT.out d x w)
          have heq := run_neD hxd
          have HR := Lib.hid (HDP.out k HS.out (fun m' e => by obtain rfl : m' = m := (by omega); exact ⟨by rw [hx]; exact hlt, by rw [hx]; exact hxd⟩))
          clear hx hlt h0 hxd hm
          go_wp2_with fail
          go_region_held3 (fun w' => w'.cell? ⟨w.heap.size, 0, none⟩ = some (.int .i64 d.1) ∧ w'.cell? ⟨w.heap.size, 1, none⟩ = some (.int .i64 d.2) ∧ w'.cell? ⟨g, m * 2, none⟩ = some (.int .i64 x.1) ∧ w'.cell? ⟨g, m * 2 + 1, none⟩ = some (.int .i64 x.2))
            (first | exact ⟨t0, t1, c0, c1⟩ | exact ⟨d0, d1, d2, d3⟩ | fail)
            (first
              | (go_at_call 98; (with_reducible refine (HL2.out _).mono ?_); rintro e w4 ⟨rfl, hg4⟩; have h4 := gb_drP hg4; have d0 := h4.cell t0 (by simp); have d1 := h4.cell t1 (by simp); have d2 := h4.cell c0 (by simp); have d3 := h4.cell c1 (by simp); have G4 := Lib.hid h4; clear h4 hg4)
              | fail)
          all_goals
            have HAI := Lib.hid (HAIR.out.none (by have := HS1.out; omega) G4.out)
            have HSW := Lib.hid (show w.heap.size ≤ w4.heap.size by have := HS1.out; have := G4.out.size; omega)
            have BBW := Lib.hid (BBR.out.grown G4.out (by simp))
            have GWS := G4
            clear t0 t1 c0 c1
            by_cases hck : cap = k
            · have HCK := Lib.hid (show n - k = 0 by omega)
              have HDN := Lib.hid (show D.drop k = [] by rw [List.drop_eq_nil_iff]; omega)
              go_wp2_with fail
              go_quiet (fail)
              go_wp2_with (first
                | (at_builtin; refine wpList_app_ownD _ rfl (.tmp 34) (.tmp 37) rfl i0 hi hz0 hz1 hz2 w4.heap.size 0 k _ w.heap.size _ [] (D.take k) _ rfl rfl (own_madeD _ (Nat.le_refl _)) ((HAI.out.none HSW.out (gb_alloc (gb_drewN (gb_refl _ none) _) _)).take HK.out) (by omega) (by simp) ?_; intro v1 wA ho2 hg2; have HG3 := Lib.hid (gb_un (gb_made hg2)); have HS2 := Lib.hid HG3.out.size; have bb2 := BBW.out.grown HG3.out (by simp); have t2 : wA.cell? ⟨w.heap.size, 0, none⟩ = some (.int .i64 d.1) := bb2.cell 0; have t3 : wA.cell? ⟨w.heap.size, 1, none⟩ = some (.int .i64 d.2) := bb2.cell 1; have O2 := Lib.hid (own_castD ho2 (Nat.zero_add k) (congrArg depV (List.nil_append _))); clear ho2 hg2 bb2)
                | (at_builtin; refine wpList_append_own _ rfl (.tmp 39) (.tmp 41) 62 rfl w4.heap.size 94 i0 (.agg #[.int .i64 0, .int .i64 0]) 2 16 Tryz.underlying62 hi hz0 hz1 hz2 rfl (by decide) _ k _ rfl (O2.out.alloc _) ⟨wA.heap.size, 0, none⟩ 1 1 [.int .i64 d.1, .int .i64 d.2] rfl rfl (World.news_of_block (cs := #[.int .i64 d.1, .int .i64 d.2]) (t := 94) (fr := (0, 0)) (heap_alloc_new wA _)) b2.out (by unfold maxLen; omega) (by omega) (by have := HS2.out; simp; omega) ?_; intro v3 wB ho3 hg3 _; have B3 := Lib.hid (show Below w4.heap.size w4 wB from (((gb_below_none HG3.out (Nat.le_refl _)).alloc HS2.out _).grown hg3 (by have := HS2.out; simp; omega) (fun q hq => (O2.out.lt q hq).1))); have O3 := Lib.hid (own_castD ho3 rfl (show depV (D.take k) ++ [Value.int .i64 d.1, Value.int .i64 d.2] = depV (D.take k ++ [d]) by rw [depV_append]; rfl)); clear ho3 hg3 t2 t3)
                | (at_builtin; refine wpList_app_ownD _ rfl (.tmp 43) (.tmp 46) rfl i0 hi hz0 hz1 hz2 w4.heap.size (k + 1) (n - k) _ w.heap.size _ (D.take k ++ [d]) (D.drop k) _ rfl rfl O3.out (by first | (have h5 := (HAI.out.below (B3.out.mono HSW.out)).drop HK.out; rw [Nat.zero_add] at h5; exact h5) | (have h5 := HDN.out; simp only [HCK.out, h5]; exact DepAt.nil _ _ _)) (by omega) B3.out.size ?_; intro v4 wC ho4 hg4; have O4 := Lib.hid ho4; have G4 := Lib.hid (gb_of_below (B3.out.grown hg4 B3.out.size (fun q hq => (O3.out.lt q hq).1)) none); clear ho4 hg4))
              go_ret
              exact put_ret (HR.out.trans (by simp)) (by simp [HL.out]; omega) (by omega) (Nat.le_trans hbase HSW.out) O4.out (gb_trans (gb_trans BG.out HG.out) (gb_trans GWS.out G4.out))
            · have HCK := Lib.hid hck
              have HDN := Lib.hid hck
              go_wp2_with fail
              go_quiet (fail)
              go_wp2_with (first
                | (at_builtin; refine wpList_app_ownD _ rfl (.tmp 34) (.tmp 37) rfl i0 hi hz0 hz1 hz2 w4.heap.size 0 k _ w.heap.size _ [] (D.take k) _ rfl rfl (own_madeD _ (Nat.le_refl _)) ((HAI.out.none HSW.out (gb_alloc (gb_drewN (gb_refl _ none) _) _)).take HK.out) (by omega) (by simp) ?_; intro v1 wA ho2 hg2; have HG3 := Lib.hid (gb_un (gb_made hg2)); have HS2 := Lib.hid HG3.out.size; have bb2 := BBW.out.grown HG3.out (by simp); have t2 : wA.cell? ⟨w.heap.size, 0, none⟩ = some (.int .i64 d.1) := bb2.cell 0; have t3 : wA.cell? ⟨w.heap.size, 1, none⟩ = some (.int .i64 d.2) := bb2.cell 1; have O2 := Lib.hid (own_castD ho2 (Nat.zero_add k) (congrArg depV (List.nil_append _))); clear ho2 hg2 bb2)
                | (at_builtin; refine wpList_append_own _ rfl (.tmp 39) (.tmp 41) 62 rfl w4.heap.size 94 i0 (.agg #[.int .i64 0, .int .i64 0]) 2 16 Tryz.underlying62 hi hz0 hz1 hz2 rfl (by decide) _ k _ rfl (O2.out.alloc _) ⟨wA.heap.size, 0, none⟩ 1 1 [.int .i64 d.1, .int .i64 d.2] rfl rfl (World.news_of_block (cs := #[.int .i64 d.1, .int .i64 d.2]) (t := 94) (fr := (0, 0)) (heap_alloc_new wA _)) b2.out (by unfold maxLen; omega) (by omega) (by have := HS2.out; simp; omega) ?_; intro v3 wB ho3 hg3 _; have B3 := Lib.hid (show Below w4.heap.size w4 wB from (((gb_below_none HG3.out (Nat.le_refl _)).alloc HS2.out _).grown hg3 (by have := HS2.out; simp; omega) (fun q hq => (O2.out.lt q hq).1))); have O3 := Lib.hid (own_castD ho3 rfl (show depV (D.take k) ++ [Value.int .i64 d.1, Value.int .i64 d.2] = depV (D.take k ++ [d]) by rw [depV_append]; rfl)); clear ho3 hg3 t2 t3)
                | (at_builtin; refine wpList_app_ownD _ rfl (.tmp 43) (.tmp 46) rfl i0 hi hz0 hz1 hz2 w4.heap.size (k + 1) (n - k) _ w.heap.size _ (D.take k ++ [d]) (D.drop k) _ rfl rfl O3.out (by first | (have h5 := (HAI.out.below (B3.out.mono HSW.out)).drop HK.out; rw [Nat.zero_add] at h5; exact h5) | (have h5 := HDN.out; simp only [HCK.out, h5]; exact DepAt.nil _ _ _)) (by omega) B3.out.size ?_; intro v4 wC ho4 hg4; have O4 := Lib.hid ho4; have G4 := Lib.hid (gb_of_below (B3.out.grown hg4 B3.out.size (fun q hq => (O3.out.lt q hq).1)) none); clear ho4 hg4))
              go_ret
              exact put_ret (HR.out.trans (by simp)) (by simp [HL.out]; omega) (by omega) (Nat.le_trans hbase HSW.out) O4.out (gb_trans (gb_trans BG.out HG.out) (gb_trans GWS.out G4.out))
end Go.Proofs.YtidilfakganooaaGreatDoor
end

section
namespace Go.Proofs.YtidilfakganooaaGreatDoor
open Go.ChangeShapes Go.WideShapes Go.ChangeAt Go.RowKit
set_option linter.unusedVariables false
set_option maxRecDepth 20000

set_option maxHeartbeats 1600000 in
theorem specDependsOk (A : Option Addr) (n cap : Nat) (D : List Dep) (w : World) (h : DepAt w w.heap.size A n D) (hn : n ≤ 4000000000) :
    Calls Tryz.prog 67 #[.slice A n cap] w (RetB (okD D) w) := by
  have HI := Lib.hid h
  have hl := h.1
  have HR := Lib.hid (fun (x : Int) (b : Bool) (hb : decide (0 ≤ x ∧ x ≤ 127) = b) w => specInV x 0 127 b hb w)
  have HC := Lib.hid (fun (a b : Dep) w => specLess a b w)
  have HYES := Lib.hid (okD_iff (D := D)).2
  have HNO := Lib.hid (fun k hk (h : stepD D k = false) => okD_not (D := D) (k := k) hk h)
  obtain ⟨b, hb⟩ : ∃ b, okD D = b := ⟨_, rfl⟩
  rw [hb] at HYES HNO
  rw [hb]
  clear h hb
  go_enter Tryz.func67, Tryz.ntmps67
  go_wp2_with fail
  go_loopw [3] (fun i wr => ∃ k : Nat, i = .int .i64 (k : Int) ∧ k ≤ n ∧ (∀ j, j < k → stepD D j = true) ∧ w.grownBy wr none) (fun i _ => n - (intOf i).toNat)
  case atStart => exact ⟨0, rfl, Nat.zero_le _, fun j hj => by omega, gb_refl _ _⟩
  case round =>
    obtain ⟨k, rfl, hk, hs, hg⟩ := hrel
    have HS := Lib.hid hs
    have HG := Lib.hid hg
    have hai := HI.out.none (Nat.le_refl _) hg
    clear hs hg
    by_cases hlt : k < n
    · obtain ⟨b1, off, rfl, hb1, c0, c1⟩ := hai.at k hlt
      obtain ⟨x, hx⟩ : ∃ x, atD D k = x := ⟨_, rfl⟩
      rw [hx] at c0 c1
      have HAI := Lib.hid hai
      have k0 : (0 : Int) ≤ (k : Int) := by omega
      have k1 : (k : Int) < (n : Int) := by omega
      have hin : inD x = (decide (0 ≤ x.1 ∧ x.1 ≤ 127) && decide (0 ≤ x.2 ∧ x.2 ≤ 127)) := by
        unfold inD
        rw [← Bool.decide_and]
        exact decide_eq_decide.2 (by omega)
      clear hai
      cases hi1 : decide (0 ≤ x.1 ∧ x.1 ≤ 127) with
      | false =>
        have hst : stepD D k = false := by unfold stepD; rw [hx, hin, hi1, Bool.false_and, Bool.false_and]
        have HB := Lib.hid (HNO.out k (by omega) hst)
        have HR1 := Lib.hid (fun w => HR.out x.1 false hi1 w)
        clear hin hi1 hst hx
        go_wp2_with fail
        go_quiet (first
          | (with_reducible refine Calls.quiet_of_same (still_of (HR1.out _))))
        go_wp2_with fail
        go_ret
        exact ⟨ret_bool HB.out.symm, gb_drewN HG.out _⟩
      | true =>
        cases hi2 : decide (0 ≤ x.2 ∧ x.2 ≤ 127) with
        | false =>
          have hst : stepD D k = false := by unfold stepD; rw [hx, hin, hi1, hi2, Bool.true_and, Bool.false_and]
          have HB := Lib.hid (HNO.out k (by omega) hst)
          have HR1 := Lib.hid (fun w => HR.out x.1 true hi1 w)
          have HR2 := Lib.hid (fun w => HR.out x.2 false hi2 w)
          clear hin hi1 hi2 hst hx
          go_wp2_with fail
          go_quiet (first
            | (with_reducible refine Calls.quiet_of_same (still_of (HR1.out _)))
            | (with_reducible refine Calls.quiet_of_same (still_of (HR2.out _))))
          go_wp2_with fail
          go_ret
          exact ⟨ret_bool HB.out.symm, gb_drewN HG.out _⟩
        | true =>
          have HR1 := Lib.hid (fun w => HR.out x.1 true hi1 w)
          have HR2 := Lib.hid (fun w => HR.out x.2 true hi2 w)
          have hinx : inD x = true := by rw [hin, hi1, hi2]; rfl
          by_cases h0 : k = 0
          · have hst : stepD D k = true := by unfold stepD; rw [hx, hinx, h0]; rfl
            have HST := Lib.hid hst
            have H0 := Lib.hid h0
            have hd : decide (0 < k) = false := decide_eq_false (by omega)
            clear hin hinx hi1 hi2 hst hx h0
            go_wp2_with fail
            go_quiet (first
              | (with_reducible refine Calls.quiet_of_same (still_of (HR1.out _)))
              | (with_reducible refine Calls.quiet_of_same (still_of (HR2.out _))))
            go_wp2_with fail
            go_roundw
            case rel => exact ⟨k + 1, by go_num, by omega, fun j hj => by have h0 := H0.out; obtain rfl : j = k := (by omega); exact HST.out, gb_drewN HG.out _⟩
            case measure => simp [intOf]; omega
          · obtain ⟨m, hm⟩ : ∃ m, k = m + 1 := ⟨k - 1, by omega⟩
            obtain ⟨_, _, hA, _, e0, e1⟩ := HAI.out.at m (by omega)
            injection hA with hA
            injection hA with hA1 hA2
            subst hA1
            subst hA2
            obtain ⟨y, hy⟩ : ∃ y, atD D m = y := ⟨_, rfl⟩
            rw [hy] at e0 e1
            have m0 : (0 : Int) ≤ (m : Int) := by omega
            have m1 : (m : Int) < (n : Int) := by omega
            have e2 : IntKind.i64.wrap ((k : Int) - 1) = (m : Int) := by rw [IntWalk.i64_in _ (by omega)]; omega
            have hd : decide (0 < k) = true := decide_eq_true (by omega)
            have hpos : (0 : Int) < (k : Int) := by omega
            have HM := Lib.hid hm
            obtain ⟨r, hr⟩ : ∃ r, ltD y x = r := ⟨_, rfl⟩
            have HC2 := Lib.hid (fun w => show Calls _ _ _ w (RetB r w) from hr ▸ HC.out y x w)
            have hstep : stepD D k = r := by
              have e : (decide (k = 0)) = false := decide_eq_false h0
              unfold stepD
              rw [hx, hinx, e, Bool.false_or, Bool.true_and, show k - 1 = m by omega, hy, hr]
            cases r with
            | true =>
              have HST := Lib.hid hstep
              clear hin hinx hi1 hi2 hx hy hr hm hstep h0
              go_wp2_with fail
              go_region_held3 (fun w' => w'.cell? ⟨b1, off + k * 2, none⟩ = some (.int .i64 x.1) ∧ w'.cell? ⟨b1, off + k * 2 + 1, none⟩ = some (.int .i64 x.2) ∧ w'.cell? ⟨b1, off + m * 2, none⟩ = some (.int .i64 y.1) ∧ w'.cell? ⟨b1, off + m * 2 + 1, none⟩ = some (.int .i64 y.2))
                (first | exact ⟨c0, c1, e0, e1⟩ | exact ⟨d0, d1, d2, d3⟩ | fail)
                (first
                  | (go_at_call 98; (with_reducible refine (HC2.out _).mono ?_); rintro e w5 ⟨rfl, hg5⟩; have h5 := gb_drP hg5; have d0 := h5.cell c0 (by simp); have d1 := h5.cell c1 (by simp); have d2 := h5.cell e0 (by simp); have d3 := h5.cell e1 (by simp); have G5 := Lib.hid (gb_trans HG.out h5); clear h5 hg5)
                  | (go_at_call 76; (with_reducible refine (HR1.out _).mono ?_); rintro e w6 ⟨rfl, rfl⟩)
                  | (go_at_call 76; (with_reducible refine (HR2.out _).mono ?_); rintro e w7 ⟨rfl, rfl⟩)
                  | fail)
              all_goals
                clear d0 d1 d2 d3 c0 c1 e0 e1
                go_wp2_with fail
                go_roundw
                case rel => exact ⟨k + 1, by go_num, by omega, fun j hj => by rcases Nat.lt_succ_iff_lt_or_eq.1 hj with h | h; exact HS.out j h; rw [h]; exact HST.out, G5.out⟩
                case measure => simp [intOf]; omega
            | false =>
              have HB := Lib.hid (HNO.out k (by omega) hstep)
              clear hin hinx hi1 hi2 hx hy hr hm hstep h0
              go_wp2_with fail
              go_region_held3 (fun w' => w'.cell? ⟨b1, off + k * 2, none⟩ = some (.int .i64 x.1) ∧ w'.cell? ⟨b1, off + k * 2 + 1, none⟩ = some (.int .i64 x.2) ∧ w'.cell? ⟨b1, off + m * 2, none⟩ = some (.int .i64 y.1) ∧ w'.cell? ⟨b1, off + m * 2 + 1, none⟩ = some (.int .i64 y.2))
                (first | exact ⟨c0, c1, e0, e1⟩ | exact ⟨d0, d1, d2, d3⟩ | fail)
                (first
                  | (go_at_call 98; (with_reducible refine (HC2.out _).mono ?_); rintro e w5 ⟨rfl, hg5⟩; have h5 := gb_drP hg5; have d0 := h5.cell c0 (by simp); have d1 := h5.cell c1 (by simp); have d2 := h5.cell e0 (by simp); have d3 := h5.cell e1 (by simp); have G5 := Lib.hid (gb_trans HG.out h5); clear h5 hg5)
                  | (go_at_call 76; (with_reducible refine (HR1.out _).mono ?_); rintro e w6 ⟨rfl, rfl⟩)
                  | (go_at_call 76; (with_reducible refine (HR2.out _).mono ?_); rintro e w7 ⟨rfl, rfl⟩)
                  | fail)
              all_goals
                clear d0 d1 d2 d3 c0 c1 e0 e1
                go_wp2_with fail
                go_ret
                exact ⟨ret_bool HB.out.symm, G5.out⟩
    · obtain rfl : k = n := by omega
      have HB := Lib.hid (HYES.out (fun j hj => HS.out j (by omega)))
      clear hai
      go_wp2_with fail
      go_ret
      exact ⟨ret_bool HB.out.symm, HG.out⟩
end Go.Proofs.YtidilfakganooaaGreatDoor
end

section
namespace Go.Proofs.YtidilfakganooaaGreatDoor
open Go.ChangeShapes Go.WideShapes Go.ChangeAt Go.RowKit
set_option linter.unusedVariables false
set_option maxRecDepth 20000

/-- A list that is not nil, in a block of the call's own from B on. -/
def DvAt (B : Nat) (w0 : World) (D : List Dep) (v : Value) (wr : World) : Prop :=
  (∃ g c, v = .slice (some ⟨g, 0, none⟩) D.length c) ∧ wr.ownsRow B 94 2 v D.length (depV D) ∧ B ≤ w0.heap.size ∧ Below B w0 wr
section
variable {B : Nat} {w0 wr w' : World} {D D' : List Dep} {v v' : Value}
theorem DvAt.gb (h : DvAt B w0 D v wr) (hg : wr.grownBy w' none) : DvAt B w0 D v w' := ⟨h.1, own_none h.2.1 hg, h.2.2.1, below_gb h.2.2.2 h.2.2.1 hg⟩
theorem DvAt.put {e : Ending} (h : DvAt B w0 D v wr) (hp : PutN B D' wr e w') : ∃ v', e = .returned v' ∧ DvAt B w0 D' v' w' ∧ wr.grownBy w' none := by
  obtain ⟨g, c, rfl, ho, hg⟩ := hp
  exact ⟨_, rfl, ⟨⟨g, c, rfl⟩, ho, h.2.2.1, below_gb h.2.2.2 h.2.2.1 hg⟩, hg⟩
theorem DvAt.start (w0 : World) (hB : B ≤ w0.heap.size) : DvAt B w0 [] (.slice (some ⟨w0.heap.size, 0, none⟩) 0 0) (w0.alloc (.cells #[] 94)) :=
  ⟨⟨_, _, rfl⟩, own_madeD w0 hB, hB, (Below.refl _ _).alloc hB _⟩
theorem DvAt.le (h : DvAt B w0 D v wr) : B ≤ wr.heap.size := Nat.le_trans h.2.2.1 h.2.2.2.size
end
end Go.Proofs.YtidilfakganooaaGreatDoor
end

section
namespace Go.Proofs.YtidilfakganooaaGreatDoor
open Go.ChangeShapes Go.WideShapes Go.ChangeAt Go.RowKit
set_option linter.unusedVariables false
set_option maxRecDepth 20000

/-- The list so far, above the boxes of the mesh and the table. -/
def DsS (W H : Int) (A A2 : Option Addr) (n cap n2 c2 : Nat) (w : World) (D : List Dep) (v : Value) (wr : World) : Prop := DvAt (w.heap.size + 2) (twoB W H A A2 n cap n2 c2 w) D v wr
section
variable {W H : Int} {A A2 : Option Addr} {n cap n2 c2 : Nat} {w wr w' : World} {D D' : List Dep} {v v' : Value}
theorem DsS.gb (h : DsS W H A A2 n cap n2 c2 w D v wr) (hg : wr.grownBy w' none) : DsS W H A A2 n cap n2 c2 w D v w' := DvAt.gb h hg
theorem DsS.cells (h : DsS W H A A2 n cap n2 c2 w D v wr) : wr.cell? ⟨w.heap.size, 0, none⟩ = some (.int .i64 W) ∧ wr.cell? ⟨w.heap.size, 1, none⟩ = some (.int .i64 H) ∧ wr.cell? ⟨w.heap.size, 2, none⟩ = some (.slice A n cap) ∧ wr.cell? ⟨w.heap.size + 1, 0, none⟩ = some (.slice A2 n2 c2) :=
  ⟨(twoB_mesh h.2.2.2).cell 0, (twoB_mesh h.2.2.2).cell 1, (twoB_mesh h.2.2.2).cell 2, (twoB_table h.2.2.2).cell 0⟩
theorem DsS.new (h : DsS W H A A2 n cap n2 c2 w D v wr) {E : List Dep} (hE : D = E) : NewD E w (.returned v) wr := by
  subst hE
  exact ⟨v, rfl, own_less h.2.1 (by omega), twoB_old h.2.2.2⟩
end

set_option maxHeartbeats 1600000 in
theorem specDependsOf (W H : Int) (A A2 : Option Addr) (n cap n2 c2 : Nat) (L P : List Int) (w : World) (h : IntAt w w.heap.size A n L) (h2 : IntAt w w.heap.size A2 n2 P) (hn : n ≤ 1000000000) (hn2 : n2 ≤ 1000000000) :
    Calls Tryz.prog 39 #[.agg #[.int .i64 W, .int .i64 H, .slice A n cap], .agg #[.slice A2 n2 c2]] w (NewD (depG W H L P) w) := by
  have X0 := Lib.hid (show DsS W H A A2 n cap n2 c2 w [] _ _ from DvAt.start (B := w.heap.size + 2) (twoB W H A A2 n cap n2 c2 w) (by rw [twoB_size]; exact Nat.le_refl _))
  rw [twoB_size] at X0
  have HI := Lib.hid h
  have HP := Lib.hid h2
  have HT := Lib.hid (h.old X0.out.2.2.2)
  have HT2 := Lib.hid (h2.old X0.out.2.2.2)
  clear h h2
  cases ht : tableG W H L P with
  | false =>
    have HS := Lib.hid (fun w h h2 => specTableOkV W H A A2 n cap n2 c2 L P false ht w h h2 hn hn2)
    have HF := Lib.hid (depG_no ht)
    clear ht
    go_enter Tryz.func39, Tryz.ntmps39
    go_wp2_with fail
    refine (HS.out _ HT.out HT2.out).mono ?_
    rintro e w1 ⟨rfl, hg⟩
    have X1 := Lib.hid (X0.out.gb hg)
    clear hg
    go_wp2_with fail
    go_ret
    exact X1.out.new HF.out.symm
  | true =>
    have HS := Lib.hid (fun w h h2 => specTableOkV W H A A2 n cap n2 c2 L P true ht w h h2 hn hn2)
    have HF := Lib.hid (depG_yes ht)
    obtain ⟨k, hk⟩ : ∃ k, countG W H = k := ⟨_, rfl⟩
    obtain ⟨hk0, hk1⟩ := countG_le W H
    have hsq := sq_int W H
    have hsq2 := sqG_le (W := W) (H := H)
    rw [hk] at hk0 hk1 hsq
    obtain ⟨m0, m1⟩ := sq_bounds hk0 hk1
    have HSQ := Lib.hid hsq
    have hw : wrap64 (k * k) = k * k := IntWalk.wrap64_in _ (by omega)
    have HN := Lib.hid (fun w => specNodeCountV W H k hk w)
    have HK := Lib.hid hk
    have HSZ := Lib.hid (tableG_sized ht)
    clear hk ht hsq
    go_enter Tryz.func39, Tryz.ntmps39
    go_wp2_with fail
    refine (HS.out _ HT.out HT2.out).mono ?_
    rintro e w1 ⟨rfl, hg⟩
    have X1 := Lib.hid (X0.out.gb hg)
    obtain ⟨a0, a1, a2, a3⟩ := X1.out.cells
    clear hg
    go_wp2_with fail
    refine (HN.out _).mono ?_
    rintro e w2 ⟨rfl, hg⟩
    have X2 := Lib.hid (show DsS W H A A2 n cap n2 c2 w (allD W H L P 0) _ w2 from X1.out.gb hg)
    clear hg a0 a1 a2 a3
    go_wp2_with fail
    go_loopw [5, 7] (fun v i wr => ∃ x : Nat, i = .int .i64 (x : Int) ∧ (x : Int) ≤ k * k ∧ DsS W H A A2 n cap n2 c2 w (allD W H L P x) v wr) (fun _ i _ => 257 - (intOf i).toNat)
    case atStart => exact ⟨0, rfl, by omega, X2.out⟩
    case round =>
      obtain ⟨x, rfl, hx, hxx⟩ := hrel
      have X3 := Lib.hid hxx
      obtain ⟨gv0, cv0, rfl⟩ := hxx.1
      clear hxx
      by_cases hlt : (x : Int) < k * k
      · obtain ⟨hax, hay⟩ := pair_at (W := W) (H := H) (i := x) (by have := HSQ.out; omega)
        have hk1' : 1 ≤ k := by
          rcases Int.lt_or_le k 1 with h | h
          · have : k = 0 := by omega
            subst this; omega
          · exact h
        obtain ⟨u, hu⟩ : ∃ u, (x : Int) / countG W H = u := ⟨_, rfl⟩
        obtain ⟨y, hy⟩ : ∃ y, (x : Int) % countG W H = y := ⟨_, rfl⟩
        obtain ⟨R, hR⟩ : ∃ R, pairW W H L P x = R := ⟨_, rfl⟩
        have hRN := pairW_len (W := W) (H := H) (L := L) (P := P) x
        have HAN := Lib.hid (allD_next hR)
        have HASC := Lib.hid (fun j => insAll_asc (allD_asc (W := W) (H := H) (L := L) (P := P) x) (wayD R j))
        have HLEN := Lib.hid (fun j hj => ins_len (W := W) (H := H) (L := L) (P := P) (k := x) (j := j) (R := R) (by have := HSQ.out; omega) hj)
        rw [hR] at hRN
        have hRw : walkOf W H L P u y = R := by rw [← hR, pairW, hu, hy]
        rw [hu] at hax
        rw [hy] at hay
        have hu15 := hasG_le hax
        have hy15 := hasG_le hay
        rw [HK.out] at hu hy
        have q1 : (x : Int).tdiv k = u := by rw [Int.tdiv_eq_ediv_of_nonneg (by omega)]; exact hu
        have q2 : (x : Int).tmod k = y := by rw [Int.tmod_eq_emod_of_nonneg (by omega)]; exact hy
        have q3 : IntKind.i64.wrap u = u := IntWalk.i64_in _ (by omega)
        have q4 : IntKind.i64.wrap y = y := IntWalk.i64_in _ (by omega)
        have q5 : (k == 0) = false := by simp; omega
        have q6 : k ≠ 0 := by omega
        have HWK := Lib.hid (fun w h h2 => hRw ▸ specWalk W H A A2 n cap n2 c2 L P u y w h h2 hn hn2 HSZ.out hax hay)
        obtain ⟨a0, a1, a2, a3⟩ := X3.out.cells
        have HI2 : Hid (IntAt wr.drew wr.drew.heap.size A n L) := (HI.out.old X3.out.2.2.2 : IntAt wr wr.heap.size A n L)
        have HP2 : Hid (IntAt wr.drew wr.drew.heap.size A2 n2 P) := (HP.out.old X3.out.2.2.2 : IntAt wr wr.heap.size A2 n2 P)
        obtain ⟨N, hN⟩ : ∃ N, R.length = N := ⟨_, rfl⟩
        have HN2 := Lib.hid hN
        obtain ⟨D, hD⟩ : ∃ D, allD W H L P x = D := ⟨_, rfl⟩
        rw [hD] at X3 HAN HASC HLEN
        rw [hD]
        have HLE := Lib.hid (show w.heap.size + 2 ≤ wr.heap.size from X3.out.le)
        clear hax hay hu hy hR hRw hD
        go_wp2_with fail
        go_region_held3 (fun w' => w'.cell? ⟨w.heap.size, 0, none⟩ = some (.int .i64 W) ∧ w'.cell? ⟨w.heap.size, 1, none⟩ = some (.int .i64 H) ∧ w'.cell? ⟨w.heap.size, 2, none⟩ = some (.slice A n cap) ∧ w'.cell? ⟨w.heap.size + 1, 0, none⟩ = some (.slice A2 n2 c2))
          (first | exact ⟨a0, a1, a2, a3⟩ | exact ⟨d0, d1, d2, d3⟩)
          (first
            | (go_at_call 65; (with_reducible refine (HWK.out _ HI2.out HP2.out).mono ?_); rintro e w4 ⟨v, rfl, o4, b4⟩; have X4 := Lib.hid (X3.out.gb (gb_of_below (below_undrew3 b4) none)); obtain ⟨d0, d1, d2, d3⟩ := X4.out.cells; have O4 := Lib.hid (own_less o4 HLE.out); obtain ⟨AR, capR, rfl, har⟩ := own_form o4; have HAR := Lib.hid har; clear o4 b4 har; rw [hN])
            | fail)
        all_goals
          have X6 := Lib.hid (show DsS W H A A2 n cap n2 c2 w (insAll D (wayD R 0)) _ w4 from X4.out)
          rw [hN] at O4 HAR hRN
          clear d0 d1 d2 d3 hN X4 q1 q2 q3 q4 q5 q6 a0 a1 a2 a3
          go_wp2_with fail
          go_loopw [5, 9] (fun v i ws => ∃ j : Nat, i = .int .i64 ((j : Int) + 1) ∧ j ≤ N - 1 ∧ DsS W H A A2 n cap n2 c2 w (insAll D (wayD R j)) v ws ∧ ws.ownsRow (w.heap.size + 2) 3 1 (.slice AR N capR) N (intsV R)) (fun _ i _ => 17 - (intOf i).toNat)
          case atStart => exact ⟨0, rfl, Nat.zero_le _, X6.out, O4.out⟩
          case round =>
            obtain ⟨j, rfl, hj, hx, ho⟩ := hrel
            have X7 := Lib.hid hx
            have O7 := Lib.hid ho
            obtain ⟨gv, cv, rfl⟩ := hx.1
            clear hx ho
            by_cases hlt3 : j + 1 < N
            · have hl3 : (j : Int) + 1 < (N : Int) := by omega
              obtain ⟨gr, hgr⟩ := HAR.out (by omega)
              subst hgr
              obtain ⟨x1, hx1⟩ : ∃ z, R.getD j 0 = z := ⟨_, rfl⟩
              obtain ⟨x2, hx2⟩ : ∃ z, R.getD (j + 1) 0 = z := ⟨_, rfl⟩
              have c1 := ints_cell O7.out j x1 (by rw [← hx1, List.getD, List.getElem?_eq_getElem (by rw [HN2.out]; omega)]; rfl) HN2.out
              have c2' := ints_cell O7.out (j + 1) x2 (by rw [← hx2, List.getD, List.getElem?_eq_getElem (by rw [HN2.out]; omega)]; rfl) HN2.out
              have hwn := Lib.hid (ins_way (D := D) hx1 hx2)
              obtain ⟨E, hE⟩ : ∃ E, insAll D (wayD R j) = E := ⟨_, rfl⟩
              have hEA := HASC.out j
              have hEL := HLEN.out j (by omega)
              rw [hE] at X7 hwn hEA hEL
              rw [hE]
              have HA := Lib.hid (fun (w' : World) (h : w'.ownsRow (w.heap.size + 2) 94 2 (.slice (some ⟨gv, 0, none⟩) E.length cv) E.length (depV E)) (hb : w.heap.size + 2 ≤ w'.heap.size) => specPut (w.heap.size + 2) E.length gv cv E (x1, x2) hEA w' h hb (by omega))
              obtain ⟨m, hm⟩ : ∃ m : Nat, j + 1 = m := ⟨_, rfl⟩
              have hmi : (j : Int) + 1 = (m : Int) := by omega
              rw [hm] at c2'
              have j0 : (0 : Int) ≤ (j : Int) := by omega
              have j1 : (j : Int) < (N : Int) := by omega
              have j2 : (0 : Int) ≤ (m : Int) := by omega
              have j3 : (m : Int) < (N : Int) := by omega
              have e2 : IntKind.i64.wrap ((m : Int) - 1) = (j : Int) := by rw [IntWalk.i64_in _ (by omega)]; omega
              have HMM := Lib.hid (And.intro hm hlt3)
              rw [hmi]
              clear hx1 hx2 hl3 hlt3 hmi hm hE hEA hEL
              go_wp2_with fail
              go_region_held3 (fun w' => w'.cell? ⟨gr, j, none⟩ = some (.int .i64 x1) ∧ w'.cell? ⟨gr, m, none⟩ = some (.int .i64 x2))
                (first | exact ⟨c1, c2'⟩ | exact ⟨d1, d2⟩ | fail)
                (first
                  | (go_at_call 66; (with_reducible refine (HA.out _ ?_ ?_).mono ?_); exact own_none X7.out.2.1 (gb_drew (gb_refl _ _)); exact X7.out.le; rintro e w7 ⟨g7, q7, rfl, ho7, hg7⟩; have d1 := (gb_drP hg7).cell c1 (by simp); have d2 := (gb_drP hg7).cell c2' (by simp))
                  | fail)
              all_goals
                have X8 := Lib.hid (show DsS W H A A2 n cap n2 c2 w (insAll D (wayD R (j + 1))) _ w7 from ⟨⟨g7, q7, by rw [← hwn.out]⟩, by rw [← hwn.out]; exact ho7, X7.out.2.2.1, below_gb X7.out.2.2.2 X7.out.2.2.1 (gb_drP hg7)⟩)
                have O8 := Lib.hid (own_none O7.out (gb_drP hg7))
                clear ho7 hg7 d1 d2 c1 c2'
                go_wp2_with fail
                go_roundw
                case rel => exact ⟨j + 1, by have hm := HMM.out.1; go_num, by have := HMM.out.2; omega, X8.out, O8.out⟩
                case measure => have hm := HMM.out; simp [intOf]; omega
            · obtain rfl : j = N - 1 := by omega
              have hl3 : ¬ ((N - 1 : Nat) : Int) + 1 < (N : Int) := by omega
              have X8 := Lib.hid (show DsS W H A A2 n cap n2 c2 w (allD W H L P (x + 1)) _ _ from by
                rw [← HAN.out, HN2.out]
                exact X7.out)
              clear X7 O7
              go_wp2_with fail
              go_roundw
              case rel => exact ⟨x + 1, by go_num, by omega, X8.out⟩
              case measure => simp [intOf]; omega
      · have hxk : x = sqG W H := by have := HSQ.out; omega
        have HR := Lib.hid (show allD W H L P x = depG W H L P by rw [HF.out, hxk])
        clear hxk
        go_wp2_with fail
        go_ret
        exact X3.out.new HR.out
end Go.Proofs.YtidilfakganooaaGreatDoor
end

section
namespace Go.Proofs.YtidilfakganooaaGreatDoor
open Go.ChangeShapes Go.WideShapes Go.ChangeAt Go.RowKit
set_option linter.unusedVariables false
set_option maxRecDepth 20000

theorem specFree (A AR : Option Addr) (n cap cR B B2 : Nat) (D : List Dep) (R : List Int) (c : Nat) (b : Bool) (hb : freeO D R c = b) (w : World) (h : DepAt w B A n D) (hR : IntAt w B2 AR 128 R) (hok : okD D = true) (hn : n ≤ 1000000000) :
    Calls Tryz.prog 73 #[.slice A n cap, .slice AR 128 cR, .int .i64 (c : Int)] w fun e w' => e = .returned (.bool b) ∧ w = w' := by
  have hl := h.1
  have HI := Lib.hid h
  have HR := Lib.hid hR
  have HIN := Lib.hid (fun k (hk : k < D.length) => inD_iff.1 (okD_in hok (atD_mem hk)))
  have HYES := Lib.hid (fun (h : ∀ i, i < D.length → holdO R (atD D i) c = false) => hb.symm.trans (freeO_iff.2 h))
  have HNO := Lib.hid (fun i (hi : i < D.length) (h : holdO R (atD D i) c = true) => hb.symm.trans (freeO_no hi h))
  clear h hR hok hb
  go_enter Tryz.func73, Tryz.ntmps73
  go_wp2_with fail
  go_loop [7] (fun i => ∃ k : Nat, i = .int .i64 (k : Int) ∧ k ≤ n ∧ ∀ j, j < k → holdO R (atD D j) c = false) (fun i => n - (intOf i).toNat)
  case atStart => exact ⟨0, rfl, Nat.zero_le _, fun j h => by omega⟩
  case round =>
    obtain ⟨k, rfl, hk, hne⟩ := hrel
    have HNE := Lib.hid hne
    clear hne
    by_cases hlt : k < n
    · obtain ⟨b1, off, rfl, hb1, c0, c1⟩ := HI.out.at k hlt
      obtain ⟨x, hx⟩ : ∃ x, atD D k = x := ⟨_, rfl⟩
      obtain ⟨x0, x1, x2, x3⟩ := HIN.out k (by omega)
      rw [hx] at c0 c1 x0 x1 x2 x3
      obtain ⟨m, hm⟩ : ∃ m : Nat, x.1 = (m : Int) := ⟨x.1.toNat, by omega⟩
      obtain ⟨q, hq⟩ : ∃ q : Nat, x.2 = (q : Int) := ⟨x.2.toNat, by omega⟩
      rw [hm] at c0 x0 x1
      rw [hq] at c1 x2 x3
      obtain ⟨b2, off2, rfl, hb2, hc2⟩ := HR.out.at m (by omega)
      obtain ⟨y, hy⟩ : ∃ y, R.getD m 0 = y := ⟨_, rfl⟩
      rw [hy] at hc2
      have hh : holdO R (atD D k) c = (decide ((q : Int) = (c : Int)) && decide (y < 0)) := by unfold holdO; rw [hx, hm, hq, Int.toNat_natCast, hy]
      have k0 : (0 : Int) ≤ (k : Int) := by omega
      have k1 : (k : Int) < (n : Int) := by omega
      have m0 : (0 : Int) ≤ (m : Int) := by omega
      have m1 : (m : Int) < 128 := by omega
      clear hx hm hq hy
      by_cases hqc : (q : Int) = (c : Int)
      · by_cases hyn : y < 0
        · have HB := Lib.hid (HNO.out k (by omega) (by rw [hh, decide_eq_true hqc, decide_eq_true hyn]; rfl))
          clear hh
          go_wp2_with fail
          go_ret
          exact ⟨ret_bool HB.out.symm, rfl⟩
        · have HB := Lib.hid (show holdO R (atD D k) c = false by rw [hh, decide_eq_false hyn, Bool.and_false])
          clear hh
          go_wp2_with fail
          go_round
          case rel => exact ⟨k + 1, by go_num, by omega, fun j hj => by rcases Nat.lt_succ_iff_lt_or_eq.1 hj with h | h; exact HNE.out j h; rw [h]; exact HB.out⟩
          case measure => simp [intOf]; omega
      · have HB := Lib.hid (show holdO R (atD D k) c = false by rw [hh, decide_eq_false hqc, Bool.false_and])
        have hqb : ((q : Int) == (c : Int)) = false := by simpa using hqc
        clear hh
        go_wp2_with fail
        go_round
        case rel => exact ⟨k + 1, by go_num, by omega, fun j hj => by rcases Nat.lt_succ_iff_lt_or_eq.1 hj with h | h; exact HNE.out j h; rw [h]; exact HB.out⟩
        case measure => simp [intOf]; omega
    · obtain rfl : k = n := by omega
      have HB := Lib.hid (HYES.out (fun j hj => HNE.out j (by omega)))
      go_wp2_with fail
      go_ret
      exact ⟨ret_bool HB.out.symm, rfl⟩

theorem new_none {D : List Dep} {w wr : World} (h : orderO D = none) (hb : Below w.heap.size w wr) : NewR (ranksO D) (canO D) w (.returned (.tuple #[.slice (some ⟨wr.heap.size, 0, none⟩) 0 0, .bool false])) (wr.alloc (.cells #[] 3)) := by
  obtain ⟨e1, e2⟩ := order_none h
  rw [e2]
  obtain ⟨h1, h2⟩ := own_empty e1 hb
  exact ⟨_, rfl, h1, h2⟩

/-- None of the first c channels can be ranked next; or the last one of them is the least that can. -/
def seekO (D : List Dep) (R : List Int) (z : Int) (c : Nat) : Prop :=
  (z = -1 ∧ c ≤ 128 ∧ ∀ j, j < c → candO D R j = false) ∨ (∃ c0 : Nat, z = (c0 : Int) ∧ c = c0 + 1 ∧ c0 < 128 ∧ bestO D R = some c0)
theorem seek_next {D : List Dep} {R : List Int} {z : Int} {c : Nat} (hz : z = -1) (hc : c < 128) (h : ∀ j, j < c → candO D R j = false) (hn : candO D R c = false) : seekO D R z (c + 1) :=
  .inl ⟨hz, hc, fun j hj => by rcases Nat.lt_succ_iff_lt_or_eq.1 hj with h1 | h1; exact h j h1; rw [h1]; exact hn⟩
set_option maxHeartbeats 1600000 in
theorem specOrderOf (A : Option Addr) (n cap : Nat) (D : List Dep) (w : World) (h : DepAt w w.heap.size A n D) (hn : n ≤ 1000000000) :
    Calls Tryz.prog 44 #[.slice A n cap] w (NewR (ranksO D) (canO D) w) := by
  obtain ⟨i0, hi, hz0, hz1, hz2⟩ := info_parts info_int
  have HI := Lib.hid h
  have HB0 := Lib.hid (show Below w.heap.size w (w.alloc (.cells #[] 3)) from (Below.refl _ _).alloc (Nat.le_refl _) _)
  have HOK := Lib.hid (fun (w' : World) (hb : Below w.heap.size w w') => specDependsOk A n cap D w' ((h.below hb).more hb.size) (by omega))
  clear h
  cases hok : okD D with
  | false =>
    have HN := Lib.hid (orderO_bad hok)
    have HRE := Lib.hid (own_empty (L := ranksO D) (order_none HN.out).1 (Below.refl w.heap.size w))
    have HC := Lib.hid (order_none HN.out).2
    rw [hok] at HOK
    clear hok
    go_enter Tryz.func44, Tryz.ntmps44
    go_wp2_with fail
    refine (HOK.out _ HB0.out).mono ?_
    rintro e w1 ⟨rfl, hg1⟩
    have O1 := Lib.hid (own_none HRE.out.1 hg1)
    have B1 := Lib.hid (below_gb HRE.out.2 (Nat.le_refl _) hg1)
    clear hg1
    go_wp2_with fail
    go_ret2
    exact ⟨_, ret_pair HC.out.symm, O1.out, B1.out⟩
  | true =>
    have HORD := Lib.hid (orderO_ok hok)
    have HOKD := Lib.hid hok
    rw [hok] at HOK
    clear hok
    go_enter Tryz.func44, Tryz.ntmps44
    go_wp2_with fail
    refine (HOK.out _ HB0.out).mono ?_
    rintro e w1 ⟨rfl, hg1⟩
    have X1 := Lib.hid (show RkAt w 0 (List.replicate 0 (-1)) (.slice (some ⟨w.heap.size, 0, none⟩) 0 0) w1 from ⟨own_none (World.ownsRow_made (base := w.heap.size) (e := 3) (size := 1) w #[] 0 (Nat.le_refl _) (by decide) rfl) hg1, below_gb HB0.out (Nat.le_refl _) hg1⟩)
    clear hg1
    go_wp2_with fail
    go_loopw [4, 5] (fun v i wr => ∃ k : Nat, i = .int .i64 (k : Int) ∧ k ≤ 128 ∧ RkAt w k (List.replicate k (-1)) v wr) (fun _ i _ => 128 - (intOf i).toNat)
    case atStart => exact ⟨0, rfl, Nat.zero_le _, X1.out⟩
    case round =>
      obtain ⟨k, rfl, hk, hx⟩ := hrel
      have X2 := Lib.hid hx
      obtain ⟨Av, cv, rfl, hav⟩ := own_form hx.1
      have HAV := Lib.hid hav
      clear hx hav
      by_cases hlt : k < 128
      · have b3 := Lib.hid (show ∀ u ∈ [Value.int .i64 (-1)], u.oneCell' = true by simp [Value.oneCell'])
        have b4 := Lib.hid (show k + 1 ≤ maxLen by unfold maxLen; omega)
        go_wp2_with (at_builtin; refine wpList_append_own _ rfl _ _ 26 rfl w.heap.size 3 i0 (.int .i64 0) 1 8 Tryz.underlying26 hi hz0 hz1 hz2 rfl (by decide) _ k _ rfl (X2.out.1.alloc _) ⟨wr.heap.size, 0, none⟩ 1 1 [.int .i64 (-1)] rfl rfl (World.news_of_block (cs := #[.int .i64 (-1)]) (t := 3) (fr := (0, 0)) (heap_alloc_new wr _)) b3.out b4.out (by omega) (by have := X2.out.2.size; simp; omega) ?_; intro v' w4 hown4 hgrow4 _)
        have X4 := Lib.hid (show RkAt w (k + 1) (List.replicate (k + 1) (-1)) v' w4 from by
          refine ⟨by rw [List.replicate_succ', intsV_append]; exact hown4, ?_⟩
          exact (X2.out.2.alloc X2.out.2.size _).grown hgrow4 (by have := X2.out.2.size; simp; omega) (fun j hj => (X2.out.1.lt j hj).1))
        clear hown4 hgrow4
        go_wp2_with fail
        go_roundw
        case rel => exact ⟨k + 1, by go_num, by omega, X4.out⟩
        case measure => simp [intOf]; omega
      · obtain rfl : k = 128 := by omega
        obtain ⟨g, hg⟩ := HAV.out (by omega)
        subst hg
        go_wp2_with fail
        simp only [show ((128 : Nat) : Int) = 128 from rfl]
        go_loopw [6] (fun i wr => ∃ (r : Nat) (R : List Int), i = .int .i64 (r : Int) ∧ r ≤ 128 ∧ ordTo D r = some R ∧ RkAt w 128 R (.slice (some ⟨g, 0, none⟩) 128 cv) wr) (fun i _ => 128 - (intOf i).toNat)
        case atStart => exact ⟨0, _, rfl, Nat.zero_le _, rfl, X2.out⟩
        case round =>
          obtain ⟨r, R, rfl, hr, hord, hx⟩ := hrel
          have X5 := Lib.hid hx
          have HO := Lib.hid hord
          clear hx hord
          by_cases hlt : r < 128
          · have hRl := ordTo_len HO.out
            have HLT := Lib.hid hlt
            go_wp2_with fail
            simp only [show ((r : Int) < 128) = True from eq_true (by have := HLT.out; omega), decide_true]
            clear hlt
            go_loopw [7, 8] (fun b i ws => ∃ (z : Int) (c : Nat), b = .int .i64 z ∧ i = .int .i64 (c : Int) ∧ RkAt w 128 R (.slice (some ⟨g, 0, none⟩) 128 cv) ws ∧ seekO D R z c) (fun _ i _ => 129 - (intOf i).toNat)
            case atStart => exact ⟨-1, 0, rfl, rfl, X5.out, .inl ⟨rfl, Nat.zero_le _, fun j h => by omega⟩⟩
            case round =>
              obtain ⟨z, c, rfl, rfl, hx, hseek⟩ := hrel
              have X7 := Lib.hid hx
              clear hx
              rcases hseek with ⟨hz, hc, hall⟩ | ⟨c0', hz, hcc, hc, hbest⟩
              · have HALL := Lib.hid hall
                have HZ := Lib.hid hz
                have hzn : z < 0 := by omega
                clear hall hz
                by_cases hlt2 : c < 128
                · have c0 := ints_cell X7.out.1 c (R.getD c 0) (by rw [List.getD, List.getElem?_eq_getElem (by omega)]; rfl) hRl
                  obtain ⟨y, hy⟩ : ∃ y, R.getD c 0 = y := ⟨_, rfl⟩
                  rw [hy] at c0
                  have k0 : (0 : Int) ≤ (c : Int) := by omega
                  have k1 : (c : Int) < 128 := by omega
                  have hcand : candO D R c = (decide (y < 0) && freeO D R c) := by unfold candO; rw [hy]
                  by_cases hyn : y < 0
                  · cases hf : freeO D R c with
                    | false =>
                      have HF := Lib.hid (fun B B2 w h hR => specFree A (some ⟨g, 0, none⟩) n cap cv B B2 D R c false hf w h hR HOKD.out hn)
                      have HCN := Lib.hid (show candO D R c = false by rw [hcand, hf, Bool.and_false])
                      clear hy hcand hf
                      go_wp2_with fail
                      refine (HF.out _ _ _ (HI.out.below X7.out.2) (intAt_own X7.out.1 hRl (Nat.le_refl _))).mono ?_
                      rintro e w6 ⟨rfl, rfl⟩
                      go_wp2_with fail
                      go_roundw
                      case rel => exact ⟨z, c + 1, rfl, by go_num, X7.out, seek_next HZ.out hlt2 HALL.out HCN.out⟩
                      case measure => simp [intOf]; omega
                    | true =>
                      have HF := Lib.hid (fun B B2 w h hR => specFree A (some ⟨g, 0, none⟩) n cap cv B B2 D R c true hf w h hR HOKD.out hn)
                      have HCN := Lib.hid (bestO_some hlt2 (by rw [hcand, hf, decide_eq_true hyn]; rfl) HALL.out)
                      clear hy hcand hf
                      go_wp2_with fail
                      refine (HF.out _ _ _ (HI.out.below X7.out.2) (intAt_own X7.out.1 hRl (Nat.le_refl _))).mono ?_
                      rintro e w6 ⟨rfl, rfl⟩
                      go_wp2_with fail
                      go_roundw
                      case rel => exact ⟨(c : Int), c + 1, rfl, by go_num, X7.out, .inr ⟨c, rfl, rfl, hlt2, HCN.out⟩⟩
                      case measure => simp [intOf]; omega
                  · have HCN := Lib.hid (show candO D R c = false by rw [hcand, decide_eq_false hyn, Bool.false_and])
                    clear hy hcand
                    go_wp2_with fail
                    go_roundw
                    case rel => exact ⟨z, c + 1, rfl, by go_num, X7.out, seek_next HZ.out hlt2 HALL.out HCN.out⟩
                    case measure => simp [intOf]; omega
                · obtain rfl : c = 128 := by omega
                  have HE := Lib.hid (HORD.out.trans (ordTo_dead (ordTo_stop HO.out (bestO_none HALL.out)) (by have := HLT.out; omega)))
                  go_wp2_with fail
                  go_ret2
                  exact new_none HE.out X7.out.2
              · have HNX := Lib.hid (ordTo_next HO.out hbest)
                have X6 := Lib.hid (X7.out.set c0' (r : Int))
                have c0 := ints_cell X7.out.1 c0' (R.getD c0' 0) (by rw [List.getD, List.getElem?_eq_getElem (by omega)]; rfl) hRl
                have f0 := X7.out.1.frozenAt c0'
                have k0 : (0 : Int) ≤ (c0' : Int) := by omega
                have k1 : (c0' : Int) < 128 := by omega
                have k2 : ¬ (c0' : Int) < 0 := by omega
                subst hz
                clear hbest
                by_cases h9 : c < 128
                · have h8 : (c : Int) < 128 := by omega
                  clear hcc
                  go_wp2_with fail
                  go_roundw
                  case rel => exact ⟨r + 1, _, by go_num, by have := HLT.out; omega, HNX.out, X6.out⟩
                  case measure => have := HLT.out; simp [intOf]; omega
                · have h8 : ¬ (c : Int) < 128 := by omega
                  clear hcc
                  go_wp2_with fail
                  go_roundw
                  case rel => exact ⟨r + 1, _, by go_num, by have := HLT.out; omega, HNX.out, X6.out⟩
                  case measure => have := HLT.out; simp [intOf]; omega
          · obtain rfl : r = 128 := by omega
            have HE := Lib.hid (order_some (HORD.out.trans HO.out))
            have hRl := ordTo_len HO.out
            go_wp2_with fail
            go_ret2
            refine ⟨_, ret_pair HE.out.2.symm, ?_, X5.out.2⟩
            have h3 := X5.out.1
            rw [HE.out.1, hRl]
            exact h3
end Go.Proofs.YtidilfakganooaaGreatDoor
end

section
namespace Go.Proofs.YtidilfakganooaaGreatDoor
open Go.ChangeShapes Go.WideShapes Go.ChangeAt Go.RowKit
set_option linter.unusedVariables false

/-- X: the numbers found (0: none), N: the channels found at level n, P: the successors that were looked at. -/
structure Bfs (D : List Dep) (a n : Nat) (P : Nat → Prop) (X N : List Int) : Prop where
  len : X.length = 128
  old : ∀ t, t < 128 → X.getD t 0 ≠ 0 → ∃ m : Nat, X.getD t 0 = (m : Int) ∧ 1 ≤ m ∧ m ≤ n ∧ fstB D a m t ∧ (m = n → (t : Int) ∈ N)
  zer : ∀ t, t < 128 → X.getD t 0 = 0 → ¬ P t ∧ ∀ m, 1 ≤ m → m < n → wayB D a m t = false
  nxt : ∀ x ∈ N, 0 ≤ x ∧ x < 128 ∧ X.getD x.toNat 0 = (n : Int)
  nod : N.Nodup
theorem Bfs.congr {D : List Dep} {a n : Nat} {P Q : Nat → Prop} {X N : List Int} (h : Bfs D a n P X N) (hq : ∀ t, t < 128 → Q t → P t) : Bfs D a n Q X N :=
  ⟨h.len, h.old, fun t ht h0 => ⟨fun hp => (h.zer t ht h0).1 (hq t ht hp), (h.zer t ht h0).2⟩, h.nxt, h.nod⟩
theorem Bfs.few {D : List Dep} {a n : Nat} {P : Nat → Prop} {X N : List Int} (h : Bfs D a n P X N) : N.length ≤ 128 := by
  have h1 : (N.map Int.toNat).Nodup := by
    rw [List.nodup_iff_pairwise_ne, List.pairwise_map]
    refine List.Pairwise.imp_of_mem ?_ (List.nodup_iff_pairwise_ne.1 h.nod)
    intro x y hx hy hne he
    have := h.nxt x hx
    have := h.nxt y hy
    exact hne (by omega)
  have := pigeon 128 _ h1 (fun x hx => by
    obtain ⟨y, hy, rfl⟩ := List.mem_map.1 hx
    have := h.nxt y hy
    omega)
  rwa [List.length_map] at this
theorem Bfs.miss {D : List Dep} {a n s : Nat} {P : Nat → Prop} {X N : List Int} (h : Bfs D a n P X N) (hs : X.getD s 0 ≠ 0) : Bfs D a n (fun t => P t ∨ t = s) X N :=
  ⟨h.len, h.old, fun t ht h0 => ⟨fun hp => by
    rcases hp with hp | rfl
    · exact (h.zer t ht h0).1 hp
    · exact hs h0, (h.zer t ht h0).2⟩, h.nxt, h.nod⟩
theorem Bfs.hit {D : List Dep} {a n s : Nat} {P : Nat → Prop} {X N : List Int} (h : Bfs D a n P X N) (hn : 1 ≤ n) (hs : s < 128) (h0 : X.getD s 0 = 0) (hw : wayB D a n s = true) : Bfs D a n (fun t => P t ∨ t = s) (X.set s (n : Int)) (N ++ [(s : Int)]) := by
  have hsl : s < X.length := by rw [h.len]; exact hs
  have hnew : (s : Int) ∉ N := fun hm => by
    have := (h.nxt _ hm).2.2
    rw [Int.toNat_natCast, h0] at this
    omega
  refine ⟨by rw [List.length_set]; exact h.len, fun t ht hx => ?_, fun t ht hx => ?_, fun x hx => ?_, ?_⟩
  · by_cases e : s = t
    · subst e
      rw [set_getD hsl, if_pos rfl]
      exact ⟨n, rfl, hn, Nat.le_refl _, ⟨hw, (h.zer s hs h0).2⟩, fun _ => List.mem_append_right _ (List.mem_singleton.2 rfl)⟩
    · rw [set_getD hsl, if_neg e] at hx ⊢
      obtain ⟨m, h1, h2, h3, h4, h5⟩ := h.old t ht hx
      exact ⟨m, h1, h2, h3, h4, fun e => List.mem_append_left _ (h5 e)⟩
  · by_cases e : s = t
    · subst e
      rw [set_getD hsl, if_pos rfl] at hx
      omega
    · rw [set_getD hsl, if_neg e] at hx
      refine ⟨fun hp => ?_, (h.zer t ht hx).2⟩
      rcases hp with hp | hp
      · exact (h.zer t ht hx).1 hp
      · exact e hp.symm
  · rcases List.mem_append.1 hx with hx | hx
    · obtain ⟨h1, h2, h3⟩ := h.nxt x hx
      refine ⟨h1, h2, ?_⟩
      rw [set_getD hsl]
      split
      · rfl
      · exact h3
    · rw [List.mem_singleton.1 hx]
      refine ⟨by omega, by omega, ?_⟩
      rw [set_getD hsl, Int.toNat_natCast, if_pos rfl]
  · rw [List.nodup_append]
    refine ⟨h.nod, by simp, fun x hx y hy e => ?_⟩
    rw [List.mem_singleton] at hy
    subst hy
    subst e
    exact hnew hx
/-- The successors of a whole level. -/
def allP (D : List Dep) (a n : Nat) (t : Nat) : Prop := ∃ u, levB D a (n - 1) u ∧ edgeB D u t = true
/-- The front of level n. -/
structure Front (D : List Dep) (a n : Nat) (F : List Int) : Prop where
  lev : ∀ v : Nat, (v : Int) ∈ F ↔ levB D a (n - 1) v
  rng : ∀ x ∈ F, 0 ≤ x ∧ x < 128
theorem front_one (D : List Dep) {a : Nat} (ha : a < 128) : Front D a 1 [(a : Int)] :=
  ⟨fun v => by rw [List.mem_singleton]; exact ⟨fun e => by have : v = a := by omega
                                                           exact this, fun e => by have : v = a := e
                                                                                   rw [this]⟩, fun x hx => by rw [List.mem_singleton] at hx; omega⟩
theorem bfs_start (D : List Dep) (a : Nat) {X : List Int} (hX : X.length = 128) (h0 : ∀ t, t < 128 → X.getD t 0 = 0) : Bfs D a 1 (fun _ => False) X [] :=
  ⟨hX, fun t ht h => absurd (h0 t ht) h, fun t ht _ => ⟨fun h => h, fun m h1 h2 => by omega⟩, fun x hx => (by cases hx), List.nodup_nil⟩
theorem Bfs.found {D : List Dep} (hD : okD D = true) {a n : Nat} {X N : List Int} (h : Bfs D a n (allP D a n) X N) (hn : 1 ≤ n) {t : Nat} (ht : t < 128) (h0 : X.getD t 0 = 0) {m : Nat} (h1 : 1 ≤ m) (h2 : m ≤ n) : wayB D a m t = false := by
  cases hw : wayB D a m t with
  | false => rfl
  | true =>
    obtain ⟨k, k1, k2, k3⟩ := fst_ex h1 hw
    by_cases hk : k < n
    · have k4 := k3.1
      rw [(h.zer t ht h0).2 k k1 hk] at k4
      cases k4
    · obtain rfl : k = n := by omega
      obtain ⟨q, rfl⟩ : ∃ q, k = q + 1 := ⟨k - 1, by omega⟩
      obtain ⟨u, h3, h4⟩ := fst_back hD k3
      exact absurd ⟨u, h3, h4⟩ (h.zer t ht h0).1
theorem bfs_next {D : List Dep} (hD : okD D = true) {a n : Nat} {X N : List Int} (h : Bfs D a n (allP D a n) X N) (hn : 1 ≤ n) : Front D a (n + 1) N ∧ Bfs D a (n + 1) (fun _ => False) X [] := by
  constructor
  · refine ⟨fun v => ?_, fun x hx => ⟨(h.nxt x hx).1, (h.nxt x hx).2.1⟩⟩
    unfold levB
    rw [if_neg (by omega), Nat.add_sub_cancel]
    constructor
    · intro hv
      obtain ⟨h1, h2, h3⟩ := h.nxt _ hv
      rw [Int.toNat_natCast] at h3
      obtain ⟨m, h4, h5, h6, h7, _⟩ := h.old v (by omega) (by omega)
      have : m = n := by omega
      rwa [this] at h7
    · intro hf
      have hv := way_lt hD hn hf.1
      by_cases h0 : X.getD v 0 = 0
      · have hf4 := hf.1
        rw [h.found hD hn hv h0 hn (Nat.le_refl _)] at hf4
        cases hf4
      · obtain ⟨m, h4, h5, h6, h7, h8⟩ := h.old v hv h0
        exact h8 (dist_uniq (.inr ⟨h5, h7⟩) (.inr ⟨hn, hf⟩))
  · refine ⟨h.len, fun t ht hx => ?_, fun t ht hx => ⟨fun e => e, fun m h1 h2 => h.found hD hn ht hx h1 (by omega)⟩, fun x hx => (by cases hx), List.nodup_nil⟩
    obtain ⟨m, h1, h2, h3, h4, _⟩ := h.old t ht hx
    exact ⟨m, h1, h2, by omega, h4, fun e => by omega⟩
theorem lev_chain {D : List Dep} (hD : okD D = true) {a : Nat} : ∀ {k m t : Nat}, fstB D a (m + k) t → 1 ≤ m + k → ∃ v, levB D a m v
  | 0, m, t, h, h1 => ⟨t, by unfold levB; rw [if_neg (by omega)]; exact h⟩
  | k + 1, m, t, h, h1 => by
    obtain ⟨u, hu, _⟩ := fst_back hD (n := m + k) h
    by_cases h0 : m + k = 0
    · obtain rfl : m = 0 := by omega
      exact ⟨a, by unfold levB; rw [if_pos rfl]⟩
    · unfold levB at hu
      rw [if_neg h0] at hu
      exact lev_chain hD hu (by omega)
/-- All the least numbers of steps from a channel. -/
def distL (D : List Dep) (a : Nat) : List Int := (List.range 128).map fun t => (distD D a t : Int)
theorem distL_len (D : List Dep) (a : Nat) : (distL D a).length = 128 := by simp [distL]
theorem distL_at {D : List Dep} {a t : Nat} (h : t < 128) : (distL D a).getD t 0 = (distD D a t : Int) := by
  rw [List.getD_eq_getElem?_getD, distL, List.getElem?_map, List.getElem?_range h]; rfl
theorem list_extD {X Y : List Int} {n : Nat} (hX : X.length = n) (hY : Y.length = n) (h : ∀ t, t < n → X.getD t 0 = Y.getD t 0) : X = Y := by
  apply List.ext_getElem (by rw [hX, hY])
  intro i h1 h2
  have := h i (by omega)
  rw [List.getD_eq_getElem?_getD, List.getD_eq_getElem?_getD, List.getElem?_eq_getElem h1, List.getElem?_eq_getElem h2] at this
  exact this
theorem bfs_end {D : List Dep} (hD : okD D = true) {a n : Nat} {X : List Int} (h : Bfs D a n (fun _ => False) X []) (hf : Front D a n []) (hn : 1 ≤ n) : X = distL D a := by
  refine list_extD h.len (distL_len D a) fun t ht => ?_
  rw [distL_at ht]
  by_cases h0 : X.getD t 0 = 0
  · rw [h0]
    have : isDist D a t 0 := .inl ⟨rfl, fun m h1 => by
      cases hw : wayB D a m t with
      | false => rfl
      | true =>
        obtain ⟨k, k1, k2, k3⟩ := fst_ex h1 hw
        by_cases hk : k < n
        · have k4 := k3.1
          rw [(h.zer t ht h0).2 k k1 hk] at k4
          cases k4
        · obtain ⟨v, hv⟩ := lev_chain hD (k := k - (n - 1)) (m := n - 1) (t := t) (by rw [show n - 1 + (k - (n - 1)) = k by omega]; exact k3) (by omega)
          have := (hf.lev v).2 hv
          cases this⟩
    rw [dist_of hD this]
    rfl
  · obtain ⟨m, h1, h2, h3, h4, _⟩ := h.old t ht h0
    rw [h1, dist_of hD (.inr ⟨h2, h4⟩)]
/-- A front that is not empty is at a level of at most 129. -/
theorem front_le {D : List Dep} (hD : okD D = true) {a n : Nat} {F : List Int} (h : Front D a n F) (hF : 0 < F.length) : n ≤ 129 := by
  cases F with
  | nil => simp at hF
  | cons x F =>
    have hr := h.rng x (List.mem_cons_self ..)
    have h1 := (h.lev x.toNat).1 (by rw [Int.toNat_of_nonneg hr.1]; exact List.mem_cons_self ..)
    unfold levB at h1
    by_cases h0 : n - 1 = 0
    · omega
    · rw [if_neg h0] at h1
      have := fst_le hD h1
      omega
/-- What was looked at behind i channels of the front and k successors of the next one. -/
def seenP (D : List Dep) (F : List Int) (i : Nat) (S : List Int) (k : Nat) (t : Nat) : Prop := (∃ j, j < i ∧ edgeB D (F.getD j 0).toNat t = true) ∨ (∃ j, j < k ∧ S.getD j 0 = (t : Int))
theorem seen_one {D : List Dep} {F : List Int} {i : Nat} {S : List Int} {k s : Nat} (hs : S.getD k 0 = (s : Int)) : ∀ t, t < 128 → seenP D F i S (k + 1) t → (seenP D F i S k t ∨ t = s) := fun t _ h => by
  rcases h with h | ⟨j, hj, he⟩
  · exact .inl (.inl h)
  · rcases Nat.lt_succ_iff_lt_or_eq.1 hj with hj | rfl
    · exact .inl (.inr ⟨j, hj, he⟩)
    · right; omega
theorem seen_row {D : List Dep} {F : List Int} {i : Nat} {x : Nat} (hx : F.getD i 0 = (x : Int)) : ∀ t, t < 128 → seenP D F (i + 1) [] 0 t → seenP D F i (succD D (x : Int)) (succD D (x : Int)).length t := fun t _ h => by
  rcases h with ⟨j, hj, he⟩ | ⟨j, hj, _⟩
  · rcases Nat.lt_succ_iff_lt_or_eq.1 hj with hj | rfl
    · exact .inl ⟨j, hj, he⟩
    · rw [hx, Int.toNat_natCast, edge_succ] at he
      obtain ⟨q, hq, e⟩ := List.getElem_of_mem he
      refine .inr ⟨q, hq, ?_⟩
      rw [List.getD_eq_getElem?_getD, List.getElem?_eq_getElem hq, e]
      rfl
  · omega
theorem seen_begin {D : List Dep} {F : List Int} {i : Nat} {S : List Int} : ∀ t, t < 128 → seenP D F i S 0 t → seenP D F i [] 0 t := fun t _ h => by
  rcases h with h | ⟨j, hj, _⟩
  · exact .inl h
  · omega
theorem seen_zero {D : List Dep} {F : List Int} : ∀ t, t < 128 → seenP D F 0 [] 0 t → False := fun t _ h => by
  rcases h with ⟨j, hj, _⟩ | ⟨j, hj, _⟩ <;> omega
theorem seen_all {D : List Dep} {a n : Nat} {F : List Int} (hF : Front D a n F) : ∀ t, t < 128 → allP D a n t → seenP D F F.length [] 0 t := fun t _ h => by
  obtain ⟨u, h1, h2⟩ := h
  obtain ⟨q, hq, e⟩ := List.getElem_of_mem ((hF.lev u).2 h1)
  refine .inl ⟨q, hq, ?_⟩
  rw [List.getD_eq_getElem?_getD, List.getElem?_eq_getElem hq, e]
  simpa using h2
/-- A successor of a channel of the front is reached at its level. -/
theorem front_way {D : List Dep} (hD : okD D = true) {a n : Nat} {F : List Int} (hF : Front D a n F) (hn : 1 ≤ n) {x s : Nat} (hx : (x : Int) ∈ F) (hs : (s : Int) ∈ succD D (x : Int)) : wayB D a n s = true := by
  obtain ⟨m, rfl⟩ : ∃ m, n = m + 1 := ⟨n - 1, by omega⟩
  refine (wayB_next hD).2 ⟨x, ?_, edge_succ.2 hs⟩
  have h1 := (hF.lev x).1 hx
  rw [Nat.add_sub_cancel] at h1
  unfold levB at h1
  split at h1
  · rename_i h0
    rw [h0]
    exact wayB_zero.2 h1
  · exact h1.1
end Go.Proofs.YtidilfakganooaaGreatDoor
end

section
namespace Go.Proofs.YtidilfakganooaaGreatDoor
open Go.ChangeShapes Go.WideShapes Go.ChangeAt Go.RowKit
set_option linter.unusedVariables false
set_option maxRecDepth 20000

theorem specSuccessors (A : Option Addr) (n cap : Nat) (D : List Dep) (c : Int) (w : World) (h : DepAt w w.heap.size A n D) (hn : n ≤ 1000000000) :
    Calls Tryz.prog 74 #[.slice A n cap, .int .i64 c] w (NewI (succD D c) w) := by
  obtain ⟨i0, hi, hz0, hz1, hz2⟩ := info_parts info_int
  have HI := Lib.hid h
  have hl := h.1
  have HALL := Lib.hid (show succD (D.take n) c = succD D c by rw [← hl]; exact succ_all D c)
  have HST := Lib.hid (own_empty (L := succD (D.take 0) c) rfl (Below.refl w.heap.size w))
  clear h
  go_enter Tryz.func74, Tryz.ntmps74
  go_wp2_with fail
  go_loopw [5, 6] (fun v i wr => ∃ k : Nat, i = .int .i64 (k : Int) ∧ k ≤ n ∧ wr.ownsRow w.heap.size 3 1 v (succD (D.take k) c).length (intsV (succD (D.take k) c)) ∧ Below w.heap.size w wr) (fun _ i _ => n - (intOf i).toNat)
  case atStart => exact ⟨0, rfl, Nat.zero_le _, HST.out.1, HST.out.2⟩
  case round =>
    obtain ⟨k, rfl, hk, ho, hb⟩ := hrel
    have HB := Lib.hid hb
    have HO := Lib.hid ho
    have hai := HI.out.below hb
    obtain ⟨Ao, co, rfl, _⟩ := own_form ho
    clear ho hb
    by_cases hlt : k < n
    · obtain ⟨b1, off, rfl, hb1, c0, c1⟩ := hai.at k hlt
      obtain ⟨x, hx⟩ : ∃ x, atD D k = x := ⟨_, rfl⟩
      rw [hx] at c0 c1
      have k0 : (0 : Int) ≤ (k : Int) := by omega
      have k1 : (k : Int) < (n : Int) := by omega
      have hkl : k < D.length := by omega
      have hlen : (succD (D.take k) c).length ≤ k := Nat.le_trans (succ_length _ _) (by simp; omega)
      clear hai
      by_cases hc : x.1 = c
      · have HE := Lib.hid (succ_yes (c := c) hkl (by rw [hx]; exact hc))
        rw [hx] at HE
        subst hc
        have hsz1 : w.heap.size ≤ wr.heap.size := HB.out.size
        have b3' := Lib.hid (show ∀ u ∈ [Value.int .i64 x.2], u.oneCell' = true by simp [Value.oneCell'])
        have b4' := Lib.hid (show (succD (D.take k) x.1).length + 1 ≤ maxLen by unfold maxLen; omega)
        go_wp2_with (at_builtin; refine wpList_append_own _ rfl _ _ 26 rfl w.heap.size 3 i0 (.int .i64 0) 1 8 Tryz.underlying26 hi hz0 hz1 hz2 rfl (by decide) _ (succD (D.take k) x.1).length _ rfl (HO.out.alloc _) ⟨wr.heap.size, 0, none⟩ 1 1 [.int .i64 x.2] rfl rfl (World.news_of_block (cs := #[.int .i64 x.2]) (t := 3) (fr := (0, 0)) (heap_alloc_new wr _)) b3'.out b4'.out (by omega) (by simp; omega) ?_; intro v' w4 hown4 hgrow4 _)
        have X4 := Lib.hid (show w4.ownsRow w.heap.size 3 1 v' (succD (D.take (k + 1)) x.1).length (intsV (succD (D.take (k + 1)) x.1)) ∧ Below w.heap.size w w4 from by
          refine ⟨by rw [HE.out, List.length_append, intsV_append]; exact hown4, ?_⟩
          exact (HB.out.alloc HB.out.size _).grown hgrow4 (by have := HB.out.size; simp; omega) (fun j hj => (HO.out.lt j hj).1))
        clear hown4 hgrow4 c0 c1 hx
        go_wp2_with fail
        go_roundw
        case rel => exact ⟨k + 1, by go_num, by omega, X4.out.1, X4.out.2⟩
        case measure => simp [intOf]; omega
      · have HE := Lib.hid (succ_no (c := c) hkl (by rw [hx]; exact hc))
        clear hx
        go_wp2_with fail
        go_roundw
        case rel => exact ⟨k + 1, by go_num, by omega, by rw [HE.out]; exact HO.out, HB.out⟩
        case measure => simp [intOf]; omega
    · obtain rfl : k = n := by omega
      clear hai
      go_wp2_with fail
      go_ret
      refine ⟨_, rfl, ?_, HB.out⟩
      have h3 := HO.out
      rw [HALL.out] at h3 ⊢
      exact h3

end Go.Proofs.YtidilfakganooaaGreatDoor
end

section
namespace Go.Proofs.YtidilfakganooaaGreatDoor
open Go.ChangeShapes Go.WideShapes Go.ChangeAt Go.RowKit
set_option linter.unusedVariables false
set_option maxRecDepth 20000

/-- A new row of 128 zeros. -/
theorem made_zeros : ∃ Z : List Int, Z.length = 128 ∧ (∀ t, t < 128 → Z.getD t 0 = 0) ∧ ∃ c : Array Value, (∀ w : World, (Instr.makeSlice 26 (.int .i64 128) (.int .i64 128)).run Tryz.prog w = .ok (.slice (some ⟨w.heap.size, 0, none⟩) 128 128) (w.alloc (.cells c 3))) ∧
    ∀ w : World, (w.alloc (.cells c 3)).ownsRow w.heap.size 3 1 (.slice (some ⟨w.heap.size, 0, none⟩) 128 128) 128 (intsV Z) := by
  obtain ⟨i0, hi, hz0, hz1, hz2⟩ := info_parts info_int
  refine ⟨List.replicate 128 0, List.length_replicate, fun t ht => ?_, madeCells #[Value.int .i64 0] 128, fun w => ?_, fun w => ?_⟩
  · rw [List.getD_eq_getElem?_getD, List.getElem?_replicate, if_pos ht]; rfl
  · have := run_make (P := Tryz.prog) w 26 3 i0 (.int .i64 0) Tryz.underlying26 hi hz0 .i64 .i64 128 128 (by decide) (by decide) (by rw [hz2]; decide) (by decide)
    rw [hz1] at this
    simpa [Value.cells] using this
  · have := World.ownsRow_lit (base := w.heap.size) (e := 3) (size := 1) w (madeCells #[Value.int .i64 0] 128) 128 (Nat.le_refl _) (by decide) (by simp [madeCells])
    rw [toList_madeCells_one] at this
    unfold intsV
    rw [List.map_replicate]
    exact this
theorem ints_at {w : World} {base g cap n : Nat} {L : List Int} (h : w.ownsRow base 3 1 (.slice (some ⟨g, 0, none⟩) n cap) n (intsV L)) (hn : L.length = n) {k : Nat} (hk : k < n) : w.cell? ⟨g, k, none⟩ = some (.int .i64 (L.getD k 0)) :=
  ints_cell h k (L.getD k 0) (by rw [List.getD, List.getElem?_eq_getElem (by omega)]; rfl) hn
theorem getD_memI {L : List Int} {k : Nat} (h : k < L.length) : L.getD k 0 ∈ L := by
  rw [List.getD_eq_getElem?_getD, List.getElem?_eq_getElem h]
  exact List.getElem_mem h

set_option maxHeartbeats 3200000 in
theorem specDepths (A : Option Addr) (n cap : Nat) (D : List Dep) (a : Nat) (ha : a < 128) (hok : okD D = true) (w : World) (h : DepAt w w.heap.size A n D) (hn : n ≤ 1000000000) :
    Calls Tryz.prog 75 #[.slice A n cap, .int .i64 (a : Int)] w (NewI (distL D a) w) := by
  obtain ⟨i0, hi, hz0, hz1, hz2⟩ := info_parts info_int
  have HI := Lib.hid h
  have HD := Lib.hid hok
  have HSU := Lib.hid (fun (x : Int) w h => specSuccessors A n cap D x w h (by omega))
  have hl := h.1
  have HSL := Lib.hid (fun x => (show (succD D x).length ≤ n from hl ▸ succ_length D x))
  obtain ⟨Z, hZl, hZ0, cz, hmk, hown⟩ := made_zeros
  have X0 := Lib.hid (show Dp w (.slice (some ⟨w.heap.size, 0, none⟩) 128 128) Z (.slice (some ⟨w.heap.size + 1, 0, none⟩) 1 1) [(a : Int)] (.slice none 0 0) [] (.slice none 0 0) [] ((w.alloc (.cells cz 3)).alloc (.cells #[.int .i64 (a : Int)] 3)) from by
    have e : (w.alloc (.cells cz 3)).heap.size = w.heap.size + 1 := alloc_size _ _
    have h2 := World.ownsRow_lit (base := w.heap.size) (e := 3) (size := 1) (w.alloc (.cells cz 3)) #[.int .i64 (a : Int)] 1 (by omega) (by decide) rfl
    rw [e] at h2
    refine ⟨(hown w).alloc _, h2, World.ownsRow_nil _ _ _ _, World.ownsRow_nil _ _ _ _, ((Below.refl _ _).alloc (Nat.le_refl _) _).alloc (by omega) _, fun g hg e => ?_, apart_none _, apart_none _, none_apart _, none_apart _⟩
    have h3 : w.heap.size = g := Option.some.inj hg
    have h4 : w.heap.size + 1 = g := Option.some.inj e
    omega)
  have HF1 := Lib.hid (front_one D ha)
  have HB1 := Lib.hid (bfs_start D a hZl hZ0)
  obtain ⟨G, hG⟩ : ∃ G, w.heap.size = G := ⟨_, rfl⟩
  have HG := Lib.hid hG
  clear h hok hown hZl hZ0 hl
  go_enter Tryz.func75, Tryz.ntmps75
  go_wp2_with fail
  simp only [hG] at X0 ⊢
  clear hG
  go_loopw [6, 7] (fun f i wr => ∃ (m : Nat) (X F : List Int), i = .int .i64 (m : Int) ∧ 1 ≤ m ∧ F.length ≤ 128 ∧ Front D a m F ∧ Bfs D a m (fun _ => False) X [] ∧ Dp w (.slice (some ⟨G, 0, none⟩) 128 128) X f F (.slice none 0 0) [] (.slice none 0 0) [] wr) (fun _ i _ => 200 - (intOf i).toNat)
  case atStart => exact ⟨1, Z, _, rfl, Nat.le_refl _, by simp, HF1.out, HB1.out, X0.out⟩
  case round =>
    obtain ⟨m, X, F, rfl, hm, hf128, hf, hb, hx⟩ := hrel
    have HM := Lib.hid hm
    have HF := Lib.hid hf
    have HB := Lib.hid hb
    have X2 := Lib.hid hx
    obtain ⟨Af, cf, rfl, haf⟩ := own_form hx.rf
    have HAF := Lib.hid haf
    obtain ⟨nF, hnF⟩ : ∃ nF, F.length = nF := ⟨_, rfl⟩
    have HNF := Lib.hid hnF
    have hnF128 : nF ≤ 128 := by omega
    clear hf128
    clear hm hf hb hx haf
    by_cases h0 : 0 < nF
    · have HM2 := Lib.hid (front_le HD.out HF.out (by omega))
      have hp : (0 : Int) < (nF : Int) := by omega
      simp only [hnF] at X2 ⊢
      clear hnF
      go_wp2_with fail
      have X3 := Lib.hid X2.out.begin
      go_loopw [8, 9] (fun q i wr => ∃ (j : Nat) (X N : List Int), i = .int .i64 (j : Int) ∧ j ≤ nF ∧ Bfs D a m (seenP D F j [] 0) X N ∧ Dp w (.slice (some ⟨G, 0, none⟩) 128 128) X (.slice Af nF cf) F q N (.slice none 0 0) [] wr) (fun _ i _ => nF - (intOf i).toNat)
      case atStart => exact ⟨0, X, [], rfl, Nat.zero_le _, HB.out.congr seen_zero, X3.out⟩
      case round =>
        obtain ⟨j, X, N, rfl, hj, hb, hx⟩ := hrel
        have HB2 := Lib.hid hb
        have X4 := Lib.hid hx
        clear hb hx
        by_cases hlt : j < nF
        · obtain ⟨gf, hgf⟩ := HAF.out (by have := HNF.out; omega)
          subst hgf
          have hjF : j < F.length := by have := HNF.out; omega
          have hmem := getD_memI hjF
          have hrg := HF.out.rng _ hmem
          obtain ⟨x, hxx⟩ : ∃ x : Nat, F.getD j 0 = (x : Int) := ⟨(F.getD j 0).toNat, by omega⟩
          have HX := Lib.hid hxx
          have c0 := ints_at (by have := X4.out.rf; rw [HNF.out] at this; exact this) HNF.out hlt
          rw [hxx] at hmem c0
          have HME := Lib.hid hmem
          have HLT := Lib.hid hlt
          have j0 : (0 : Int) ≤ (j : Int) := by omega
          have j1 : (j : Int) < (nF : Int) := by omega
          clear hmem hrg hxx hjF hlt
          go_wp2_with fail
          refine (HSU.out (x : Int) _ ((HI.out.below X4.out.lb).more X4.out.lb.size)).mono ?_
          rintro e w5 ⟨v5, rfl, o5, b5⟩
          have X5 := Lib.hid (X4.out.succ o5 b5)
          obtain ⟨As, cs, rfl, has⟩ := own_form o5
          have HAS := Lib.hid has
          obtain ⟨S, hS⟩ : ∃ S, succD D (x : Int) = S := ⟨_, rfl⟩
          have HSE := Lib.hid hS
          rw [hS] at X5 HAS
          obtain ⟨nS, hnS⟩ : ∃ nS, S.length = nS := ⟨_, rfl⟩
          have HNS := Lib.hid hnS
          have hnl : nS ≤ n := (by rw [← hnS, ← hS]; exact HSL.out (x : Int))
          clear o5 b5 has c0
          go_wp2_with fail
          simp only [hnS] at X5 ⊢
          clear hS hnS
          go_loopw [8, 11] (fun q i wr => ∃ (k : Nat) (X N : List Int), i = .int .i64 (k : Int) ∧ k ≤ nS ∧ Bfs D a m (seenP D F j S k) X N ∧ Dp w (.slice (some ⟨G, 0, none⟩) 128 128) X (.slice (some ⟨gf, 0, none⟩) nF cf) F q N (.slice As nS cs) S wr) (fun _ i _ => nS - (intOf i).toNat)
          case atStart => exact ⟨0, X, N, rfl, Nat.zero_le _, HB2.out.congr seen_begin, X5.out⟩
          case round =>
            obtain ⟨k, X, N, rfl, hk, hb, hx⟩ := hrel
            have HB3 := Lib.hid hb
            have X6 := Lib.hid hx
            clear hb hx
            by_cases hlt : k < nS
            · have hkS : k < S.length := by have := HNS.out; omega
              have hmS := getD_memI hkS
              have hrg : 0 ≤ S.getD k 0 ∧ S.getD k 0 < 128 := succ_in HD.out (by rw [HSE.out]; exact hmS)
              obtain ⟨t, ht⟩ : ∃ t : Nat, S.getD k 0 = (t : Int) := ⟨(S.getD k 0).toNat, by omega⟩
              have HT := Lib.hid ht
              obtain ⟨gs, hgs⟩ := HAS.out (by omega)
              subst hgs
              have ht128 : t < 128 := by omega
              have HT2 := Lib.hid ht128
              have c0 := ints_at (by have := X6.out.rs; rw [HNS.out] at this; exact this) HNS.out hlt
              have c1 := ints_at X6.out.rd HB3.out.len ht128
              rw [ht] at hmS c0
              have HWY := Lib.hid (front_way HD.out HF.out HM.out HME.out (by rw [HSE.out]; exact hmS))
              obtain ⟨y, hy⟩ : ∃ y, X.getD t 0 = y := ⟨_, rfl⟩
              rw [hy] at c1
              have k0 : (0 : Int) ≤ (k : Int) := by omega
              have k1 : (k : Int) < (nS : Int) := by omega
              have t0 : (0 : Int) ≤ (t : Int) := by omega
              have t1 : (t : Int) < 128 := by omega
              have HLT2 := Lib.hid hlt
              clear hmS hrg ht hkS hlt ht128
              by_cases hy0 : y = 0
              · have HB4 := Lib.hid (show Bfs D a m (seenP D F j S (k + 1)) (X.set t (m : Int)) (N ++ [(t : Int)]) from (HB3.out.hit HM.out HT2.out (hy.trans hy0) HWY.out).congr (seen_one HT.out))
                have X7 := Lib.hid (X6.out.store t (m : Int))
                have f0 := X6.out.rd.frozenAt t
                have c2 := ints_at (by have := X7.out.rs; rw [HNS.out] at this; exact this) HNS.out HLT2.out
                rw [HT.out] at c2
                have hsz : (wr.setCell ⟨G, t, none⟩ (.int .i64 (m : Int))).heap.size = wr.heap.size := by simp
                have HNB := Lib.hid (show ((wr.setCell ⟨G, t, none⟩ (.int .i64 (m : Int))).alloc (.cells #[.int .i64 (t : Int)] 3)).heap[wr.heap.size]? = some (.cells #[.int .i64 (t : Int)] 3) by have := heap_alloc_new (wr.setCell ⟨G, t, none⟩ (.int .i64 (m : Int))) (.cells #[.int .i64 (t : Int)] 3); rw [hsz] at this; exact this)
                have b3 := Lib.hid (show ∀ u ∈ [Value.int .i64 (t : Int)], u.oneCell' = true by simp [Value.oneCell'])
                have b4 := Lib.hid (show N.length + 1 ≤ maxLen by have := HB3.out.few; unfold maxLen; omega)
                have b5 := Lib.hid (show (N.length + 1) * 8 ≤ 140737488355328 by have := HB3.out.few; omega)
                have b6 := Lib.hid (show w.heap.size ≤ ((wr.setCell ⟨G, t, none⟩ (.int .i64 (m : Int))).alloc (.cells #[.int .i64 (t : Int)] 3)).heap.size by rw [alloc_size, hsz]; have := X6.out.lb.size; omega)
                clear hy hsz
                subst hy0
                go_wp2_with (at_builtin; refine wpList_append_lies _ rfl _ _ 26 rfl w.heap.size 3 i0 (.int .i64 0) 1 8 Tryz.underlying26 hi hz0 hz1 hz2 rfl (by decide) _ N.length _ rfl (X7.out.rn.alloc _) ⟨wr.heap.size, 0, none⟩ 1 1 [.int .i64 (t : Int)] rfl rfl (World.news_of_block HNB.out) b3.out (by decide) b4.out b5.out b6.out _ rfl ?_; intro g4 cap4 w4 hown4 hgrow4 hat4 _)
                have X8 := Lib.hid (X7.out.app hown4 hgrow4 hat4)
                clear hown4 hgrow4 hat4 c0 c1 c2
                go_wp2_with fail
                go_roundw
                case rel => exact ⟨k + 1, _, _, by go_num, by have := HLT2.out; omega, HB4.out, X8.out⟩
                case measure => have := HLT2.out; simp [intOf]; omega
              · have HB4 := Lib.hid (show Bfs D a m (seenP D F j S (k + 1)) X N from (HB3.out.miss (s := t) (by rw [hy]; exact hy0)).congr (seen_one HT.out))
                have hyb : (y == 0) = false := by simpa using hy0
                clear hy
                go_wp2_with fail
                go_roundw
                case rel => exact ⟨k + 1, _, _, by go_num, by have := HLT2.out; omega, HB4.out, X6.out⟩
                case measure => have := HLT2.out; simp [intOf]; omega
            · obtain rfl : k = nS := by omega
              have HB4 := Lib.hid (show Bfs D a m (seenP D F (j + 1) [] 0) X N from HB3.out.congr (fun t ht h => by have := seen_row HX.out t ht h; rwa [HSE.out, HNS.out] at this))
              have X7 := Lib.hid X6.out.drop
              go_wp2_with fail
              go_roundw
              case rel => exact ⟨j + 1, X, N, by go_num, by have := HLT.out; omega, HB4.out, X7.out⟩
              case measure => have := HLT.out; simp [intOf]; omega
        · obtain rfl : j = nF := by omega
          have HB4 := Lib.hid (bfs_next HD.out (HB2.out.congr (fun t ht h => by have := seen_all HF.out t ht h; rwa [HNF.out] at this)) HM.out)
          have X7 := Lib.hid X4.out.shift
          have hmw : IntKind.i64.wrap ((m : Int) + 1) = ((m + 1 : Nat) : Int) := by have := HM2.out; rw [IntWalk.i64_in _ (by omega)]; omega
          go_wp2_with fail
          go_roundw
          case rel => exact ⟨m + 1, X, N, by go_num, by omega, HB2.out.few, HB4.out.1, HB4.out.2, X7.out⟩
          case measure => have := HM2.out; simp [intOf]; omega
    · have hp : ¬ (0 : Int) < (nF : Int) := by omega
      have hF0 : F = [] := List.eq_nil_of_length_eq_zero (by omega)
      have HE := Lib.hid (bfs_end HD.out HB.out (by have := HF.out; rwa [hF0] at this) HM.out)
      simp only [hnF] at X2 ⊢
      clear hnF h0 hF0
      go_wp2_with fail
      go_ret
      refine ⟨_, rfl, ?_, X2.out.lb⟩
      rw [← HE.out, HB.out.len]
      exact X2.out.rd
end Go.Proofs.YtidilfakganooaaGreatDoor
end

section
namespace Go.Proofs.YtidilfakganooaaGreatDoor
open Go.ChangeShapes Go.WideShapes Go.ChangeAt Go.RowKit
set_option linter.unusedVariables false
set_option maxRecDepth 20000

theorem find_at {p : Int → Bool} : ∀ {L : List Int} {k : Nat}, k < L.length → (∀ j, j < k → p (L.getD j 0) = false) → p (L.getD k 0) = true → L.find? p = some (L.getD k 0)
  | [], k, h, _, _ => by simp at h
  | x :: L, 0, h, _, h2 => by
    have : p x = true := h2
    simp [this]
  | x :: L, k + 1, h, h1, h2 => by
    have h0 : p x = false := h1 0 (by omega)
    have := find_at (L := L) (k := k) (by simpa using h) (fun j hj => h1 (j + 1) (by omega)) h2
    simp [h0, this]
theorem next_hit {D : List Dep} {st left u k t : Nat} (hk : k < (succD D (u : Int)).length) (h : ∀ j, j < k → candP D st left ((succD D (u : Int)).getD j 0) = false) (ht : (succD D (u : Int)).getD k 0 = (t : Int)) (hc : candP D st left (t : Int) = true) : nextP D st left u = t := by
  unfold nextP
  rw [find_at hk h (by rw [ht]; exact hc), ht]
  rfl
theorem next_miss {D : List Dep} {st left u : Nat} (h : ∀ j, j < (succD D (u : Int)).length → candP D st left ((succD D (u : Int)).getD j 0) = false) : nextP D st left u = u := by
  unfold nextP
  have : (succD D (u : Int)).find? (candP D st left) = none := List.find?_eq_none.2 fun x hx => by
    obtain ⟨j, hj, e⟩ := List.getElem_of_mem hx
    have := h j hj
    rw [List.getD_eq_getElem?_getD, List.getElem?_eq_getElem hj, Option.getD_some, e] at this
    rw [this]; simp
  rw [this]
theorem cand_zero {D : List Dep} {st t : Nat} : candP D st 0 (t : Int) = decide (t = st) := by
  unfold candP
  rw [if_pos rfl]
  exact decide_eq_decide.2 (by omega)
theorem cand_same {D : List Dep} {st left : Nat} (h : 0 < left) : candP D st left (st : Int) = false := by
  unfold candP
  rw [if_neg (by omega)]
  simp
theorem cand_far {D : List Dep} {st left t : Nat} (h : 0 < left) (hne : t ≠ st) : candP D st left (t : Int) = decide (distD D t st = left) := by
  unfold candP
  rw [if_neg (by omega), Int.toNat_natCast]
  have : (t : Int) ≠ (st : Int) := by omega
  simp [this]
theorem no_succ {D : List Dep} (hD : okD D = true) {c : Nat} (h : succD D (c : Int) = []) : distD D c c = 0 := by
  rcases dist_is hD c c with ⟨h1, _⟩ | ⟨h1, h2⟩
  · exact h1
  · obtain ⟨m, hm⟩ : ∃ m, distD D c c = m + 1 := ⟨distD D c c - 1, by omega⟩
    have h3 := h2.1
    rw [hm] at h3
    obtain ⟨s, h4, _⟩ := way_head hD h3
    rw [edge_succ, h] at h4
    cases h4
def cycN (D : List Dep) (st b i : Nat) : List Int := (List.range i).map fun i => (atP D st b i : Int)
theorem cycN_next (D : List Dep) (st b i : Nat) : cycN D st b (i + 1) = cycN D st b i ++ [(atP D st b i : Int)] := by simp [cycN, List.range_succ]
theorem cycN_len (D : List Dep) (st b i : Nat) : (cycN D st b i).length = i := by simp [cycN]
/-- The list that is built, and the successors. -/
structure CyR (w : World) (vo : Value) (O : List Int) (vs : Value) (S : List Int) (wr : World) : Prop where
  ro : wr.ownsRow w.heap.size 3 1 vo O.length (intsV O)
  rs : wr.ownsRow w.heap.size 3 1 vs S.length (intsV S)
  lb : Below w.heap.size w wr
section
variable {w wr w' : World} {vo vs v : Value} {O S L : List Int}
theorem CyR.gb (h : CyR w vo O vs S wr) (hg : wr.grownBy w' none) : CyR w vo O vs S w' := ⟨own_none h.ro hg, own_none h.rs hg, below_gb h.lb (Nat.le_refl _) hg⟩
theorem CyR.bl (h : CyR w vo O vs S wr) (hb : Below wr.heap.size wr w') : CyR w vo O vs S w' := h.gb (gb_of_below hb none)
theorem CyR.succ (h : CyR w vo O vs S wr) (ho : w'.ownsRow wr.heap.size 3 1 v L.length (intsV L)) (hb : Below wr.heap.size wr w') : CyR w vo O v L w' := by
  have k := h.bl hb
  exact ⟨k.ro, own_less ho h.lb.size, k.lb⟩
theorem CyR.drop (h : CyR w vo O vs S wr) : CyR w vo O (.slice none 0 0) [] wr := ⟨h.ro, World.ownsRow_nil _ _ _ _, h.lb⟩
theorem CyR.app {o : Obj} {x : Int} (h : CyR w vo O vs S wr) (ho : w'.ownsRow w.heap.size 3 1 v (O.length + 1) (intsV O ++ [.int .i64 x])) (hg : (wr.alloc o).grownBy w' vo.ownBlock) : CyR w v (O ++ [x]) (.slice none 0 0) [] w' :=
  ⟨by rw [List.length_append, intsV_append]; exact ho, World.ownsRow_nil _ _ _ _, (h.lb.alloc h.lb.size o).grown hg (by rw [alloc_size]; have := h.lb.size; omega) (fun j e => (h.ro.lt j e).1)⟩
end
set_option maxHeartbeats 6400000 in
theorem specShortest (A : Option Addr) (n cap : Nat) (D : List Dep) (w : World) (h : DepAt w w.heap.size A n D) (hn : n ≤ 1000000000) :
    Calls Tryz.prog 45 #[.slice A n cap] w (NewI (cycG D) w) := by
  obtain ⟨i0, hi, hz0, hz1, hz2⟩ := info_parts info_int
  have HI := Lib.hid h
  have hl := h.1
  have X0 := Lib.hid (show CyR w (.slice (some ⟨w.heap.size, 0, none⟩) 0 0) [] (.slice none 0 0) [] (w.alloc (.cells #[] 3)) from ⟨World.ownsRow_made (base := w.heap.size) (e := 3) (size := 1) w #[] 0 (Nat.le_refl _) (by decide) rfl, World.ownsRow_nil _ _ _ _, (Below.refl _ _).alloc (Nat.le_refl _) _⟩)
  have HOK := Lib.hid (fun (w' : World) (hb : Below w.heap.size w w') => specDependsOk A n cap D w' ((h.below hb).more hb.size) (by omega))
  clear h
  cases hok : okD D with
  | false =>
    have HE := Lib.hid (cyc_bad hok)
    rw [hok] at HOK
    clear hok
    go_enter Tryz.func45, Tryz.ntmps45
    go_wp2_with fail
    refine (HOK.out _ X0.out.lb).mono ?_
    rintro e w1 ⟨rfl, hg1⟩
    have X1 := Lib.hid (X0.out.gb hg1)
    clear hg1
    go_wp2_with fail
    go_ret
    exact ⟨_, rfl, by rw [HE.out]; exact X1.out.ro, X1.out.lb⟩
  | true =>
    have HD := Lib.hid hok
    have HSU := Lib.hid (fun (x : Int) w h => specSuccessors A n cap D x w h (by omega))
    have HDE := Lib.hid (fun (a : Nat) (ha : a < 128) w h => specDepths A n cap D a ha hok w h hn)
    have HSL := Lib.hid (fun x => (show (succD D x).length ≤ n from hl ▸ succ_length D x))
    have HCY := Lib.hid (cyc_ok hok)
    rw [hok] at HOK
    clear hok hl
    go_enter Tryz.func45, Tryz.ntmps45
    go_wp2_with fail
    refine (HOK.out _ X0.out.lb).mono ?_
    rintro e w1 ⟨rfl, hg1⟩
    have X1 := Lib.hid (X0.out.gb hg1)
    clear hg1
    go_wp2_with fail
    go_loopw [4, 5, 6] (fun p s i wr => ∃ c : Nat, i = .int .i64 (c : Int) ∧ p = .int .i64 ((bestTo D c).1 : Int) ∧ s = .int .i64 (bestTo D c).2 ∧ c ≤ 128 ∧ CyR w (.slice (some ⟨w.heap.size, 0, none⟩) 0 0) [] (.slice none 0 0) [] wr) (fun _ _ i _ => 128 - (intOf i).toNat)
    case atStart => exact ⟨0, rfl, rfl, rfl, Nat.zero_le _, X1.out⟩
    case round =>
      obtain ⟨c, rfl, rfl, rfl, hc, hx⟩ := hrel
      have X2 := Lib.hid hx
      clear hx
      by_cases hlt : c < 128
      · have HLT := Lib.hid hlt
        have c0 : (0 : Int) ≤ (c : Int) := by omega
        have c1 : (c : Int) < 128 := by omega
        obtain ⟨b, hb⟩ : ∃ b, (bestTo D c).1 = b := ⟨_, rfl⟩
        obtain ⟨s, hs⟩ : ∃ s, (bestTo D c).2 = s := ⟨_, rfl⟩
        have HTAKE := Lib.hid (best_take (D := D) (c := c))
        have HPASS := Lib.hid (best_pass (D := D) (c := c))
        have HBS := Lib.hid (show bestTo D c = (b, s) from Prod.ext hb hs)
        rw [hb] at HTAKE HPASS
        simp only [hb, hs]
        obtain ⟨d, hd⟩ : ∃ d, distD D c c = d := ⟨_, rfl⟩
        have HA := Lib.hid (distL_at (D := D) (a := c) hlt)
        have HNS := Lib.hid (fun h => (no_succ HD.out (c := c) h).symm.trans hd)
        rw [hd] at HA HTAKE HPASS
        clear hb hs hd hlt
        go_wp2_with fail
        refine (HSU.out (c : Int) _ ((HI.out.below X2.out.lb).more X2.out.lb.size)).mono ?_
        rintro e w3 ⟨v3, rfl, o3, b3⟩
        obtain ⟨A3, c3, rfl, _⟩ := own_form o3
        obtain ⟨S, hS⟩ : ∃ S, succD D (c : Int) = S := ⟨_, rfl⟩
        rw [hS] at HNS
        obtain ⟨nS, hnS⟩ : ∃ nS, S.length = nS := ⟨_, rfl⟩
        have X3 := Lib.hid (X2.out.bl b3)
        clear o3 b3
        simp only [hS, hnS]
        by_cases hS0 : nS = 0
        · have hd0 : d = 0 := (HNS.out (List.eq_nil_of_length_eq_zero (by omega))).symm
          have HP := Lib.hid ((HPASS.out (fun e => by have := e.1; omega)).trans HBS.out)
          clear hS hnS
          subst hS0
          go_wp2_with fail
          go_roundw
          case rel => exact ⟨c + 1, by go_num, by rw [HP.out], by rw [HP.out], by have := HLT.out; omega, X3.out⟩
          case measure => have := HLT.out; simp [intOf]; omega
        · have hSb : ((nS : Int) == 0) = false := by simpa using hS0
          clear hS hnS
          go_wp2_with fail
          refine (HDE.out c HLT.out _ ((HI.out.below X3.out.lb).more X3.out.lb.size)).mono ?_
          rintro e w4 ⟨v4, rfl, o4, b4⟩
          rw [distL_len] at o4
          obtain ⟨A4, c4, rfl, ha4⟩ := own_form o4
          obtain ⟨g4, rfl⟩ := ha4 (by omega)
          have e0 := ints_at o4 (distL_len D c) HLT.out
          rw [HA.out] at e0
          have X4 := Lib.hid (X3.out.bl b4)
          clear o4 b4 ha4
          by_cases hd0 : d = 0
          · have HP := Lib.hid ((HPASS.out (fun e => by have := e.1; omega)).trans HBS.out)
            subst hd0
            go_wp2_with fail
            go_roundw
            case rel => exact ⟨c + 1, by go_num, by rw [HP.out], by rw [HP.out], by have := HLT.out; omega, X4.out⟩
            case measure => have := HLT.out; simp [intOf]; omega
          · have hdp : (0 : Int) < (d : Int) := by omega
            have hdn : 0 < d := by omega
            by_cases hb0 : b = 0
            · have HP := Lib.hid (HTAKE.out hdn (.inl hb0))
              subst hb0
              go_wp2_with fail
              go_roundw
              case rel => exact ⟨c + 1, by go_num, by rw [HP.out], by rw [HP.out], by have := HLT.out; omega, X4.out⟩
              case measure => have := HLT.out; simp [intOf]; omega
            · have hbb : ((b : Int) == 0) = false := by simpa using hb0
              by_cases hdb : d < b
              · have HP := Lib.hid (HTAKE.out hdn (.inr hdb))
                have hlt : (d : Int) < (b : Int) := by omega
                go_wp2_with fail
                go_roundw
                case rel => exact ⟨c + 1, by go_num, by rw [HP.out], by rw [HP.out], by have := HLT.out; omega, X4.out⟩
                case measure => have := HLT.out; simp [intOf]; omega
              · have HP := Lib.hid ((HPASS.out (fun e => by rcases e.2 with h | h; exact hb0 h; exact hdb h)).trans HBS.out)
                have hlt : ¬ (d : Int) < (b : Int) := by omega
                go_wp2_with fail
                go_roundw
                case rel => exact ⟨c + 1, by go_num, by rw [HP.out], by rw [HP.out], by have := HLT.out; omega, X4.out⟩
                case measure => have := HLT.out; simp [intOf]; omega
      · obtain rfl : c = 128 := by omega
        have HBI := best_is D 128
        obtain ⟨b, hb⟩ : ∃ b, (bestTo D 128).1 = b := ⟨_, rfl⟩
        obtain ⟨s, hs⟩ : ∃ s, (bestTo D 128).2 = s := ⟨_, rfl⟩
        unfold BestIs at HBI
        rw [hb, hs] at HCY HBI
        simp only [hb, hs]
        clear hb hs
        rcases HBI with ⟨hb0, _, _⟩ | ⟨st, hst, hs, hbd, hb1, _, _⟩
        · have HE := Lib.hid (show cycG D = [] by rw [HCY.out, hb0]; rfl)
          subst hb0
          clear HCY
          go_wp2_with fail
          simp only [show ((128 : Nat) : Int) = 128 from rfl]
          go_loopw [3, 8, 9] (fun v p i wr => v = .slice (some ⟨w.heap.size, 0, none⟩) 0 0 ∧ i = .int .i64 0 ∧ CyR w (.slice (some ⟨w.heap.size, 0, none⟩) 0 0) [] (.slice none 0 0) [] wr) (fun _ _ _ _ => 0)
          case atStart => exact ⟨rfl, rfl, X2.out⟩
          case round =>
            obtain ⟨rfl, rfl, hx⟩ := hrel
            have X3 := Lib.hid hx
            clear hx
            go_wp2_with fail
            go_ret
            exact ⟨_, rfl, by rw [HE.out]; exact X3.out.ro, X3.out.lb⟩
        · rw [hs, Int.toNat_natCast] at HCY
          have hb128 : b ≤ 128 := by rw [hbd]; exact dist_le HD.out st st
          subst hs
          have HBD := Lib.hid hbd.symm
          have HST := Lib.hid hst
          have HB1 := Lib.hid hb1
          clear hbd hst hb1
          go_wp2_with fail
          simp only [show ((128 : Nat) : Int) = 128 from rfl]
          go_loopw [3, 8, 9] (fun v p i wr => ∃ j : Nat, i = .int .i64 (j : Int) ∧ p = .int .i64 (atP D st b j : Int) ∧ j ≤ b ∧ CyR w v (cycN D st b j) (.slice none 0 0) [] wr) (fun _ _ i _ => b - (intOf i).toNat)
          case atStart => exact ⟨0, rfl, rfl, Nat.zero_le _, X2.out⟩
          case round =>
            obtain ⟨i, rfl, rfl, hib, hx⟩ := hrel
            have ho := hx.ro
            rw [cycN_len] at ho
            have o3 := Lib.hid ho
            have X3 := Lib.hid hx
            obtain ⟨Ao, co, rfl, _⟩ := own_form ho
            clear hx ho
            by_cases hlt : i < b
            · obtain ⟨u, hu⟩ : ∃ u, atP D st b i = u := ⟨_, rfl⟩
              obtain ⟨l, hl⟩ : ∃ l, b = i + 1 + l := ⟨b - i - 1, by omega⟩
              have HNX := Lib.hid (show atP D st b (i + 1) = nextP D st l u by rw [atP, hu, show b - i - 1 = l by omega])
              have HLT := Lib.hid hlt
              have HU := Lib.hid hu
              have HLB := Lib.hid hl
              have hz : (b : Int) - (i : Int) - 1 = (l : Int) := by omega
              have i1 : (i : Int) < (b : Int) := by omega
              have b3 := Lib.hid (show ∀ z ∈ [Value.int .i64 (u : Int)], z.oneCell' = true by simp [Value.oneCell'])
              have b4 := Lib.hid (show i + 1 ≤ maxLen by unfold maxLen; omega)
              have b5 := Lib.hid (show (i + 1) * 8 ≤ 140737488355328 by omega)
              have b6 := Lib.hid (show w.heap.size ≤ (wr.alloc (.cells #[.int .i64 (u : Int)] 3)).heap.size by rw [alloc_size]; have := X3.out.lb.size; omega)
              simp only [hu]
              clear hu hl
              go_wp2_with (at_builtin; refine wpList_append_own _ rfl _ _ 26 rfl w.heap.size 3 i0 (.int .i64 0) 1 8 Tryz.underlying26 hi hz0 hz1 hz2 rfl (by decide) _ i _ rfl (o3.out.alloc _) ⟨wr.heap.size, 0, none⟩ 1 1 [.int .i64 (u : Int)] rfl rfl (World.news_of_block (cs := #[.int .i64 (u : Int)]) (t := 3) (fr := (0, 0)) (heap_alloc_new wr _)) b3.out b4.out b5.out b6.out ?_; intro v' w4 hown4 hgrow4 _)
              have X4 := Lib.hid (show CyR w v' (cycN D st b (i + 1)) (.slice none 0 0) [] w4 by rw [cycN_next, HU.out]; exact X3.out.app (by rw [cycN_len]; exact hown4) hgrow4)
              clear hown4 hgrow4
              go_wp2_with fail
              refine (HSU.out (u : Int) _ ((HI.out.below X4.out.lb).more X4.out.lb.size)).mono ?_
              rintro e w5 ⟨v5, rfl, o5, b5'⟩
              obtain ⟨S, hS⟩ : ∃ S, succD D (u : Int) = S := ⟨_, rfl⟩
              rw [hS] at o5
              have X5 := Lib.hid (X4.out.succ o5 b5')
              obtain ⟨As, cs, rfl, has⟩ := own_form o5
              have HAS := Lib.hid has
              have HSE := Lib.hid hS
              obtain ⟨nS, hnS⟩ : ∃ nS, S.length = nS := ⟨_, rfl⟩
              have HNS := Lib.hid hnS
              have hnl : nS ≤ n := (by rw [← hnS, ← hS]; exact HSL.out (u : Int))
              have HHIT := Lib.hid (fun k (t : Nat) (h1 : k < S.length) h2 (h3 : S.getD k 0 = (t : Int)) h4 => HNX.out.trans (next_hit (D := D) (st := st) (left := l) (u := u) (k := k) (t := t) (by rw [hS]; exact h1) (by rw [hS]; exact h2) (by rw [hS]; exact h3) h4))
              have HMISS := Lib.hid (fun h2 => HNX.out.trans (next_miss (D := D) (st := st) (left := l) (u := u) (by rw [hS]; exact h2)))
              clear o5 b5' has
              go_wp2_with fail
              simp only [hnS] at X5 ⊢
              clear hS hnS
              go_loopw [8, 11] (fun q j wr => ∃ k : Nat, j = .int .i64 (k : Int) ∧ q = .int .i64 (u : Int) ∧ k ≤ nS ∧ (∀ j, j < k → candP D st l (S.getD j 0) = false) ∧ CyR w v' (cycN D st b (i + 1)) (.slice As nS cs) S wr) (fun _ j _ => nS - (intOf j).toNat)
              case atStart => exact ⟨0, rfl, rfl, Nat.zero_le _, fun j h => by omega, X5.out⟩
              case round =>
                obtain ⟨k, rfl, rfl, hk, hno, hx⟩ := hrel
                have HN := Lib.hid hno
                have X6 := Lib.hid hx
                clear hno hx
                by_cases hlt3 : k < nS
                · have hkS : k < S.length := by have := HNS.out; omega
                  have hmS := getD_memI hkS
                  have hrg : 0 ≤ S.getD k 0 ∧ S.getD k 0 < 128 := succ_in HD.out (by rw [HSE.out]; exact hmS)
                  obtain ⟨t, ht⟩ : ∃ t : Nat, S.getD k 0 = (t : Int) := ⟨(S.getD k 0).toNat, by omega⟩
                  obtain ⟨gs, hgs⟩ := HAS.out (by omega)
                  subst hgs
                  have ht128 : t < 128 := by omega
                  have c0 := ints_at (by have := X6.out.rs; rw [HNS.out] at this; exact this) HNS.out hlt3
                  rw [ht] at c0
                  have HT := Lib.hid ht
                  have HT2 := Lib.hid ht128
                  have HLT2 := Lib.hid hlt3
                  have k0 : (0 : Int) ≤ (k : Int) := by omega
                  have k1 : (k : Int) < (nS : Int) := by omega
                  have t0 : (0 : Int) ≤ (t : Int) := by omega
                  have t1 : (t : Int) < 128 := by omega
                  have HFOUND := Lib.hid (fun (hc : candP D st l (t : Int) = true) => HHIT.out k t hkS HN.out ht hc)
                  have HNEXT := Lib.hid (fun (hc : candP D st l (t : Int) = false) j (hj : j < k + 1) => show candP D st l (S.getD j 0) = false by rcases Nat.lt_succ_iff_lt_or_eq.1 hj with h | h; exact HN.out j h; rw [h, ht]; exact hc)
                  clear hmS hrg ht hkS ht128
                  by_cases hl0 : l = 0
                  · have hz0 : (b : Int) - (i : Int) - 1 = 0 := by omega
                    by_cases hts : st = t
                    · have HF := Lib.hid (HFOUND.out (by rw [hl0, cand_zero]; exact decide_eq_true hts.symm))
                      clear hz
                      subst hts
                      go_wp2_with fail
                      go_roundw
                      case rel => exact ⟨i + 1, by go_num, by rw [HF.out], by have := HLT.out; omega, X6.out.drop⟩
                      case measure => have := HLT.out; simp [intOf]; omega
                    · have HF := Lib.hid (HNEXT.out (by rw [hl0, cand_zero]; exact decide_eq_false (fun e => hts e.symm)))
                      have hne : ((t : Int) == (st : Int)) = false := by simp; omega
                      clear hz
                      go_wp2_with fail
                      go_roundw
                      case rel => exact ⟨k + 1, by go_num, rfl, by have := HLT2.out; omega, HF.out, X6.out⟩
                      case measure => have := HLT2.out; simp [intOf]; omega
                  · have hlb : ((l : Int) == 0) = false := by simpa using hl0
                    have hlp : (0 : Int) < (l : Int) := by omega
                    by_cases hts : st = t
                    · have HF := Lib.hid (HNEXT.out (by rw [← hts]; exact cand_same (by omega)))
                      subst hts
                      go_wp2_with fail
                      go_roundw
                      case rel => exact ⟨k + 1, by go_num, rfl, by have := HLT2.out; omega, HF.out, X6.out⟩
                      case measure => have := HLT2.out; simp [intOf]; omega
                    · have hne : ((t : Int) == (st : Int)) = false := by simp; omega
                      have hne2 : ((t : Int) != (st : Int)) = true := by simp; omega
                      have s0 : (0 : Int) ≤ (st : Int) := by omega
                      have s1 : (st : Int) < 128 := by have := HST.out; omega
                      have HCF := Lib.hid (cand_far (D := D) (show 0 < l by omega) (fun e => hts e.symm))
                      have HA := Lib.hid (distL_at (D := D) (a := t) HST.out)
                      obtain ⟨d, hd⟩ : ∃ d, distD D t st = d := ⟨_, rfl⟩
                      rw [hd] at HCF HA
                      clear hd
                      go_wp2_with fail
                      refine (HDE.out t HT2.out _ ((HI.out.below X6.out.lb).more X6.out.lb.size)).mono ?_
                      rintro e w7 ⟨v7, rfl, o7, b7⟩
                      rw [distL_len] at o7
                      obtain ⟨A7, c7, rfl, ha7⟩ := own_form o7
                      obtain ⟨g7, rfl⟩ := ha7 (by omega)
                      have e0 := ints_at o7 (distL_len D t) HST.out
                      rw [HA.out] at e0
                      have X7 := Lib.hid (X6.out.bl b7)
                      have e1 := ints_at (by have := X7.out.rs; rw [HNS.out] at this; exact this) HNS.out HLT2.out
                      rw [HT.out] at e1
                      clear o7 b7 ha7 c0
                      by_cases hdl : l = d
                      · have HF := Lib.hid (HFOUND.out (HCF.out.trans (decide_eq_true hdl.symm)))
                        subst hdl
                        go_wp2_with fail
                        go_roundw
                        case rel => exact ⟨i + 1, by go_num, by rw [HF.out], by have := HLT.out; omega, X7.out.drop⟩
                        case measure => have := HLT.out; simp [intOf]; omega
                      · have HF := Lib.hid (HNEXT.out (HCF.out.trans (decide_eq_false (fun e => hdl e.symm))))
                        have hdb : ((d : Int) == (l : Int)) = false := by simp; omega
                        go_wp2_with fail
                        go_roundw
                        case rel => exact ⟨k + 1, by go_num, rfl, by have := HLT2.out; omega, HF.out, X7.out⟩
                        case measure => have := HLT2.out; simp [intOf]; omega
                · obtain rfl : k = nS := by omega
                  have HE := Lib.hid (HMISS.out (fun j hj => HN.out j (by have := HNS.out; omega)))
                  have X7 := Lib.hid X6.out.drop
                  go_wp2_with fail
                  go_roundw
                  case rel => exact ⟨i + 1, by go_num, by rw [HE.out], by have := HLT.out; omega, X7.out⟩
                  case measure => have := HLT.out; simp [intOf]; omega
            · obtain rfl : i = b := by omega
              go_wp2_with fail
              go_ret
              exact ⟨_, rfl, by rw [HCY.out]; exact X3.out.ro, X3.out.lb⟩
end Go.Proofs.YtidilfakganooaaGreatDoor
end

section
namespace Go.Proofs.YtidilfakganooaaGreatDoor
open Go.ChangeShapes Go.WideShapes Go.ChangeAt Go.RowKit
set_option linter.unusedVariables false
set_option maxRecDepth 20000

set_option maxHeartbeats 1600000 in
theorem specCheck (W H : Int) (A A2 : Option Addr) (n cap n2 c2 : Nat) (L P : List Int) (w : World) (h : IntAt w w.heap.size A n L) (h2 : IntAt w w.heap.size A2 n2 P) (hn : n ≤ 1000000000) (hn2 : n2 ≤ 1000000000) :
    Calls Tryz.prog 15 #[.agg #[.int .i64 W, .int .i64 H, .slice A n cap], .agg #[.slice A2 n2 c2]] w (NewV (verdG W H L P) w) := by
  have HI := Lib.hid h
  have HP := Lib.hid h2
  have X0 := Lib.hid (vdAt_start (W := W) (H := H) (A := A) (A2 := A2) (n := n) (cap := cap) (n2 := n2) (c2 := c2) #[.int .i64 0, .slice none 0 0, .slice none 0 0] w)
  have HT := Lib.hid ((h.none (Nat.le_refl _) X0.out.g).more X0.out.g.size)
  have HT2 := Lib.hid ((h2.none (Nat.le_refl _) X0.out.g).more X0.out.g.size)
  clear h h2
  cases ht : tableG W H L P with
  | false =>
    have HS := Lib.hid (fun w h h2 => specTableOkV W H A A2 n cap n2 c2 L P false ht w h h2 hn hn2)
    have HF := Lib.hid (verd_bad ht)
    clear ht
    go_enter Tryz.func15, Tryz.ntmps15
    go_wp2_with fail
    refine (HS.out _ HT.out HT2.out).mono ?_
    rintro e w1 ⟨rfl, hg⟩
    have X1 := Lib.hid (X0.out.gb hg)
    have e0 : w1.cell? ⟨w.heap.size + 2, 0, none⟩ = some (.int .i64 0) := X1.out.v.cell 0
    have e1 : w1.cell? ⟨w.heap.size + 2, 1, none⟩ = some (.slice none 0 0) := X1.out.v.cell 1
    have e2 : w1.cell? ⟨w.heap.size + 2, 2, none⟩ = some (.slice none 0 0) := X1.out.v.cell 2
    have f0 := X1.out.v.frozen 0
    have f1 := X1.out.v.frozen 1
    have f2 := X1.out.v.frozen 2
    clear hg
    go_wp2_with fail
    have hb := vd_cells (c := 0) (vr := .slice none 0 0) (vc := .slice none 0 0) X1.out
    have r0 := hb.cell 0
    have r1 := hb.cell 1
    have r2 := hb.cell 2
    refine bodyPost_ret (v := .agg #[.int .i64 0, .slice none 0 0, .slice none 0 0]) (by simp [results, Tryz.results15, go_sem, r0, r1, r2]) rfl ⟨_, _, by rw [HF.out], ⟨?_, ?_, none_apart _⟩, vd_put X1.out⟩
    · rw [HF.out]; exact World.ownsRow_nil _ _ _ _
    · rw [HF.out]; exact World.ownsRow_nil _ _ _ _
  | true =>
    have HS := Lib.hid (fun w h h2 => specTableOkV W H A A2 n cap n2 c2 L P true ht w h h2 hn hn2)
    have HDP := Lib.hid (fun w h h2 => specDependsOf W H A A2 n cap n2 c2 L P w h h2 hn hn2)
    have HDL := Lib.hid (depG_len (W := W) (H := H) (L := L) (P := P))
    have HV1 := Lib.hid (fun k => verd_safe (W := W) (H := H) (L := L) (P := P) ht k)
    have HV2 := Lib.hid (fun k => verd_cyc (W := W) (H := H) (L := L) (P := P) ht k)
    obtain ⟨D, hD⟩ : ∃ D, depG W H L P = D := ⟨_, rfl⟩
    rw [hD] at HDP HDL HV1 HV2
    have HOR := Lib.hid (fun A n cap w h hn => specOrderOf A n cap D w h hn)
    have HSC := Lib.hid (fun A n cap w h hn => specShortest A n cap D w h hn)
    obtain ⟨vg, hvg⟩ : ∃ vg, verdG W H L P = vg := ⟨_, rfl⟩
    rw [hvg] at HV1 HV2 ⊢
    clear ht hD hvg
    go_enter Tryz.func15, Tryz.ntmps15
    go_wp2_with fail
    refine (HS.out _ HT.out HT2.out).mono ?_
    rintro e w1 ⟨rfl, hg⟩
    have X1 := Lib.hid (X0.out.gb hg)
    have m0 : w1.cell? ⟨w.heap.size, 0, none⟩ = some (.int .i64 W) := X1.out.m.cell 0
    have m1 : w1.cell? ⟨w.heap.size, 1, none⟩ = some (.int .i64 H) := X1.out.m.cell 1
    have m2 : w1.cell? ⟨w.heap.size, 2, none⟩ = some (.slice A n cap) := X1.out.m.cell 2
    have m3 : w1.cell? ⟨w.heap.size + 1, 0, none⟩ = some (.slice A2 n2 c2) := X1.out.t.cell 0
    clear hg
    go_wp2_with fail
    refine (HDP.out _ ((HI.out.none (Nat.le_refl _) X1.out.g).more X1.out.g.size) ((HP.out.none (Nat.le_refl _) X1.out.g).more X1.out.g.size)).mono ?_
    rintro e w2 ⟨vd, rfl, od, bd⟩
    have X2 := Lib.hid (X1.out.gb (gb_of_below bd none))
    obtain ⟨Ad, cd, rfl, _⟩ := own_form od
    obtain ⟨nd, hnd⟩ : ∃ nd, D.length = nd := ⟨_, rfl⟩
    rw [hnd] at od HDL
    have HDA := Lib.hid (depAt_own (B := w2.heap.size) od (Nat.le_refl _))
    rw [hnd]
    clear od bd hnd m0 m1 m2 m3
    go_wp2_with fail
    refine (HOR.out Ad nd cd _ HDA.out (by have := HDL.out; omega)).mono ?_
    rintro e w3 ⟨vr, rfl, orr, br⟩
    obtain ⟨Ar, cr, rfl, _⟩ := own_form orr
    obtain ⟨nr, hnr⟩ : ∃ nr, (ranksO D).length = nr := ⟨_, rfl⟩
    have HNR := Lib.hid hnr
    rw [hnr] at orr ⊢
    clear hnr
    have X3 := Lib.hid (X2.out.gb (gb_of_below br none))
    have HDA3 := Lib.hid ((HDA.out.below br).more br.size)
    have OR := Lib.hid (own_less orr (show w.heap.size ≤ w2.heap.size by have := X2.out.g.size; omega))
    have e0 : w3.cell? ⟨w.heap.size + 2, 0, none⟩ = some (.int .i64 0) := X3.out.v.cell 0
    have e1 : w3.cell? ⟨w.heap.size + 2, 1, none⟩ = some (.slice none 0 0) := X3.out.v.cell 1
    have e2 : w3.cell? ⟨w.heap.size + 2, 2, none⟩ = some (.slice none 0 0) := X3.out.v.cell 2
    have f0 := X3.out.v.frozen 0
    have f1 := X3.out.v.frozen 1
    have f2 := X3.out.v.frozen 2
    clear orr br
    cases hk : canO D with
    | true =>
      have HF := Lib.hid (HV1.out hk)
      clear hk
      go_wp2_with fail
      have hb := vd_cells (c := 1) (vr := .slice Ar nr cr) (vc := .slice none 0 0) X3.out
      have r0 := hb.cell 0
      have r1 := hb.cell 1
      have r2 := hb.cell 2
      refine bodyPost_ret (v := .agg #[.int .i64 1, .slice Ar nr cr, .slice none 0 0]) (by simp [results, Tryz.results15, go_sem, r0, r1, r2]) rfl ⟨_, _, by rw [HF.out], ⟨?_, ?_, apart_none _⟩, vd_put X3.out⟩
      · rw [HF.out]; simp only [HNR.out]; exact vd_row X3.out OR.out
      · rw [HF.out]; exact World.ownsRow_nil _ _ _ _
    | false =>
      have HF := Lib.hid (HV2.out hk)
      clear hk e0 e1 e2 f0 f1 f2
      go_wp2_with fail
      refine (HSC.out Ad nd cd _ HDA3.out (by have := HDL.out; omega)).mono ?_
      rintro e w4 ⟨vc, rfl, oc, bc⟩
      obtain ⟨Ac, cc, rfl, _⟩ := own_form oc
      obtain ⟨nc, hnc⟩ : ∃ nc, (cycG D).length = nc := ⟨_, rfl⟩
      have HNC := Lib.hid hnc
      rw [hnc] at oc ⊢
      clear hnc
      have X4 := Lib.hid (X3.out.gb (gb_of_below bc none))
      have OC := Lib.hid (own_less oc (show w.heap.size ≤ w3.heap.size by have := X3.out.g.size; omega))
      have e0 : w4.cell? ⟨w.heap.size + 2, 0, none⟩ = some (.int .i64 0) := X4.out.v.cell 0
      have e1 : w4.cell? ⟨w.heap.size + 2, 1, none⟩ = some (.slice none 0 0) := X4.out.v.cell 1
      have e2 : w4.cell? ⟨w.heap.size + 2, 2, none⟩ = some (.slice none 0 0) := X4.out.v.cell 2
      have f0 := X4.out.v.frozen 0
      have f1 := X4.out.v.frozen 1
      have f2 := X4.out.v.frozen 2
      clear oc bc
      go_wp2_with fail
      have hb := vd_cells (c := 2) (vr := .slice none 0 0) (vc := .slice Ac nc cc) X4.out
      have r0 := hb.cell 0
      have r1 := hb.cell 1
      have r2 := hb.cell 2
      refine bodyPost_ret (v := .agg #[.int .i64 2, .slice none 0 0, .slice Ac nc cc]) (by simp [results, Tryz.results15, go_sem, r0, r1, r2]) rfl ⟨_, _, by rw [HF.out], ⟨?_, ?_, none_apart _⟩, vd_put X4.out⟩
      · rw [HF.out]; exact World.ownsRow_nil _ _ _ _
      · rw [HF.out]; simp only [HNC.out]; exact vd_row X4.out OC.out
end Go.Proofs.YtidilfakganooaaGreatDoor
end

section
namespace Go.Proofs.YtidilfakganooaaGreatDoor
open Go.ChangeShapes Go.WideShapes Go.ChangeAt Go.RowKit
set_option linter.unusedVariables false

/-- An index, or -1. -/
def Idx (L : List Int) (c : Int) (w : World) (e : Ending) (w' : World) : Prop := ∃ k : Int, e = .returned (.int .i64 k) ∧ decide (0 ≤ k) = inG L c ∧ w = w'
theorem implIndex (A : Option Addr) (n cap B : Nat) (L : List Int) (c : Int) (w : World) (h : IntAt w B A n L) (hn : n ≤ 1000000000) :
    Calls Tryz.prog 92 #[.slice A n cap, .int .i64 c] w (Idx L c w) := by
  have hl := h.1
  have HI := Lib.hid h
  clear h
  go_enter Tryz.func92, Tryz.ntmps92
  go_wp2_with fail
  go_loop [8] (fun i => ∃ k : Nat, i = .int .i64 (k : Int) ∧ k ≤ n ∧ ∀ j, j < k → L.getD j 0 ≠ c) (fun i => n - (intOf i).toNat)
  case atStart => exact ⟨0, rfl, Nat.zero_le _, fun j h => by omega⟩
  case round =>
    obtain ⟨k, rfl, hk, hne⟩ := hrel
    have HNE := Lib.hid hne
    clear hne
    by_cases hlt : k < n
    · obtain ⟨b, off, rfl, hb, hc⟩ := HI.out.at k hlt
      obtain ⟨x, hx⟩ : ∃ x, L.getD k 0 = x := ⟨_, rfl⟩
      rw [hx] at hc
      have HX := Lib.hid hx
      clear hx
      by_cases hxc : x = c
      · subst hxc
        go_wp2_with fail
        go_ret
        exact ⟨_, rfl, by rw [inG_yes (by omega) HX.out]; exact decide_eq_true (by omega), rfl⟩
      · have hxb : (c == x) = false := by simpa using fun e => hxc e.symm
        have HXC := Lib.hid hxc
        clear hxc
        go_wp2_with fail
        go_round
        case rel => exact ⟨k + 1, by go_num, by omega, fun j hj => by
          rcases Nat.lt_succ_iff_lt_or_eq.1 hj with h1 | rfl
          · exact HNE.out j h1
          · rw [HX.out]; exact HXC.out⟩
        case measure => simp [intOf]; omega
    · obtain rfl : k = n := by omega
      go_wp2_with fail
      go_ret
      exact ⟨-1, rfl, by rw [inG_no (fun j hj => HNE.out j (by omega))]; rfl, rfl⟩

theorem implContains (A : Option Addr) (n cap B : Nat) (L : List Int) (c : Int) (b : Bool) (hb : inG L c = b) (w : World) (h : IntAt w B A n L) (hn : n ≤ 1000000000) :
    Calls Tryz.prog 60 #[.slice A n cap, .int .i64 c] w fun e w' => e = .returned (.bool b) ∧ w = w' := by
  have HC := Lib.hid (fun w h => implIndex A n cap B L c w h hn)
  have HI := Lib.hid h
  clear h
  go_enter Tryz.func60, Tryz.ntmps60
  go_wp2_with fail
  refine (HC.out _ HI.out).mono ?_
  rintro e w1 ⟨k, rfl, hk, rfl⟩
  rw [hb] at hk
  have HK := Lib.hid hk
  clear hk hb
  go_wp2_with fail
  go_ret
  exact ⟨ret_bool (by rw [← HK.out]), rfl⟩

end Go.Proofs.YtidilfakganooaaGreatDoor
end

section
namespace Go.Proofs.YtidilfakganooaaGreatDoor
open Go.ChangeShapes Go.WideShapes Go.ChangeAt Go.RowKit
set_option linter.unusedVariables false

theorem implConnects (W H : Int) (A : Option Addr) (n cap : Nat) (L : List Int) (c : Int) (b : Bool) (hcw : (Lit.int .i64 c).wf = true) (hb : hasChG W H L c = b) (w : World) (h : IntAt w w.heap.size A n L) (hn : n ≤ 1000000000) :
    Calls Tryz.prog 100 #[.agg #[.int .i64 W, .int .i64 H, .slice A n cap], .int .i64 c] w (RetB b w) := by
  obtain ⟨r, hr⟩ : ∃ r, endG W H c = r := ⟨_, rfl⟩
  have HE := Lib.hid (fun w => implEnd W H c r hcw hr w)
  have HI := Lib.hid h
  have hld := leads_end W H c
  rw [hr] at hld
  clear h hcw hr
  by_cases h0 : 0 ≤ r
  · obtain ⟨q, hq⟩ : ∃ q, inG L c = q := ⟨_, rfl⟩
    have hv : b = !q := by rw [← hb, hasChG, hld, decide_eq_true h0, hq]; rfl
    have HV := Lib.hid hv
    have hd : decide (r ≥ 0) = true := decide_eq_true h0
    have HF := Lib.hid (fun w h => implContains A n cap (w.heap.size) L c q hq w h hn)
    clear hv hld hb hq
    go_enter Tryz.func100, Tryz.ntmps100
    go_wp2_with fail
    refine (HE.out _).mono ?_
    rintro e w1 ⟨rfl, hg⟩
    have hbk := boxi_blk hg
    have a2 : w1.cell? ⟨w.heap.size, 2, none⟩ = some (.slice A n cap) := hbk.cell 2
    have hi := (HI.out.none (Nat.le_refl _) (boxi_gb hg)).more (B' := w1.heap.size) (boxi_gb hg).size
    have Hg := Lib.hid (boxi_gb hg)
    clear hg hbk
    go_wp2_with fail
    refine (HF.out _ hi).mono ?_
    rintro e w2 ⟨rfl, rfl⟩
    clear hi
    go_wp2_with fail
    go_ret
    exact ⟨ret_bool (by rw [HV.out]), Hg.out⟩
  · have hv : b = false := by rw [← hb, hasChG, hld, decide_eq_false h0]; rfl
    have hd : decide (r ≥ 0) = false := decide_eq_false h0
    have HV := Lib.hid hv
    clear hv hld hb
    go_enter Tryz.func100, Tryz.ntmps100
    go_wp2_with fail
    refine (HE.out _).mono ?_
    rintro e w1 ⟨rfl, hg⟩
    have Hg := Lib.hid (boxi_gb hg)
    clear hg
    go_wp2_with fail
    go_ret
    exact ⟨ret_bool (by rw [HV.out]), Hg.out⟩
end Go.Proofs.YtidilfakganooaaGreatDoor
end

section
namespace Go.Proofs.YtidilfakganooaaGreatDoor
open Go.ChangeShapes Go.WideShapes Go.ChangeAt Go.RowKit
set_option linter.unusedVariables false
set_option maxRecDepth 20000

theorem end_step {W H p : Int} {x : Nat} (h0 : 0 ≤ p) (h3 : p ≤ 3) : endG W H (4 * (x : Int) + p) = nextG W H x p := by
  unfold endG
  rw [Int.tdiv_eq_ediv_of_nonneg (by omega), Int.tmod_eq_emod_of_nonneg (by omega)]
  rw [show (4 * (x : Int) + p) / 4 = x by omega, show (4 * (x : Int) + p) % 4 = p by omega]

theorem ret_two {v : Value} {a b : Bool} (h : a = b) : Ending.returned (.tuple #[v, .bool a]) = Ending.returned (.tuple #[v, .bool b]) := by rw [h]
/-- A new list of numbers, and whether there is one. -/
def NewW (L : List Int) (b : Bool) (w : World) (e : Ending) (w' : World) : Prop :=
  ∃ v, e = .returned (.tuple #[v, .bool b]) ∧ w'.ownsRow w.heap.size 3 1 v L.length (intsV L) ∧ Below w.heap.size w w'
def lenW : Value → Nat | .slice _ n _ => n | _ => 0
/-- The walk has come to x. -/
def WalkTo (W H : Int) (A : Option Addr) (n cap : Nat) (L P : List Int) (z : Nat) (res : List Int) (rb : Bool) (w : World) (acc : List Int) (x : Nat) (v : Value) (wr : World) : Prop :=
  (x : Int) < countG W H ∧ acc.length ≤ cntN W H ∧ res = restG W H L P z acc (cntN W H + 1 - acc.length) x ∧ rb = restE W H L P z (cntN W H + 1 - acc.length) x ∧
  wr.ownsRow (w.heap.size + 1) 3 1 v acc.length (intsV acc) ∧ Below (w.heap.size + 1) (w.alloc (.cells (meshC W H A n cap) 28)) wr

theorem app_to {W H : Int} {A : Option Addr} {n cap : Nat} {w w4 w5 : World} {acc : List Int} {c : Int} {v v' : Value} {o : Obj} (hb : Below (w.heap.size + 1) (w.alloc (.cells (meshC W H A n cap) 28)) w4) (ho : w4.ownsRow (w.heap.size + 1) 3 1 v acc.length (intsV acc))
    (hown5 : w5.ownsRow (w.heap.size + 1) 3 1 v' (acc.length + 1) (intsV acc ++ [.int .i64 c])) (hg : (w4.alloc o).grownBy w5 v.ownBlock) :
    w5.ownsRow (w.heap.size + 1) 3 1 v' (acc ++ [c]).length (intsV (acc ++ [c])) ∧ Below (w.heap.size + 1) (w.alloc (.cells (meshC W H A n cap) 28)) w5 ∧ lenW v' = acc.length + 1 ∧
    w5.cell? ⟨w.heap.size, 0, none⟩ = some (.int .i64 W) ∧ w5.cell? ⟨w.heap.size, 1, none⟩ = some (.int .i64 H) := by
  have hsz : w.heap.size + 1 ≤ w4.heap.size := by have h1 := hb.size; simp at h1; exact h1
  have h1 : w5.ownsRow (w.heap.size + 1) 3 1 v' (acc ++ [c]).length (intsV (acc ++ [c])) := by rw [List.length_append, intsV_append]; exact hown5
  have h2 : Below (w.heap.size + 1) (w.alloc (.cells (meshC W H A n cap) 28)) w5 := (hb.alloc hsz _).grown hg (by simp; omega) (fun j hj => (ho.lt j hj).1)
  have tm := (Blk.new w 28 (meshC W H A n cap)).below h2 (by omega)
  refine ⟨h1, h2, ?_, tm.cell 0, tm.cell 1⟩
  obtain ⟨A', c', rfl, _⟩ := own_form h1
  simp [lenW]

set_option maxHeartbeats 1600000 in
theorem implWalk (W H : Int) (A : Option Addr) (n cap : Nat) (L P X : List Int) (g a z : Nat) (hL : WfL L) (w : World) (h : IntAt w w.heap.size A n L) (hn : n ≤ 1000000000)
    (hX : isPorts W H P X) (hb : Blk w g 105 (cellsX X)) (ha : (a : Int) < countG W H) (hz : (z : Int) < countG W H) :
    Calls Tryz.prog 72 #[.pointer (some ⟨g, 0, none⟩), .agg #[.int .i64 W, .int .i64 H, .slice A n cap], .int .i64 a, .int .i64 z] w (NewW (walkOf W H L P a z) (endsG W H L P a z) w) := by
  obtain ⟨i0, hi, hz0, hz1, hz2⟩ := info_parts info_int
  have HI := Lib.hid h
  have hg := hb.lt
  have HSQ := Lib.hid (fun (wr : World) (h : Below w.heap.size w wr) (x y : Nat) (hx : (x : Int) < countG W H) (hy : (y : Int) < countG W H) => show wr.cell? ⟨g, x * 16 + y, none⟩ = some (.int .i64 (portP (tabG (countG W H) P x y))) by
    have hc := countG_le W H
    rw [Nat.mul_comm x 16]
    exact ((hb.below h hg).cell (16 * x + y)).trans (cellsX_at (by rw [hX.1]; omega) (hX.2 x y hx hy)))
  obtain ⟨res, hres⟩ : ∃ res, walkOf W H L P a z = res := ⟨_, rfl⟩
  obtain ⟨rb, hrb⟩ : ∃ rb, endsG W H L P a z = rb := ⟨_, rfl⟩
  rw [hres, hrb]
  have hsz1 : (w.alloc (.cells (meshC W H A n cap) 28)).heap.size = w.heap.size + 1 := by simp
  have HX := Lib.hid (show WalkTo W H A n cap L P z res rb w [] a (.slice none 0 0) (w.alloc (.cells (meshC W H A n cap) 28)) from
    ⟨ha, Nat.zero_le _, by rw [← hres]; exact (rest_start a z).symm, by rw [← hrb]; rfl, World.ownsRow_nil _ _ _ _, Below.refl _ _⟩)
  have HS1 := Lib.hid hsz1
  have hki := cntN_int W H
  obtain ⟨k, hk⟩ : ∃ k, cntN W H = k := ⟨_, rfl⟩
  have hk1 := cntN_le W H
  rw [hk] at hki hk1
  have HN := Lib.hid (fun w => show Calls Tryz.prog 71 #[.agg #[.int .i64 W, .int .i64 H]] w (RetI (k : Int) none w) from hki ▸ implNodeCount W H w)
  have HKI := Lib.hid hki
  have HKK := Lib.hid hk
  have HZ := Lib.hid hz
  have ha16 : (a : Int) < 16 := by omega
  have hz16 : (z : Int) < 16 := by omega
  have hgne : ¬ g = w.heap.size := by omega
  have c0 := HSQ.out (w.alloc (.cells (meshC W H A n cap) 28)) (((Below.refl _ _)).alloc (Nat.le_refl _) _) a z ha hz
  obtain ⟨q, hq⟩ : ∃ q, portP (tabG (countG W H) P a z) = q := ⟨_, rfl⟩
  rw [hq] at c0
  have HQ := Lib.hid hq
  clear h hX hb hres hrb hsz1 hki hk ha hz hq
  unfold meshC at c0
  go_enter Tryz.func72, Tryz.ntmps72
  go_wp2_with fail
  clear c0
  go_loopw [10, 11, 12] (fun v s11 s12 wr => ∃ (acc : List Int) (x : Nat), s11 = .int .i64 (x : Int) ∧ s12 = .int .i64 (portP (tabG (countG W H) P x z)) ∧ WalkTo W H A n cap L P z res rb w acc x v wr) (fun v _ _ _ => 17 - lenW v)
  case atStart => exact ⟨[], a, rfl, by rw [HQ.out], HX.out⟩
  case round =>
    obtain ⟨acc, x, rfl, rfl, hx, hl, hre, hrb, hown, hbel⟩ := hrel
    rw [HKK.out] at hl hre hrb
    obtain ⟨Aq, capq, rfl, hAq⟩ := own_form hown
    have HOwn := Lib.hid hown
    have HBel := Lib.hid hbel
    have HBo := Lib.hid (below_box hbel)
    obtain ⟨f, hf⟩ : ∃ f, k + 1 - acc.length = f + 1 := ⟨k - acc.length, by omega⟩
    rw [hf] at hre hrb
    have HF := Lib.hid hf
    have HRE := Lib.hid hre
    have HRB := Lib.hid hrb
    have HXC := Lib.hid hx
    have hx16 : (x : Int) < 16 := by have := HKI.out; omega
    obtain ⟨t, ht⟩ : ∃ t, tabG (countG W H) P x z = t := ⟨_, rfl⟩
    rw [ht]
    have HT := Lib.hid ht
    have tm := (Blk.new w 28 (meshC W H A n cap)).below hbel (by omega)
    have a0 : wr.cell? ⟨w.heap.size, 0, none⟩ = some (.int .i64 W) := tm.cell 0
    have a1 : wr.cell? ⟨w.heap.size, 1, none⟩ = some (.int .i64 H) := tm.cell 1
    have a2 : wr.cell? ⟨w.heap.size, 2, none⟩ = some (.slice A n cap) := tm.cell 2
    have hsw : w.heap.size + 1 ≤ wr.heap.size := by have h1 := hbel.size; rw [HS1.out] at h1; exact h1
    clear hown hbel hre hrb hx hf ht tm hAq
    by_cases h4 : t = 4
    · subst h4
      have hp4 : portP 4 = 4 := rfl
      rw [hp4]
      clear a0 a1 a2
      by_cases hxz : x = z
      · subst hxz
        have hxb : ((x : Int) != (x : Int)) = false := by simp
        have HF2 := Lib.hid (HRE.out.trans (rest_end HT.out rfl))
        have HF3 := Lib.hid (HRB.out.trans (restE_end HT.out rfl))
        go_wp2_with fail
        go_ret2
        refine ⟨_, ret_two HF3.out.symm, ?_, HBo.out⟩
        rw [HF2.out]
        exact own_less HOwn.out (by omega)
      · have hne : (x : Int) ≠ (z : Int) := fun e => hxz (by exact_mod_cast e)
        have hxb : ((x : Int) != (z : Int)) = true := bne_iff_ne.2 hne
        have HF2 := Lib.hid (HRE.out.trans (rest_lost HT.out hne))
        have HF3 := Lib.hid (HRB.out.trans (restE_lost HT.out hne))
        clear hxz hne
        go_wp2_with fail
        go_ret2
        refine ⟨_, ret_two HF3.out.symm, ?_, HBo.out⟩
        rw [HF2.out]
        exact World.ownsRow_nil _ _ _ _
    · have H4 := Lib.hid h4
      have h4b : (portP t != 4) = true := bne_iff_ne.2 fun e => h4 (portP_four.1 e)
      obtain ⟨q, hq⟩ : ∃ q, portP t = q := ⟨_, rfl⟩
      have hqb := portP_bounds t
      rw [hq] at h4b hqb ⊢
      by_cases h0 : q < 0
      · have hst : stepsG W H L x t = false := by
          have hs : ¬ (0 ≤ t ∧ t ≤ 3) := fun e => by rw [portP_in e.1 (by omega)] at hq; omega
          simp only [stepsG, Bool.and_eq_false_iff, decide_eq_false_iff_not]; exact .inl hs
        have HF2 := Lib.hid (HRE.out.trans (rest_bad HT.out H4.out hst))
        have HF3 := Lib.hid (HRB.out.trans (restE_bad HT.out H4.out hst))
        have e1 : wrap64 (4 * (x : Int)) = 4 * (x : Int) := IntWalk.wrap64_in _ (by omega)
        have e2 : wrap64 (4 * (x : Int) + q) = 4 * (x : Int) + q := IntWalk.wrap64_in _ (by omega)
        clear hst hq h4 a0 a1 a2
        go_wp2_with fail
        go_ret2
        refine ⟨_, ret_two HF3.out.symm, ?_, HBo.out⟩
        rw [HF2.out]
        exact World.ownsRow_nil _ _ _ _
      · have hqt : t = q := portP_in_of hq (by omega)
        subst hqt
        have ht3 : t ≤ 3 := by omega
        have e1 : wrap64 (4 * (x : Int)) = 4 * (x : Int) := IntWalk.wrap64_in _ (by omega)
        have e2 : wrap64 (4 * (x : Int) + t) = 4 * (x : Int) + t := IntWalk.wrap64_in _ (by omega)
        have hcw : (Lit.int .i64 (4 * (x : Int) + t)).wf = true := WalkArith.wf_i64 (by omega)
        have hi2 := (HI.out.below HBo.out).more (B' := wr.heap.size) (by omega)
        have TM := Lib.hid ((Blk.new w 28 (meshC W H A n cap)).below HBel.out (by omega))
        cases hc : hasChG W H L (4 * (x : Int) + t) with
        | false =>
          have hst : stepsG W H L x t = false := by simp [stepsG, hc]
          have HF2 := Lib.hid (HRE.out.trans (rest_bad HT.out H4.out hst))
          have HF3 := Lib.hid (HRB.out.trans (restE_bad HT.out H4.out hst))
          have HC := Lib.hid (fun w h => implConnects W H A n cap L (4 * (x : Int) + t) false hcw hc w h hn)
          clear hst hq h4 hc hcw
          go_wp2_with fail
          refine (HC.out _ hi2).mono ?_
          rintro e w3 ⟨rfl, hg3⟩
          have G3 := Lib.hid (below_gb HBo.out (Nat.le_refl _) hg3)
          clear hg3 hi2 a0 a1 a2
          go_wp2_with fail
          go_ret2
          refine ⟨_, ret_two HF3.out.symm, ?_, G3.out⟩
          rw [HF2.out]
          exact World.ownsRow_nil _ _ _ _
        | true =>
          have hst : stepsG W H L x t = true := by simp only [stepsG, hc, Bool.and_true, decide_eq_true_eq]; omega
          have HF2 := Lib.hid (HRE.out.trans (rest_go HT.out H4.out hst))
          have HF3 := Lib.hid (HRB.out.trans (restE_go HT.out H4.out hst))
          have HC := Lib.hid (fun w h => implConnects W H A n cap L (4 * (x : Int) + t) true hcw hc w h hn)
          obtain ⟨y, hy⟩ : ∃ y : Nat, nextG W H x t = (y : Int) := ⟨(nextG W H x t).toNat, (Int.toNat_of_nonneg (hasG_iff.1 (step_has hst)).1).symm⟩
          have hyk := (hasG_iff.1 (step_has hst)).2
          rw [hy] at hyk
          have HE := Lib.hid (fun w => implEnd W H (4 * (x : Int) + t) y hcw (by rw [end_step (by omega) ht3, hy]) w)
          have HY := Lib.hid hy
          have HYK := Lib.hid hyk
          clear hst hq h4 hc hcw hy hyk
          go_wp2_with fail
          refine (HC.out _ hi2).mono ?_
          rintro e w3 ⟨rfl, hg3⟩
          have G3 := Lib.hid hg3
          have tm3 := TM.out.grown hg3 (by simp)
          have d0 : w3.cell? ⟨w.heap.size, 0, none⟩ = some (.int .i64 W) := tm3.cell 0
          have d1 : w3.cell? ⟨w.heap.size, 1, none⟩ = some (.int .i64 H) := tm3.cell 1
          clear hg3 hi2 a0 a1 a2 tm3
          go_wp2_with fail
          refine (HN.out _).mono ?_
          rintro e w4 ⟨rfl, hg4⟩
          have G4 := Lib.hid (gb_trans G3.out hg4)
          have TM4 := Lib.hid (TM.out.grown G4.out (by simp))
          clear hg4 d0 d1
          by_cases hlk : acc.length = k
          · have hf0 : f = 0 := by have := HF.out; omega
            have hlb : ((acc.length : Int) == (k : Int)) = true := beq_iff_eq.2 (by omega)
            have G5 := Lib.hid (below_gb HBo.out (Nat.le_refl _) G4.out)
            have HG2 := Lib.hid (show res = [] by rw [HF2.out, hf0]; rfl)
            have HG3 := Lib.hid (show rb = false by rw [HF3.out, hf0]; rfl)
            clear hlk hf0
            go_wp2_with fail
            go_ret2
            refine ⟨_, ret_two HG3.out.symm, ?_, G5.out⟩
            rw [HG2.out]
            exact World.ownsRow_nil _ _ _ _
          · have hlb : ((acc.length : Int) == (k : Int)) = false := beq_false_of_ne (by omega)
            have hown1 := own_none HOwn.out G4.out
            have hsz4 : w.heap.size + 1 ≤ w4.heap.size := Nat.le_trans hsw G4.out.size
            have b3' := Lib.hid (show ∀ u ∈ [Value.int .i64 (4 * (x : Int) + t)], u.oneCell' = true by simp [Value.oneCell'])
            have b4' := Lib.hid (show acc.length + 1 ≤ maxLen by unfold maxLen; omega)
            have HLK := Lib.hid (show acc.length < k by omega)
            have HB4 := Lib.hid (below_gb HBel.out (by rw [HS1.out]; exact Nat.le_refl _) G4.out)
            clear hlk
            go_wp2_with (at_builtin; refine wpList_append_own _ rfl _ _ 26 rfl (w.heap.size + 1) 3 i0 (.int .i64 0) 1 8 Tryz.underlying26 hi hz0 hz1 hz2 rfl (by decide) _ acc.length _ rfl (hown1.alloc _) ⟨w4.heap.size, 0, none⟩ 1 1 [.int .i64 (4 * (x : Int) + t)] rfl rfl (World.news_of_block (cs := #[.int .i64 (4 * (x : Int) + t)]) (t := 3) (fr := (0, 0)) (heap_alloc_new w4 _)) b3'.out b4'.out (by omega) (by simp; omega) ?_; intro v' w5 hown5 hgrow5 _; obtain ⟨ho5, hb5, hlv, a0, a1⟩ := app_to HB4.out hown1 hown5 hgrow5; have HO5 := Lib.hid ho5; have HB5 := Lib.hid hb5; have HLV := Lib.hid hlv; clear ho5 hb5 hlv hown5 hgrow5 hown1)
            refine (HE.out _).mono ?_
            rintro e w6 ⟨rfl, hg6⟩
            have G6 := Lib.hid hg6
            have HB6 := Lib.hid (below_gb HB5.out (by rw [HS1.out]; exact Nat.le_refl _) hg6)
            have c6 := HSQ.out w6 (below_box HB6.out) y z HYK.out HZ.out
            have y16 : (y : Int) < 16 := by have := HYK.out; have := HKI.out; omega
            obtain ⟨q6, hq6⟩ : ∃ q, portP (tabG (countG W H) P y z) = q := ⟨_, rfl⟩
            rw [hq6] at c6
            have HQ6 := Lib.hid hq6
            clear hg6 a0 a1 hq6
            go_wp2_with fail
            go_roundw
            case rel => exact ⟨acc ++ [4 * (x : Int) + t], y, rfl, by rw [HQ6.out], HYK.out, by rw [HKK.out, List.length_append]; exact HLK.out, by rw [HF2.out, HY.out, HKK.out]; congr 1; have := HF.out; simp; omega, by rw [HF3.out, HY.out, HKK.out]; congr 1; have := HF.out; simp; omega, own_none HO5.out G6.out, HB6.out⟩
            case measure => rw [HLV.out]; simp [lenW]; omega
end Go.Proofs.YtidilfakganooaaGreatDoor
end

section
namespace Go.Proofs.YtidilfakganooaaGreatDoor
open Go.ChangeShapes Go.WideShapes Go.ChangeAt Go.RowKit
set_option linter.unusedVariables false
variable {W H : Int} {L P : List Int}

theorem pairW_at {k x y : Nat} (hk : cntN W H = k) (hy : y < k) : pairW W H L P (x * k + y) = walkOf W H L P x y := by
  have hki := cntN_int W H
  subst hk
  have e1 : ((x * cntN W H + y : Nat) : Int) / countG W H = x := by rw [← hki, ← Int.natCast_ediv, pair_div hy]
  have e2 : ((x * cntN W H + y : Nat) : Int) % countG W H = y := by rw [← hki, ← Int.natCast_emod, pair_mod hy]
  rw [pairW, e1, e2]
theorem walkG_valid {a b : Int} (h : tableG W H L P = true) (ha : hasG W H a = true) (hb : hasG W H b = true) : walkG W H L P a b = walkOf W H L P a b := by
  have hs := tableG_sized h
  unfold walkG
  by_cases e : a = b
  · subst e
    have he := tableG_entry h ha ha
    rw [entry_same, decide_eq_true_eq] at he
    rw [if_neg (by simp), walkOf, walkF_end he rfl]
    rfl
  · rw [if_pos ⟨by simp [askG, hs, ha, hb], e⟩]
theorem sqG_cnt {k : Nat} (hk : cntN W H = k) : sqG W H = k * k := by subst hk; rfl
end Go.Proofs.YtidilfakganooaaGreatDoor
end

section
namespace Go.Proofs.YtidilfakganooaaGreatDoor
open Go.ChangeShapes Go.WideShapes Go.ChangeAt Go.RowKit
set_option linter.unusedVariables false
set_option maxRecDepth 20000

theorem info_lists : (Tryz.prog.info? 26).map (fun i => (i.zero, i.size, i.bytes)) = some (some (.slice none 0 0), 1, 24) := by kernel_rfl
/-- A row of lists: element k is a row of the caller's own that holds the numbers of F k. -/
def ListsAt (w : World) (base : Nat) (v : Value) (N : Nat) (F : Nat → List Int) : Prop :=
  ∃ vs : List Value, w.ownsRow base 26 1 v N vs ∧ ∀ k, k < N → ∃ A c, vs[k]? = some (.slice A (F k).length c) ∧ w.ownsRow base 3 1 (.slice A (F k).length c) (F k).length (intsV (F k))
section
variable {w w' : World} {base : Nat} {v v' : Value} {N : Nat} {F : Nat → List Int}
theorem ListsAt.nil (w : World) (base : Nat) (F : Nat → List Int) : ListsAt w base (.slice none 0 0) 0 F := ⟨[], World.ownsRow_nil _ _ _ _, fun k h => by omega⟩
theorem ListsAt.gb (h : ListsAt w base v N F) (hg : w.grownBy w' none) : ListsAt w' base v N F := by
  obtain ⟨vs, ho, hi⟩ := h
  refine ⟨vs, own_none ho hg, fun k hk => ?_⟩
  obtain ⟨A, c, h1, h2⟩ := hi k hk
  exact ⟨A, c, h1, own_none h2 hg⟩
theorem ListsAt.below (h : ListsAt w base v N F) (hb : Below w.heap.size w w') : ListsAt w' base v N F := h.gb (gb_of_below hb none)
theorem ListsAt.less {b : Nat} (h : ListsAt w base v N F) (hb : b ≤ base) : ListsAt w b v N F := by
  obtain ⟨vs, ho, hi⟩ := h
  refine ⟨vs, own_less ho hb, fun k hk => ?_⟩
  obtain ⟨A, c, h1, h2⟩ := hi k hk
  exact ⟨A, c, h1, own_less h2 hb⟩
theorem ListsAt.form (h : ListsAt w base v N F) : ∃ A c, v = .slice A N c ∧ (0 < N → ∃ g, A = some ⟨g, 0, none⟩) := by obtain ⟨vs, ho, _⟩ := h; exact own_form ho
/-- A row of numbers does not lie where the row of lists lies. -/
theorem own_two {A : Option Addr} {n c k : Nat} {L : List Int} {vs : List Value} (h : w.ownsRow base 26 1 v N vs) (h2 : w.ownsRow base 3 1 (.slice A n c) k (intsV L)) : (Value.slice A n c).ownBlock = none ∨ (Value.slice A n c).ownBlock ≠ v.ownBlock := by
  rcases h2.2 with ⟨h3, _⟩ | ⟨g2, c2, cur2, h3, _, hg2, _⟩
  · rw [h3]; exact .inl rfl
  · right
    rw [h3]
    rcases h.2 with ⟨h4, _⟩ | ⟨g, c4, cur, h4, _, hg, _⟩
    · rw [h4]; intro e; cases e
    · rw [h4]
      intro e
      have e2 : g2 = g := Option.some.inj e
      subst e2
      rw [hg] at hg2
      have e3 := Option.some.inj hg2
      injection e3 with _ e4 _
      exact absurd e4 (by decide)
/-- One list more. -/
theorem ListsAt.app {A : Option Addr} {c : Nat} {o : Obj} {vs : List Value} {w4 : World} (ho : w.ownsRow base 26 1 v N vs) (hi : ∀ k, k < N → ∃ A c, vs[k]? = some (.slice A (F k).length c) ∧ w.ownsRow base 3 1 (.slice A (F k).length c) (F k).length (intsV (F k)))
    (h2 : w.ownsRow base 3 1 (.slice A (F N).length c) (F N).length (intsV (F N))) (ho4 : w4.ownsRow base 26 1 v' (N + 1) (vs ++ [.slice A (F N).length c])) (hg : (w.alloc o).grownBy w4 v.ownBlock) : ListsAt w4 base v' (N + 1) F := by
  have hvs : vs.length = N := by have := ho.1; omega
  have key : ∀ {A : Option Addr} {n c k : Nat} {L : List Int}, w.ownsRow base 3 1 (.slice A n c) k (intsV L) → w4.ownsRow base 3 1 (.slice A n c) k (intsV L) := fun h => (h.alloc o).kept hg (own_two ho h)
  refine ⟨_, ho4, fun k hk => ?_⟩
  rcases Nat.lt_succ_iff_lt_or_eq.1 hk with h | rfl
  · obtain ⟨A, c, h3, h4⟩ := hi k h
    exact ⟨A, c, by rw [List.getElem?_append_left (by omega)]; exact h3, key h4⟩
  · exact ⟨A, c, by rw [List.getElem?_append_right (by omega), hvs, Nat.sub_self]; rfl, key h2⟩
/-- One list of a row. -/
theorem ListsAt.at {A : Option Addr} {n c : Nat} (h : ListsAt w base (.slice A n c) N F) (k : Nat) (hk : k < N) : ∃ g B d, A = some ⟨g, 0, none⟩ ∧ w.cell? ⟨g, k, none⟩ = some (.slice B (F k).length d) ∧ w.ownsRow base 3 1 (.slice B (F k).length d) (F k).length (intsV (F k)) := by
  obtain ⟨vs, ho, hi⟩ := h
  obtain ⟨B, d, h1, h2⟩ := hi k hk
  obtain ⟨A', c', e, hA⟩ := own_form ho
  obtain ⟨g, hg⟩ := hA (by omega)
  simp only [Value.slice.injEq] at e
  obtain ⟨rfl, rfl, rfl⟩ := e
  subst hg
  exact ⟨g, B, d, rfl, by rw [ho.cellAt k (by omega)]; exact h1, h2⟩
theorem one_slice (A : Option Addr) (n c : Nat) : ∀ u ∈ [Value.slice A n c], u.oneCell' = true := by simp [Value.oneCell']
end
/-- A new row of lists. -/
def NewL (N : Nat) (F : Nat → List Int) (w : World) (e : Ending) (w' : World) : Prop :=
  ∃ v, e = .returned v ∧ ListsAt w' w.heap.size v N F ∧ Below w.heap.size w w'
/-- How many walks there are. -/
def wlkN (W H : Int) (L P : List Int) : Nat := if tableG W H L P then sqG W H else 0
theorem wlkN_no {W H : Int} {L P : List Int} (h : tableG W H L P = false) : wlkN W H L P = 0 := if_neg (by simp [h])
theorem wlkN_yes {W H : Int} {L P : List Int} (h : tableG W H L P = true) : wlkN W H L P = sqG W H := if_pos h
/-- The square of ports in its block, and the row of walks so far. -/
def WksAt (W H : Int) (A A2 : Option Addr) (n cap n2 c2 : Nat) (L P : List Int) (w : World) (g1 j : Nat) (v : Value) (wr : World) : Prop :=
  Blk wr g1 105 (cellsX (portsX W H P P.length)) ∧ ListsAt wr (w.heap.size + 2) v j (pairW W H L P) ∧ w.heap.size + 2 ≤ g1 ∧ Below (w.heap.size + 2) (twoI W H A A2 n cap n2 c2 w) wr
section
variable {W H : Int} {A A2 : Option Addr} {n cap n2 c2 : Nat} {L P : List Int} {w wr w' : World} {g1 j : Nat} {v : Value}
theorem WksAt.gb (h : WksAt W H A A2 n cap n2 c2 L P w g1 j v wr) (hg : wr.grownBy w' none) : WksAt W H A A2 n cap n2 c2 L P w g1 j v w' :=
  ⟨h.1.grown hg (by simp), h.2.1.gb hg, h.2.2.1, below_gb h.2.2.2 (by rw [twoI_size]; exact Nat.le_refl _) hg⟩
theorem twoI_bm (h : Below (w.heap.size + 2) (twoI W H A A2 n cap n2 c2 w) wr) : Blk wr w.heap.size 28 (meshC W H A n cap) :=
  ((Blk.new w 28 (meshC W H A n cap)).alloc _).below h (by omega)
theorem twoI_bo (h : Below (w.heap.size + 2) (twoI W H A A2 n cap n2 c2 w) wr) : Below w.heap.size w wr :=
  (gb_below_none twoI_gb (Nat.le_refl _)).trans (h.mono (by omega))
theorem twoI_bs (h : Below (w.heap.size + 2) (twoI W H A A2 n cap n2 c2 w) wr) : w.heap.size + 2 ≤ wr.heap.size := by have := h.size; rw [twoI_size] at this; exact this
theorem WksAt.cells (h : WksAt W H A A2 n cap n2 c2 L P w g1 j v wr) : wr.cell? ⟨w.heap.size, 0, none⟩ = some (.int .i64 W) ∧ wr.cell? ⟨w.heap.size, 1, none⟩ = some (.int .i64 H) ∧ wr.cell? ⟨w.heap.size, 2, none⟩ = some (.slice A n cap) :=
  ⟨(twoI_bm h.2.2.2).cell 0, (twoI_bm h.2.2.2).cell 1, (twoI_bm h.2.2.2).cell 2⟩
end
set_option maxHeartbeats 1600000 in
theorem implWalksOf (W H : Int) (A A2 : Option Addr) (n cap n2 c2 : Nat) (L P : List Int) (hL : WfL L) (w : World) (h : IntAt w w.heap.size A n L) (h2 : IntAt w w.heap.size A2 n2 P) (hn : n ≤ 1000000000) (hn2 : n2 ≤ 1000000000) :
    Calls Tryz.prog 42 #[.agg #[.int .i64 W, .int .i64 H, .slice A n cap], .agg #[.slice A2 n2 c2]] w (NewL (wlkN W H L P) (pairW W H L P) w) := by
  obtain ⟨i0, hi, hz0, hz1, hz2⟩ := info_parts info_lists
  have HI := Lib.hid h
  have HT1 := Lib.hid (h.twoI (W := W) (H := H) (A := A) (A2 := A2) (n := n) (cap := cap) (n2 := n2) (c2 := c2))
  have HT2 := Lib.hid (h2.twoI (W := W) (H := H) (A := A) (A2 := A2) (n := n) (cap := cap) (n2 := n2) (c2 := c2))
  have TZ := Lib.hid (twoI_size (W := W) (H := H) (A := A) (A2 := A2) (n := n) (cap := cap) (n2 := n2) (c2 := c2) (w := w))
  clear h h2
  obtain ⟨N, hN⟩ : ∃ N, wlkN W H L P = N := ⟨_, rfl⟩
  rw [hN]
  have HNN := Lib.hid hN
  clear hN
  cases hs : sizedG W H L P with
  | false =>
    have HPO := Lib.hid (fun w h h2 => implPortsNo W H A A2 n cap n2 c2 L P hL w h h2 hn hn2 hs)
    have HR := Lib.hid (HNN.out.symm.trans (wlkN_no (tableG_unsized hs)))
    clear hs hL
    go_enter Tryz.func42, Tryz.ntmps42
    go_wp2_with fail
    refine (HPO.out _ HT1.out HT2.out).mono ?_
    rintro e w1 ⟨rfl, hg⟩
    have HG1 := Lib.hid (show (twoI W H A A2 n cap n2 c2 w).grownBy w1 none from hg)
    clear hg
    go_wp2_with (refine wpList_storeX rfl (.tmp 5) _ rfl w1.heap.size zerosX zerosX rfl rfl (new_square w1) zerosX_length zerosX_length ?_; intro w2 hb2 hg2; have HG2 := Lib.hid (gb_square HG1.out hg2); clear hb2 hg2)
    go_ret
    exact ⟨_, rfl, by rw [HR.out]; exact ListsAt.nil _ _ _, gb_below_none (twoI_old HG2.out) (Nat.le_refl _)⟩
  | true =>
    have HPO := Lib.hid (fun w h h2 => implPortsYes W H A A2 n cap n2 c2 L P hL w h h2 hn hn2 hs)
    have HPX := Lib.hid (portsX_is hs)
    have hki := cntN_int W H
    obtain ⟨k, hk⟩ : ∃ k, cntN W H = k := ⟨_, rfl⟩
    have hk1 := cntN_le W H
    rw [hk] at hki hk1
    have HN := Lib.hid (fun w => show Calls Tryz.prog 71 #[.agg #[.int .i64 W, .int .i64 H]] w (RetI (k : Int) none w) from hki ▸ implNodeCount W H w)
    have HW := Lib.hid (fun (x y : Nat) (hx : x < k) (hy : y < k) w g h hb => implWalk W H A n cap L P (portsX W H P P.length) g x y hL w h hn HPX.out hb (by omega) (by omega))
    have HAT := Lib.hid (fun (x y : Nat) (hy : y < k) => pairW_at (L := L) (P := P) hk (x := x) hy)
    have HS := Lib.hid hs
    have HKI := Lib.hid hki
    have HKK := Lib.hid hk
    have HSQ := Lib.hid (sqG_cnt hk)
    clear hs hL hki hk
    go_enter Tryz.func42, Tryz.ntmps42
    go_wp2_with fail
    refine (HPO.out _ HT1.out HT2.out).mono ?_
    rintro e w1 ⟨rfl, hg⟩
    have HG1 := Lib.hid (show (twoI W H A A2 n cap n2 c2 w).grownBy w1 none from hg)
    clear hg
    go_wp2_with (refine wpList_storeX rfl (.tmp 5) _ rfl w1.heap.size zerosX (portsX W H P P.length) rfl rfl (new_square w1) zerosX_length (sqTo_length _ _ _) ?_; intro w2 hb2 hg2; have HX2 := Lib.hid (show WksAt W H A A2 n cap n2 c2 L P w w1.heap.size 0 (.slice none 0 0) w2 from ⟨hb2, ListsAt.nil _ _ _, twoI_le HG1.out, gb_below_none (gb_square HG1.out hg2) (by rw [TZ.out]; exact Nat.le_refl _)⟩); obtain ⟨a0, a1, _⟩ := HX2.out.cells; clear hb2 hg2)
    refine (HN.out _).mono ?_
    rintro e w3 ⟨rfl, hg3⟩
    have HX3 := Lib.hid (HX2.out.gb hg3)
    obtain ⟨g1, hg1⟩ : ∃ g, w1.heap.size = g := ⟨_, rfl⟩
    rw [hg1] at HX3
    clear a0 a1 hg3
    go_wp2_with fail
    (try rw [hg1])
    clear hg1
    go_loopw [7, 23] (fun v i wr => ∃ x : Nat, i = .int .i64 (x : Int) ∧ x ≤ k ∧ pairsTo W H L P x 0 ∧ WksAt W H A A2 n cap n2 c2 L P w g1 (x * k) v wr) (fun _ i _ => 17 - (intOf i).toNat)
    case atStart => exact ⟨0, rfl, Nat.zero_le _, pairs_zero, by rw [Nat.zero_mul]; exact HX3.out⟩
    case round =>
      obtain ⟨x, rfl, hxk, hpairs, hx⟩ := hrel
      have HP0 := Lib.hid hpairs
      have HX4 := Lib.hid hx
      obtain ⟨a0, a1, _⟩ := hx.cells
      clear hpairs hx
      by_cases hlt : x < k
      · have HXK := Lib.hid hlt
        have hx16 : (x : Int) < 16 := by omega
        go_wp2_with fail
        refine (HN.out _).mono ?_
        rintro e w4 ⟨rfl, hg4⟩
        have HX5 := Lib.hid (HX4.out.gb hg4)
        clear hg4 a0 a1
        go_wp2_with fail
        go_loopw [7, 29] (fun v i wr => ∃ y : Nat, i = .int .i64 (y : Int) ∧ y ≤ k ∧ pairsTo W H L P x y ∧ WksAt W H A A2 n cap n2 c2 L P w g1 (x * k + y) v wr) (fun _ i _ => 17 - (intOf i).toNat)
        case atStart => exact ⟨0, rfl, Nat.zero_le _, HP0.out, HX5.out⟩
        case round =>
          obtain ⟨y, rfl, hyk, hpairs, hy⟩ := hrel
          have HP1 := Lib.hid hpairs
          have HX6 := Lib.hid hy
          clear hpairs hy
          by_cases hlt2 : y < k
          · have hy16 : (y : Int) < 16 := by omega
            obtain ⟨a0, a1, a2⟩ := HX6.out.cells
            have hi2 := (HI.out.below (twoI_bo HX6.out.2.2.2)).more (B' := wr.heap.size) (twoI_bo HX6.out.2.2.2).size
            have HE := Lib.hid (ends_entry (W := W) (H := H) (L := L) (P := P) x y)
            obtain ⟨j, hj⟩ : ∃ j, x * k + y = j := ⟨_, rfl⟩
            have hj9 : j ≤ 256 := by
              have h1 : x * k ≤ 15 * 16 := Nat.mul_le_mul (by omega) (by omega)
              omega
            obtain ⟨R, hR⟩ : ∃ R, walkOf W H L P x y = R := ⟨_, rfl⟩
            have HF := Lib.hid (show pairW W H L P j = R by rw [← hj, ← hR]; exact HAT.out x y hlt2)
            have HW6 := Lib.hid (HW.out x y HXK.out hlt2 _ _ hi2 HX6.out.1)
            rw [hR] at HW6
            have HJ := Lib.hid hj
            rw [hj] at HX6
            clear hi2 hj hR
            go_wp2_with fail
            refine HW6.out.mono ?_
            rintro e w6 ⟨vq, rfl, ho6, hb6⟩
            have HX7 := Lib.hid (HX6.out.gb (gb_of_below hb6 none))
            obtain ⟨Aq, capq, rfl, _⟩ := own_form ho6
            have HO6 := Lib.hid (own_less ho6 (twoI_bs HX6.out.2.2.2))
            rw [HE.out]
            clear a0 a1 a2 ho6 hb6
            cases he : entryG W H L P x y with
            | false =>
              have hf := tableG_no (W := W) (H := H) (L := L) (P := P) (a := x) (b := y) (by rw [← HKI.out]; omega) (by rw [← HKI.out]; omega) he
              have HR := Lib.hid (HNN.out.symm.trans (wlkN_no hf))
              clear hf he
              go_wp2_with fail
              go_ret
              exact ⟨_, rfl, by rw [HR.out]; exact ListsAt.nil _ _ _, twoI_bo HX7.out.2.2.2⟩
            | true =>
              have HPn := Lib.hid (pairs_next HP1.out he)
              clear he
              obtain ⟨vs, hvo, hvi⟩ := HX7.out.2.1
              obtain ⟨Av, cv, rfl, _⟩ := own_form hvo
              have HVO := Lib.hid hvo
              have HVI := Lib.hid hvi
              have b3 := Lib.hid (one_slice Aq R.length capq)
              have b4 := Lib.hid (show j + 1 ≤ maxLen by unfold maxLen; omega)
              have b5 := Lib.hid (twoI_bs HX7.out.2.2.2)
              clear hvo hvi
              go_wp2_with (at_builtin; refine wpList_append_own _ rfl _ _ 71 rfl (w.heap.size + 2) 26 i0 (.slice none 0 0) 1 24 Tryz.underlying71 hi hz0 hz1 hz2 rfl (by decide) _ j _ rfl (HVO.out.alloc _) ⟨w6.heap.size, 0, none⟩ 1 1 [.slice Aq R.length capq] rfl rfl (World.news_of_block (cs := #[.slice Aq R.length capq]) (t := 26) (fr := (0, 0)) (heap_alloc_new w6 _)) b3.out b4.out (by omega) (by have := b5.out; simp; omega) ?_; intro v' w7 hown7 hgrow7 _)
              have HX8 := Lib.hid (show WksAt W H A A2 n cap n2 c2 L P w g1 (x * k + (y + 1)) v' w7 from by
                have h5 := HX7.out
                rw [← Nat.add_assoc, HJ.out]
                have hF := HF.out
                refine ⟨(h5.1.alloc _).grown hgrow7 (fun e => own_ne HVO.out h5.1 (by decide) e.symm), ?_, h5.2.2.1, (h5.2.2.2.alloc b5.out _).grown hgrow7 (by have := b5.out; simp; omega) (fun q hq => (HVO.out.lt q hq).1)⟩
                exact ListsAt.app (F := pairW W H L P) HVO.out HVI.out (by rw [hF]; exact HO6.out) (by rw [hF]; exact hown7) hgrow7)
              clear hown7 hgrow7
              go_wp2_with fail
              go_roundw
              case rel => exact ⟨y + 1, by go_num, by omega, HPn.out, HX8.out⟩
              case measure => simp [intOf]; omega
          · obtain rfl : y = k := by omega
            have HPr := Lib.hid (pairs_row HP1.out HKI.out)
            go_wp2_with fail
            go_roundw
            case rel => exact ⟨x + 1, by go_num, by omega, HPr.out, by rw [Nat.add_mul, Nat.one_mul]; exact HX6.out⟩
            case measure => simp [intOf]; omega
      · obtain rfl : x = k := by omega
        have hf := tableG_yes HS.out HP0.out HKI.out
        have HR := Lib.hid (show N = x * x by rw [← HNN.out, wlkN_yes hf, HSQ.out])
        clear a0 a1 hf
        go_wp2_with fail
        go_ret
        exact ⟨_, rfl, by rw [HR.out]; exact HX4.out.2.1.less (by omega), twoI_bo HX4.out.2.2.2⟩
end Go.Proofs.YtidilfakganooaaGreatDoor
end

section
namespace Go.Proofs.YtidilfakganooaaGreatDoor
open Go.ChangeShapes Go.WideShapes Go.ChangeAt Go.RowKit
set_option linter.unusedVariables false
set_option maxRecDepth 20000

theorem sqG_pos {W H : Int} {L P : List Int} (h : tableG W H L P = true) : 0 < sqG W H := by
  have hok := (meshG_ok (sizedG_mesh (tableG_sized h)).1).1
  obtain ⟨h1, _, h3, _⟩ := okG_iff.1 hok
  have hc : countG W H = W * H := by simp [countG, hok]
  have hp : 0 < W * H := Int.mul_pos (by omega) (by omega)
  have : 0 < (countG W H).toNat := by rw [hc]; omega
  exact Nat.mul_pos this this
theorem twoI_new {W H : Int} {A A2 : Option Addr} {n cap n2 c2 : Nat} {w w1 : World} (h : Below (twoI W H A A2 n cap n2 c2 w).heap.size (twoI W H A A2 n cap n2 c2 w) w1) : (twoI W H A A2 n cap n2 c2 w).grownBy w1 none := gb_of_below h none
theorem wlkN_small (W H : Int) (L P : List Int) : wlkN W H L P ≤ 256 := by
  unfold wlkN
  split
  · have h := cntN_le W H
    exact Nat.mul_le_mul h h
  · exact Nat.zero_le _

theorem implTableOk (W H : Int) (A A2 : Option Addr) (n cap n2 c2 : Nat) (L P : List Int) (hL : WfL L) (w : World) (h : IntAt w w.heap.size A n L) (h2 : IntAt w w.heap.size A2 n2 P) (hn : n ≤ 1000000000) (hn2 : n2 ≤ 1000000000) :
    Calls Tryz.prog 12 #[.agg #[.int .i64 W, .int .i64 H, .slice A n cap], .agg #[.slice A2 n2 c2]] w (RetB (tableG W H L P) w) := by
  have HT1 := Lib.hid (h.twoI (W := W) (H := H) (A := A) (A2 := A2) (n := n) (cap := cap) (n2 := n2) (c2 := c2))
  have HT2 := Lib.hid (h2.twoI (W := W) (H := H) (A := A) (A2 := A2) (n := n) (cap := cap) (n2 := n2) (c2 := c2))
  have HWK := Lib.hid (fun w h h2 => implWalksOf W H A A2 n cap n2 c2 L P hL w h h2 hn hn2)
  clear h h2 hL
  cases ht : tableG W H L P with
  | false =>
    rw [wlkN_no ht] at HWK
    clear ht
    go_enter Tryz.func12, Tryz.ntmps12
    go_wp2_with fail
    refine (HWK.out _ HT1.out HT2.out).mono ?_
    rintro e w1 ⟨va, rfl, hl1, hb1⟩
    obtain ⟨Aw, cw, rfl, _⟩ := hl1.form
    have G1 := Lib.hid (twoI_old (twoI_new hb1))
    clear hl1 hb1
    go_wp2_with fail
    go_ret
    exact ⟨ret_bool (by simp), G1.out⟩
  | true =>
    rw [wlkN_yes ht] at HWK
    have hp := sqG_pos ht
    obtain ⟨N, hN⟩ : ∃ N, sqG W H = N := ⟨_, rfl⟩
    rw [hN] at HWK hp
    clear ht hN
    go_enter Tryz.func12, Tryz.ntmps12
    go_wp2_with fail
    refine (HWK.out _ HT1.out HT2.out).mono ?_
    rintro e w1 ⟨va, rfl, hl1, hb1⟩
    obtain ⟨Aw, cw, rfl, _⟩ := hl1.form
    have G1 := Lib.hid (twoI_old (twoI_new hb1))
    clear hl1 hb1
    go_wp2_with fail
    go_ret
    exact ⟨ret_bool (by simp <;> omega), G1.out⟩
end Go.Proofs.YtidilfakganooaaGreatDoor
end

section
namespace Go.Proofs.YtidilfakganooaaGreatDoor
open Go.ChangeShapes Go.WideShapes Go.ChangeAt Go.RowKit
set_option linter.unusedVariables false
set_option maxRecDepth 20000

theorem gb_dr {a b : World} {row : Option Nat} (h : a.drew.grownBy b row) : a.grownBy b row := ⟨h.os, h.tape, h.output, h.size, h.block⟩
theorem cell_more {w : World} {p : Addr} {v : Value} (h : w.cell? p = some v) (o : Obj) : (w.alloc o).cell? p = some v := (gb_alloc (gb_refl w none) o).cell h (by simp)
theorem libNaN (x : Int) (w : World) : Calls Tryz.prog 111 #[.int .i64 x] w (RetB false w) := by
  go_enter Tryz.func111, Tryz.ntmps111
  go_wp2_with fail
  go_ret
  exact ⟨by simp, gb_refl _ _⟩
theorem libCompare (x y : Int) (w : World) : Calls Tryz.prog 94 #[.int .i64 x, .int .i64 y] w (RetI (cmpI x y) none w) := by
  have N1 := Lib.hid (fun w => libNaN x w)
  have N2 := Lib.hid (fun w => libNaN y w)
  rcases Int.lt_trichotomy x y with h | h | h
  · have hr : cmpI x y = -1 := if_pos h
    have HR := Lib.hid hr
    clear hr
    go_enter Tryz.func94, Tryz.ntmps94
    go_wp2_with fail
    refine (N1.out _).mono ?_
    rintro e w1 ⟨rfl, hg1⟩
    have G1 := Lib.hid hg1
    clear hg1
    go_wp2_with fail
    refine (N2.out _).mono ?_
    rintro e w2 ⟨rfl, hg2⟩
    have G2 := Lib.hid (gb_trans G1.out hg2)
    clear hg2
    go_wp2_with fail
    go_ret
    exact ⟨by rw [HR.out]; rfl, G2.out⟩
  · have hr : cmpI x y = 0 := cmpI_zero.2 h
    have HR := Lib.hid hr
    subst h
    clear hr
    go_enter Tryz.func94, Tryz.ntmps94
    go_wp2_with fail
    refine (N1.out _).mono ?_
    rintro e w1 ⟨rfl, hg1⟩
    have G1 := Lib.hid hg1
    clear hg1
    go_wp2_with fail
    refine (N2.out _).mono ?_
    rintro e w2 ⟨rfl, hg2⟩
    have G2 := Lib.hid (gb_trans G1.out hg2)
    clear hg2
    go_wp2_with fail
    go_ret
    exact ⟨by rw [HR.out]; rfl, G2.out⟩
  · have hr : cmpI x y = 1 := by unfold cmpI; rw [if_neg (by omega), if_pos h]
    have HR := Lib.hid hr
    have hn : ¬ x < y := by omega
    clear hr
    go_enter Tryz.func94, Tryz.ntmps94
    go_wp2_with fail
    refine (N1.out _).mono ?_
    rintro e w1 ⟨rfl, hg1⟩
    have G1 := Lib.hid hg1
    clear hg1
    go_wp2_with fail
    refine (N2.out _).mono ?_
    rintro e w2 ⟨rfl, hg2⟩
    have G2 := Lib.hid (gb_trans G1.out hg2)
    clear hg2
    go_wp2_with fail
    go_ret
    exact ⟨by rw [HR.out]; rfl, G2.out⟩

/-- cmp.Or of two numbers. -/
theorem libOr (g : Nat) (x y : Int) (w : World) (h0 : w.cell? ⟨g, 0, none⟩ = some (.int .i64 x)) (h1 : w.cell? ⟨g, 1, none⟩ = some (.int .i64 y)) :
    Calls Tryz.prog 93 #[.slice (some ⟨g, 0, none⟩) 2 2] w (RetI (if x ≠ 0 then x else y) none w) := by
  by_cases hx : x = 0
  · subst hx
    by_cases hy : y = 0
    · subst hy
      have H0 := Lib.hid h0
      have H1 := Lib.hid h1
      clear h0 h1
      go_enter Tryz.func93, Tryz.ntmps93
      go_wp2_with fail
      go_loopw [8] (fun i wr => ∃ k m : Nat, i = .int .i64 (k : Int) ∧ k ≤ 2 ∧ wr = w.drewN m) (fun i _ => 2 - (intOf i).toNat)
      case atStart => exact ⟨0, 0, rfl, by omega, rfl⟩
      case round =>
        obtain ⟨k, m, rfl, hk, rfl⟩ := hrel
        have e0 : (w.drewN m).cell? ⟨g, 0, none⟩ = some (.int .i64 0) := H0.out
        have e1 : (w.drewN m).cell? ⟨g, 1, none⟩ = some (.int .i64 0) := H1.out
        rcases (show k = 0 ∨ k = 1 ∨ k = 2 by omega) with rfl | rfl | rfl
        · go_wp2_with fail
          go_roundw
          case rel => exact ⟨1, _, rfl, by omega, rfl⟩
          case measure => simp [intOf]
        · go_wp2_with fail
          go_roundw
          case rel => exact ⟨2, _, rfl, by omega, rfl⟩
          case measure => simp [intOf]
        · go_wp2_with fail
          go_ret
          exact ⟨by simp, gb_drewN (gb_refl _ _) _⟩
    · have H0 := Lib.hid h0
      have H1 := Lib.hid h1
      clear h0 h1
      go_enter Tryz.func93, Tryz.ntmps93
      go_wp2_with fail
      go_loopw [8] (fun i wr => ∃ k m : Nat, i = .int .i64 (k : Int) ∧ k ≤ 1 ∧ wr = w.drewN m) (fun i _ => 2 - (intOf i).toNat)
      case atStart => exact ⟨0, 0, rfl, by omega, rfl⟩
      case round =>
        obtain ⟨k, m, rfl, hk, rfl⟩ := hrel
        have e0 : (w.drewN m).cell? ⟨g, 0, none⟩ = some (.int .i64 0) := H0.out
        have e1 : (w.drewN m).cell? ⟨g, 1, none⟩ = some (.int .i64 y) := H1.out
        rcases (show k = 0 ∨ k = 1 by omega) with rfl | rfl
        · go_wp2_with fail
          go_roundw
          case rel => exact ⟨1, _, rfl, by omega, rfl⟩
          case measure => simp [intOf]
        · go_wp2_with fail
          go_ret
          exact ⟨by simp, gb_drewN (gb_refl _ _) _⟩
  · have H0 := Lib.hid h0
    have H1 := Lib.hid h1
    clear h0 h1
    go_enter Tryz.func93, Tryz.ntmps93
    go_wp2_with fail
    go_loopw [8] (fun i wr => ∃ m : Nat, i = .int .i64 0 ∧ wr = w.drewN m) (fun i _ => 2 - (intOf i).toNat)
    case atStart => exact ⟨0, rfl, rfl⟩
    case round =>
      obtain ⟨m, rfl, rfl⟩ := hrel
      have e0 : (w.drewN m).cell? ⟨g, 0, none⟩ = some (.int .i64 x) := H0.out
      go_wp2_with fail
      go_ret
      exact ⟨by simp, gb_drewN (gb_refl _ _) _⟩

abbrev twoD (a b : Dep) (w : World) : World := (w.alloc (.cells #[.int .i64 a.1, .int .i64 a.2] 94)).alloc (.cells #[.int .i64 b.1, .int .i64 b.2] 94)
theorem twoD_a (a b : Dep) (w : World) : Blk (twoD a b w) w.heap.size 94 #[.int .i64 a.1, .int .i64 a.2] := (Blk.new w 94 #[.int .i64 a.1, .int .i64 a.2]).alloc _
theorem twoD_b (a b : Dep) (w : World) : Blk (twoD a b w) (w.heap.size + 1) 94 #[.int .i64 b.1, .int .i64 b.2] := by
  have h := Blk.new (w.alloc (.cells #[.int .i64 a.1, .int .i64 a.2] 94)) 94 #[.int .i64 b.1, .int .i64 b.2]
  rw [alloc_size] at h
  exact h
theorem twoD_gb (a b : Dep) (w : World) : w.grownBy (twoD a b w) none := gb_alloc (gb_alloc (gb_refl _ _) _) _

theorem or_c0 (w : World) (x y : Value) (t : TypeId) : (w.alloc (.cells #[x, y] t)).cell? ⟨w.heap.size, 0, none⟩ = some x := by rw [World.cell?_alloc_at (w := w) #[x, y] t w.heap.size 0 rfl]; rfl
theorem or_c1 (w : World) (x y : Value) (t : TypeId) : (w.alloc (.cells #[x, y] t)).cell? ⟨w.heap.size, 1, none⟩ = some y := by rw [World.cell?_alloc_at (w := w) #[x, y] t w.heap.size 1 rfl]; rfl
theorem libOrD (a b : Dep) (r : Int) (hr : cmpD a b = r) (w : World) :
    Calls Tryz.prog 93 #[.slice (some ⟨w.heap.size, 0, none⟩) 2 2] (w.alloc (.cells #[.int .i64 (cmpI a.1 b.1), .int .i64 (cmpI a.2 b.2)] 3)) (RetI r none (w.alloc (.cells #[.int .i64 (cmpI a.1 b.1), .int .i64 (cmpI a.2 b.2)] 3))) := by
  subst hr
  exact libOr w.heap.size (cmpI a.1 b.1) (cmpI a.2 b.2) _ (or_c0 w _ _ _) (or_c1 w _ _ _)
theorem implCompare (a b : Dep) (w : World) : Calls Tryz.prog 62 #[.agg #[.int .i64 a.1, .int .i64 a.2], .agg #[.int .i64 b.1, .int .i64 b.2]] w (RetI (cmpD a b) none w) := by
  have C1 := Lib.hid (fun w => libCompare a.1 b.1 w)
  have C2 := Lib.hid (fun w => libCompare a.2 b.2 w)
  obtain ⟨r, hr⟩ : ∃ r, cmpD a b = r := ⟨_, rfl⟩
  have CO := Lib.hid (fun (w : World) => libOrD a b r hr w)
  rw [hr]
  clear hr
  have TA := Lib.hid (twoD_a a b w)
  have TB := Lib.hid (twoD_b a b w)
  have TG := Lib.hid (twoD_gb a b w)
  obtain ⟨a1, a2⟩ := a
  obtain ⟨b1, b2⟩ := b
  have a0 : (twoD (a1, a2) (b1, b2) w).cell? ⟨w.heap.size, 0, none⟩ = some (.int .i64 a1) := TA.out.cell 0
  have a3 : (twoD (a1, a2) (b1, b2) w).cell? ⟨w.heap.size, 1, none⟩ = some (.int .i64 a2) := TA.out.cell 1
  have b0 : (twoD (a1, a2) (b1, b2) w).cell? ⟨w.heap.size + 1, 0, none⟩ = some (.int .i64 b1) := TB.out.cell 0
  have b3 : (twoD (a1, a2) (b1, b2) w).cell? ⟨w.heap.size + 1, 1, none⟩ = some (.int .i64 b2) := TB.out.cell 1
  have G0 := Lib.hid (gb_refl (twoD (a1, a2) (b1, b2) w) none)
  obtain ⟨B, hB⟩ : ∃ B, w.heap.size = B := ⟨_, rfl⟩
  rw [hB] at a0 a3 b0 b3
  go_enter Tryz.func62, Tryz.ntmps62
  go_wp2_with fail
  go_region_held3 (fun w' => w'.cell? ⟨B, 0, none⟩ = some (.int .i64 a1) ∧ w'.cell? ⟨B, 1, none⟩ = some (.int .i64 a2) ∧ w'.cell? ⟨B + 1, 0, none⟩ = some (.int .i64 b1) ∧ w'.cell? ⟨B + 1, 1, none⟩ = some (.int .i64 b2))
    (first | exact ⟨a0, a3, b0, b3⟩ | exact ⟨d0, d1, d2, d3⟩ | exact ⟨k0, k1, k2, k3⟩ | exact ⟨f0, f1, f2, f3⟩ | exact ⟨cell_more f0 _, cell_more f1 _, cell_more f2 _, cell_more f3 _⟩ | fail)
    (first
      | (go_at_call 94; (with_reducible refine (C1.out _).mono ?_); rintro e w4 ⟨rfl, hg4⟩; have h4 := gb_dr hg4; have d0 := h4.cell a0 (by simp); have d1 := h4.cell a3 (by simp); have d2 := h4.cell b0 (by simp); have d3 := h4.cell b3 (by simp); have G4 := Lib.hid h4; clear h4 hg4)
      | (go_at_call 94; (with_reducible refine (C2.out _).mono ?_); rintro e w5 ⟨rfl, hg5⟩; have h5 := hg5; have f0 := h5.cell d0 (by simp); have f1 := h5.cell d1 (by simp); have f2 := h5.cell d2 (by simp); have f3 := h5.cell d3 (by simp); have G5 := Lib.hid h5; clear h5 hg5)
      | (go_at_call 93; (with_reducible refine (CO.out _).mono ?_); rintro e w6 ⟨rfl, hg6⟩; have k0 := hg6.cell (cell_more f0 _) (by simp); have k1 := hg6.cell (cell_more f1 _) (by simp); have k2 := hg6.cell (cell_more f2 _) (by simp); have k3 := hg6.cell (cell_more f3 _) (by simp); have G6 := Lib.hid hg6; clear hg6)
      | fail)
  all_goals
    have G7 := Lib.hid (gb_trans TG.out (gb_trans G4.out (gb_trans G5.out (gb_trans (gb_alloc (gb_refl _ _) _) G6.out))))
    clear k0 k1 k2 k3 f0 f1 f2 f3 d0 d1 d2 d3 a0 a3 b0 b3 G4 G5 G6
    go_wp2_with fail
    go_ret
    exact ⟨rfl, G7.out⟩
end Go.Proofs.YtidilfakganooaaGreatDoor
end

section
namespace Go.Proofs.YtidilfakganooaaGreatDoor
open Go.ChangeShapes Go.WideShapes Go.ChangeAt Go.RowKit
set_option linter.unusedVariables false
set_option maxRecDepth 20000

/-- Where d belongs, and whether it is there. -/
def RetBs (D : List Dep) (d : Dep) (w : World) (e : Ending) (w' : World) : Prop :=
  e = .returned (.tuple #[.int .i64 (lowN D d : Nat), .bool (decide (d ∈ D))]) ∧ w.grownBy w' none
/-- The search has come to lo and hi. -/
def srchD (D : List Dep) (d : Dep) (lo hi : Nat) : Prop := lo ≤ hi ∧ hi ≤ D.length ∧ (∀ t, t < lo → ltD (atD D t) d = true) ∧ (∀ t, hi ≤ t → t < D.length → ltD (atD D t) d = false)
theorem srch_up {D : List Dep} (hD : ascD D) {d : Dep} {lo hi i : Nat} (h : srchD D d lo hi) (hi1 : i < hi) (hlt : ltD (atD D i) d = true) : srchD D d (i + 1) hi :=
  ⟨hi1, h.2.1, fun t ht => by
    rcases Nat.lt_or_eq_of_le (Nat.le_of_lt_succ ht) with h1 | h1
    · exact ltD_trans (asc_at hD h1 (by have := h.2.1; omega)) hlt
    · rw [h1]; exact hlt, h.2.2.2⟩
theorem srch_down {D : List Dep} (hD : ascD D) {d : Dep} {lo hi i : Nat} (h : srchD D d lo hi) (h1 : lo ≤ i) (h2 : i < hi) (hlt : ltD (atD D i) d = false) : srchD D d lo i :=
  ⟨h1, by have := h.2.1; omega, h.2.2.1, fun t ht htn => by
    rcases Nat.lt_or_eq_of_le ht with h3 | h3
    · cases h4 : ltD (atD D t) d with
      | false => rfl
      | true => rw [ltD_trans (asc_at hD h3 htn) h4] at hlt; cases hlt
    · rw [← h3]; exact hlt⟩
theorem srch_end {D : List Dep} {d : Dep} {lo : Nat} (h : srchD D d lo lo) : lowN D d = lo := lowN_of h.2.1 h.2.2.1 (fun hlt => h.2.2.2 lo (Nat.le_refl _) hlt)

theorem ret_bs {D : List Dep} {d : Dep} {k : Nat} {b : Bool} (h : lowN D d = k) (hb : b = decide (d ∈ D)) : Ending.returned (.tuple #[.int .i64 (k : Int), .bool b]) = .returned (.tuple #[.int .i64 (lowN D d : Nat), .bool (decide (d ∈ D))]) := by rw [h, hb]
theorem libSearch (A : Option Addr) (n cap : Nat) (D : List Dep) (d : Dep) (hD : ascD D) (w : World) (h : DepAt w w.heap.size A n D) (hn : n ≤ 4000000000) :
    Calls Tryz.prog 61 #[.slice A n cap, .agg #[.int .i64 d.1, .int .i64 d.2], .func (.func 62) #[] #[]] w (RetBs D d w) := by
  have HI := Lib.hid h
  have hl := h.1
  have HC := Lib.hid (fun (a : Dep) w => implCompare a d w)
  have BG := Lib.hid (boxD_gb d w)
  have BB := Lib.hid (boxD_blk d w)
  have HASC := Lib.hid hD
  have HTI := Lib.hid (there_iff hD (d := d))
  have eg : ∀ args w, (callFunc 62 args).run Tryz.prog w = .ok (.enter 62 args) w := fun args w => Tryz.call62 args w
  clear h hD
  go_enter Tryz.func61, Tryz.ntmps61
  go_wp2_with fail
  go_loopw [9, 10] (fun i j wr => ∃ lo hi : Nat, i = .int .i64 (lo : Int) ∧ j = .int .i64 (hi : Int) ∧ srchD D d lo hi ∧ (boxD d w).grownBy wr none) (fun i j _ => (intOf j).toNat - (intOf i).toNat)
  case atStart => exact ⟨0, n, rfl, rfl, ⟨Nat.zero_le _, by omega, fun t ht => by omega, fun t h1 h2 => by omega⟩, gb_refl _ _⟩
  case round =>
    obtain ⟨lo, hi, rfl, rfl, hs, hg⟩ := hrel
    have HS := Lib.hid hs
    have HG := Lib.hid hg
    have bb := BB.out.grown hg (by simp)
    have t0 : wr.cell? ⟨w.heap.size, 0, none⟩ = some (.int .i64 d.1) := bb.cell 0
    have t1 : wr.cell? ⟨w.heap.size, 1, none⟩ = some (.int .i64 d.2) := bb.cell 1
    have hlh := hs.1
    have hhn := hs.2.1
    have hai := HI.out.none (Nat.le_refl _) (gb_trans BG.out hg)
    clear bb hs hg
    by_cases hlt : lo < hi
    · obtain ⟨m, hm⟩ : ∃ m, (lo + hi) / 2 = m := ⟨_, rfl⟩
      have hmi : ((lo : Int) + (hi : Int)) / 2 = (m : Int) := by omega
      obtain ⟨b, off, rfl, hb, c0, c1⟩ := hai.at m (by omega)
      obtain ⟨x, hx⟩ : ∃ x, atD D m = x := ⟨_, rfl⟩
      rw [hx] at c0 c1
      have m0 : (0 : Int) ≤ (m : Int) := by omega
      have m1 : (m : Int) < (n : Int) := by omega
      have HX := Lib.hid hx
      have HM := Lib.hid (show lo ≤ m ∧ m < hi by omega)
      clear hx hm hai
      obtain ⟨r, hr⟩ : ∃ r, cmpD x d = r := ⟨_, rfl⟩
      have HX2 := Lib.hid (fun w => show Calls _ _ _ w (RetI r none w) from hr ▸ HC.out x w)
      by_cases hc : r < 0
      · have HL := Lib.hid (cmpD_neg.1 (show cmpD x d < 0 by omega))
        clear hr
        go_wp2_with fail
        go_region_held3 (fun w' => w'.cell? ⟨w.heap.size, 0, none⟩ = some (.int .i64 d.1) ∧ w'.cell? ⟨w.heap.size, 1, none⟩ = some (.int .i64 d.2) ∧ w'.cell? ⟨b, off + m * 2, none⟩ = some (.int .i64 x.1) ∧ w'.cell? ⟨b, off + m * 2 + 1, none⟩ = some (.int .i64 x.2))
          (first | exact ⟨t0, t1, c0, c1⟩ | exact ⟨d0, d1, d2, d3⟩ | fail)
          (first
            | (go_at_fn 62; (with_reducible refine (HX2.out _).mono ?_); rintro e w4 ⟨rfl, hg4⟩; have h4 := gb_dr hg4; have d0 := h4.cell t0 (by simp); have d1 := h4.cell t1 (by simp); have d2 := h4.cell c0 (by simp); have d3 := h4.cell c1 (by simp); have G4 := Lib.hid (gb_trans HG.out h4); clear h4 hg4)
            | fail)
        all_goals
          clear d0 d1 d2 d3 t0 t1 c0 c1
          go_wp2_with fail
          go_roundw
          case rel => exact ⟨m + 1, hi, by go_num, rfl, srch_up HASC.out HS.out HM.out.2 (by rw [HX.out]; exact HL.out), G4.out⟩
          case measure => have := HM.out; simp [intOf]; omega
      · have HL := Lib.hid (show ltD x d = false by
          cases h : ltD x d with
          | false => rfl
          | true => have := cmpD_neg.2 h; omega)
        clear hr
        go_wp2_with fail
        go_region_held3 (fun w' => w'.cell? ⟨w.heap.size, 0, none⟩ = some (.int .i64 d.1) ∧ w'.cell? ⟨w.heap.size, 1, none⟩ = some (.int .i64 d.2) ∧ w'.cell? ⟨b, off + m * 2, none⟩ = some (.int .i64 x.1) ∧ w'.cell? ⟨b, off + m * 2 + 1, none⟩ = some (.int .i64 x.2))
          (first | exact ⟨t0, t1, c0, c1⟩ | exact ⟨d0, d1, d2, d3⟩ | fail)
          (first
            | (go_at_fn 62; (with_reducible refine (HX2.out _).mono ?_); rintro e w4 ⟨rfl, hg4⟩; have h4 := gb_dr hg4; have d0 := h4.cell t0 (by simp); have d1 := h4.cell t1 (by simp); have d2 := h4.cell c0 (by simp); have d3 := h4.cell c1 (by simp); have G4 := Lib.hid (gb_trans HG.out h4); clear h4 hg4)
            | fail)
        all_goals
          clear d0 d1 d2 d3 t0 t1 c0 c1
          go_wp2_with fail
          go_roundw
          case rel => exact ⟨lo, m, rfl, rfl, srch_down HASC.out HS.out HM.out.1 HM.out.2 (by rw [HX.out]; exact HL.out), G4.out⟩
          case measure => have := HM.out; simp [intOf]; omega
    · obtain rfl : hi = lo := by omega
      have hlow := srch_end HS.out
      by_cases hin : hi < n
      · obtain ⟨b, off, rfl, hb, c0, c1⟩ := hai.at hi hin
        obtain ⟨x, hx⟩ : ∃ x, atD D hi = x := ⟨_, rfl⟩
        rw [hx] at c0 c1
        obtain ⟨r, hr⟩ : ∃ r, cmpD x d = r := ⟨_, rfl⟩
        have HX2 := Lib.hid (fun w => show Calls _ _ _ w (RetI r none w) from hr ▸ HC.out x w)
        have hrd : decide (r = 0) = decide (d ∈ D) := decide_eq_decide.2 (by
          rw [← hr, cmpD_zero, HTI.out, hlow, hx]
          exact ⟨fun e => ⟨by omega, e⟩, fun e => e.2⟩)
        have HRD := Lib.hid hrd
        have HLOW := Lib.hid hlow
        have m0 : (0 : Int) ≤ (hi : Int) := by omega
        have m1 : (hi : Int) < (n : Int) := by omega
        have hd : decide ((hi : Int) < (n : Int)) = true := decide_eq_true m1
        clear hx hr hlow hrd hai hlt hin
        go_wp2_with fail
        go_region_held3 (fun w' => w'.cell? ⟨w.heap.size, 0, none⟩ = some (.int .i64 d.1) ∧ w'.cell? ⟨w.heap.size, 1, none⟩ = some (.int .i64 d.2) ∧ w'.cell? ⟨b, off + hi * 2, none⟩ = some (.int .i64 x.1) ∧ w'.cell? ⟨b, off + hi * 2 + 1, none⟩ = some (.int .i64 x.2))
          (first | exact ⟨t0, t1, c0, c1⟩ | exact ⟨d0, d1, d2, d3⟩ | fail)
          (first
            | (go_at_fn 62; (with_reducible refine (HX2.out _).mono ?_); rintro e w4 ⟨rfl, hg4⟩; have h4 := gb_dr hg4; have d0 := h4.cell t0 (by simp); have d1 := h4.cell t1 (by simp); have d2 := h4.cell c0 (by simp); have d3 := h4.cell c1 (by simp); have G4 := Lib.hid (gb_trans HG.out h4); clear h4 hg4)
            | fail)
        all_goals
          clear d0 d1 d2 d3 t0 t1 c0 c1
          go_wp2_with fail
          go_ret2
          exact ⟨ret_bs HLOW.out HRD.out, gb_trans BG.out G4.out⟩
      · have hd : decide ((hi : Int) < (n : Int)) = false := decide_eq_false (by omega)
        have hno : ¬ d ∈ D := fun h => by have := (HTI.out.1 h).1; omega
        have HN := Lib.hid hno
        have HLOW := Lib.hid hlow
        clear hno hlow hai
        go_wp2_with fail
        go_quiet (fail)
        all_goals
          go_wp2_with fail
          go_ret2
          exact ⟨ret_bs HLOW.out (decide_eq_false HN.out).symm, gb_trans BG.out (gb_drewN HG.out _)⟩
end Go.Proofs.YtidilfakganooaaGreatDoor
end
