/- What is proved here: small facts on a square of 16 rows of 16 numbers that is written pair by pair, on its greatest number, and on walks of a table; nothing of the program; how a walk loads and stores a whole array of 256 numbers that is known as a block; nothing of the program but its types; what the program's MeshOk returns for numbers of 64 bits; only new blocks are written; what the program's table of ports holds for a mesh and a table of the right size, and what it is otherwise; only new blocks are written; small facts on a mesh and a table as blocks, and on a square that is laid into a new block; nothing of the program; what the program's walk of a square of ports returns for two nodes; only new blocks are written; the lists that the functions on routes return, as mathematics; nothing of the program; a neighbor has the node as its neighbor at the opposite port, at the distance 1; as mathematics, nothing of the program; a route turned back leads back along the same nodes, and turned back twice it is the route again; a table's walk is a route that visits no node twice; as mathematics, nothing of the program; sets of turns as mathematics, and which turns the ways of a table take; nothing of the program; the ways of a valid table between the nodes of a pair; nothing of the program; the program's list of the walks between all pairs of nodes: empty for a table that is not valid, else the walk of each pair in its order; only new blocks are written; what the program's TableOk returns, for all arguments; only new blocks are written; whether the program says that both tables of a pair are valid; only new blocks are written; what the program's NetOk, FlitsInside and FlitsWaiting return, for all arguments; only new blocks are written; which inputs request a port, and whether a network is valid and has an input, as the program says; only new blocks are written but for what is returned; what the program's WantedPort, HasRoom, IsRequest and RequestsAt return, for all arguments; only new blocks are written but for what is returned. -/
import Derived.Test.YtplpdjpldadcmaaEC
import Derived.Laws.Rows
import Derived.Laws.Tables
import Derived.Laws.ResultCell
section
namespace Go.Proofs.Ytplpdjpldadcmaa
open Go.ChangeShapes Go.WideShapes Go.ChangeAt Go.RowKit
set_option linter.unusedVariables false

/-- 256 zeros. -/
def zerosX : List Int := List.replicate 256 0
theorem zerosX_length : zerosX.length = 256 := List.length_replicate
/-- The square after the first i pairs of k nodes were written. -/
def sqTo (k : Nat) (f : Nat → Int) : Nat → List Int
  | 0 => zerosX
  | i + 1 => (sqTo k f i).set (16 * (i / k) + i % k) (f i)
theorem sqTo_length (k : Nat) (f : Nat → Int) (i : Nat) : (sqTo k f i).length = 256 := by
  induction i with
  | zero => exact zerosX_length
  | succ i ih => rw [sqTo, List.length_set]; exact ih
theorem pair_div {a b k : Nat} (hb : b < k) : (a * k + b) / k = a := by
  rw [Nat.add_comm, Nat.add_mul_div_right _ _ (by omega), Nat.div_eq_of_lt hb]; omega
theorem pair_mod {a b k : Nat} (hb : b < k) : (a * k + b) % k = b := by
  rw [Nat.add_comm, Nat.add_mul_mod_self_right]; exact Nat.mod_eq_of_lt hb
theorem sqTo_at {k a b i : Nat} (f : Nat → Int) (hk : k ≤ 16) (ha : a < k) (hb : b < k) (h : a * k + b < i) : (sqTo k f i).getD (16 * a + b) 0 = f (a * k + b) := by
  induction i with
  | zero => omega
  | succ i ih =>
    rw [sqTo, List.getD_eq_getElem?_getD, List.getElem?_set]
    have hm : i % k < k := Nat.mod_lt _ (by omega)
    by_cases e : a * k + b = i
    · have e1 : i / k = a := by rw [← e]; exact pair_div hb
      have e2 : i % k = b := by rw [← e]; exact pair_mod hb
      rw [e1, e2, if_pos rfl, if_pos (by rw [sqTo_length]; omega), e]
      rfl
    · have hne : ¬ 16 * (i / k) + i % k = 16 * a + b := fun he => by
        have e1 : i / k = a := by omega
        have e2 : i % k = b := by omega
        have := Nat.div_add_mod i k
        rw [e1, e2, Nat.mul_comm] at this
        exact e this
      rw [if_neg hne, ← List.getD_eq_getElem?_getD]
      exact ih (by omega)
theorem sqTo_mem {k i : Nat} {f : Nat → Int} {x : Int} (h : x ∈ sqTo k f i) : x = 0 ∨ ∃ j, j < i ∧ x = f j := by
  induction i with
  | zero => exact .inl (List.eq_of_mem_replicate h)
  | succ i ih =>
    rcases List.mem_or_eq_of_mem_set h with h1 | h1
    · rcases ih h1 with h2 | ⟨j, hj, h2⟩
      · exact .inl h2
      · exact .inr ⟨j, by omega, h2⟩
    · exact .inr ⟨i, by omega, h1⟩

/-- The greatest of the first n numbers, at least 0. -/
def topTo (X : List Int) : Nat → Int
  | 0 => 0
  | n + 1 => max (topTo X n) (X.getD n 0)
/-- The greatest of the first i + 1 numbers. -/
def mxTo (R : List Int) : Nat → Int
  | 0 => R.getD 0 0
  | i + 1 => max (mxTo R i) (R.getD (i + 1) 0)
theorem top_row {X R : List Int} {s : Nat} (i : Nat) (h : ∀ j, j ≤ i → R.getD j 0 = X.getD (s + j) 0) : max (topTo X s) (mxTo R i) = topTo X (s + i + 1) := by
  induction i with
  | zero => rw [mxTo, h 0 (Nat.le_refl _)]; rfl
  | succ i ih =>
    rw [mxTo, ← Int.max_assoc, ih (fun j hj => h j (by omega)), h (i + 1) (Nat.le_refl _)]
    rfl
theorem topTo_le {X : List Int} {m : Int} (hm : 0 ≤ m) (h : ∀ x ∈ X, x ≤ m) (n : Nat) : topTo X n ≤ m := by
  induction n with
  | zero => exact hm
  | succ n ih =>
    rw [topTo]
    refine Int.max_le.2 ⟨ih, ?_⟩
    rw [List.getD_eq_getElem?_getD]
    cases hx : X[n]? with
    | none => exact hm
    | some x => exact h x (List.mem_of_getElem? hx)
theorem le_topTo {X : List Int} {i n : Nat} (h : i < n) : X.getD i 0 ≤ topTo X n := by
  induction n with
  | zero => omega
  | succ n ih =>
    rw [topTo]
    rcases Nat.lt_succ_iff_lt_or_eq.1 h with h1 | rfl
    · exact Int.le_trans (ih h1) (Int.le_max_left _ _)
    · exact Int.le_max_right _ _
theorem topTo_nonneg (X : List Int) (n : Nat) : 0 ≤ topTo X n := by
  induction n with
  | zero => exact Int.le_refl _
  | succ n ih => rw [topTo]; exact Int.le_trans ih (Int.le_max_left _ _)
/-- A list that is given at all its indices is between. -/
theorem mxTo_le {R : List Int} {m : Int} (h : ∀ j, R.getD j 0 ≤ m) (i : Nat) : mxTo R i ≤ m := by
  induction i with
  | zero => exact h 0
  | succ i ih => rw [mxTo]; exact Int.max_le.2 ⟨ih, h _⟩

/-- The port of an entry: -1 outside of the range 0 to 4. -/
def portP (p : Int) : Int := if p < 0 ∨ 4 < p then -1 else p
theorem portP_bounds (p : Int) : -1 ≤ portP p ∧ portP p ≤ 4 := by unfold portP; split <;> omega
theorem portP_in {p : Int} (h0 : 0 ≤ p) (h1 : p ≤ 4) : portP p = p := if_neg (by omega)
theorem portP_out {p : Int} (h : p < 0 ∨ 4 < p) : portP p = -1 := if_pos h
theorem portP_four {p : Int} : portP p = 4 ↔ p = 4 := by unfold portP; split <;> omega
theorem portP_in_of {p q : Int} (h : portP p = q) (h0 : 0 ≤ q) : p = q := by unfold portP at h; split at h <;> omega

section
variable {W H : Int} {L P : List Int}
/-- The nodes of a grid. -/
def cntN (W H : Int) : Nat := (countG W H).toNat
theorem cntN_int (W H : Int) : (cntN W H : Int) = countG W H := Int.toNat_of_nonneg (countG_le W H).1
theorem cntN_le (W H : Int) : cntN W H ≤ 16 := by have := countG_le W H; have := cntN_int W H; omega
/-- The table as a square of ports. -/
def portsX (W H : Int) (P : List Int) (i : Nat) : List Int := sqTo (cntN W H) (fun j => portP (P.getD j 0)) i
/-- The lengths of the walks as a square. -/
def lensX (W H : Int) (L P : List Int) (i : Nat) : List Int := sqTo (cntN W H) (fun j => (lenAt W H L P j : Int)) i
/-- The square holds the ports of the table. -/
def isPorts (W H : Int) (P X : List Int) : Prop := X.length = 256 ∧ ∀ a b : Nat, (a : Int) < countG W H → (b : Int) < countG W H → X.getD (16 * a + b) 0 = portP (tabG (countG W H) P a b)
theorem sq_lt {k a b : Nat} (ha : a < k) (hb : b < k) : a * k + b < k * k := by
  have : (a + 1) * k ≤ k * k := Nat.mul_le_mul_right _ (by omega)
  rw [Nat.add_mul, Nat.one_mul] at this
  omega
theorem portsX_is (hs : sizedG W H L P = true) : isPorts W H P (portsX W H P P.length) := by
  refine ⟨sqTo_length _ _ _, fun a b ha hb => ?_⟩
  have hk := cntN_int W H
  have hp := (sizedG_mesh hs).2
  have hpn : P.length = cntN W H * cntN W H := by rw [← hk] at hp; exact_mod_cast hp
  rw [portsX, sqTo_at _ (cntN_le W H) (by omega) (by omega) (by rw [hpn]; exact sq_lt (by omega) (by omega))]
  rw [tabG, ← hk, show ((a : Int) * (cntN W H : Int) + (b : Int)).toNat = a * cntN W H + b by rw [← Int.natCast_mul, ← Int.natCast_add, Int.toNat_natCast]]
theorem lensX_top : topTo (lensX W H L P (sqG W H)) 256 = (mostTo W H L P (sqG W H) : Int) := by
  have hk := cntN_le W H
  refine Int.le_antisymm (topTo_le (by omega) (fun x hx => ?_) _) ?_
  · rcases sqTo_mem hx with rfl | ⟨j, hj, rfl⟩
    · omega
    · exact_mod_cast mostTo_le hj
  · have h : ∀ i, i ≤ sqG W H → (mostTo W H L P i : Int) ≤ topTo (lensX W H L P (sqG W H)) 256 := fun i => by
      induction i with
      | zero => intro _; exact topTo_nonneg _ _
      | succ i ih =>
        intro hi
        rw [mostTo]
        have h1 := ih (by omega)
        have hlt : i < cntN W H * cntN W H := hi
        have hk0 : 0 < cntN W H := Nat.pos_of_ne_zero fun e => by rw [e] at hlt; omega
        have hd : i / cntN W H < cntN W H := Nat.div_lt_of_lt_mul hlt
        have hm : i % cntN W H < cntN W H := Nat.mod_lt _ hk0
        have he : i / cntN W H * cntN W H + i % cntN W H = i := by rw [Nat.mul_comm]; exact Nat.div_add_mod _ _
        have h2 := sqTo_at (fun j => (lenAt W H L P j : Int)) hk hd hm (i := sqG W H) (by omega)
        have h3 := le_topTo (X := lensX W H L P (sqG W H)) (i := 16 * (i / cntN W H) + i % cntN W H) (n := 256) (by omega)
        rw [lensX, h2, he] at h3
        rw [lensX] at h1 ⊢
        omega
    exact h _ (Nat.le_refl _)
/-- The number of a pair. -/
theorem lenAt_pair {a b : Nat} (hb : (b : Int) < countG W H) : lenAt W H L P (a * cntN W H + b) = (walkOf W H L P a b).length := by
  have hk := cntN_int W H
  have e1 : ((a * cntN W H + b : Nat) : Int) / countG W H = a := by
    rw [← hk, ← Int.natCast_ediv, pair_div (by omega)]
  have e2 : ((a * cntN W H + b : Nat) : Int) % countG W H = b := by
    rw [← hk, ← Int.natCast_emod, pair_mod (by omega)]
  rw [lenAt, e1, e2]

/-- The walk ends. -/
def endsG (W H : Int) (L P : List Int) (a b : Int) : Bool := (walkF W H L P b ((countG W H).toNat + 1) a).isSome
theorem walkF_never {tq : Int} (h : tabG (countG W H) P tq tq ≠ 4) : ∀ (f : Nat) (a : Int), walkF W H L P tq f a = none
  | 0, _ => rfl
  | f + 1, a => by
    rw [walkF]
    split
    · rename_i h4
      rw [if_neg (fun e => by subst e; exact h h4)]
    · split
      · rw [walkF_never h f]; rfl
      · rfl
theorem ends_entry (a b : Int) : endsG W H L P a b = entryG W H L P a b := by
  by_cases e : a = b
  · subst e
    rw [entry_same, endsG]
    by_cases h4 : tabG (countG W H) P a a = 4
    · rw [walkF_end h4 rfl, h4]; rfl
    · rw [walkF_never h4]; simp [h4]
  · rw [entry_two e, endsG, walkOf]
    by_cases h4 : tabG (countG W H) P a b = 4
    · rw [walkF_lost h4 e]; rfl
    · cases hs : stepsG W H L a (tabG (countG W H) P a b) with
      | false => rw [walkF_bad rfl h4 hs]; rfl
      | true =>
        rw [walkF_go rfl h4 hs]
        cases walkF W H L P b (countG W H).toNat (nextG W H a (tabG (countG W H) P a b)) <;> simp
theorem walkOf_same (a : Int) : walkOf W H L P a a = [] := by
  rw [walkOf]
  by_cases h4 : tabG (countG W H) P a a = 4
  · rw [walkF_end h4 rfl]; rfl
  · rw [walkF_never h4]; rfl
theorem walkG_ask {a b : Int} (h : askG W H L P a b = true) : walkG W H L P a b = walkOf W H L P a b := by
  by_cases e : a = b
  · subst e; rw [walkOf_same, walkG, if_neg (by simp)]
  · rw [walkG, if_pos ⟨h, e⟩]
theorem walkG_no {a b : Int} (h : askG W H L P a b = false) : walkG W H L P a b = [] := by rw [walkG, if_neg (by simp [h])]
theorem portAtG_ask {a b : Int} (h : askG W H L P a b = true) : portAtG W H L P a b = portP (tabG (countG W H) P a b) := by
  unfold portAtG portP
  by_cases h2 : 0 ≤ tabG (countG W H) P a b ∧ tabG (countG W H) P a b ≤ 4
  · rw [if_pos ⟨h, h2⟩, if_neg (by omega)]
  · rw [if_neg (fun e => h2 e.2), if_pos (by omega)]
theorem portAtG_no {a b : Int} (h : askG W H L P a b = false) : portAtG W H L P a b = -1 := by rw [portAtG, if_neg (by simp [h])]
/-- Whether the rest of a walk ends. -/
def restE (W H : Int) (L P : List Int) (tq : Int) (f : Nat) (a : Int) : Bool := (walkF W H L P tq f a).isSome
theorem restE_start (a b : Int) : restE W H L P b ((countG W H).toNat + 1) a = endsG W H L P a b := rfl
theorem restE_end {tq a : Int} {f : Nat} (h : tabG (countG W H) P a tq = 4) (he : a = tq) : restE W H L P tq (f + 1) a = true := by rw [restE, walkF_end h he]; rfl
theorem restE_lost {tq a : Int} {f : Nat} (h : tabG (countG W H) P a tq = 4) (he : a ≠ tq) : restE W H L P tq (f + 1) a = false := by rw [restE, walkF_lost h he]; rfl
theorem restE_bad {tq a p : Int} {f : Nat} (h : tabG (countG W H) P a tq = p) (h4 : p ≠ 4) (hs : stepsG W H L a p = false) : restE W H L P tq (f + 1) a = false := by rw [restE, walkF_bad h h4 hs]; rfl
theorem restE_go {tq a p : Int} {f : Nat} (h : tabG (countG W H) P a tq = p) (h4 : p ≠ 4) (hs : stepsG W H L a p = true) : restE W H L P tq (f + 1) a = restE W H L P tq f (nextG W H a p) := by
  rw [restE, walkF_go h h4 hs, restE]
  cases walkF W H L P tq f (nextG W H a p) <;> rfl
end
end Go.Proofs.Ytplpdjpldadcmaa
end

section
namespace Go.Proofs.Ytplpdjpldadcmaa
open Go.ChangeShapes Go.WideShapes Go.ChangeAt Go.RowKit
set_option linter.unusedVariables false

/-- Numbers as the cells of a block. -/
def cellsX (X : List Int) : Array Value := (intsV X).toArray
theorem cellsX_size (X : List Int) : (cellsX X).size = X.length := by simp [cellsX, intsV_length]
theorem cellsX_at {X : List Int} {i : Nat} {x : Int} (hi : i < X.length) (h : X.getD i 0 = x) : (cellsX X)[i]? = some (.int .i64 x) := by
  rw [List.getD_eq_getElem?_getD, List.getElem?_eq_getElem hi] at h
  simp only [Option.getD_some] at h
  simp [cellsX, intsV, List.getElem?_eq_getElem hi, h]
theorem cellsX_set (X : List Int) (i : Nat) (x : Int) : (cellsX X).setIfInBounds i (.int .i64 x) = cellsX (X.set i x) := by
  simp [cellsX, intsV_set]
theorem cellsX_one (X : List Int) : (cellsX X).all (·.oneCell') = true := by
  rw [Array.all_eq_true_iff_forall_mem]
  intro v hv
  simp only [cellsX, intsV, List.mem_toArray, List.mem_map] at hv
  obtain ⟨x, _, rfl⟩ := hv
  rfl
theorem zero_cells : Try.zeroCells124 = cellsX zerosX := by kernel_rfl
theorem square_info : (Try.prog.info? 124).map (·.size) = some 256 := by kernel_rfl

section
variable {w : World} {g : Nat} {X Y : List Int}
theorem gb_setRow {w : World} {g : Nat} {old cs : Array Value} {t : TypeId} (h : Blk w g t old) : Blk (w.setRow g cs) g t cs ∧ w.grownBy (w.setRow g cs) (some g) := by
  refine ⟨setRow_heap w g old cs t (0, 0) h, rfl, rfl, rfl, ?_, fun i hi hne => ?_⟩
  · simp [World.setRow]
  · have hne' : g ≠ i := fun e => hne (by rw [e])
    simp [World.setRow, Array.getElem?_modify, hne']
theorem load_square (hb : Blk w g 124 (cellsX X)) (hl : X.length = 256) : (loadVar 124 ⟨g, 0, none⟩).run Try.prog w = .ok (.agg (cellsX X)) w :=
  run_loadVar_row w g _ _ (cellsX X) (0, 0) _ hb Try.underlying124 rfl (by rw [cellsX_size, hl]; exact square_info)
theorem store_square (hb : Blk w g 124 (cellsX X)) (hl : X.length = 256) (hm : Y.length = 256) : (storeVar 124 ⟨g, 0, none⟩ (.agg (cellsX Y))).run Try.prog w = .ok () (w.setRow g (cellsX Y)) :=
  run_storeVar_row w g _ _ (cellsX X) (cellsX Y) hb (by rw [cellsX_size, hm]; exact square_info) (by rw [cellsX_size, cellsX_size, hl, hm]) (cellsX_one Y)
end

theorem wpList_loadX {ops : Array Oper} {rest : List Oper} {op : Oper} {a : Act} {w : World} {Q : Exit → Act → World → Prop} (hgd : op.guard = none) (x : Operand) (ho : op.op = .load 124 x)
    (g : Nat) (hx : a.eval x = .pointer (some ⟨g, 0, none⟩)) (X : List Int) (hb : Blk w g 124 (cellsX X)) (hl : X.length = 256)
    (h : wpList Try.prog ops Q rest (a.put op.dst (.agg (cellsX X))) w) : wpList Try.prog ops Q (op :: rest) a w :=
  wpList_plain hgd fun _ hK => by
    unfold Oper.wp execOp
    simp only [ho, hx, Instr.loadAt, Instr.sureAddr, Sem.run_bind, Sem.run_pure, Result.andThen_ok, load_square hb hl]
    exact hK _ _ h
theorem wpList_storeX {ops : Array Oper} {rest : List Oper} {op : Oper} {a : Act} {w : World} {Q : Exit → Act → World → Prop} (hgd : op.guard = none) (x y : Operand) (ho : op.op = .store 124 x y)
    (g : Nat) (X Y : List Int) (hx : a.eval x = .pointer (some ⟨g, 0, none⟩)) (hy : a.eval y = .agg (cellsX Y)) (hb : Blk w g 124 (cellsX X)) (hl : X.length = 256) (hm : Y.length = 256)
    (h : ∀ w', Blk w' g 124 (cellsX Y) → w.grownBy w' (some g) → wpList Try.prog ops Q rest (a.put op.dst undef) w') : wpList Try.prog ops Q (op :: rest) a w :=
  wpList_plain hgd fun _ hK => by
    unfold Oper.wp execOp
    simp only [ho, hx, hy, Instr.storeAt, Instr.sureAddr, Sem.run_bind, Sem.run_pure, Result.andThen_ok, store_square hb hl hm]
    exact hK _ _ (h _ (gb_setRow hb).1 (gb_setRow hb).2)

/-- What is written lies in a block of the call's own. -/
theorem gb_new {a b c : World} {g : Nat} (h : a.grownBy b none) (k : b.grownBy c (some g)) (hg : a.heap.size ≤ g) : a.grownBy c none :=
  ⟨k.os.trans h.os, k.tape.trans h.tape, k.output.trans h.output, Nat.le_trans h.size k.size, fun i hi hne => (k.block i (Nat.lt_of_lt_of_le hi h.size) (fun e => by cases e; omega)).trans (h.block i hi hne)⟩

/-- A square and whether there is one. -/
def RetX (X : List Int) (b : Bool) (w : World) (e : Ending) (w' : World) : Prop := e = .returned (.tuple #[.agg (cellsX X), .bool b]) ∧ w.grownBy w' none
end Go.Proofs.Ytplpdjpldadcmaa
end

section
namespace Go.Proofs.Ytplpdjpldadcmaa
open Go.ChangeShapes Go.WideShapes Go.ChangeAt Go.RowKit
set_option linter.unusedVariables false

theorem implMeshOk (W H : Int) (A : Option Addr) (n cap : Nat) (L : List Int) (hL : WfL L) (w : World) (h : IntAt w w.heap.size A n L) (hn : n ≤ 1000000000) :
    Calls Try.prog 108 #[.agg #[.int .i64 W, .int .i64 H, .slice A n cap]] w (RetB (meshG W H L) w) := by
  have hl := h.1
  have HI := Lib.hid h
  have HW := Lib.hid hL
  clear h hL
  cases hok : okG W H with
  | false =>
    go_enter Try.func108, Try.ntmps108
    go_wp2_with fail
    refine (implGridOk W H _).mono ?_
    rintro e w1 ⟨rfl, hg⟩
    rw [hok]
    go_wp2_with fail
    go_ret
    exact ⟨ret_bool (meshG_bad hok).symm, boxi_gb hg⟩
  | true =>
    go_enter Try.func108, Try.ntmps108
    go_wp2_with fail
    refine (implGridOk W H _).mono ?_
    rintro e w1 ⟨rfl, hg⟩
    have HM := Lib.hid (show MeshAt W H L A n cap w 0 w1 from ⟨goodTo_zero W H L, hg⟩)
    have hbk := boxi_blk hg
    have a2 : w1.cell? ⟨w.heap.size, 2, none⟩ = some (.slice A n cap) := hbk.cell 2
    clear hg hbk
    rw [hok]
    go_wp2_with fail
    clear a2
    go_loopw [12] (fun i wr => ∃ k : Nat, i = .int .i64 (k : Int) ∧ k ≤ n ∧ MeshAt W H L A n cap w k wr) (fun i _ => n - (intOf i).toNat)
    case atStart => exact ⟨0, rfl, Nat.zero_le _, HM.out⟩
    case round =>
      obtain ⟨k, rfl, hk, hgood, hg⟩ := hrel
      have HGo := Lib.hid hgood
      have HG := Lib.hid hg
      have hbk := boxi_blk hg
      have HBK := Lib.hid hbk
      have a0 : wr.cell? ⟨w.heap.size, 0, none⟩ = some (.int .i64 W) := hbk.cell 0
      have a1 : wr.cell? ⟨w.heap.size, 1, none⟩ = some (.int .i64 H) := hbk.cell 1
      have a2 : wr.cell? ⟨w.heap.size, 2, none⟩ = some (.slice A n cap) := hbk.cell 2
      have hia := HI.out.none (Nat.le_refl _) (boxi_gb hg)
      have HIA := Lib.hid hia
      clear hg hgood hbk
      by_cases hlt : k < n
      · obtain ⟨b, off, rfl, hb, hc⟩ := hia.at k hlt
        obtain ⟨x, hx⟩ : ∃ x, L.getD k 0 = x := ⟨_, rfl⟩
        rw [hx] at hc
        obtain ⟨r, hr⟩ : ∃ r, endG W H x = r := ⟨_, rfl⟩
        have HE := Lib.hid (fun w => implEnd W H x r (HW.out.get (by omega) hx) hr w)
        have hld := leads_end W H x
        rw [hr] at hld
        clear hia hr
        by_cases h0 : r < 0
        · have hbad := meshG_no (L := L) (i := k) (by omega) (goodAt_lead hx (by rw [hld]; exact decide_eq_false (by omega)))
          have HBad := Lib.hid hbad
          clear hx hld hbad
          go_wp2_with fail
          refine (HE.out _).mono ?_
          rintro e w2 ⟨rfl, hg2⟩
          have HG2 := Lib.hid (gb_trans (boxi_gb HG.out) hg2)
          clear hg2
          go_wp2_with fail
          go_ret
          exact ⟨ret_bool HBad.out.symm, HG2.out⟩
        · have hldt : leadsG W H x = true := by rw [hld]; exact decide_eq_true (by omega)
          clear hld
          cases k with
          | zero =>
            have HNx := Lib.hid (goodTo_succ HGo.out (goodAt_first hx hldt))
            have hc' : wr.cell? ⟨b, off, none⟩ = some (.int .i64 x) := hc
            clear hx hldt hc
            go_wp2_with fail
            refine (HE.out _).mono ?_
            rintro e w2 ⟨rfl, hg2⟩
            have HG2 := Lib.hid (gb_trans HG.out hg2)
            clear hg2
            go_wp2_with fail
            go_roundw
            case rel => exact ⟨1, by go_num, by omega, HNx.out, HG2.out⟩
            case measure => simp [intOf] <;> omega
          | succ j =>
            obtain ⟨b', off', hbe, _, hc2⟩ := HIA.out.at j (by omega)
            obtain ⟨rfl, rfl⟩ : b = b' ∧ off = off' := by injection hbe with h1; injection h1 with h2 h3; exact ⟨h2, h3⟩
            obtain ⟨y, hy⟩ : ∃ y, L.getD j 0 = y := ⟨_, rfl⟩
            rw [hy] at hc2
            have hga := goodAt_next hx hy hldt
            have HGA := Lib.hid hga
            clear hx hy hldt hga hbe
            go_wp2_with fail
            refine (HE.out _).mono ?_
            rintro e w2 ⟨rfl, hg2⟩
            have dc := hg2.cell hc (by simp)
            have dc2 := hg2.cell hc2 (by simp)
            have d2 := hg2.cell a2 (by simp)
            have HG2 := Lib.hid (gb_trans HG.out hg2)
            clear hg2 hc hc2 a0 a1 a2
            by_cases hyx : y < x
            · have hge : decide (y ≥ x) = false := decide_eq_false (by omega)
              have HNx := Lib.hid (goodTo_succ HGo.out (HGA.out.trans (decide_eq_true hyx)))
              clear hyx
              go_wp2_with fail
              go_roundw
              case rel => exact ⟨j + 2, by go_num, by omega, HNx.out, HG2.out⟩
              case measure => simp [intOf] <;> omega
            · have hge : decide (y ≥ x) = true := decide_eq_true (by omega)
              have HBad := Lib.hid (meshG_no (i := j + 1) (by omega) (HGA.out.trans (decide_eq_false hyx)))
              clear hyx
              go_wp2_with fail
              go_ret
              exact ⟨ret_bool HBad.out.symm, boxi_gb HG2.out⟩
      · obtain rfl : k = n := by omega
        clear hia
        go_wp2_with fail
        go_ret
        exact ⟨ret_bool (meshG_yes hok (by rw [hl]; exact HGo.out)).symm, boxi_gb HG.out⟩

theorem implMeshOkV (W H : Int) (A : Option Addr) (n cap : Nat) (L : List Int) (b : Bool) (hb : meshG W H L = b) (hL : WfL L) (w : World) (h : IntAt w w.heap.size A n L) (hn : n ≤ 1000000000) :
    Calls Try.prog 108 #[.agg #[.int .i64 W, .int .i64 H, .slice A n cap]] w (RetB b w) := hb ▸ implMeshOk W H A n cap L hL w h hn
end Go.Proofs.Ytplpdjpldadcmaa
end

section
namespace Go.Proofs.Ytplpdjpldadcmaa
open Go.ChangeShapes Go.WideShapes Go.ChangeAt Go.RowKit
set_option linter.unusedVariables false

/-- A mesh, a table and a square as blocks. -/
def thrB (W H : Int) (A A2 : Option Addr) (n cap n2 c2 : Nat) (w : World) : World :=
  ((w.alloc (.cells (meshC W H A n cap) 38)).alloc (.cells #[.slice A2 n2 c2] 39)).alloc (.cells (cellsX zerosX) 124)
section
variable {W H : Int} {A A2 : Option Addr} {n cap n2 c2 : Nat} {w wr : World}
theorem thrB_size : (thrB W H A A2 n cap n2 c2 w).heap.size = w.heap.size + 3 := by unfold thrB; rw [alloc_size, alloc_size, alloc_size]
theorem thrB_gb : w.grownBy (thrB W H A A2 n cap n2 c2 w) none := gb_alloc (gb_alloc (gb_alloc (gb_refl _ _) _) _) _
theorem thrB_mesh : Blk (thrB W H A A2 n cap n2 c2 w) w.heap.size 38 (meshC W H A n cap) := ((Blk.new w 38 (meshC W H A n cap)).alloc _).alloc _
theorem thrB_table : Blk (thrB W H A A2 n cap n2 c2 w) (w.heap.size + 1) 39 #[.slice A2 n2 c2] := by
  have := Blk.new (w.alloc (.cells (meshC W H A n cap) 38)) 39 #[.slice A2 n2 c2]
  rw [alloc_size] at this
  exact this.alloc _
theorem thrB_square : Blk (thrB W H A A2 n cap n2 c2 w) (w.heap.size + 2) 124 (cellsX (zerosX)) := by
  have := Blk.new ((w.alloc (.cells (meshC W H A n cap) 38)).alloc (.cells #[.slice A2 n2 c2] 39)) 124 (cellsX zerosX)
  rw [alloc_size, alloc_size] at this
  exact this
end

theorem implPortsNo (W H : Int) (A A2 : Option Addr) (n cap n2 c2 : Nat) (L P : List Int) (hL : WfL L) (w : World) (h : IntAt w w.heap.size A n L) (h2 : IntAt w w.heap.size A2 n2 P) (hn : n ≤ 1000000000) (hn2 : n2 ≤ 1000000000)
    (hs : sizedG W H L P = false) :
    Calls Try.prog 103 #[.agg #[.int .i64 W, .int .i64 H, .slice A n cap], .agg #[.slice A2 n2 c2]] w (RetX (zerosX) false w) := by
  have hp := h2.1
  have HI := Lib.hid (h.none (Nat.le_refl _) (thrB_gb (W := W) (H := H) (A := A) (A2 := A2) (n := n) (cap := cap) (n2 := n2) (c2 := c2)))
  clear h h2
  obtain ⟨k, hk⟩ : ∃ k, countG W H = k := ⟨_, rfl⟩
  obtain ⟨hk0, hk1⟩ := countG_le W H
  rw [hk] at hk0 hk1
  have HN := Lib.hid (fun w => show Calls Try.prog 71 #[.agg #[.int .i64 W, .int .i64 H]] w (RetI k none w) from hk ▸ implNodeCount W H w)
  have TM := Lib.hid (thrB_mesh (W := W) (H := H) (A := A) (A2 := A2) (n := n) (cap := cap) (n2 := n2) (c2 := c2) (w := w))
  have TT := Lib.hid (thrB_table (W := W) (H := H) (A := A) (A2 := A2) (n := n) (cap := cap) (n2 := n2) (c2 := c2) (w := w))
  have TS := Lib.hid (thrB_square (W := W) (H := H) (A := A) (A2 := A2) (n := n) (cap := cap) (n2 := n2) (c2 := c2) (w := w))
  have TG := Lib.hid (thrB_gb (W := W) (H := H) (A := A) (A2 := A2) (n := n) (cap := cap) (n2 := n2) (c2 := c2) (w := w))
  have TZ := Lib.hid (thrB_size (W := W) (H := H) (A := A) (A2 := A2) (n := n) (cap := cap) (n2 := n2) (c2 := c2) (w := w))
  cases hm : meshG W H L with
  | false =>
    have HK := Lib.hid (fun w h => implMeshOkV W H A n cap L false hm hL w h hn)
    clear hm hL hs hk
    go_enter Try.func103, Try.ntmps103
    go_wp2_with fail
    refine (HN.out _).mono ?_
    rintro e w1 ⟨rfl, hg⟩
    rw [zero_cells] at hg
    have hg1 : (thrB W H A A2 n cap n2 c2 w).grownBy w1 none := hg
    have hbk := TM.out.grown hg1 (by simp)
    have a0 : w1.cell? ⟨w.heap.size, 0, none⟩ = some (.int .i64 W) := hbk.cell 0
    have a1 : w1.cell? ⟨w.heap.size, 1, none⟩ = some (.int .i64 H) := hbk.cell 1
    have a2 : w1.cell? ⟨w.heap.size, 2, none⟩ = some (.slice A n cap) := hbk.cell 2
    have hi := (HI.out.none (by rw [TZ.out]; omega) hg1).more (B' := w1.heap.size) (gb_trans TG.out hg1).size
    have HG := Lib.hid hg1
    clear hg hg1 hbk
    go_wp2_with fail
    refine (HK.out _ hi).mono ?_
    rintro e w2 ⟨rfl, hg2⟩
    have HG2 := Lib.hid (gb_trans HG.out hg2)
    have HSq := Lib.hid (TS.out.grown HG2.out (by simp))
    clear hg2 hi a0 a1 a2
    go_wp2_with (refine wpList_storeX rfl _ _ rfl (w.heap.size + 1 + 1) zerosX zerosX rfl (congrArg Value.agg zero_cells) HSq.out zerosX_length zerosX_length ?_; intro w3 hb3 hg3; have HB3 := Lib.hid hb3; have HG3 := Lib.hid hg3; clear hb3 hg3)
    refine bodyPost_ret (v := .tuple #[.agg (cellsX zerosX), .bool false]) ?_ rfl ⟨rfl, gb_new (gb_trans TG.out HG2.out) HG3.out (by omega)⟩
    rw [results_cell_tmp rfl]
    simp [asAddr, Result.andThen, load_square HB3.out zerosX_length]
  | true =>
    have hsq : ¬ (n2 : Int) = k * k := fun e => by
      have : sizedG W H L P = true := by simp [sizedG, hm, hk, hp, e]
      rw [hs] at this; cases this
    have hkk0 : 0 ≤ k * k := Int.mul_nonneg hk0 hk0
    have hkk1 : k * k ≤ 256 := Int.le_trans (Int.mul_le_mul hk1 hk1 hk0 (by omega)) (by omega)
    obtain ⟨q, hq⟩ : ∃ q, k * k = q := ⟨_, rfl⟩
    rw [hq] at hkk0 hkk1 hsq
    have e1 : wrap64 (k * k) = q := by rw [hq]; exact IntWalk.wrap64_in _ (by omega)
    have hb : ((n2 : Int) != q) = true := by simpa using hsq
    have HK := Lib.hid (fun w h => implMeshOkV W H A n cap L true hm hL w h hn)
    clear hm hL hs hk hq
    go_enter Try.func103, Try.ntmps103
    go_wp2_with fail
    refine (HN.out _).mono ?_
    rintro e w1 ⟨rfl, hg⟩
    rw [zero_cells] at hg
    have hg1 : (thrB W H A A2 n cap n2 c2 w).grownBy w1 none := hg
    have hbk := TM.out.grown hg1 (by simp)
    have a0 : w1.cell? ⟨w.heap.size, 0, none⟩ = some (.int .i64 W) := hbk.cell 0
    have a1 : w1.cell? ⟨w.heap.size, 1, none⟩ = some (.int .i64 H) := hbk.cell 1
    have a2 : w1.cell? ⟨w.heap.size, 2, none⟩ = some (.slice A n cap) := hbk.cell 2
    have hi := (HI.out.none (by rw [TZ.out]; omega) hg1).more (B' := w1.heap.size) (gb_trans TG.out hg1).size
    have HG := Lib.hid hg1
    clear hg hg1 hbk
    go_wp2_with fail
    refine (HK.out _ hi).mono ?_
    rintro e w2 ⟨rfl, hg2⟩
    have HG2 := Lib.hid (gb_trans HG.out hg2)
    have HSq := Lib.hid (TS.out.grown HG2.out (by simp))
    have b0 : w2.cell? ⟨w.heap.size + 1, 0, none⟩ = some (.slice A2 n2 c2) := (TT.out.grown HG2.out (by simp)).cell 0
    clear hg2 hi a0 a1 a2
    go_wp2_with (refine wpList_storeX rfl _ _ rfl (w.heap.size + 1 + 1) zerosX zerosX rfl (congrArg Value.agg zero_cells) HSq.out zerosX_length zerosX_length ?_; intro w3 hb3 hg3; have HB3 := Lib.hid hb3; have HG3 := Lib.hid hg3; clear hb3 hg3)
    refine bodyPost_ret (v := .tuple #[.agg (cellsX zerosX), .bool false]) ?_ rfl ⟨rfl, gb_new (gb_trans TG.out HG2.out) HG3.out (by omega)⟩
    rw [results_cell_tmp rfl]
    simp [asAddr, Result.andThen, load_square HB3.out zerosX_length]

/-- The square after j entries, in a block of the call's own. -/
def PortsAt (W H : Int) (A A2 : Option Addr) (n cap n2 c2 : Nat) (P : List Int) (w : World) (g j : Nat) (wr : World) : Prop :=
  Blk wr g 124 (cellsX (portsX W H P j)) ∧ (thrB W H A A2 n cap n2 c2 w).grownBy wr none

theorem implPortsYes (W H : Int) (A A2 : Option Addr) (n cap n2 c2 : Nat) (L P : List Int) (hL : WfL L) (w : World) (h : IntAt w w.heap.size A n L) (h2 : IntAt w w.heap.size A2 n2 P) (hn : n ≤ 1000000000) (hn2 : n2 ≤ 1000000000)
    (hs : sizedG W H L P = true) :
    Calls Try.prog 103 #[.agg #[.int .i64 W, .int .i64 H, .slice A n cap], .agg #[.slice A2 n2 c2]] w (RetX (portsX W H P P.length) true w) := by
  have hp := h2.1
  have HI := Lib.hid (h.none (Nat.le_refl _) (thrB_gb (W := W) (H := H) (A := A) (A2 := A2) (n := n) (cap := cap) (n2 := n2) (c2 := c2)))
  have HP := Lib.hid (h2.none (Nat.le_refl _) (thrB_gb (W := W) (H := H) (A := A) (A2 := A2) (n := n) (cap := cap) (n2 := n2) (c2 := c2)))
  clear h h2
  obtain ⟨k, hk⟩ : ∃ k, cntN W H = k := ⟨_, rfl⟩
  have hki := cntN_int W H
  have hk1 := cntN_le W H
  rw [hk] at hki hk1
  have hsz := (sizedG_mesh hs).2
  have hm := (sizedG_mesh hs).1
  rw [hp, ← hki] at hsz
  have HN := Lib.hid (fun w => show Calls Try.prog 71 #[.agg #[.int .i64 W, .int .i64 H]] w (RetI (k : Int) none w) from hki ▸ implNodeCount W H w)
  have HK := Lib.hid (fun w h => implMeshOkV W H A n cap L true hm hL w h hn)
  have TM := Lib.hid (thrB_mesh (W := W) (H := H) (A := A) (A2 := A2) (n := n) (cap := cap) (n2 := n2) (c2 := c2) (w := w))
  have TT := Lib.hid (thrB_table (W := W) (H := H) (A := A) (A2 := A2) (n := n) (cap := cap) (n2 := n2) (c2 := c2) (w := w))
  have TS := Lib.hid (thrB_square (W := W) (H := H) (A := A) (A2 := A2) (n := n) (cap := cap) (n2 := n2) (c2 := c2) (w := w))
  have TG := Lib.hid (thrB_gb (W := W) (H := H) (A := A) (A2 := A2) (n := n) (cap := cap) (n2 := n2) (c2 := c2) (w := w))
  have TZ := Lib.hid (thrB_size (W := W) (H := H) (A := A) (A2 := A2) (n := n) (cap := cap) (n2 := n2) (c2 := c2) (w := w))
  have hkk1 : (k : Int) * k ≤ 256 := Int.le_trans (Int.mul_le_mul (Int.ofNat_le.2 hk1) (Int.ofNat_le.2 hk1) (by omega) (by omega)) (by omega)
  have hn256 : n2 ≤ 256 := by omega
  have e1 : wrap64 ((k : Int) * k) = (n2 : Int) := by rw [← hsz]; exact IntWalk.wrap64_in _ (by omega)
  have hb : ((n2 : Int) != (n2 : Int)) = false := by simp
  have HSZ := Lib.hid (show n2 = k * k by exact_mod_cast hsz)
  have HKK := Lib.hid hk
  have HPL := Lib.hid hp
  clear hm hL hs hk hki hsz hkk1 hp
  go_enter Try.func103, Try.ntmps103
  go_wp2_with fail
  refine (HN.out _).mono ?_
  rintro e w1 ⟨rfl, hg⟩
  rw [zero_cells] at hg
  have hg1 : (thrB W H A A2 n cap n2 c2 w).grownBy w1 none := hg
  have hbk := TM.out.grown hg1 (by simp)
  have a0 : w1.cell? ⟨w.heap.size, 0, none⟩ = some (.int .i64 W) := hbk.cell 0
  have a1 : w1.cell? ⟨w.heap.size, 1, none⟩ = some (.int .i64 H) := hbk.cell 1
  have a2 : w1.cell? ⟨w.heap.size, 2, none⟩ = some (.slice A n cap) := hbk.cell 2
  have hi := (HI.out.none (by rw [TZ.out]; omega) hg1).more (B' := w1.heap.size) (gb_trans TG.out hg1).size
  have HG := Lib.hid hg1
  clear hg hg1 hbk
  go_wp2_with fail
  refine (HK.out _ hi).mono ?_
  rintro e w2 ⟨rfl, hg2⟩
  have HG2 := Lib.hid (gb_trans HG.out hg2)
  have HSq := Lib.hid (TS.out.grown HG2.out (by simp))
  have b0 : w2.cell? ⟨w.heap.size + 1, 0, none⟩ = some (.slice A2 n2 c2) := (TT.out.grown HG2.out (by simp)).cell 0
  have b1 : (w2.alloc (.cells Try.zeroCells124 124)).cell? ⟨w.heap.size + 1, 0, none⟩ = some (.slice A2 n2 c2) := ((TT.out.grown HG2.out (by simp)).alloc _).cell 0
  have HB2 := Lib.hid (show w.heap.size + 3 ≤ w2.heap.size by have := HG2.out.size; rw [TZ.out] at this; exact this)
  clear hg2 hi a0 a1 a2
  go_wp2_with fail
  obtain ⟨g, hg⟩ : ∃ g, w2.heap.size = g := ⟨_, rfl⟩
  rw [zero_cells]
  have HX := Lib.hid (show PortsAt W H A A2 n cap n2 c2 P w g 0 (w2.alloc (.cells (cellsX zerosX) 124)) from ⟨hg ▸ Blk.new w2 124 (cellsX zerosX), gb_alloc HG2.out _⟩)
  rw [hg, e1]
  have HGE := Lib.hid (show w.heap.size + 3 ≤ g by rw [← hg]; exact HB2.out)
  clear hg b0 b1 e1 hb
  go_loopw [29] (fun i wr => ∃ j : Nat, i = .int .i64 (j : Int) ∧ j ≤ n2 ∧ PortsAt W H A A2 n cap n2 c2 P w g j wr) (fun i _ => n2 - (intOf i).toNat)
  case atStart => exact ⟨0, rfl, Nat.zero_le _, HX.out⟩
  case round =>
    obtain ⟨j, rfl, hj, hblk, hgr⟩ := hrel
    have HBk := Lib.hid hblk
    have HGr := Lib.hid hgr
    clear hgr hblk
    by_cases hlt : j < n2
    · have hsz := HSZ.out
      have hk0 : 0 < k := Nat.pos_of_ne_zero fun e => by rw [e] at hsz; omega
      obtain ⟨b, off, rfl, hbB, hcell⟩ := (HP.out.none (by rw [TZ.out]; omega) HGr.out).at j hlt
      obtain ⟨p, hpp⟩ : ∃ p, P.getD j 0 = p := ⟨_, rfl⟩
      rw [hpp] at hcell
      obtain ⟨x, hx⟩ : ∃ x, j / k = x := ⟨_, rfl⟩
      obtain ⟨y, hy⟩ : ∃ y, j % k = y := ⟨_, rfl⟩
      have hx1 : x < k := by rw [← hx]; exact Nat.div_lt_of_lt_mul (by rw [← hsz]; exact hlt)
      have hy1 : y < k := by rw [← hy]; exact Nat.mod_lt _ hk0
      have d1 : Int.tdiv (j : Int) (k : Int) = (x : Int) := by rw [← hx]; rfl
      have d2 : Int.tmod (j : Int) (k : Int) = (y : Int) := by rw [← hy]; rfl
      have hx16 : (x : Int) < 16 := by omega
      have hy16 : (y : Int) < 16 := by omega
      obtain ⟨o, ho⟩ : ∃ o, (portsX W H P j).getD (16 * x + y) 0 = o := ⟨_, rfl⟩
      have c1 : wr.cell? ⟨g, x * 16 + y, none⟩ = some (.int .i64 o) := by rw [Nat.mul_comm x 16]; exact (HBk.out.cell (16 * x + y)).trans (cellsX_at (by rw [portsX, sqTo_length]; omega) ho)
      have f1 := HBk.out.frozen (x * 16 + y)
      have hb2 := HBk.out.set_ (x * 16 + y) (.int .i64 (portP p))
      rw [cellsX_set, show (portsX W H P j).set (x * 16 + y) (portP p) = portsX W H P (j + 1) by rw [portsX, portsX, sqTo, HKK.out, hx, hy, hpp, Nat.mul_comm x 16]] at hb2
      have HB2x := Lib.hid hb2
      have HG2x := Lib.hid (gb_setCell HGr.out (p := ⟨g, x * 16 + y, none⟩) (.inr (by rw [TZ.out]; exact HGE.out)) (.int .i64 (portP p)))
      clear hb2 hx hy hpp ho hsz
      by_cases hp0 : p < 0
      · rw [portP_out (.inl hp0)] at HB2x HG2x
        go_wp2_with fail
        go_region
        go_wp2_with fail
        go_roundw
        case rel => exact ⟨j + 1, by go_num, by omega, HB2x.out.drewN 1, gb_drew HG2x.out⟩
        case measure => simp [intOf]; omega
      · by_cases hp4 : 4 < p
        · rw [portP_out (.inr hp4)] at HB2x HG2x
          go_wp2_with fail
          go_region
          go_wp2_with fail
          go_roundw
          case rel => exact ⟨j + 1, by go_num, by omega, HB2x.out.drewN 1, gb_drew HG2x.out⟩
          case measure => simp [intOf]; omega
        · rw [portP_in (by omega) (by omega)] at HB2x HG2x
          go_wp2_with fail
          go_region
          go_wp2_with fail
          go_roundw
          case rel => exact ⟨j + 1, by go_num, by omega, HB2x.out.drewN 1, gb_drew HG2x.out⟩
          case measure => simp [intOf]; omega
    · obtain rfl : j = n2 := by omega
      go_wp2_with (first | (refine wpList_loadX rfl _ rfl g rfl (portsX W H P j) HBk.out (sqTo_length _ _ _) ?_) | (refine wpList_storeX rfl _ _ rfl (w.heap.size + 1 + 1) zerosX (portsX W H P j) rfl rfl ((TS.out.grown HGr.out (by simp))) zerosX_length (sqTo_length _ _ _) ?_; intro w3 hb3 hg3; have HB3 := Lib.hid hb3; have HG3 := Lib.hid hg3; clear hb3 hg3))
      refine bodyPost_ret (v := .tuple #[.agg (cellsX (portsX W H P j)), .bool true]) ?_ rfl ⟨by rw [HPL.out], gb_new (gb_trans TG.out HGr.out) HG3.out (by omega)⟩
      rw [results_cell_tmp rfl]
      simp [asAddr, Result.andThen, load_square HB3.out (sqTo_length _ _ _)]
end Go.Proofs.Ytplpdjpldadcmaa
end

section
namespace Go.Proofs.Ytplpdjpldadcmaa
open Go.ChangeShapes Go.WideShapes Go.ChangeAt Go.RowKit
set_option linter.unusedVariables false

/-- A mesh and a table as blocks. -/
def twoI (W H : Int) (A A2 : Option Addr) (n cap n2 c2 : Nat) (w : World) : World := (w.alloc (.cells (meshC W H A n cap) 38)).alloc (.cells #[.slice A2 n2 c2] 39)
section
variable {W H : Int} {A A2 : Option Addr} {n cap n2 c2 : Nat} {w wr : World}
theorem twoI_size : (twoI W H A A2 n cap n2 c2 w).heap.size = w.heap.size + 2 := by unfold twoI; rw [alloc_size, alloc_size]
theorem twoI_gb : w.grownBy (twoI W H A A2 n cap n2 c2 w) none := gb_alloc (gb_alloc (gb_refl _ _) _) _
theorem twoI_mesh (h : (twoI W H A A2 n cap n2 c2 w).grownBy wr none) : Blk wr w.heap.size 38 (meshC W H A n cap) := ((Blk.new w 38 (meshC W H A n cap)).alloc _).grown h (by simp)
theorem twoI_table (h : (twoI W H A A2 n cap n2 c2 w).grownBy wr none) : Blk wr (w.heap.size + 1) 39 #[.slice A2 n2 c2] := by
  have := Blk.new (w.alloc (.cells (meshC W H A n cap) 38)) 39 #[.slice A2 n2 c2]
  rw [alloc_size] at this
  exact this.grown h (by simp)
theorem twoI_le (h : (twoI W H A A2 n cap n2 c2 w).grownBy wr none) : w.heap.size + 2 ≤ wr.heap.size := by have := h.size; rw [twoI_size] at this; exact this
theorem twoI_old (h : (twoI W H A A2 n cap n2 c2 w).grownBy wr none) : w.grownBy wr none := gb_trans twoI_gb h
theorem IntAt.twoI {B : Option Addr} {m : Nat} {M : List Int} (h : IntAt w w.heap.size B m M) : IntAt (twoI W H A A2 n cap n2 c2 w) (twoI W H A A2 n cap n2 c2 w).heap.size B m M :=
  (h.none (Nat.le_refl _) twoI_gb).more (by rw [twoI_size]; omega)
theorem IntAt.oldI {B : Option Addr} {m : Nat} {M : List Int} (h : IntAt w w.heap.size B m M) (hg : w.grownBy wr Option.none) : IntAt wr wr.heap.size B m M :=
  (h.none (Nat.le_refl _) hg).more hg.size
end
/-- The new block of a square. -/
theorem new_square (w : World) : Blk (w.alloc (.cells Try.zeroCells124 124)) w.heap.size 124 (cellsX zerosX) := by
  rw [← zero_cells]; exact Blk.new w _ _
theorem gb_square {a b c : World} (h : a.grownBy b none) (k : (b.alloc (.cells Try.zeroCells124 124)).grownBy c (some b.heap.size)) : a.grownBy c none :=
  gb_new (gb_alloc h _) k h.size
end Go.Proofs.Ytplpdjpldadcmaa
end

section
namespace Go.Proofs.Ytplpdjpldadcmaa
open Go.ChangeShapes Go.WideShapes Go.ChangeAt Go.RowKit
set_option linter.unusedVariables false
set_option maxRecDepth 20000

theorem end_step {W H p : Int} {x : Nat} (h0 : 0 ≤ p) (h3 : p ≤ 3) : endG W H (4 * (x : Int) + p) = nextG W H x p := by
  unfold endG
  rw [Int.tdiv_eq_ediv_of_nonneg (by omega), Int.tmod_eq_emod_of_nonneg (by omega)]
  rw [show (4 * (x : Int) + p) / 4 = x by omega, show (4 * (x : Int) + p) % 4 = p by omega]

theorem ret_two {v : Value} {a b : Bool} (h : a = b) : Ending.returned (.tuple #[v, .bool a]) = Ending.returned (.tuple #[v, .bool b]) := by rw [h]
/-- A new list of numbers, and whether there is one. -/
def NewW (L : List Int) (b : Bool) (w : World) (e : Ending) (w' : World) : Prop :=
  ∃ v, e = .returned (.tuple #[v, .bool b]) ∧ w'.ownsRow w.heap.size 3 1 v L.length (intsV L) ∧ Below w.heap.size w w'
def lenW : Value → Nat | .slice _ n _ => n | _ => 0
/-- The walk has come to x. -/
def WalkTo (W H : Int) (A : Option Addr) (n cap : Nat) (L P : List Int) (z : Nat) (res : List Int) (rb : Bool) (w : World) (acc : List Int) (x : Nat) (v : Value) (wr : World) : Prop :=
  (x : Int) < countG W H ∧ acc.length ≤ cntN W H ∧ res = restG W H L P z acc (cntN W H + 1 - acc.length) x ∧ rb = restE W H L P z (cntN W H + 1 - acc.length) x ∧
  wr.ownsRow (w.heap.size + 1) 3 1 v acc.length (intsV acc) ∧ Below (w.heap.size + 1) (w.alloc (.cells (meshC W H A n cap) 38)) wr

theorem app_to {W H : Int} {A : Option Addr} {n cap : Nat} {w w4 w5 : World} {acc : List Int} {c : Int} {v v' : Value} {o : Obj} (hb : Below (w.heap.size + 1) (w.alloc (.cells (meshC W H A n cap) 38)) w4) (ho : w4.ownsRow (w.heap.size + 1) 3 1 v acc.length (intsV acc))
    (hown5 : w5.ownsRow (w.heap.size + 1) 3 1 v' (acc.length + 1) (intsV acc ++ [.int .i64 c])) (hg : (w4.alloc o).grownBy w5 v.ownBlock) :
    w5.ownsRow (w.heap.size + 1) 3 1 v' (acc ++ [c]).length (intsV (acc ++ [c])) ∧ Below (w.heap.size + 1) (w.alloc (.cells (meshC W H A n cap) 38)) w5 ∧ lenW v' = acc.length + 1 ∧
    w5.cell? ⟨w.heap.size, 0, none⟩ = some (.int .i64 W) ∧ w5.cell? ⟨w.heap.size, 1, none⟩ = some (.int .i64 H) := by
  have hsz : w.heap.size + 1 ≤ w4.heap.size := by have h1 := hb.size; simp at h1; exact h1
  have h1 : w5.ownsRow (w.heap.size + 1) 3 1 v' (acc ++ [c]).length (intsV (acc ++ [c])) := by rw [List.length_append, intsV_append]; exact hown5
  have h2 : Below (w.heap.size + 1) (w.alloc (.cells (meshC W H A n cap) 38)) w5 := (hb.alloc hsz _).grown hg (by simp; omega) (fun j hj => (ho.lt j hj).1)
  have tm := (Blk.new w 38 (meshC W H A n cap)).below h2 (by omega)
  refine ⟨h1, h2, ?_, tm.cell 0, tm.cell 1⟩
  obtain ⟨A', c', rfl, _⟩ := own_form h1
  simp [lenW]

set_option maxHeartbeats 1600000 in
theorem implWalk (W H : Int) (A : Option Addr) (n cap : Nat) (L P X : List Int) (g a z : Nat) (hL : WfL L) (w : World) (h : IntAt w w.heap.size A n L) (hn : n ≤ 1000000000)
    (hX : isPorts W H P X) (hb : Blk w g 124 (cellsX X)) (ha : (a : Int) < countG W H) (hz : (z : Int) < countG W H) :
    Calls Try.prog 104 #[.pointer (some ⟨g, 0, none⟩), .agg #[.int .i64 W, .int .i64 H, .slice A n cap], .int .i64 a, .int .i64 z] w (NewW (walkOf W H L P a z) (endsG W H L P a z) w) := by
  obtain ⟨i0, hi, hz0, hz1, hz2⟩ := info_parts info_int
  have HI := Lib.hid h
  have hg := hb.lt
  have HSQ := Lib.hid (fun (wr : World) (h : Below w.heap.size w wr) (x y : Nat) (hx : (x : Int) < countG W H) (hy : (y : Int) < countG W H) => show wr.cell? ⟨g, x * 16 + y, none⟩ = some (.int .i64 (portP (tabG (countG W H) P x y))) by
    have hc := countG_le W H
    rw [Nat.mul_comm x 16]
    exact ((hb.below h hg).cell (16 * x + y)).trans (cellsX_at (by rw [hX.1]; omega) (hX.2 x y hx hy)))
  obtain ⟨res, hres⟩ : ∃ res, walkOf W H L P a z = res := ⟨_, rfl⟩
  obtain ⟨rb, hrb⟩ : ∃ rb, endsG W H L P a z = rb := ⟨_, rfl⟩
  rw [hres, hrb]
  have hsz1 : (w.alloc (.cells (meshC W H A n cap) 38)).heap.size = w.heap.size + 1 := by simp
  have HX := Lib.hid (show WalkTo W H A n cap L P z res rb w [] a (.slice none 0 0) (w.alloc (.cells (meshC W H A n cap) 38)) from
    ⟨ha, Nat.zero_le _, by rw [← hres]; exact (rest_start a z).symm, by rw [← hrb]; rfl, World.ownsRow_nil _ _ _ _, Below.refl _ _⟩)
  have HS1 := Lib.hid hsz1
  have hki := cntN_int W H
  obtain ⟨k, hk⟩ : ∃ k, cntN W H = k := ⟨_, rfl⟩
  have hk1 := cntN_le W H
  rw [hk] at hki hk1
  have HN := Lib.hid (fun w => show Calls Try.prog 71 #[.agg #[.int .i64 W, .int .i64 H]] w (RetI (k : Int) none w) from hki ▸ implNodeCount W H w)
  have HKI := Lib.hid hki
  have HKK := Lib.hid hk
  have HZ := Lib.hid hz
  have ha16 : (a : Int) < 16 := by omega
  have hz16 : (z : Int) < 16 := by omega
  have hgne : ¬ g = w.heap.size := by omega
  have c0 := HSQ.out (w.alloc (.cells (meshC W H A n cap) 38)) (((Below.refl _ _)).alloc (Nat.le_refl _) _) a z ha hz
  obtain ⟨q, hq⟩ : ∃ q, portP (tabG (countG W H) P a z) = q := ⟨_, rfl⟩
  rw [hq] at c0
  have HQ := Lib.hid hq
  clear h hX hb hres hrb hsz1 hki hk ha hz hq
  unfold meshC at c0
  go_enter Try.func104, Try.ntmps104
  go_wp2_with fail
  clear c0
  go_loopw [10, 11, 12] (fun v s11 s12 wr => ∃ (acc : List Int) (x : Nat), s11 = .int .i64 (x : Int) ∧ s12 = .int .i64 (portP (tabG (countG W H) P x z)) ∧ WalkTo W H A n cap L P z res rb w acc x v wr) (fun v _ _ _ => 17 - lenW v)
  case atStart => exact ⟨[], a, rfl, by rw [HQ.out], HX.out⟩
  case round =>
    obtain ⟨acc, x, rfl, rfl, hx, hl, hre, hrb, hown, hbel⟩ := hrel
    rw [HKK.out] at hl hre hrb
    obtain ⟨Aq, capq, rfl, hAq⟩ := own_form hown
    have HOwn := Lib.hid hown
    have HBel := Lib.hid hbel
    have HBo := Lib.hid (below_box hbel)
    obtain ⟨f, hf⟩ : ∃ f, k + 1 - acc.length = f + 1 := ⟨k - acc.length, by omega⟩
    rw [hf] at hre hrb
    have HF := Lib.hid hf
    have HRE := Lib.hid hre
    have HRB := Lib.hid hrb
    have HXC := Lib.hid hx
    have hx16 : (x : Int) < 16 := by have := HKI.out; omega
    obtain ⟨t, ht⟩ : ∃ t, tabG (countG W H) P x z = t := ⟨_, rfl⟩
    rw [ht]
    have HT := Lib.hid ht
    have tm := (Blk.new w 38 (meshC W H A n cap)).below hbel (by omega)
    have a0 : wr.cell? ⟨w.heap.size, 0, none⟩ = some (.int .i64 W) := tm.cell 0
    have a1 : wr.cell? ⟨w.heap.size, 1, none⟩ = some (.int .i64 H) := tm.cell 1
    have a2 : wr.cell? ⟨w.heap.size, 2, none⟩ = some (.slice A n cap) := tm.cell 2
    have hsw : w.heap.size + 1 ≤ wr.heap.size := by have h1 := hbel.size; rw [HS1.out] at h1; exact h1
    clear hown hbel hre hrb hx hf ht tm hAq
    by_cases h4 : t = 4
    · subst h4
      have hp4 : portP 4 = 4 := rfl
      rw [hp4]
      clear a0 a1 a2
      by_cases hxz : x = z
      · subst hxz
        have hxb : ((x : Int) != (x : Int)) = false := by simp
        have HF2 := Lib.hid (HRE.out.trans (rest_end HT.out rfl))
        have HF3 := Lib.hid (HRB.out.trans (restE_end HT.out rfl))
        go_wp2_with fail
        go_ret2
        refine ⟨_, ret_two HF3.out.symm, ?_, HBo.out⟩
        rw [HF2.out]
        exact own_less HOwn.out (by omega)
      · have hne : (x : Int) ≠ (z : Int) := fun e => hxz (by exact_mod_cast e)
        have hxb : ((x : Int) != (z : Int)) = true := bne_iff_ne.2 hne
        have HF2 := Lib.hid (HRE.out.trans (rest_lost HT.out hne))
        have HF3 := Lib.hid (HRB.out.trans (restE_lost HT.out hne))
        clear hxz hne
        go_wp2_with fail
        go_ret2
        refine ⟨_, ret_two HF3.out.symm, ?_, HBo.out⟩
        rw [HF2.out]
        exact World.ownsRow_nil _ _ _ _
    · have H4 := Lib.hid h4
      have h4b : (portP t != 4) = true := bne_iff_ne.2 fun e => h4 (portP_four.1 e)
      obtain ⟨q, hq⟩ : ∃ q, portP t = q := ⟨_, rfl⟩
      have hqb := portP_bounds t
      rw [hq] at h4b hqb ⊢
      by_cases h0 : q < 0
      · have hst : stepsG W H L x t = false := by
          have hs : ¬ (0 ≤ t ∧ t ≤ 3) := fun e => by rw [portP_in e.1 (by omega)] at hq; omega
          simp only [stepsG, Bool.and_eq_false_iff, decide_eq_false_iff_not]; exact .inl hs
        have HF2 := Lib.hid (HRE.out.trans (rest_bad HT.out H4.out hst))
        have HF3 := Lib.hid (HRB.out.trans (restE_bad HT.out H4.out hst))
        have e1 : wrap64 (4 * (x : Int)) = 4 * (x : Int) := IntWalk.wrap64_in _ (by omega)
        have e2 : wrap64 (4 * (x : Int) + q) = 4 * (x : Int) + q := IntWalk.wrap64_in _ (by omega)
        clear hst hq h4 a0 a1 a2
        go_wp2_with fail
        go_ret2
        refine ⟨_, ret_two HF3.out.symm, ?_, HBo.out⟩
        rw [HF2.out]
        exact World.ownsRow_nil _ _ _ _
      · have hqt : t = q := portP_in_of hq (by omega)
        subst hqt
        have ht3 : t ≤ 3 := by omega
        have e1 : wrap64 (4 * (x : Int)) = 4 * (x : Int) := IntWalk.wrap64_in _ (by omega)
        have e2 : wrap64 (4 * (x : Int) + t) = 4 * (x : Int) + t := IntWalk.wrap64_in _ (by omega)
        have hcw : (Lit.int .i64 (4 * (x : Int) + t)).wf = true := WalkArith.wf_i64 (by omega)
        have hi2 := (HI.out.below HBo.out).more (B' := wr.heap.size) (by omega)
        have TM := Lib.hid ((Blk.new w 38 (meshC W H A n cap)).below HBel.out (by omega))
        cases hc : hasChG W H L (4 * (x : Int) + t) with
        | false =>
          have hst : stepsG W H L x t = false := by simp [stepsG, hc]
          have HF2 := Lib.hid (HRE.out.trans (rest_bad HT.out H4.out hst))
          have HF3 := Lib.hid (HRB.out.trans (restE_bad HT.out H4.out hst))
          have HC := Lib.hid (fun w h => implConnects W H A n cap L (4 * (x : Int) + t) false hcw hc w h hn)
          clear hst hq h4 hc hcw
          go_wp2_with fail
          refine (HC.out _ hi2).mono ?_
          rintro e w3 ⟨rfl, hg3⟩
          have G3 := Lib.hid (below_gb HBo.out (Nat.le_refl _) hg3)
          clear hg3 hi2 a0 a1 a2
          go_wp2_with fail
          go_ret2
          refine ⟨_, ret_two HF3.out.symm, ?_, G3.out⟩
          rw [HF2.out]
          exact World.ownsRow_nil _ _ _ _
        | true =>
          have hst : stepsG W H L x t = true := by simp only [stepsG, hc, Bool.and_true, decide_eq_true_eq]; omega
          have HF2 := Lib.hid (HRE.out.trans (rest_go HT.out H4.out hst))
          have HF3 := Lib.hid (HRB.out.trans (restE_go HT.out H4.out hst))
          have HC := Lib.hid (fun w h => implConnects W H A n cap L (4 * (x : Int) + t) true hcw hc w h hn)
          obtain ⟨y, hy⟩ : ∃ y : Nat, nextG W H x t = (y : Int) := ⟨(nextG W H x t).toNat, (Int.toNat_of_nonneg (hasG_iff.1 (step_has hst)).1).symm⟩
          have hyk := (hasG_iff.1 (step_has hst)).2
          rw [hy] at hyk
          have HE := Lib.hid (fun w => implEnd W H (4 * (x : Int) + t) y hcw (by rw [end_step (by omega) ht3, hy]) w)
          have HY := Lib.hid hy
          have HYK := Lib.hid hyk
          clear hst hq h4 hc hcw hy hyk
          go_wp2_with fail
          refine (HC.out _ hi2).mono ?_
          rintro e w3 ⟨rfl, hg3⟩
          have G3 := Lib.hid hg3
          have tm3 := TM.out.grown hg3 (by simp)
          have d0 : w3.cell? ⟨w.heap.size, 0, none⟩ = some (.int .i64 W) := tm3.cell 0
          have d1 : w3.cell? ⟨w.heap.size, 1, none⟩ = some (.int .i64 H) := tm3.cell 1
          clear hg3 hi2 a0 a1 a2 tm3
          go_wp2_with fail
          refine (HN.out _).mono ?_
          rintro e w4 ⟨rfl, hg4⟩
          have G4 := Lib.hid (gb_trans G3.out hg4)
          have TM4 := Lib.hid (TM.out.grown G4.out (by simp))
          clear hg4 d0 d1
          by_cases hlk : acc.length = k
          · have hf0 : f = 0 := by have := HF.out; omega
            have hlb : ((acc.length : Int) == (k : Int)) = true := beq_iff_eq.2 (by omega)
            have G5 := Lib.hid (below_gb HBo.out (Nat.le_refl _) G4.out)
            have HG2 := Lib.hid (show res = [] by rw [HF2.out, hf0]; rfl)
            have HG3 := Lib.hid (show rb = false by rw [HF3.out, hf0]; rfl)
            clear hlk hf0
            go_wp2_with fail
            go_ret2
            refine ⟨_, ret_two HG3.out.symm, ?_, G5.out⟩
            rw [HG2.out]
            exact World.ownsRow_nil _ _ _ _
          · have hlb : ((acc.length : Int) == (k : Int)) = false := beq_false_of_ne (by omega)
            have hown1 := own_none HOwn.out G4.out
            have hsz4 : w.heap.size + 1 ≤ w4.heap.size := Nat.le_trans hsw G4.out.size
            have b3' := Lib.hid (show ∀ u ∈ [Value.int .i64 (4 * (x : Int) + t)], u.oneCell' = true by simp [Value.oneCell'])
            have b4' := Lib.hid (show acc.length + 1 ≤ maxLen by unfold maxLen; omega)
            have HLK := Lib.hid (show acc.length < k by omega)
            have HB4 := Lib.hid (below_gb HBel.out (by rw [HS1.out]; exact Nat.le_refl _) G4.out)
            clear hlk
            go_wp2_with (at_builtin; refine wpList_append_own _ rfl _ _ 24 rfl (w.heap.size + 1) 3 i0 (.int .i64 0) 1 8 Try.underlying24 hi hz0 hz1 hz2 rfl (by decide) _ acc.length _ rfl (hown1.alloc _) ⟨w4.heap.size, 0, none⟩ 1 1 [.int .i64 (4 * (x : Int) + t)] rfl rfl (World.news_of_block (cs := #[.int .i64 (4 * (x : Int) + t)]) (t := 3) (fr := (0, 0)) (heap_alloc_new w4 _)) b3'.out b4'.out (by omega) (by simp; omega) ?_; intro v' w5 hown5 hgrow5 _; obtain ⟨ho5, hb5, hlv, a0, a1⟩ := app_to HB4.out hown1 hown5 hgrow5; have HO5 := Lib.hid ho5; have HB5 := Lib.hid hb5; have HLV := Lib.hid hlv; clear ho5 hb5 hlv hown5 hgrow5 hown1)
            refine (HE.out _).mono ?_
            rintro e w6 ⟨rfl, hg6⟩
            have G6 := Lib.hid hg6
            have HB6 := Lib.hid (below_gb HB5.out (by rw [HS1.out]; exact Nat.le_refl _) hg6)
            have c6 := HSQ.out w6 (below_box HB6.out) y z HYK.out HZ.out
            have y16 : (y : Int) < 16 := by have := HYK.out; have := HKI.out; omega
            obtain ⟨q6, hq6⟩ : ∃ q, portP (tabG (countG W H) P y z) = q := ⟨_, rfl⟩
            rw [hq6] at c6
            have HQ6 := Lib.hid hq6
            clear hg6 a0 a1 hq6
            go_wp2_with fail
            go_roundw
            case rel => exact ⟨acc ++ [4 * (x : Int) + t], y, rfl, by rw [HQ6.out], HYK.out, by rw [HKK.out, List.length_append]; exact HLK.out, by rw [HF2.out, HY.out, HKK.out]; congr 1; have := HF.out; simp; omega, by rw [HF3.out, HY.out, HKK.out]; congr 1; have := HF.out; simp; omega, own_none HO5.out G6.out, HB6.out⟩
            case measure => rw [HLV.out]; simp [lenW]; omega
end Go.Proofs.Ytplpdjpldadcmaa
end

section
namespace Go.Proofs.Ytplpdjpldadcmaa
open Go.ChangeShapes Go.WideShapes Go.ChangeAt Go.RowKit
set_option linter.unusedVariables false

/-- The node at the end of a channel. -/
def endC (W H c : Int) : Int := nextG W H (c / 4) (c % 4)
/-- Channel i of a route exists and begins where the one before ends. -/
def linkG (W H : Int) (L r : List Int) (i : Nat) : Bool := hasChG W H L (r.getD i 0) && (decide (i = 0) || decide (r.getD i 0 / 4 = endC W H (r.getD (i - 1) 0)))
def routeG (W H : Int) (L r : List Int) : Bool := meshG W H L && decide (0 < r.length) && (List.range r.length).all (linkG W H L r)
/-- The nodes of the first k channels. -/
def nodesTo (W H : Int) (r : List Int) (k : Nat) : List Int := (r.getD 0 0 / 4) :: (r.take k).map (endC W H)
def nodesG (W H : Int) (L r : List Int) : List Int := if routeG W H L r then nodesTo W H r r.length else []
/-- No number of a list is one of those before it, and there is one. -/
def freeAt (N : List Int) (i : Nat) : Bool := !inG (N.take i) (N.getD i 0)
def freeG (N : List Int) : Bool := decide (0 < N.length) && (List.range N.length).all (freeAt N)
def joinG (W H : Int) (L a b : List Int) : List Int := if routeG W H L (a ++ b) then a ++ b else []
/-- The channel between the same nodes in the other direction. -/
def backC (W H c : Int) : Int := 4 * endC W H c + oppG (c % 4)
/-- The channels back, from the last one on: the first k of them. -/
def backTo (W H : Int) (r : List Int) (k : Nat) : List Int := (r.reverse.take k).map (backC W H)
def backOk (W H : Int) (L r : List Int) : Bool := routeG W H L r && r.all fun c => hasChG W H L (backC W H c)
def backG (W H : Int) (L r : List Int) : List Int := if backOk W H L r then r.reverse.map (backC W H) else []

section
variable {W H : Int} {L r : List Int}
def linksTo (W H : Int) (L r : List Int) (k : Nat) : Prop := ∀ j, j < k → linkG W H L r j = true
theorem links_zero : linksTo W H L r 0 := fun _ h => by omega
theorem links_succ {k : Nat} (h : linksTo W H L r k) (hk : linkG W H L r k = true) : linksTo W H L r (k + 1) := fun j hj => by
  rcases Nat.lt_succ_iff_lt_or_eq.1 hj with h1 | rfl
  · exact h j h1
  · exact hk
theorem route_yes (hm : meshG W H L = true) (h0 : 0 < r.length) (h : linksTo W H L r r.length) : routeG W H L r = true := by
  simp only [routeG, hm, Bool.true_and, decide_eq_true h0, List.all_eq_true, List.mem_range]; exact h
theorem route_no {i : Nat} (hi : i < r.length) (h : linkG W H L r i = false) : routeG W H L r = false := by
  cases hr : routeG W H L r with
  | false => rfl
  | true =>
    simp only [routeG, Bool.and_eq_true, List.all_eq_true, List.mem_range] at hr
    have := hr.2 i hi
    rw [h] at this
    cases this
theorem route_mesh (h : meshG W H L = false) : routeG W H L r = false := by simp [routeG, h]
theorem route_nil : routeG W H L [] = false := by simp [routeG]
theorem route_all (h : routeG W H L r = true) : meshG W H L = true ∧ 0 < r.length ∧ linksTo W H L r r.length := by
  simp only [routeG, Bool.and_eq_true, List.all_eq_true, List.mem_range, decide_eq_true_eq] at h
  exact ⟨h.1.1, h.1.2, h.2⟩
theorem route_pos (h : routeG W H L r = true) : 0 < r.length := (route_all h).2.1
theorem link_has {i : Nat} (h : linkG W H L r i = true) : hasChG W H L (r.getD i 0) = true := by simp only [linkG, Bool.and_eq_true] at h; exact h.1
theorem link_lost {i : Nat} {c : Int} (hc : r.getD i 0 = c) (h : hasChG W H L c = false) : linkG W H L r i = false := by unfold linkG; rw [hc, h, Bool.false_and]
theorem link_first {c : Int} (hc : r.getD 0 0 = c) (h : hasChG W H L c = true) : linkG W H L r 0 = true := by simp only [linkG, hc, h, decide_true, Bool.true_or, Bool.and_self]
theorem link_next {i : Nat} {c x : Int} (hc : r.getD (i + 1) 0 = c) (hx : endC W H (r.getD i 0) = x) (h : hasChG W H L c = true) : linkG W H L r (i + 1) = decide (c / 4 = x) := by
  simp only [linkG, Nat.add_sub_cancel, hc, hx, h, Bool.true_and]
  simp
/-- Where the first k channels have led. -/
def atR (W H : Int) (r : List Int) (k : Nat) : Int := if k = 0 then r.getD 0 0 / 4 else endC W H (r.getD (k - 1) 0)
theorem link_at {k : Nat} {c : Int} (hc : r.getD k 0 = c) (h : hasChG W H L c = true) : linkG W H L r k = decide (c / 4 = atR W H r k) := by
  cases k with
  | zero => rw [link_first hc h, atR, if_pos rfl, hc]; simp
  | succ k => rw [link_next hc rfl h, atR, if_neg (by omega), Nat.add_sub_cancel]
theorem atR_succ (k : Nat) : atR W H r (k + 1) = endC W H (r.getD k 0) := by rw [atR, if_neg (by omega), Nat.add_sub_cancel]
theorem route_snoc {k : Nat} {c : Int} (hk : k < r.length) (hc : r.getD k 0 = c) : r.take (k + 1) = r.take k ++ [c] := by
  rw [List.take_add_one, List.getElem?_eq_getElem hk, ← hc, List.getD_eq_getElem?_getD, List.getElem?_eq_getElem hk]; rfl
theorem nodesTo_zero : nodesTo W H r 0 = [r.getD 0 0 / 4] := rfl
theorem nodesTo_succ {k : Nat} {c : Int} (hk : k < r.length) (hc : r.getD k 0 = c) : nodesTo W H r (k + 1) = nodesTo W H r k ++ [endC W H c] := by
  unfold nodesTo
  rw [route_snoc hk hc]
  simp
theorem nodesTo_len {k : Nat} (hk : k ≤ r.length) : (nodesTo W H r k).length = k + 1 := by simp [nodesTo]; omega
theorem nodesTo_last {k : Nat} (hk : k ≤ r.length) : (nodesTo W H r k).getD k 0 = atR W H r k := by
  cases k with
  | zero => rfl
  | succ k =>
    have hl := nodesTo_len (W := W) (H := H) (r := r) (k := k) (by omega)
    rw [nodesTo_succ (c := r.getD k 0) (by omega) rfl, atR_succ, List.getD_eq_getElem?_getD, List.getElem?_append_right (by omega), hl, Nat.sub_self]
    rfl
theorem nodes_yes (h : routeG W H L r = true) : nodesG W H L r = nodesTo W H r r.length := if_pos h
theorem nodes_no (h : routeG W H L r = false) : nodesG W H L r = [] := by simp [nodesG, h]
theorem nodes_len (h : routeG W H L r = true) : (nodesG W H L r).length = r.length + 1 := by rw [nodes_yes h, nodesTo_len (Nat.le_refl _)]
theorem nodes_pos : decide (0 < (nodesG W H L r).length) = routeG W H L r := by
  cases h : routeG W H L r with
  | false => rw [nodes_no h]; rfl
  | true => rw [nodes_len h]; simp
theorem nodes_le : (nodesG W H L r).length ≤ r.length + 1 := by
  cases h : routeG W H L r with
  | false => rw [nodes_no h]; simp
  | true => exact Nat.le_of_eq (nodes_len h)

def freeTo (N : List Int) (k : Nat) : Prop := ∀ j, j < k → freeAt N j = true
theorem free_zero (N : List Int) : freeTo N 0 := fun _ h => by omega
theorem free_succ {N : List Int} {k : Nat} (h : freeTo N k) (hk : freeAt N k = true) : freeTo N (k + 1) := fun j hj => by
  rcases Nat.lt_succ_iff_lt_or_eq.1 hj with h1 | rfl
  · exact h j h1
  · exact hk
theorem free_yes {N : List Int} (h : freeTo N N.length) : freeG N = decide (0 < N.length) := by
  have : (List.range N.length).all (freeAt N) = true := by simp only [List.all_eq_true, List.mem_range]; exact h
  simp [freeG, this]
theorem free_no {N : List Int} {i : Nat} (hi : i < N.length) (h : freeAt N i = false) : freeG N = false := by
  have : (List.range N.length).all (freeAt N) = false := by rw [List.all_eq_false]; exact ⟨i, List.mem_range.2 hi, by rw [h]; decide⟩
  simp [freeG, this]
theorem free_at {N : List Int} {i : Nat} {x : Int} {b : Bool} (hx : N.getD i 0 = x) (h : inG (N.take i) x = b) : freeAt N i = !b := by simp only [freeAt, hx, h]

theorem back_zero : backTo W H r 0 = [] := rfl
theorem rev_at {k : Nat} {c : Int} (hk : k < r.length) (hc : r.getD (r.length - 1 - k) 0 = c) : r.reverse[k]? = some c := by
  rw [List.getElem?_reverse hk, ← hc, List.getD_eq_getElem?_getD, List.getElem?_eq_getElem (by omega)]; rfl
theorem back_succ {k : Nat} {c : Int} (hk : k < r.length) (hc : r.getD (r.length - 1 - k) 0 = c) : backTo W H r (k + 1) = backTo W H r k ++ [backC W H c] := by
  unfold backTo
  rw [List.take_add_one, rev_at hk hc]
  simp
theorem back_len {k : Nat} (hk : k ≤ r.length) : (backTo W H r k).length = k := by simp [backTo]; omega
theorem back_full : backTo W H r r.length = r.reverse.map (backC W H) := by unfold backTo; rw [List.take_of_length_le (by simp)]
/-- The first k channels back exist. -/
def backsTo (W H : Int) (L r : List Int) (k : Nat) : Prop := ∀ j, j < k → hasChG W H L (backC W H (r.getD (r.length - 1 - j) 0)) = true
theorem backs_zero : backsTo W H L r 0 := fun _ h => by omega
theorem backs_succ {k : Nat} {c : Int} (h : backsTo W H L r k) (hc : r.getD (r.length - 1 - k) 0 = c) (hk : hasChG W H L (backC W H c) = true) : backsTo W H L r (k + 1) := fun j hj => by
  rcases Nat.lt_succ_iff_lt_or_eq.1 hj with h1 | rfl
  · exact h j h1
  · rw [hc]; exact hk
theorem backs_all (h : backsTo W H L r r.length) : (r.all fun c => hasChG W H L (backC W H c)) = true := by
  rw [List.all_eq_true]
  intro c hc
  obtain ⟨j, hj, rfl⟩ := List.getElem_of_mem hc
  have := h (r.length - 1 - j) (by omega)
  rw [show r.length - 1 - (r.length - 1 - j) = j by omega, List.getD_eq_getElem?_getD, List.getElem?_eq_getElem hj] at this
  exact this
theorem backOk_yes (hr : routeG W H L r = true) (h : backsTo W H L r r.length) : backOk W H L r = true := by rw [backOk, hr, backs_all h]; rfl
theorem backOk_no {c : Int} {i : Nat} (hi : i < r.length) (hc : r.getD i 0 = c) (h : hasChG W H L (backC W H c) = false) : backOk W H L r = false := by
  have hm : c ∈ r := by rw [← hc, List.getD_eq_getElem?_getD, List.getElem?_eq_getElem hi]; exact List.getElem_mem hi
  cases hb : backOk W H L r with
  | false => rfl
  | true =>
    simp only [backOk, Bool.and_eq_true, List.all_eq_true] at hb
    have := hb.2 c hm
    rw [h] at this
    cases this
theorem backOk_route (h : routeG W H L r = false) : backOk W H L r = false := by simp [backOk, h]
theorem backG_yes (h : backOk W H L r = true) : backG W H L r = backTo W H r r.length := by rw [backG, if_pos h, back_full]
theorem backG_no (h : backOk W H L r = false) : backG W H L r = [] := by simp [backG, h]
theorem backG_le : (backG W H L r).length ≤ r.length := by
  cases h : backOk W H L r with
  | false => rw [backG_no h]; simp
  | true => rw [backG_yes h, back_len (Nat.le_refl _)]; exact Nat.le_refl _
theorem joinG_yes {a b : List Int} (h : routeG W H L (a ++ b) = true) : joinG W H L a b = a ++ b := if_pos h
theorem joinG_no {a b : List Int} (h : routeG W H L (a ++ b) = false) : joinG W H L a b = [] := by simp [joinG, h]
theorem joinG_le {a b : List Int} : (joinG W H L a b).length ≤ a.length + b.length := by
  unfold joinG
  split
  · simp
  · simp
theorem endC_le (W H c : Int) : -1 ≤ endC W H c ∧ endC W H c ≤ 15 := nextG_le _ _ _ _
theorem oppG_le (p : Int) : -1 ≤ oppG p ∧ oppG p ≤ 4 := by
  unfold oppG
  repeat' split
  all_goals omega
theorem backC_le (W H c : Int) : -5 ≤ backC W H c ∧ backC W H c ≤ 64 := by
  have h1 := endC_le W H c
  have h2 := oppG_le (c % 4)
  unfold backC; omega
theorem has_leads {c : Int} (h : hasChG W H L c = true) : 0 ≤ c ∧ c < 4 * countG W H ∧ 0 ≤ endC W H c := by
  simp only [hasChG, Bool.and_eq_true, leadsG, decide_eq_true_eq] at h
  exact h.1
theorem has_ok {c : Int} (h : hasChG W H L c = true) : okG W H = true := by
  have h1 := (has_leads h).2.2
  unfold endC nextG at h1
  split at h1
  · rename_i hh; exact (hasG_ok hh).1
  · omega
/-- The nodes of the first k channels, the first node being z. -/
def nodesZ (W H : Int) (r : List Int) (z : Int) (k : Nat) : List Int := z :: (r.take k).map (endC W H)
def atZ (W H : Int) (r : List Int) (z : Int) (k : Nat) : Int := if k = 0 then z else endC W H (r.getD (k - 1) 0)
theorem nodesZ_zero (z : Int) : nodesZ W H r z 0 = [z] := rfl
theorem nodesZ_succ {z : Int} {k : Nat} {c : Int} (hk : k < r.length) (hc : r.getD k 0 = c) : nodesZ W H r z (k + 1) = nodesZ W H r z k ++ [endC W H c] := by
  unfold nodesZ
  rw [route_snoc hk hc]
  simp
theorem nodesZ_len {z : Int} {k : Nat} (hk : k ≤ r.length) : (nodesZ W H r z k).length = k + 1 := by simp [nodesZ]; omega
theorem atZ_succ (z : Int) {k : Nat} {c y : Int} (hc : r.getD k 0 = c) (hy : endC W H c = y) : atZ W H r z (k + 1) = y := by rw [atZ, if_neg (by omega), Nat.add_sub_cancel, hc, hy]
theorem link_z {z : Int} {k : Nat} {c : Int} (hz : 0 ≤ r.getD 0 0 → z = r.getD 0 0 / 4) (hc : r.getD k 0 = c) (h : hasChG W H L c = true) (h0 : 0 ≤ c) : linkG W H L r k = decide (c / 4 = atZ W H r z k) := by
  rw [link_at hc h]
  cases k with
  | zero => rw [atR, atZ, if_pos rfl, if_pos rfl, hz (by rw [hc]; exact h0)]
  | succ k => rw [atR, atZ, if_neg (by omega), if_neg (by omega)]
theorem nodes_z {z : Int} (hz : 0 ≤ r.getD 0 0 → z = r.getD 0 0 / 4) (hm : meshG W H L = true) (h0 : 0 < r.length) (h : linksTo W H L r r.length) : nodesG W H L r = nodesZ W H r z r.length := by
  have hl := (has_leads (link_has (h 0 h0))).1
  rw [nodes_yes (route_yes hm h0 h), nodesTo, nodesZ, hz hl]
end
end Go.Proofs.Ytplpdjpldadcmaa
end

section
namespace Go.Proofs.Ytplpdjpldadcmaa
open Go.ChangeShapes Go.WideShapes Go.ChangeAt Go.RowKit
set_option linter.unusedVariables false

theorem place_at {W H x y : Int} (hok : okG W H = true) (hx0 : 0 ≤ x) (hx1 : x < W) (hy0 : 0 ≤ y) (hy1 : y < H) :
    hasG W H (y * W + x) = true ∧ (y * W + x) % W = x ∧ (y * W + x) / W = y := by
  obtain ⟨hW, hH⟩ := okG_cases hok
  have hc : countG W H = W * H := by simp [countG, hok]
  rw [hasG_iff, hc]
  rcases hW with rfl | rfl | rfl | rfl <;> rcases hH with rfl | rfl | rfl | rfl <;> omega
theorem atG_of {W H x y : Int} (h : 0 ≤ atG W H x y) : okG W H = true ∧ 0 ≤ x ∧ x < W ∧ 0 ≤ y ∧ y < H ∧ atG W H x y = y * W + x := by
  unfold atG at h ⊢
  split at h
  · rename_i hc
    exact ⟨hc.1, hc.2.1, hc.2.2.1, hc.2.2.2.1, hc.2.2.2.2, by rw [if_pos hc]⟩
  · omega
theorem atG_in {W H x y : Int} (hok : okG W H = true) (hx0 : 0 ≤ x) (hx1 : x < W) (hy0 : 0 ≤ y) (hy1 : y < H) : atG W H x y = y * W + x := by
  unfold atG
  rw [if_pos ⟨hok, hx0, hx1, hy0, hy1⟩]
theorem next0 {W H n : Int} (h : hasG W H n = true) : nextG W H n 0 = atG W H (n % W) (n / W - 1) := by simp [nextG, h]
theorem next1 {W H n : Int} (h : hasG W H n = true) : nextG W H n 1 = atG W H (n % W + 1) (n / W) := by simp [nextG, h]
theorem next2 {W H n : Int} (h : hasG W H n = true) : nextG W H n 2 = atG W H (n % W) (n / W + 1) := by simp [nextG, h]
theorem next3 {W H n : Int} (h : hasG W H n = true) : nextG W H n 3 = atG W H (n % W - 1) (n / W) := by simp [nextG, h]
theorem next4 {W H n : Int} (h : hasG W H n = true) : nextG W H n 4 = n := by simp [nextG, h]

/-- One step to (dx, dy), and back. -/
theorem step_back {W H a b dx dy : Int} (ha : hasG W H a = true) (hb : atG W H (a % W + dx) (a / W + dy) = b) (h0 : 0 ≤ b) (hd : absI dx + absI dy = 1) :
    hasG W H b = true ∧ b % W = a % W + dx ∧ b / W = a / W + dy ∧ distG W H a b = 1 ∧ atG W H (b % W - dx) (b / W - dy) = a := by
  obtain ⟨hok, x0, x1, y0, y1, he⟩ := atG_of (by rw [hb]; exact h0)
  obtain ⟨p1, p2, p3⟩ := place_at hok x0 x1 y0 y1
  have hbe : b = (a / W + dy) * W + (a % W + dx) := by rw [← hb]; exact he
  rw [← hbe] at p1 p2 p3
  obtain ⟨q0, q1, q2, q3, q4⟩ := place_of ha
  refine ⟨p1, p2, p3, ?_, ?_⟩
  · rw [distG_ok ha p1, p2, p3, show a % W - (a % W + dx) = -dx by omega, show a / W - (a / W + dy) = -dy by omega, absI_neg, absI_neg]
    exact hd
  · rw [p2, p3, show a % W + dx - dx = a % W by omega, show a / W + dy - dy = a / W by omega, atG_in hok q0 q1 q2 q3, q4]

/-- What the law on neighbors asks of one port. -/
theorem neigh_fact {W H a q : Int} (ha : hasG W H a = true) (h0 : 0 ≤ q) (h1 : q ≤ 3) :
    ∃ b o : Int, nextG W H a q = b ∧ oppG q = o ∧ 0 ≤ o ∧ o ≤ 3 ∧ o ≠ q ∧ oppG o = q ∧ (0 ≤ b → nextG W H b o = a ∧ distG W H a b = 1) ∧ -1 ≤ b ∧ b ≤ 15 := by
  have hle := nextG_le W H a q
  have hq : q = 0 ∨ q = 1 ∨ q = 2 ∨ q = 3 := by omega
  rcases hq with rfl | rfl | rfl | rfl
  · refine ⟨_, 2, rfl, by decide, by omega, by omega, by omega, by decide, fun hb => ?_, hle⟩
    have hn := next0 ha
    obtain ⟨k1, k2, k3, k4, k5⟩ := step_back (dx := 0) (dy := -1) ha (b := nextG W H a 0) (by rw [hn, show a % W + 0 = a % W by omega, show a / W + -1 = a / W - 1 by omega]) hb (by decide)
    refine ⟨?_, k4⟩
    rw [next2 k1]
    rwa [show nextG W H a 0 % W - 0 = nextG W H a 0 % W by omega, show nextG W H a 0 / W - -1 = nextG W H a 0 / W + 1 by omega] at k5
  · refine ⟨_, 3, rfl, by decide, by omega, by omega, by omega, by decide, fun hb => ?_, hle⟩
    have hn := next1 ha
    obtain ⟨k1, k2, k3, k4, k5⟩ := step_back (dx := 1) (dy := 0) ha (b := nextG W H a 1) (by rw [hn, show a / W + 0 = a / W by omega]) hb (by decide)
    refine ⟨?_, k4⟩
    rw [next3 k1]
    rwa [show nextG W H a 1 / W - 0 = nextG W H a 1 / W by omega] at k5
  · refine ⟨_, 0, rfl, by decide, by omega, by omega, by omega, by decide, fun hb => ?_, hle⟩
    have hn := next2 ha
    obtain ⟨k1, k2, k3, k4, k5⟩ := step_back (dx := 0) (dy := 1) ha (b := nextG W H a 2) (by rw [hn, show a % W + 0 = a % W by omega]) hb (by decide)
    refine ⟨?_, k4⟩
    rw [next0 k1]
    rwa [show nextG W H a 2 % W - 0 = nextG W H a 2 % W by omega] at k5
  · refine ⟨_, 1, rfl, by decide, by omega, by omega, by omega, by decide, fun hb => ?_, hle⟩
    have hn := next3 ha
    obtain ⟨k1, k2, k3, k4, k5⟩ := step_back (dx := -1) (dy := 0) ha (b := nextG W H a 3) (by rw [hn, show a / W + 0 = a / W by omega, show a % W + -1 = a % W - 1 by omega]) hb (by decide)
    refine ⟨?_, k4⟩
    rw [next1 k1]
    rwa [show nextG W H a 3 / W - 0 = nextG W H a 3 / W by omega, show nextG W H a 3 % W - -1 = nextG W H a 3 % W + 1 by omega] at k5
end Go.Proofs.Ytplpdjpldadcmaa
end

section
namespace Go.Proofs.Ytplpdjpldadcmaa
open Go.ChangeShapes Go.WideShapes Go.ChangeAt Go.RowKit
set_option linter.unusedVariables false

section
variable {W H : Int} {L r : List Int}
/-- The channel back of a channel that leads somewhere. -/
theorem back_lead {c : Int} (h0 : 0 ≤ c) (h1 : c < 4 * countG W H) (h2 : 0 ≤ endC W H c) : leadsG W H (backC W H c) = true ∧ backC W H c / 4 = endC W H c ∧ endC W H (backC W H c) = c / 4 ∧ backC W H (backC W H c) = c := by
  have ha : hasG W H (c / 4) = true := hasG_iff.2 ⟨by omega, by omega⟩
  obtain ⟨b, o, hb, ho, o0, o3, _, hoo, hbk, _⟩ := neigh_fact (q := c % 4) ha (by omega) (by omega)
  have he : endC W H c = b := hb
  have hbb : backC W H c = 4 * b + o := by rw [backC, he, ho]
  rw [he] at h2 ⊢
  have h4 : (4 * b + o) / 4 = b := by omega
  have h5 : (4 * b + o) % 4 = o := by omega
  have h6 : endC W H (4 * b + o) = c / 4 := by rw [endC, h4, h5]; exact (hbk h2).1
  have hh := (hasG_iff.1 (next_has (W := W) (H := H) (n := c / 4) (p := c % 4) (by rw [hb]; exact h2))).2
  rw [hb] at hh
  rw [hbb]
  refine ⟨?_, h4, h6, ?_⟩
  · have h7 : 0 ≤ nextG W H ((4 * b + o) / 4) ((4 * b + o) % 4) := by show 0 ≤ endC W H (4 * b + o); rw [h6]; omega
    simp only [leadsG, decide_eq_true_eq]
    exact ⟨by omega, by omega, h7⟩
  · rw [backC, h6, h5, hoo]; omega
theorem back_has {c : Int} (h : hasChG W H L c = true) : leadsG W H (backC W H c) = true ∧ backC W H c / 4 = endC W H c ∧ endC W H (backC W H c) = c / 4 ∧ backC W H (backC W H c) = c := by
  obtain ⟨h0, h1, h2⟩ := has_leads h
  exact back_lead h0 h1 h2
theorem route_at (h : routeG W H L r = true) {j : Nat} (hj : j < r.length) : hasChG W H L (r.getD j 0) = true ∧ r.getD j 0 / 4 = atR W H r j := by
  have hl := (route_all h).2.2 j hj
  have hh := link_has hl
  refine ⟨hh, ?_⟩
  rw [link_at rfl hh] at hl
  exact of_decide_eq_true hl
theorem nodes_at (h : routeG W H L r = true) {j : Nat} (hj : j ≤ r.length) : (nodesG W H L r).getD j 0 = atR W H r j := by
  rw [nodes_yes h, nodesTo, List.take_of_length_le (Nat.le_refl _)]
  cases j with
  | zero => rfl
  | succ j => rw [atR_succ, List.getD_cons_succ, List.getD_eq_getElem?_getD, List.getElem?_map, List.getD_eq_getElem?_getD, List.getElem?_eq_getElem (by omega)]; rfl
theorem rev_get (hn : 0 < r.length) {j : Nat} (hj : j < r.length) : (r.reverse.map (backC W H)).getD j 0 = backC W H (r.getD (r.length - 1 - j) 0) := by
  rw [List.getD_eq_getElem?_getD, List.getElem?_map, List.getElem?_reverse hj, List.getD_eq_getElem?_getD, List.getElem?_eq_getElem (by omega)]; rfl
theorem backOk_all (h : backOk W H L r = true) : routeG W H L r = true ∧ ∀ j, j < r.length → hasChG W H L (backC W H (r.getD j 0)) = true := by
  simp only [backOk, Bool.and_eq_true, List.all_eq_true] at h
  refine ⟨h.1, fun j hj => h.2 _ ?_⟩
  rw [List.getD_eq_getElem?_getD, List.getElem?_eq_getElem hj]
  exact List.getElem_mem hj
/-- The route back. -/
theorem back_route (h : backOk W H L r = true) : routeG W H L (backG W H L r) = true ∧ (backG W H L r).length = r.length ∧
    (∀ j, j < r.length → (backG W H L r).getD j 0 = backC W H (r.getD (r.length - 1 - j) 0)) ∧ ∀ j, j ≤ r.length → atR W H (backG W H L r) j = atR W H r (r.length - j) := by
  obtain ⟨hr, hb⟩ := backOk_all h
  have hn := route_pos hr
  have hB : backG W H L r = r.reverse.map (backC W H) := if_pos h
  have hlen : (backG W H L r).length = r.length := by rw [hB]; simp
  have hg : ∀ j, j < r.length → (backG W H L r).getD j 0 = backC W H (r.getD (r.length - 1 - j) 0) := fun j hj => by rw [hB]; exact rev_get hn hj
  have hat : ∀ j, j ≤ r.length → atR W H (backG W H L r) j = atR W H r (r.length - j) := fun j hj => by
    cases j with
    | zero =>
      rw [atR, if_pos rfl, hg 0 hn, (back_has (route_at hr (j := r.length - 1 - 0) (by omega)).1).2.1, atR, if_neg (by omega)]
      congr 2
    | succ j =>
      obtain ⟨q1, q2⟩ := route_at hr (j := r.length - 1 - j) (by omega)
      rw [atR_succ, hg j (by omega), (back_has q1).2.2.1, q2]
      congr 1
      omega
  refine ⟨route_yes (route_all hr).1 (by omega) (fun j hj => ?_), hlen, hg, hat⟩
  rw [hlen] at hj
  have q1 := (route_at hr (j := r.length - 1 - j) (by omega)).1
  rw [link_at (hg j hj) (hb _ (by omega)), hat j (by omega), (back_has q1).2.1, atR, if_neg (by omega)]
  refine decide_eq_true ?_
  congr 2
  omega
theorem back_back (h : backOk W H L r = true) : backOk W H L (backG W H L r) = true ∧ backG W H L (backG W H L r) = r := by
  obtain ⟨hr, hb⟩ := backOk_all h
  obtain ⟨h1, h2, h3, h4⟩ := back_route h
  have hall : backsTo W H L (backG W H L r) (backG W H L r).length := fun j hj => by
    rw [h2] at hj
    rw [h2, h3 _ (by omega)]
    have q1 := (route_at hr (j := r.length - 1 - (r.length - 1 - j)) (by omega)).1
    rw [(back_has q1).2.2.2]
    exact q1
  have hk := backOk_yes h1 hall
  refine ⟨hk, ?_⟩
  obtain ⟨_, g2, g3, _⟩ := back_route hk
  refine List.ext_getElem (by rw [g2, h2]) fun i i1 i2 => ?_
  have e1 := g3 i (by rw [h2]; omega)
  rw [h2, h3 _ (by omega)] at e1
  have q1 := (route_at hr (j := r.length - 1 - (r.length - 1 - i)) (by omega)).1
  rw [(back_has q1).2.2.2] at e1
  rw [List.getD_eq_getElem?_getD, List.getD_eq_getElem?_getD, List.getElem?_eq_getElem (by omega), List.getElem?_eq_getElem (by omega)] at e1
  simp only [Option.getD_some] at e1
  rw [e1]
  congr 1
  omega
theorem back_round (h : backOk W H L r = true) : routeG W H L (r ++ backG W H L r) = true := by
  obtain ⟨hr, hb⟩ := backOk_all h
  obtain ⟨h1, h2, h3, h4⟩ := back_route h
  have ga : ∀ j, j < r.length → (r ++ backG W H L r).getD j 0 = r.getD j 0 := fun j hj => by
    rw [List.getD_eq_getElem?_getD, List.getD_eq_getElem?_getD, List.getElem?_append_left hj]
  have gb : ∀ j, (r ++ backG W H L r).getD (r.length + j) 0 = (backG W H L r).getD j 0 := fun j => by
    rw [List.getD_eq_getElem?_getD, List.getD_eq_getElem?_getD, List.getElem?_append_right (by omega), Nat.add_sub_cancel_left]
  refine route_yes (route_all hr).1 (by rw [List.length_append]; have := route_pos hr; omega) (fun i hi => ?_)
  rw [List.length_append, h2] at hi
  have hn := route_pos hr
  rcases Nat.lt_or_ge i r.length with hlt | hge
  · obtain ⟨q1, q2⟩ := route_at hr hlt
    rw [link_at (ga i hlt) q1, q2]
    refine decide_eq_true ?_
    cases i with
    | zero => rw [atR, atR, if_pos rfl, if_pos rfl, ga 0 hn]
    | succ i => rw [atR_succ, atR_succ, ga i (by omega)]
  · obtain ⟨j, rfl⟩ : ∃ j, i = r.length + j := ⟨i - r.length, by omega⟩
    obtain ⟨q1, q2⟩ := route_at h1 (j := j) (by omega)
    rw [link_at (gb j) q1, q2]
    refine decide_eq_true ?_
    rw [h4 j (by omega)]
    cases j with
    | zero =>
      have : r.length - 0 = r.length := by omega
      rw [this]
      obtain ⟨m, hm⟩ : ∃ m, r.length = m + 1 := ⟨r.length - 1, by omega⟩
      rw [Nat.add_zero, hm, atR_succ, atR_succ, ga m (by omega)]
    | succ j =>
      rw [show r.length + (j + 1) = (r.length + j) + 1 by omega, atR_succ, gb j, ← atR_succ, h4 (j + 1) (by omega)]
/-- Without broken channels every route can be turned back. -/
theorem back_free (h : routeG W H [] r = true) : backOk W H [] r = true := by
  refine backOk_yes h (fun j hj => ?_)
  have q1 := (route_at h (j := r.length - 1 - j) (by omega)).1
  simp only [hasChG, (back_has q1).1, inG]
  rfl

/-- A list grows by a channel that begins where it has led. -/
theorem links_push {c : Int} (h : linksTo W H L r r.length) (hc : hasChG W H L c = true) (hx : 0 < r.length → c / 4 = atR W H r r.length) :
    linksTo W H L (r ++ [c]) (r ++ [c]).length ∧ atR W H (r ++ [c]) (r ++ [c]).length = endC W H c := by
  have ga : ∀ j, j < r.length → (r ++ [c]).getD j 0 = r.getD j 0 := fun j hj => by
    rw [List.getD_eq_getElem?_getD, List.getD_eq_getElem?_getD, List.getElem?_append_left hj]
  have gc : (r ++ [c]).getD r.length 0 = c := by
    rw [List.getD_eq_getElem?_getD, List.getElem?_append_right (Nat.le_refl _), Nat.sub_self]; rfl
  have hl : (r ++ [c]).length = r.length + 1 := by simp
  refine ⟨?_, by rw [hl, atR_succ, gc]⟩
  rw [hl]
  refine links_succ (fun j hj => ?_) ?_
  · have := h j hj
    cases j with
    | zero => rw [linkG, ga 0 hj]; rw [linkG] at this; simpa using this
    | succ j => rw [linkG, ga _ hj, Nat.add_sub_cancel, ga j (by omega)]; rw [linkG, Nat.add_sub_cancel] at this; exact this
  · rw [link_at gc hc]
    refine decide_eq_true ?_
    rcases Nat.eq_zero_or_pos r.length with h0 | h0
    · rw [h0, atR, if_pos rfl]
      rw [h0] at gc
      rw [gc]
    · rw [hx h0]
      obtain ⟨m, hm⟩ : ∃ m, r.length = m + 1 := ⟨r.length - 1, by omega⟩
      rw [hm, atR_succ, atR_succ, ga m (by omega)]

variable {P : List Int}
/-- A walk of a table, channel by channel. -/
theorem walk_cases {z a : Int} {f : Nat} {l : List Int} (h : walkF W H L P z (f + 1) a = some l) :
    (l = [] ∧ a = z) ∨ ∃ c t, l = c :: t ∧ c = 4 * a + tabG (countG W H) P a z ∧ hasChG W H L c = true ∧ c / 4 = a ∧ c % 4 = tabG (countG W H) P a z ∧ walkF W H L P z f (endC W H c) = some t := by
  rw [walkF] at h
  split at h
  · split at h
    · rename_i e
      cases h
      exact .inl ⟨rfl, e⟩
    · cases h
  · split at h
    · rename_i h4 hs
      rw [Option.map_eq_some_iff] at h
      obtain ⟨t, ht, rfl⟩ := h
      obtain ⟨p0, p3, hc⟩ := steps_next hs
      have e1 : (4 * a + tabG (countG W H) P a z) / 4 = a := by omega
      have e2 : (4 * a + tabG (countG W H) P a z) % 4 = tabG (countG W H) P a z := by omega
      exact .inr ⟨_, t, rfl, rfl, hc, e1, e2, by rw [endC, e1, e2]; exact ht⟩
    · cases h
theorem walk_det {z : Int} : ∀ (f g : Nat) (a : Int) (l m : List Int), walkF W H L P z f a = some l → walkF W H L P z g a = some m → l = m
  | 0, _, _, _, _, h, _ => by simp [walkF] at h
  | _ + 1, 0, _, _, _, _, h => by simp [walkF] at h
  | f + 1, g + 1, a, l, m, h1, h2 => by
    rw [walkF] at h1 h2
    split at h1
    · rename_i h4
      rw [if_pos h4] at h2
      split at h1
      · rename_i e
        rw [if_pos e] at h2
        cases h1; cases h2; rfl
      · cases h1
    · rename_i h4
      rw [if_neg h4] at h2
      split at h1
      · rename_i hs
        rw [if_pos hs] at h2
        rw [Option.map_eq_some_iff] at h1 h2
        obtain ⟨t, ht, rfl⟩ := h1
        obtain ⟨u, hu, rfl⟩ := h2
        rw [walk_det f g _ t u ht hu]
      · cases h1
/-- What lies behind the first j channels of a walk is the walk from where they lead. -/
theorem walk_drop {z : Int} : ∀ (f : Nat) (a : Int) (l : List Int), walkF W H L P z f a = some l → ∀ j, j ≤ l.length →
    ∃ g, walkF W H L P z g (if j = 0 then a else endC W H (l.getD (j - 1) 0)) = some (l.drop j)
  | 0, _, _, h, _, _ => by simp [walkF] at h
  | f + 1, a, l, h, 0, _ => ⟨f + 1, by rw [if_pos rfl]; exact h⟩
  | f + 1, a, l, h, j + 1, hj => by
    rcases walk_cases h with ⟨rfl, _⟩ | ⟨c, t, rfl, _, _, _, _, ht⟩
    · simp at hj
    · obtain ⟨g, hg⟩ := walk_drop f _ t ht j (by simpa using hj)
      refine ⟨g, ?_⟩
      rw [if_neg (by omega), Nat.add_sub_cancel, List.drop_succ_cons]
      cases j with
      | zero => rw [if_pos rfl] at hg; exact hg
      | succ j => rw [if_neg (by omega), Nat.add_sub_cancel] at hg; rw [List.getD_cons_succ]; exact hg
theorem walk_links {z : Int} : ∀ (f : Nat) (a : Int) (l : List Int), walkF W H L P z f a = some l → linksTo W H L l l.length ∧ (0 < l.length → l.getD 0 0 / 4 = a ∧ l.getD 0 0 % 4 = tabG (countG W H) P a z ∧ atR W H l l.length = z) ∧ (l = [] → a = z)
  | 0, _, _, h => by simp [walkF] at h
  | f + 1, a, l, h => by
    rcases walk_cases h with ⟨rfl, e⟩ | ⟨c, t, rfl, hc, hh, h4, h5, ht⟩
    · exact ⟨links_zero, fun h => absurd h (by simp), fun _ => e⟩
    · obtain ⟨h1, h2, h3⟩ := walk_links f _ t ht
      refine ⟨fun j hj => ?_, fun _ => ⟨h4, h5, ?_⟩, fun e => by cases e⟩
      · cases j with
        | zero => exact link_first rfl hh
        | succ j =>
          have hj' : j < t.length := by simpa using hj
          have q := h1 j hj'
          have qh := link_has q
          rw [link_next (c := t.getD j 0) (x := endC W H ((c :: t).getD j 0)) (by rw [List.getD_cons_succ]) rfl qh]
          refine decide_eq_true ?_
          cases j with
          | zero => exact (h2 (by omega)).1
          | succ j =>
            rw [link_at rfl qh, atR_succ] at q
            rw [List.getD_cons_succ]
            exact of_decide_eq_true q
      · rw [List.length_cons, atR_succ]
        cases t with
        | nil => exact h3 rfl
        | cons d u =>
          have q := (h2 (by simp)).2.2
          rw [List.length_cons, atR_succ] at q
          rw [List.length_cons, List.getD_cons_succ]
          exact q
theorem walk_free {z a : Int} {f : Nat} {l : List Int} (h : walkF W H L P z f a = some l) (hm : meshG W H L = true) (h0 : 0 < l.length) : routeG W H L l = true ∧ freeG (nodesG W H L l) = true := by
  obtain ⟨h1, h2, _⟩ := walk_links f a l h
  have hr := route_yes hm h0 h1
  refine ⟨hr, ?_⟩
  have hlen := nodes_len hr
  rw [free_yes, hlen]
  · simp
  · intro i hi
    rw [hlen] at hi
    refine free_at (b := false) rfl (inG_no fun j hj => ?_)
    rw [List.length_take, hlen] at hj
    have hji : j < i := by omega
    rw [List.getD_eq_getElem?_getD, List.getElem?_take_of_lt hji, ← List.getD_eq_getElem?_getD, nodes_at hr (by omega), nodes_at hr (by omega)]
    intro e
    have hat : ∀ k, k ≤ l.length → (if k = 0 then a else endC W H (l.getD (k - 1) 0)) = atR W H l k := fun k hk => by
      unfold atR
      split
      · exact (h2 h0).1.symm
      · rfl
    obtain ⟨g1, w1⟩ := walk_drop f a l h j (by omega)
    obtain ⟨g2, w2⟩ := walk_drop f a l h i (by omega)
    rw [hat j (by omega), e] at w1
    rw [hat i (by omega)] at w2
    have := congrArg List.length (walk_det g1 g2 _ _ _ w1 w2)
    rw [List.length_drop, List.length_drop] at this
    omega
end
end Go.Proofs.Ytplpdjpldadcmaa
end

section
namespace Go.Proofs.Ytplpdjpldadcmaa
open Go.ChangeShapes Go.WideShapes Go.ChangeAt Go.RowKit
set_option linter.unusedVariables false

/-- The numbers below k that a set has, ascending. -/
def setL (f : Nat → Bool) (k : Nat) : List Int := ((List.range k).filter f).map fun j : Nat => (j : Int)
theorem setL_zero (f : Nat → Bool) : setL f 0 = [] := rfl
theorem setL_yes {f : Nat → Bool} {k : Nat} (h : f k = true) : setL f (k + 1) = setL f k ++ [(k : Int)] := by
  simp [setL, List.range_succ, List.filter_append, h]
theorem setL_no {f : Nat → Bool} {k : Nat} (h : f k = false) : setL f (k + 1) = setL f k := by
  simp [setL, List.range_succ, List.filter_append, h]
theorem setL_len (f : Nat → Bool) (k : Nat) : (setL f k).length ≤ k := by
  unfold setL
  rw [List.length_map]
  exact Nat.le_trans (List.length_filter_le _ _) (by simp)
theorem setL_congr {f g : Nat → Bool} {k : Nat} (h : ∀ x, x < k → f x = g x) : setL f k = setL g k := by
  unfold setL
  congr 1
  exact List.filter_congr fun x hx => h x (List.mem_range.1 hx)
theorem setL_mem {f : Nat → Bool} {k : Nat} {x : Int} : x ∈ setL f k ↔ ∃ j : Nat, j < k ∧ x = (j : Int) ∧ f j = true := by
  unfold setL
  simp only [List.mem_map, List.mem_filter, List.mem_range]
  exact ⟨fun ⟨j, ⟨h1, h2⟩, h3⟩ => ⟨j, h1, h3.symm, h2⟩, fun ⟨j, h1, h2, h3⟩ => ⟨j, ⟨h1, h3⟩, h2.symm⟩⟩
theorem setL_sorted (f : Nat → Bool) (k : Nat) : (setL f k).Pairwise (fun a b => a < b) := by
  induction k with
  | zero => exact List.Pairwise.nil
  | succ k ih =>
    cases h : f k with
    | false => rw [setL_no h]; exact ih
    | true =>
      rw [setL_yes h]
      refine List.pairwise_append.2 ⟨ih, List.pairwise_singleton _ _, fun a ha b hb => ?_⟩
      obtain ⟨j, hj, rfl, _⟩ := setL_mem.1 ha
      simp at hb
      omega

/-- A set with one more turn. -/
def withT (f : Nat → Bool) (p q : Int) (x : Nat) : Bool := f x || decide (p ≠ q ∧ 4 * p + q = (x : Int))
theorem withT_same {f : Nat → Bool} {p q : Int} (h : p = q) : withT f p q = f := by
  funext x; simp [withT, h]
/-- The turns from one port to the first k of some ports. -/
def rowT (p : Int) (T : List Int) (k : Nat) (x : Nat) : Bool := (List.range k).any fun j => decide (p ≠ T.getD j 0 ∧ 4 * p + T.getD j 0 = (x : Int))
/-- The turns from the first k of some ports to others. -/
def crossT (F T : List Int) (k : Nat) (x : Nat) : Bool := (List.range k).any fun i => rowT (F.getD i 0) T T.length x
def orT (f g : Nat → Bool) (x : Nat) : Bool := f x || g x
theorem orT_none (f : Nat → Bool) {g : Nat → Bool} (h : ∀ x, g x = false) : orT f g = f := by funext x; simp [orT, h]
theorem row_zero (p : Int) (T : List Int) (x : Nat) : rowT p T 0 x = false := rfl
theorem cross_zero (F T : List Int) (x : Nat) : crossT F T 0 x = false := rfl
theorem row_next (f : Nat → Bool) (p q : Int) (T : List Int) (k : Nat) (h : T.getD k 0 = q) : withT (orT f (rowT p T k)) p q = orT f (rowT p T (k + 1)) := by
  funext x
  simp only [withT, orT, rowT, List.range_succ, List.any_append, List.any_cons, List.any_nil, Bool.or_false, h, Bool.or_assoc]
theorem cross_next (f : Nat → Bool) (p : Int) (F T : List Int) (k : Nat) (h : F.getD k 0 = p) : orT (orT f (crossT F T k)) (rowT p T T.length) = orT f (crossT F T (k + 1)) := by
  funext x
  simp only [orT, crossT, List.range_succ, List.any_append, List.any_cons, List.any_nil, Bool.or_false, h, Bool.or_assoc]

/-- The turn that a way takes behind its channel j. -/
def hitT (R : List Int) (j : Nat) (x : Nat) : Bool := decide (R.getD j 0 % 4 ≠ R.getD (j + 1) 0 % 4 ∧ 4 * (R.getD j 0 % 4) + R.getD (j + 1) 0 % 4 = (x : Int))
def wayT (R : List Int) (k : Nat) (x : Nat) : Bool := (List.range k).any fun j => hitT R j x
theorem way_zero (R : List Int) (x : Nat) : wayT R 0 x = false := rfl
theorem way_next (f : Nat → Bool) (R : List Int) (k : Nat) (p q : Int) (hp : R.getD k 0 % 4 = p) (hq : R.getD (k + 1) 0 % 4 = q) : withT (orT f (wayT R k)) p q = orT f (wayT R (k + 1)) := by
  funext x
  simp only [withT, orT, wayT, hitT, List.range_succ, List.any_append, List.any_cons, List.any_nil, Bool.or_false, hp, hq, Bool.or_assoc]
variable {W H : Int} {L P : List Int}
/-- The way of the pair of nodes number i. -/
def pairW (W H : Int) (L P : List Int) (i : Nat) : List Int := walkOf W H L P ((i : Int) / countG W H) ((i : Int) % countG W H)
def allT (W H : Int) (L P : List Int) (k : Nat) (x : Nat) : Bool := (List.range k).any fun i => wayT (pairW W H L P i) ((pairW W H L P i).length - 1) x
theorem all_zero (x : Nat) : allT W H L P 0 x = false := rfl
theorem all_next {k : Nat} {R : List Int} (h : pairW W H L P k = R) : orT (allT W H L P k) (wayT R (R.length - 1)) = allT W H L P (k + 1) := by
  funext x
  simp only [orT, allT, List.range_succ, List.any_append, List.any_cons, List.any_nil, Bool.or_false, h]
def turnsG (W H : Int) (L P : List Int) : List Int := if tableG W H L P then setL (allT W H L P (sqG W H)) 16 else []
theorem turnsG_yes (h : tableG W H L P = true) : turnsG W H L P = setL (allT W H L P (sqG W H)) 16 := if_pos h
theorem turnsG_no (h : tableG W H L P = false) : turnsG W H L P = [] := if_neg (by simp [h])
theorem turnsG_len : (turnsG W H L P).length ≤ 16 := by
  unfold turnsG; split
  · exact setL_len _ _
  · simp

/-- The channels of a way are numbers below 64. -/
theorem walkF_range {z : Int} : ∀ (f : Nat) (a : Int) (l : List Int), walkF W H L P z f a = some l → ∀ c ∈ l, 0 ≤ c ∧ c < 64
  | 0, a, l, h => by simp [walkF] at h
  | f + 1, a, l, h => by
    have hcl := countG_le W H
    rcases walk_cases h with ⟨rfl, _⟩ | ⟨c, t, rfl, _, hc, _, _, ht⟩
    · simp
    · intro d hd
      rcases List.mem_cons.1 hd with rfl | hd
      · simp only [hasChG, leadsG, Bool.and_eq_true, decide_eq_true_eq] at hc
        omega
      · exact walkF_range f _ t ht d hd
theorem pairW_range {i j : Nat} (h : j < (pairW W H L P i).length) : 0 ≤ (pairW W H L P i).getD j 0 ∧ (pairW W H L P i).getD j 0 < 64 := by
  unfold pairW walkOf at h ⊢
  cases hw : walkF W H L P ((i : Int) % countG W H) ((countG W H).toNat + 1) ((i : Int) / countG W H) with
  | none => simp [hw] at h
  | some l =>
    simp only [hw, Option.getD_some] at h ⊢
    have he : l.getD j 0 = l[j] := by simp [List.getD, List.getElem?_eq_getElem h]
    rw [he]
    exact walkF_range _ _ _ hw _ (List.getElem_mem h)
theorem pairW_len (i : Nat) : (pairW W H L P i).length ≤ 16 := walkOf_len _ _

/-- The turns of a rule. -/
def ruleL (r : Int) : List Int := if r = 1 then [4, 6, 12, 14] else if r = 2 then [1, 3, 9, 11] else if r = 3 then [1, 9, 12, 13, 14] else if r = 4 then [1, 3, 4, 6, 9, 11, 12, 14] else []
theorem ruleL_len (r : Int) : (ruleL r).length ≤ 16 := by
  unfold ruleL
  (repeat' split) <;> simp
/-- The turns of a rule as the model marks them. -/
def ruleF (r : Int) (x : Nat) : Bool :=
  if r = 1 then decide (x / 4 % 2 ≠ x % 4 % 2) && decide (x / 4 % 2 = 1) else if r = 2 then decide (x / 4 % 2 ≠ x % 4 % 2) && !decide (x / 4 % 2 = 1)
  else if r = 3 then decide (x / 4 = 3) && decide (x % 4 ≠ 3) || !decide (x / 4 % 2 = 1) && decide (x % 4 = 1) else if r = 4 then decide (x / 4 % 2 ≠ x % 4 % 2) else false
theorem rule_set (r : Int) : setL (ruleF r) 16 = ruleL r := by
  by_cases h1 : r = 1
  · subst h1; decide
  by_cases h2 : r = 2
  · subst h2; decide
  by_cases h3 : r = 3
  · subst h3; decide
  by_cases h4 : r = 4
  · subst h4; decide
  have e : ∀ x, ruleF r x = false := fun x => by simp [ruleF, h1, h2, h3, h4]
  have e2 : ruleL r = [] := by simp [ruleL, h1, h2, h3, h4]
  rw [e2, setL, List.filter_eq_nil_iff.2 (fun x _ => by simp [e x])]
  rfl

/-- Is it a turn back? -/
def backT (x : Int) : Bool := decide (0 ≤ x ∧ x ≤ 15) && decide (x % 4 = oppG (x / 4))
/-- A turn's name. -/
def nameT (x : Int) : ByteArray := if decide (0 ≤ x ∧ x ≤ 15) && decide (x / 4 ≠ x % 4) then portB (x / 4) ++ ⟨#[45]⟩ ++ portB (x % 4) else ⟨#[]⟩
theorem portB_size (p : Int) : (portB p).size ≤ 5 := by
  unfold portB
  (repeat' split) <;> decide
def allowsG (W H : Int) (L P T : List Int) : Bool := tableG W H L P && (turnsG W H L P).all fun x => inG T x
end Go.Proofs.Ytplpdjpldadcmaa
end

section
namespace Go.Proofs.Ytplpdjpldadcmaa
open Go.ChangeShapes Go.WideShapes Go.ChangeAt Go.RowKit
set_option linter.unusedVariables false
variable {W H : Int} {L P : List Int}

theorem pairW_at {k x y : Nat} (hk : cntN W H = k) (hy : y < k) : pairW W H L P (x * k + y) = walkOf W H L P x y := by
  have hki := cntN_int W H
  subst hk
  have e1 : ((x * cntN W H + y : Nat) : Int) / countG W H = x := by rw [← hki, ← Int.natCast_ediv, pair_div hy]
  have e2 : ((x * cntN W H + y : Nat) : Int) % countG W H = y := by rw [← hki, ← Int.natCast_emod, pair_mod hy]
  rw [pairW, e1, e2]
theorem walkG_valid {a b : Int} (h : tableG W H L P = true) (ha : hasG W H a = true) (hb : hasG W H b = true) : walkG W H L P a b = walkOf W H L P a b := by
  have hs := tableG_sized h
  unfold walkG
  by_cases e : a = b
  · subst e
    have he := tableG_entry h ha ha
    rw [entry_same, decide_eq_true_eq] at he
    rw [if_neg (by simp), walkOf, walkF_end he rfl]
    rfl
  · rw [if_pos ⟨by simp [askG, hs, ha, hb], e⟩]
theorem sqG_cnt {k : Nat} (hk : cntN W H = k) : sqG W H = k * k := by subst hk; rfl
end Go.Proofs.Ytplpdjpldadcmaa
end

section
namespace Go.Proofs.Ytplpdjpldadcmaa
open Go.ChangeShapes Go.WideShapes Go.ChangeAt Go.RowKit
set_option linter.unusedVariables false
set_option maxRecDepth 20000

theorem info_lists : (Try.prog.info? 24).map (fun i => (i.zero, i.size, i.bytes)) = some (some (.slice none 0 0), 1, 24) := by kernel_rfl
/-- A row of lists: element k is a row of the caller's own that holds the numbers of F k. -/
def ListsAt (w : World) (base : Nat) (v : Value) (N : Nat) (F : Nat → List Int) : Prop :=
  ∃ vs : List Value, w.ownsRow base 24 1 v N vs ∧ ∀ k, k < N → ∃ A c, vs[k]? = some (.slice A (F k).length c) ∧ w.ownsRow base 3 1 (.slice A (F k).length c) (F k).length (intsV (F k))
section
variable {w w' : World} {base : Nat} {v v' : Value} {N : Nat} {F : Nat → List Int}
theorem ListsAt.nil (w : World) (base : Nat) (F : Nat → List Int) : ListsAt w base (.slice none 0 0) 0 F := ⟨[], World.ownsRow_nil _ _ _ _, fun k h => by omega⟩
theorem ListsAt.gb (h : ListsAt w base v N F) (hg : w.grownBy w' none) : ListsAt w' base v N F := by
  obtain ⟨vs, ho, hi⟩ := h
  refine ⟨vs, own_none ho hg, fun k hk => ?_⟩
  obtain ⟨A, c, h1, h2⟩ := hi k hk
  exact ⟨A, c, h1, own_none h2 hg⟩
theorem ListsAt.below (h : ListsAt w base v N F) (hb : Below w.heap.size w w') : ListsAt w' base v N F := h.gb (gb_of_below hb none)
theorem ListsAt.less {b : Nat} (h : ListsAt w base v N F) (hb : b ≤ base) : ListsAt w b v N F := by
  obtain ⟨vs, ho, hi⟩ := h
  refine ⟨vs, own_less ho hb, fun k hk => ?_⟩
  obtain ⟨A, c, h1, h2⟩ := hi k hk
  exact ⟨A, c, h1, own_less h2 hb⟩
theorem ListsAt.form (h : ListsAt w base v N F) : ∃ A c, v = .slice A N c ∧ (0 < N → ∃ g, A = some ⟨g, 0, none⟩) := by obtain ⟨vs, ho, _⟩ := h; exact own_form ho
/-- A row of numbers does not lie where the row of lists lies. -/
theorem own_two {A : Option Addr} {n c k : Nat} {L : List Int} {vs : List Value} (h : w.ownsRow base 24 1 v N vs) (h2 : w.ownsRow base 3 1 (.slice A n c) k (intsV L)) : (Value.slice A n c).ownBlock = none ∨ (Value.slice A n c).ownBlock ≠ v.ownBlock := by
  rcases h2.2 with ⟨h3, _⟩ | ⟨g2, c2, cur2, h3, _, hg2, _⟩
  · rw [h3]; exact .inl rfl
  · right
    rw [h3]
    rcases h.2 with ⟨h4, _⟩ | ⟨g, c4, cur, h4, _, hg, _⟩
    · rw [h4]; intro e; cases e
    · rw [h4]
      intro e
      have e2 : g2 = g := Option.some.inj e
      subst e2
      rw [hg] at hg2
      have e3 := Option.some.inj hg2
      injection e3 with _ e4 _
      exact absurd e4 (by decide)
/-- One list more. -/
theorem ListsAt.app {A : Option Addr} {c : Nat} {o : Obj} {vs : List Value} {w4 : World} (ho : w.ownsRow base 24 1 v N vs) (hi : ∀ k, k < N → ∃ A c, vs[k]? = some (.slice A (F k).length c) ∧ w.ownsRow base 3 1 (.slice A (F k).length c) (F k).length (intsV (F k)))
    (h2 : w.ownsRow base 3 1 (.slice A (F N).length c) (F N).length (intsV (F N))) (ho4 : w4.ownsRow base 24 1 v' (N + 1) (vs ++ [.slice A (F N).length c])) (hg : (w.alloc o).grownBy w4 v.ownBlock) : ListsAt w4 base v' (N + 1) F := by
  have hvs : vs.length = N := by have := ho.1; omega
  have key : ∀ {A : Option Addr} {n c k : Nat} {L : List Int}, w.ownsRow base 3 1 (.slice A n c) k (intsV L) → w4.ownsRow base 3 1 (.slice A n c) k (intsV L) := fun h => (h.alloc o).kept hg (own_two ho h)
  refine ⟨_, ho4, fun k hk => ?_⟩
  rcases Nat.lt_succ_iff_lt_or_eq.1 hk with h | rfl
  · obtain ⟨A, c, h3, h4⟩ := hi k h
    exact ⟨A, c, by rw [List.getElem?_append_left (by omega)]; exact h3, key h4⟩
  · exact ⟨A, c, by rw [List.getElem?_append_right (by omega), hvs, Nat.sub_self]; rfl, key h2⟩
/-- One list of a row. -/
theorem ListsAt.at {A : Option Addr} {n c : Nat} (h : ListsAt w base (.slice A n c) N F) (k : Nat) (hk : k < N) : ∃ g B d, A = some ⟨g, 0, none⟩ ∧ w.cell? ⟨g, k, none⟩ = some (.slice B (F k).length d) ∧ w.ownsRow base 3 1 (.slice B (F k).length d) (F k).length (intsV (F k)) := by
  obtain ⟨vs, ho, hi⟩ := h
  obtain ⟨B, d, h1, h2⟩ := hi k hk
  obtain ⟨A', c', e, hA⟩ := own_form ho
  obtain ⟨g, hg⟩ := hA (by omega)
  simp only [Value.slice.injEq] at e
  obtain ⟨rfl, rfl, rfl⟩ := e
  subst hg
  exact ⟨g, B, d, rfl, by rw [ho.cellAt k (by omega)]; exact h1, h2⟩
theorem one_slice (A : Option Addr) (n c : Nat) : ∀ u ∈ [Value.slice A n c], u.oneCell' = true := by simp [Value.oneCell']
end
/-- A new row of lists. -/
def NewL (N : Nat) (F : Nat → List Int) (w : World) (e : Ending) (w' : World) : Prop :=
  ∃ v, e = .returned v ∧ ListsAt w' w.heap.size v N F ∧ Below w.heap.size w w'
/-- How many walks there are. -/
def wlkN (W H : Int) (L P : List Int) : Nat := if tableG W H L P then sqG W H else 0
theorem wlkN_no {W H : Int} {L P : List Int} (h : tableG W H L P = false) : wlkN W H L P = 0 := if_neg (by simp [h])
theorem wlkN_yes {W H : Int} {L P : List Int} (h : tableG W H L P = true) : wlkN W H L P = sqG W H := if_pos h
/-- The square of ports in its block, and the row of walks so far. -/
def WksAt (W H : Int) (A A2 : Option Addr) (n cap n2 c2 : Nat) (L P : List Int) (w : World) (g1 j : Nat) (v : Value) (wr : World) : Prop :=
  Blk wr g1 124 (cellsX (portsX W H P P.length)) ∧ ListsAt wr (w.heap.size + 2) v j (pairW W H L P) ∧ w.heap.size + 2 ≤ g1 ∧ Below (w.heap.size + 2) (twoI W H A A2 n cap n2 c2 w) wr
section
variable {W H : Int} {A A2 : Option Addr} {n cap n2 c2 : Nat} {L P : List Int} {w wr w' : World} {g1 j : Nat} {v : Value}
theorem WksAt.gb (h : WksAt W H A A2 n cap n2 c2 L P w g1 j v wr) (hg : wr.grownBy w' none) : WksAt W H A A2 n cap n2 c2 L P w g1 j v w' :=
  ⟨h.1.grown hg (by simp), h.2.1.gb hg, h.2.2.1, below_gb h.2.2.2 (by rw [twoI_size]; exact Nat.le_refl _) hg⟩
theorem twoI_bm (h : Below (w.heap.size + 2) (twoI W H A A2 n cap n2 c2 w) wr) : Blk wr w.heap.size 38 (meshC W H A n cap) :=
  ((Blk.new w 38 (meshC W H A n cap)).alloc _).below h (by omega)
theorem twoI_bo (h : Below (w.heap.size + 2) (twoI W H A A2 n cap n2 c2 w) wr) : Below w.heap.size w wr :=
  (gb_below_none twoI_gb (Nat.le_refl _)).trans (h.mono (by omega))
theorem twoI_bs (h : Below (w.heap.size + 2) (twoI W H A A2 n cap n2 c2 w) wr) : w.heap.size + 2 ≤ wr.heap.size := by have := h.size; rw [twoI_size] at this; exact this
theorem WksAt.cells (h : WksAt W H A A2 n cap n2 c2 L P w g1 j v wr) : wr.cell? ⟨w.heap.size, 0, none⟩ = some (.int .i64 W) ∧ wr.cell? ⟨w.heap.size, 1, none⟩ = some (.int .i64 H) ∧ wr.cell? ⟨w.heap.size, 2, none⟩ = some (.slice A n cap) :=
  ⟨(twoI_bm h.2.2.2).cell 0, (twoI_bm h.2.2.2).cell 1, (twoI_bm h.2.2.2).cell 2⟩
end
set_option maxHeartbeats 1600000 in
theorem implWalksOf (W H : Int) (A A2 : Option Addr) (n cap n2 c2 : Nat) (L P : List Int) (hL : WfL L) (w : World) (h : IntAt w w.heap.size A n L) (h2 : IntAt w w.heap.size A2 n2 P) (hn : n ≤ 1000000000) (hn2 : n2 ≤ 1000000000) :
    Calls Try.prog 96 #[.agg #[.int .i64 W, .int .i64 H, .slice A n cap], .agg #[.slice A2 n2 c2]] w (NewL (wlkN W H L P) (pairW W H L P) w) := by
  obtain ⟨i0, hi, hz0, hz1, hz2⟩ := info_parts info_lists
  have HI := Lib.hid h
  have HT1 := Lib.hid (h.twoI (W := W) (H := H) (A := A) (A2 := A2) (n := n) (cap := cap) (n2 := n2) (c2 := c2))
  have HT2 := Lib.hid (h2.twoI (W := W) (H := H) (A := A) (A2 := A2) (n := n) (cap := cap) (n2 := n2) (c2 := c2))
  have TZ := Lib.hid (twoI_size (W := W) (H := H) (A := A) (A2 := A2) (n := n) (cap := cap) (n2 := n2) (c2 := c2) (w := w))
  clear h h2
  obtain ⟨N, hN⟩ : ∃ N, wlkN W H L P = N := ⟨_, rfl⟩
  rw [hN]
  have HNN := Lib.hid hN
  clear hN
  cases hs : sizedG W H L P with
  | false =>
    have HPO := Lib.hid (fun w h h2 => implPortsNo W H A A2 n cap n2 c2 L P hL w h h2 hn hn2 hs)
    have HR := Lib.hid (HNN.out.symm.trans (wlkN_no (tableG_unsized hs)))
    clear hs hL
    go_enter Try.func96, Try.ntmps96
    go_wp2_with fail
    refine (HPO.out _ HT1.out HT2.out).mono ?_
    rintro e w1 ⟨rfl, hg⟩
    have HG1 := Lib.hid (show (twoI W H A A2 n cap n2 c2 w).grownBy w1 none from hg)
    clear hg
    go_wp2_with (refine wpList_storeX rfl (.tmp 5) _ rfl w1.heap.size zerosX zerosX rfl rfl (new_square w1) zerosX_length zerosX_length ?_; intro w2 hb2 hg2; have HG2 := Lib.hid (gb_square HG1.out hg2); clear hb2 hg2)
    go_ret
    exact ⟨_, rfl, by rw [HR.out]; exact ListsAt.nil _ _ _, gb_below_none (twoI_old HG2.out) (Nat.le_refl _)⟩
  | true =>
    have HPO := Lib.hid (fun w h h2 => implPortsYes W H A A2 n cap n2 c2 L P hL w h h2 hn hn2 hs)
    have HPX := Lib.hid (portsX_is hs)
    have hki := cntN_int W H
    obtain ⟨k, hk⟩ : ∃ k, cntN W H = k := ⟨_, rfl⟩
    have hk1 := cntN_le W H
    rw [hk] at hki hk1
    have HN := Lib.hid (fun w => show Calls Try.prog 71 #[.agg #[.int .i64 W, .int .i64 H]] w (RetI (k : Int) none w) from hki ▸ implNodeCount W H w)
    have HW := Lib.hid (fun (x y : Nat) (hx : x < k) (hy : y < k) w g h hb => implWalk W H A n cap L P (portsX W H P P.length) g x y hL w h hn HPX.out hb (by omega) (by omega))
    have HAT := Lib.hid (fun (x y : Nat) (hy : y < k) => pairW_at (L := L) (P := P) hk (x := x) hy)
    have HS := Lib.hid hs
    have HKI := Lib.hid hki
    have HKK := Lib.hid hk
    have HSQ := Lib.hid (sqG_cnt hk)
    clear hs hL hki hk
    go_enter Try.func96, Try.ntmps96
    go_wp2_with fail
    refine (HPO.out _ HT1.out HT2.out).mono ?_
    rintro e w1 ⟨rfl, hg⟩
    have HG1 := Lib.hid (show (twoI W H A A2 n cap n2 c2 w).grownBy w1 none from hg)
    clear hg
    go_wp2_with (refine wpList_storeX rfl (.tmp 5) _ rfl w1.heap.size zerosX (portsX W H P P.length) rfl rfl (new_square w1) zerosX_length (sqTo_length _ _ _) ?_; intro w2 hb2 hg2; have HX2 := Lib.hid (show WksAt W H A A2 n cap n2 c2 L P w w1.heap.size 0 (.slice none 0 0) w2 from ⟨hb2, ListsAt.nil _ _ _, twoI_le HG1.out, gb_below_none (gb_square HG1.out hg2) (by rw [TZ.out]; exact Nat.le_refl _)⟩); obtain ⟨a0, a1, _⟩ := HX2.out.cells; clear hb2 hg2)
    refine (HN.out _).mono ?_
    rintro e w3 ⟨rfl, hg3⟩
    have HX3 := Lib.hid (HX2.out.gb hg3)
    obtain ⟨g1, hg1⟩ : ∃ g, w1.heap.size = g := ⟨_, rfl⟩
    rw [hg1] at HX3
    clear a0 a1 hg3
    go_wp2_with fail
    (try rw [hg1])
    clear hg1
    go_loopw [7, 23] (fun v i wr => ∃ x : Nat, i = .int .i64 (x : Int) ∧ x ≤ k ∧ pairsTo W H L P x 0 ∧ WksAt W H A A2 n cap n2 c2 L P w g1 (x * k) v wr) (fun _ i _ => 17 - (intOf i).toNat)
    case atStart => exact ⟨0, rfl, Nat.zero_le _, pairs_zero, by rw [Nat.zero_mul]; exact HX3.out⟩
    case round =>
      obtain ⟨x, rfl, hxk, hpairs, hx⟩ := hrel
      have HP0 := Lib.hid hpairs
      have HX4 := Lib.hid hx
      obtain ⟨a0, a1, _⟩ := hx.cells
      clear hpairs hx
      by_cases hlt : x < k
      · have HXK := Lib.hid hlt
        have hx16 : (x : Int) < 16 := by omega
        go_wp2_with fail
        refine (HN.out _).mono ?_
        rintro e w4 ⟨rfl, hg4⟩
        have HX5 := Lib.hid (HX4.out.gb hg4)
        clear hg4 a0 a1
        go_wp2_with fail
        go_loopw [7, 29] (fun v i wr => ∃ y : Nat, i = .int .i64 (y : Int) ∧ y ≤ k ∧ pairsTo W H L P x y ∧ WksAt W H A A2 n cap n2 c2 L P w g1 (x * k + y) v wr) (fun _ i _ => 17 - (intOf i).toNat)
        case atStart => exact ⟨0, rfl, Nat.zero_le _, HP0.out, HX5.out⟩
        case round =>
          obtain ⟨y, rfl, hyk, hpairs, hy⟩ := hrel
          have HP1 := Lib.hid hpairs
          have HX6 := Lib.hid hy
          clear hpairs hy
          by_cases hlt2 : y < k
          · have hy16 : (y : Int) < 16 := by omega
            obtain ⟨a0, a1, a2⟩ := HX6.out.cells
            have hi2 := (HI.out.below (twoI_bo HX6.out.2.2.2)).more (B' := wr.heap.size) (twoI_bo HX6.out.2.2.2).size
            have HE := Lib.hid (ends_entry (W := W) (H := H) (L := L) (P := P) x y)
            obtain ⟨j, hj⟩ : ∃ j, x * k + y = j := ⟨_, rfl⟩
            have hj9 : j ≤ 256 := by
              have h1 : x * k ≤ 15 * 16 := Nat.mul_le_mul (by omega) (by omega)
              omega
            obtain ⟨R, hR⟩ : ∃ R, walkOf W H L P x y = R := ⟨_, rfl⟩
            have HF := Lib.hid (show pairW W H L P j = R by rw [← hj, ← hR]; exact HAT.out x y hlt2)
            have HW6 := Lib.hid (HW.out x y HXK.out hlt2 _ _ hi2 HX6.out.1)
            rw [hR] at HW6
            have HJ := Lib.hid hj
            rw [hj] at HX6
            clear hi2 hj hR
            go_wp2_with fail
            refine HW6.out.mono ?_
            rintro e w6 ⟨vq, rfl, ho6, hb6⟩
            have HX7 := Lib.hid (HX6.out.gb (gb_of_below hb6 none))
            obtain ⟨Aq, capq, rfl, _⟩ := own_form ho6
            have HO6 := Lib.hid (own_less ho6 (twoI_bs HX6.out.2.2.2))
            rw [HE.out]
            clear a0 a1 a2 ho6 hb6
            cases he : entryG W H L P x y with
            | false =>
              have hf := tableG_no (W := W) (H := H) (L := L) (P := P) (a := x) (b := y) (by rw [← HKI.out]; omega) (by rw [← HKI.out]; omega) he
              have HR := Lib.hid (HNN.out.symm.trans (wlkN_no hf))
              clear hf he
              go_wp2_with fail
              go_ret
              exact ⟨_, rfl, by rw [HR.out]; exact ListsAt.nil _ _ _, twoI_bo HX7.out.2.2.2⟩
            | true =>
              have HPn := Lib.hid (pairs_next HP1.out he)
              clear he
              obtain ⟨vs, hvo, hvi⟩ := HX7.out.2.1
              obtain ⟨Av, cv, rfl, _⟩ := own_form hvo
              have HVO := Lib.hid hvo
              have HVI := Lib.hid hvi
              have b3 := Lib.hid (one_slice Aq R.length capq)
              have b4 := Lib.hid (show j + 1 ≤ maxLen by unfold maxLen; omega)
              have b5 := Lib.hid (twoI_bs HX7.out.2.2.2)
              clear hvo hvi
              go_wp2_with (at_builtin; refine wpList_append_own _ rfl _ _ 116 rfl (w.heap.size + 2) 24 i0 (.slice none 0 0) 1 24 Try.underlying116 hi hz0 hz1 hz2 rfl (by decide) _ j _ rfl (HVO.out.alloc _) ⟨w6.heap.size, 0, none⟩ 1 1 [.slice Aq R.length capq] rfl rfl (World.news_of_block (cs := #[.slice Aq R.length capq]) (t := 24) (fr := (0, 0)) (heap_alloc_new w6 _)) b3.out b4.out (by omega) (by have := b5.out; simp; omega) ?_; intro v' w7 hown7 hgrow7 _)
              have HX8 := Lib.hid (show WksAt W H A A2 n cap n2 c2 L P w g1 (x * k + (y + 1)) v' w7 from by
                have h5 := HX7.out
                rw [← Nat.add_assoc, HJ.out]
                have hF := HF.out
                refine ⟨(h5.1.alloc _).grown hgrow7 (fun e => own_ne HVO.out h5.1 (by decide) e.symm), ?_, h5.2.2.1, (h5.2.2.2.alloc b5.out _).grown hgrow7 (by have := b5.out; simp; omega) (fun q hq => (HVO.out.lt q hq).1)⟩
                exact ListsAt.app (F := pairW W H L P) HVO.out HVI.out (by rw [hF]; exact HO6.out) (by rw [hF]; exact hown7) hgrow7)
              clear hown7 hgrow7
              go_wp2_with fail
              go_roundw
              case rel => exact ⟨y + 1, by go_num, by omega, HPn.out, HX8.out⟩
              case measure => simp [intOf]; omega
          · obtain rfl : y = k := by omega
            have HPr := Lib.hid (pairs_row HP1.out HKI.out)
            go_wp2_with fail
            go_roundw
            case rel => exact ⟨x + 1, by go_num, by omega, HPr.out, by rw [Nat.add_mul, Nat.one_mul]; exact HX6.out⟩
            case measure => simp [intOf]; omega
      · obtain rfl : x = k := by omega
        have hf := tableG_yes HS.out HP0.out HKI.out
        have HR := Lib.hid (show N = x * x by rw [← HNN.out, wlkN_yes hf, HSQ.out])
        clear a0 a1 hf
        go_wp2_with fail
        go_ret
        exact ⟨_, rfl, by rw [HR.out]; exact HX4.out.2.1.less (by omega), twoI_bo HX4.out.2.2.2⟩
end Go.Proofs.Ytplpdjpldadcmaa
end

section
namespace Go.Proofs.Ytplpdjpldadcmaa
open Go.ChangeShapes Go.WideShapes Go.ChangeAt Go.RowKit
set_option linter.unusedVariables false
set_option maxRecDepth 20000

theorem sqG_pos {W H : Int} {L P : List Int} (h : tableG W H L P = true) : 0 < sqG W H := by
  have hok := (meshG_ok (sizedG_mesh (tableG_sized h)).1).1
  obtain ⟨h1, _, h3, _⟩ := okG_iff.1 hok
  have hc : countG W H = W * H := by simp [countG, hok]
  have hp : 0 < W * H := Int.mul_pos (by omega) (by omega)
  have : 0 < (countG W H).toNat := by rw [hc]; omega
  exact Nat.mul_pos this this
theorem twoI_new {W H : Int} {A A2 : Option Addr} {n cap n2 c2 : Nat} {w w1 : World} (h : Below (twoI W H A A2 n cap n2 c2 w).heap.size (twoI W H A A2 n cap n2 c2 w) w1) : (twoI W H A A2 n cap n2 c2 w).grownBy w1 none := gb_of_below h none
theorem wlkN_small (W H : Int) (L P : List Int) : wlkN W H L P ≤ 256 := by
  unfold wlkN
  split
  · have h := cntN_le W H
    exact Nat.mul_le_mul h h
  · exact Nat.zero_le _

theorem implTableOk (W H : Int) (A A2 : Option Addr) (n cap n2 c2 : Nat) (L P : List Int) (hL : WfL L) (w : World) (h : IntAt w w.heap.size A n L) (h2 : IntAt w w.heap.size A2 n2 P) (hn : n ≤ 1000000000) (hn2 : n2 ≤ 1000000000) :
    Calls Try.prog 88 #[.agg #[.int .i64 W, .int .i64 H, .slice A n cap], .agg #[.slice A2 n2 c2]] w (RetB (tableG W H L P) w) := by
  have HT1 := Lib.hid (h.twoI (W := W) (H := H) (A := A) (A2 := A2) (n := n) (cap := cap) (n2 := n2) (c2 := c2))
  have HT2 := Lib.hid (h2.twoI (W := W) (H := H) (A := A) (A2 := A2) (n := n) (cap := cap) (n2 := n2) (c2 := c2))
  have HWK := Lib.hid (fun w h h2 => implWalksOf W H A A2 n cap n2 c2 L P hL w h h2 hn hn2)
  clear h h2 hL
  cases ht : tableG W H L P with
  | false =>
    rw [wlkN_no ht] at HWK
    clear ht
    go_enter Try.func88, Try.ntmps88
    go_wp2_with fail
    refine (HWK.out _ HT1.out HT2.out).mono ?_
    rintro e w1 ⟨va, rfl, hl1, hb1⟩
    obtain ⟨Aw, cw, rfl, _⟩ := hl1.form
    have G1 := Lib.hid (twoI_old (twoI_new hb1))
    clear hl1 hb1
    go_wp2_with fail
    go_ret
    exact ⟨ret_bool (by simp), G1.out⟩
  | true =>
    rw [wlkN_yes ht] at HWK
    have hp := sqG_pos ht
    obtain ⟨N, hN⟩ : ∃ N, sqG W H = N := ⟨_, rfl⟩
    rw [hN] at HWK hp
    clear ht hN
    go_enter Try.func88, Try.ntmps88
    go_wp2_with fail
    refine (HWK.out _ HT1.out HT2.out).mono ?_
    rintro e w1 ⟨va, rfl, hl1, hb1⟩
    obtain ⟨Aw, cw, rfl, _⟩ := hl1.form
    have G1 := Lib.hid (twoI_old (twoI_new hb1))
    clear hl1 hb1
    go_wp2_with fail
    go_ret
    exact ⟨ret_bool (by simp <;> omega), G1.out⟩
end Go.Proofs.Ytplpdjpldadcmaa
end

section
namespace Go.Proofs.Ytplpdjpldadcmaa
open Go.ChangeShapes Go.WideShapes Go.ChangeAt Go.RowKit
set_option linter.unusedVariables false
set_option maxRecDepth 20000

theorem implTableOkV (W H : Int) (A A2 : Option Addr) (n cap n2 c2 : Nat) (L P : List Int) (b : Bool) (hb : tableG W H L P = b) (hL : WfL L) (w : World) (h : IntAt w w.heap.size A n L) (h2 : IntAt w w.heap.size A2 n2 P) (hn : n ≤ 1000000000) (hn2 : n2 ≤ 1000000000) :
    Calls Try.prog 88 #[.agg #[.int .i64 W, .int .i64 H, .slice A n cap], .agg #[.slice A2 n2 c2]] w (RetB b w) := hb ▸ implTableOk W H A A2 n cap n2 c2 L P hL w h h2 hn hn2
theorem implClassesOk (W H : Int) (A AP AQ : Option Addr) (n cap nP cP nQ cQ : Nat) (L P Q : List Int) (hL : WfL L) (w : World) (h : IntAt w w.heap.size A n L) (hP : IntAt w w.heap.size AP nP P) (hQ : IntAt w w.heap.size AQ nQ Q) (hn : n ≤ 1000000000) (hnP : nP ≤ 1000000000) (hnQ : nQ ≤ 1000000000) :
    Calls Try.prog 67 #[.agg #[.int .i64 W, .int .i64 H, .slice A n cap], .agg #[.slice AP nP cP, .slice AQ nQ cQ]] w (RetB (clsOk W H L P Q) w) := by
  have X0 := Lib.hid (clAt_start (W := W) (H := H) (A := A) (AP := AP) (AQ := AQ) (n := n) (cap := cap) (nP := nP) (cP := cP) (nQ := nQ) (cQ := cQ) (w := w))
  have HI := Lib.hid h
  have HP := Lib.hid hP
  have HQ := Lib.hid hQ
  cases ha : tableG W H L P with
  | false =>
    have HA := Lib.hid (implTableOkV W H A AP n cap nP cP L P false ha hL _ (X0.out.at h) (X0.out.at hP) hn hnP)
    have HR := Lib.hid (clsOk_no1 (Q := Q) ha)
    clear h hP hQ ha hL
    go_enter Try.func67, Try.ntmps67
    go_wp2_with fail
    refine HA.out.mono ?_
    rintro e w1 ⟨rfl, hg⟩
    have X1 := Lib.hid (X0.out.gb hg)
    clear hg
    go_wp2_with fail
    go_ret
    exact ⟨ret_bool HR.out.symm, X1.out.g⟩
  | true =>
    obtain ⟨b, hb⟩ : ∃ b, tableG W H L Q = b := ⟨_, rfl⟩
    have HA := Lib.hid (implTableOkV W H A AP n cap nP cP L P true ha hL _ (X0.out.at h) (X0.out.at hP) hn hnP)
    have HB := Lib.hid (fun w h hQ => implTableOkV W H A AQ n cap nQ cQ L Q b hb hL w h hQ hn hnQ)
    have HR := Lib.hid (show clsOk W H L P Q = b by rw [clsOk, ha, hb]; rfl)
    clear h hP hQ ha hb hL
    go_enter Try.func67, Try.ntmps67
    go_wp2_with fail
    refine HA.out.mono ?_
    rintro e w1 ⟨rfl, hg⟩
    have X1 := Lib.hid (X0.out.gb hg)
    have m0 : w1.cell? ⟨w.heap.size, 0, none⟩ = some (.int .i64 W) := X1.out.m.cell 0
    have m1 : w1.cell? ⟨w.heap.size, 1, none⟩ = some (.int .i64 H) := X1.out.m.cell 1
    have m2 : w1.cell? ⟨w.heap.size, 2, none⟩ = some (.slice A n cap) := X1.out.m.cell 2
    have t1 : w1.cell? ⟨w.heap.size + 1, 1, none⟩ = some (.slice AQ nQ cQ) := X1.out.t.cell 1
    clear hg
    go_wp2_with fail
    refine (HB.out _ (X1.out.at HI.out) (X1.out.at HQ.out)).mono ?_
    rintro e w2 ⟨rfl, hg⟩
    have X2 := Lib.hid (X1.out.gb hg)
    clear hg m0 m1 m2 t1
    go_wp2_with fail
    go_ret
    exact ⟨ret_bool HR.out.symm, X2.out.g⟩
theorem implClassesOkV (W H : Int) (A AP AQ : Option Addr) (n cap nP cP nQ cQ : Nat) (L P Q : List Int) (hL : WfL L) (b : Bool) (hb : clsOk W H L P Q = b) (w : World) (h : IntAt w w.heap.size A n L) (hP : IntAt w w.heap.size AP nP P) (hQ : IntAt w w.heap.size AQ nQ Q) (hn : n ≤ 1000000000) (hnP : nP ≤ 1000000000) (hnQ : nQ ≤ 1000000000) :
    Calls Try.prog 67 #[.agg #[.int .i64 W, .int .i64 H, .slice A n cap], .agg #[.slice AP nP cP, .slice AQ nQ cQ]] w (RetB b w) := hb ▸ implClassesOk W H A AP AQ n cap nP cP nQ cQ L P Q hL w h hP hQ hn hnP hnQ
end Go.Proofs.Ytplpdjpldadcmaa
end

section
namespace Go.Proofs.Ytplpdjpldadcmaa
open Go.ChangeShapes Go.WideShapes Go.ChangeAt Go.RowKit
set_option linter.unusedVariables false
set_option maxRecDepth 20000

set_option maxHeartbeats 3200000 in
theorem implNetOk (y : Na) (N : Nt) (w : World) (h : NetIn w w.heap.size y N) (hn : NetSm N) (hc : NetCap y N) (hL : WfL N.br) :
    Calls Try.prog 40 #[.agg #[.int .i64 N.W, .int .i64 N.H, .slice y.br.A N.br.length y.br.c, .slice y.ta.A N.ta.length y.ta.c, .slice y.tb.A N.tb.length y.tb.c, .slice y.bu.A N.bu.length y.bu.c, .slice y.ow.A N.ow.length y.ow.c, .slice y.tu.A N.tu.length y.tu.c, .slice y.so.A N.so.length y.so.c, .slice y.ar.A N.ar.length y.ar.c, .int .i64 N.ti]] w (RetB (netOk N) w) := by
  have HI := Lib.hid h
  have X0 := Lib.hid (nkAt_start (w := w) (y := y) (N := N))
  have HC0 := Lib.hid (fun (b : Bool) (hb : clsOk N.W N.H N.br N.ta N.tb = b) w (h : NetIn w w.heap.size y N) => implClassesOkV N.W N.H y.br.A y.ta.A y.tb.A N.br.length y.br.c N.ta.length y.ta.c N.tb.length y.tb.c N.br N.ta N.tb hL b hb w h.br h.ta h.tb hn.br hn.ta hn.tb)
  have HC1 := Lib.hid (fun (b : Bool) (hb : sizesI N = b) w => implSizesV y N b hb w)
  have HC2 := Lib.hid (fun (b : Bool) (hb : bufsI N = b) w (h : NetIn w w.heap.size y N) => implBufsV y N b hb w h hn)
  have HC3 := Lib.hid (fun (b : Bool) (hb : srcsI N = b) w (h : NetIn w w.heap.size y N) => implSrcsV y N b hb w h hn)
  have HC4 := Lib.hid (fun (b : Bool) (hb : withL (-1) 4 N.ow = b) w h => implWithinV (-1) 4 y.ow.A N.ow.length y.ow.c N.ow b hb w h hn.ow)
  have HC5 := Lib.hid (fun (b : Bool) (hb : withL 0 9 N.tu = b) w h => implWithinV 0 9 y.tu.A N.tu.length y.tu.c N.tu b hb w h hn.tu)
  have HC6 := Lib.hid (fun (b : Bool) (hb : withL 0 1000000 [N.ti] = b) w => implWithin1 0 1000000 N.ti b ((withL_one _ _ _).symm.trans hb) w)
  have HNO := Lib.hid (netOk_no (N := N))
  clear h hc
  cases h0 : clsOk N.W N.H N.br N.ta N.tb with
  | false =>
    have C0 := Lib.hid (HC0.out false h0)
    have R := Lib.hid (HNO.out (by rw [h0]; simp))
    clear h0
    go_enter Try.func40, Try.ntmps40
    go_wp2_with fail
    refine (C0.out _ (X0.out.in HI.out)).mono ?_
    rintro e w1 ⟨rfl, g1⟩
    have X1 := Lib.hid (X0.out.gb g1)
    clear g1
    go_wp2_with fail
    go_ret
    exact ⟨ret_bool R.out, X1.out.g⟩
  | true =>
    have C0 := Lib.hid (HC0.out true h0)
    cases h1 : sizesI N with
    | false =>
      have C1 := Lib.hid (HC1.out false h1)
      have R := Lib.hid (HNO.out (by rw [h1]; simp))
      clear h0 h1
      go_enter Try.func40, Try.ntmps40
      go_wp2_with fail
      refine (C0.out _ (X0.out.in HI.out)).mono ?_
      rintro e w1 ⟨rfl, g1⟩
      have X1 := Lib.hid (X0.out.gb g1)
      clear g1
      have a0 : w1.cell? ⟨w.heap.size, 0, none⟩ = some (.int .i64 N.W) := X1.out.b.cell 0
      have a1 : w1.cell? ⟨w.heap.size, 1, none⟩ = some (.int .i64 N.H) := X1.out.b.cell 1
      have a2 : w1.cell? ⟨w.heap.size, 2, none⟩ = some (.slice y.br.A N.br.length y.br.c) := X1.out.b.cell 2
      have a3 : w1.cell? ⟨w.heap.size, 3, none⟩ = some (.slice y.ta.A N.ta.length y.ta.c) := X1.out.b.cell 3
      have a4 : w1.cell? ⟨w.heap.size, 4, none⟩ = some (.slice y.tb.A N.tb.length y.tb.c) := X1.out.b.cell 4
      have a5 : w1.cell? ⟨w.heap.size, 5, none⟩ = some (.slice y.bu.A N.bu.length y.bu.c) := X1.out.b.cell 5
      have a6 : w1.cell? ⟨w.heap.size, 6, none⟩ = some (.slice y.ow.A N.ow.length y.ow.c) := X1.out.b.cell 6
      have a7 : w1.cell? ⟨w.heap.size, 7, none⟩ = some (.slice y.tu.A N.tu.length y.tu.c) := X1.out.b.cell 7
      have a8 : w1.cell? ⟨w.heap.size, 8, none⟩ = some (.slice y.so.A N.so.length y.so.c) := X1.out.b.cell 8
      have a9 : w1.cell? ⟨w.heap.size, 9, none⟩ = some (.slice y.ar.A N.ar.length y.ar.c) := X1.out.b.cell 9
      have a10 : w1.cell? ⟨w.heap.size, 10, none⟩ = some (.int .i64 N.ti) := X1.out.b.cell 10
      go_wp2_with fail
      refine (C1.out _).mono ?_
      rintro e w2 ⟨rfl, g2⟩
      have X2 := Lib.hid (X1.out.gb g2)
      clear g2
      clear a0 a1 a2 a3 a4 a5 a6 a7 a8 a9 a10
      go_wp2_with fail
      go_ret
      exact ⟨ret_bool R.out, X2.out.g⟩
    | true =>
      have C1 := Lib.hid (HC1.out true h1)
      cases h2 : bufsI N with
      | false =>
        have C2 := Lib.hid (HC2.out false h2)
        have R := Lib.hid (HNO.out (by rw [h2]; simp))
        clear h0 h1 h2
        go_enter Try.func40, Try.ntmps40
        go_wp2_with fail
        refine (C0.out _ (X0.out.in HI.out)).mono ?_
        rintro e w1 ⟨rfl, g1⟩
        have X1 := Lib.hid (X0.out.gb g1)
        clear g1
        have a0 : w1.cell? ⟨w.heap.size, 0, none⟩ = some (.int .i64 N.W) := X1.out.b.cell 0
        have a1 : w1.cell? ⟨w.heap.size, 1, none⟩ = some (.int .i64 N.H) := X1.out.b.cell 1
        have a2 : w1.cell? ⟨w.heap.size, 2, none⟩ = some (.slice y.br.A N.br.length y.br.c) := X1.out.b.cell 2
        have a3 : w1.cell? ⟨w.heap.size, 3, none⟩ = some (.slice y.ta.A N.ta.length y.ta.c) := X1.out.b.cell 3
        have a4 : w1.cell? ⟨w.heap.size, 4, none⟩ = some (.slice y.tb.A N.tb.length y.tb.c) := X1.out.b.cell 4
        have a5 : w1.cell? ⟨w.heap.size, 5, none⟩ = some (.slice y.bu.A N.bu.length y.bu.c) := X1.out.b.cell 5
        have a6 : w1.cell? ⟨w.heap.size, 6, none⟩ = some (.slice y.ow.A N.ow.length y.ow.c) := X1.out.b.cell 6
        have a7 : w1.cell? ⟨w.heap.size, 7, none⟩ = some (.slice y.tu.A N.tu.length y.tu.c) := X1.out.b.cell 7
        have a8 : w1.cell? ⟨w.heap.size, 8, none⟩ = some (.slice y.so.A N.so.length y.so.c) := X1.out.b.cell 8
        have a9 : w1.cell? ⟨w.heap.size, 9, none⟩ = some (.slice y.ar.A N.ar.length y.ar.c) := X1.out.b.cell 9
        have a10 : w1.cell? ⟨w.heap.size, 10, none⟩ = some (.int .i64 N.ti) := X1.out.b.cell 10
        go_wp2_with fail
        refine (C1.out _).mono ?_
        rintro e w2 ⟨rfl, g2⟩
        have X2 := Lib.hid (X1.out.gb g2)
        clear g2
        clear a0 a1 a2 a3 a4 a5 a6 a7 a8 a9 a10
        have a0 : w2.cell? ⟨w.heap.size, 0, none⟩ = some (.int .i64 N.W) := X2.out.b.cell 0
        have a1 : w2.cell? ⟨w.heap.size, 1, none⟩ = some (.int .i64 N.H) := X2.out.b.cell 1
        have a2 : w2.cell? ⟨w.heap.size, 2, none⟩ = some (.slice y.br.A N.br.length y.br.c) := X2.out.b.cell 2
        have a3 : w2.cell? ⟨w.heap.size, 3, none⟩ = some (.slice y.ta.A N.ta.length y.ta.c) := X2.out.b.cell 3
        have a4 : w2.cell? ⟨w.heap.size, 4, none⟩ = some (.slice y.tb.A N.tb.length y.tb.c) := X2.out.b.cell 4
        have a5 : w2.cell? ⟨w.heap.size, 5, none⟩ = some (.slice y.bu.A N.bu.length y.bu.c) := X2.out.b.cell 5
        have a6 : w2.cell? ⟨w.heap.size, 6, none⟩ = some (.slice y.ow.A N.ow.length y.ow.c) := X2.out.b.cell 6
        have a7 : w2.cell? ⟨w.heap.size, 7, none⟩ = some (.slice y.tu.A N.tu.length y.tu.c) := X2.out.b.cell 7
        have a8 : w2.cell? ⟨w.heap.size, 8, none⟩ = some (.slice y.so.A N.so.length y.so.c) := X2.out.b.cell 8
        have a9 : w2.cell? ⟨w.heap.size, 9, none⟩ = some (.slice y.ar.A N.ar.length y.ar.c) := X2.out.b.cell 9
        have a10 : w2.cell? ⟨w.heap.size, 10, none⟩ = some (.int .i64 N.ti) := X2.out.b.cell 10
        go_wp2_with fail
        refine (C2.out _ (X2.out.in HI.out)).mono ?_
        rintro e w3 ⟨rfl, g3⟩
        have X3 := Lib.hid (X2.out.gb g3)
        clear g3
        clear a0 a1 a2 a3 a4 a5 a6 a7 a8 a9 a10
        go_wp2_with fail
        go_ret
        exact ⟨ret_bool R.out, X3.out.g⟩
      | true =>
        have C2 := Lib.hid (HC2.out true h2)
        cases h3 : srcsI N with
        | false =>
          have C3 := Lib.hid (HC3.out false h3)
          have R := Lib.hid (HNO.out (by rw [h3]; simp))
          clear h0 h1 h2 h3
          go_enter Try.func40, Try.ntmps40
          go_wp2_with fail
          refine (C0.out _ (X0.out.in HI.out)).mono ?_
          rintro e w1 ⟨rfl, g1⟩
          have X1 := Lib.hid (X0.out.gb g1)
          clear g1
          have a0 : w1.cell? ⟨w.heap.size, 0, none⟩ = some (.int .i64 N.W) := X1.out.b.cell 0
          have a1 : w1.cell? ⟨w.heap.size, 1, none⟩ = some (.int .i64 N.H) := X1.out.b.cell 1
          have a2 : w1.cell? ⟨w.heap.size, 2, none⟩ = some (.slice y.br.A N.br.length y.br.c) := X1.out.b.cell 2
          have a3 : w1.cell? ⟨w.heap.size, 3, none⟩ = some (.slice y.ta.A N.ta.length y.ta.c) := X1.out.b.cell 3
          have a4 : w1.cell? ⟨w.heap.size, 4, none⟩ = some (.slice y.tb.A N.tb.length y.tb.c) := X1.out.b.cell 4
          have a5 : w1.cell? ⟨w.heap.size, 5, none⟩ = some (.slice y.bu.A N.bu.length y.bu.c) := X1.out.b.cell 5
          have a6 : w1.cell? ⟨w.heap.size, 6, none⟩ = some (.slice y.ow.A N.ow.length y.ow.c) := X1.out.b.cell 6
          have a7 : w1.cell? ⟨w.heap.size, 7, none⟩ = some (.slice y.tu.A N.tu.length y.tu.c) := X1.out.b.cell 7
          have a8 : w1.cell? ⟨w.heap.size, 8, none⟩ = some (.slice y.so.A N.so.length y.so.c) := X1.out.b.cell 8
          have a9 : w1.cell? ⟨w.heap.size, 9, none⟩ = some (.slice y.ar.A N.ar.length y.ar.c) := X1.out.b.cell 9
          have a10 : w1.cell? ⟨w.heap.size, 10, none⟩ = some (.int .i64 N.ti) := X1.out.b.cell 10
          go_wp2_with fail
          refine (C1.out _).mono ?_
          rintro e w2 ⟨rfl, g2⟩
          have X2 := Lib.hid (X1.out.gb g2)
          clear g2
          clear a0 a1 a2 a3 a4 a5 a6 a7 a8 a9 a10
          have a0 : w2.cell? ⟨w.heap.size, 0, none⟩ = some (.int .i64 N.W) := X2.out.b.cell 0
          have a1 : w2.cell? ⟨w.heap.size, 1, none⟩ = some (.int .i64 N.H) := X2.out.b.cell 1
          have a2 : w2.cell? ⟨w.heap.size, 2, none⟩ = some (.slice y.br.A N.br.length y.br.c) := X2.out.b.cell 2
          have a3 : w2.cell? ⟨w.heap.size, 3, none⟩ = some (.slice y.ta.A N.ta.length y.ta.c) := X2.out.b.cell 3
          have a4 : w2.cell? ⟨w.heap.size, 4, none⟩ = some (.slice y.tb.A N.tb.length y.tb.c) := X2.out.b.cell 4
          have a5 : w2.cell? ⟨w.heap.size, 5, none⟩ = some (.slice y.bu.A N.bu.length y.bu.c) := X2.out.b.cell 5
          have a6 : w2.cell? ⟨w.heap.size, 6, none⟩ = some (.slice y.ow.A N.ow.length y.ow.c) := X2.out.b.cell 6
          have a7 : w2.cell? ⟨w.heap.size, 7, none⟩ = some (.slice y.tu.A N.tu.length y.tu.c) := X2.out.b.cell 7
          have a8 : w2.cell? ⟨w.heap.size, 8, none⟩ = some (.slice y.so.A N.so.length y.so.c) := X2.out.b.cell 8
          have a9 : w2.cell? ⟨w.heap.size, 9, none⟩ = some (.slice y.ar.A N.ar.length y.ar.c) := X2.out.b.cell 9
          have a10 : w2.cell? ⟨w.heap.size, 10, none⟩ = some (.int .i64 N.ti) := X2.out.b.cell 10
          go_wp2_with fail
          refine (C2.out _ (X2.out.in HI.out)).mono ?_
          rintro e w3 ⟨rfl, g3⟩
          have X3 := Lib.hid (X2.out.gb g3)
          clear g3
          clear a0 a1 a2 a3 a4 a5 a6 a7 a8 a9 a10
          have a0 : w3.cell? ⟨w.heap.size, 0, none⟩ = some (.int .i64 N.W) := X3.out.b.cell 0
          have a1 : w3.cell? ⟨w.heap.size, 1, none⟩ = some (.int .i64 N.H) := X3.out.b.cell 1
          have a2 : w3.cell? ⟨w.heap.size, 2, none⟩ = some (.slice y.br.A N.br.length y.br.c) := X3.out.b.cell 2
          have a3 : w3.cell? ⟨w.heap.size, 3, none⟩ = some (.slice y.ta.A N.ta.length y.ta.c) := X3.out.b.cell 3
          have a4 : w3.cell? ⟨w.heap.size, 4, none⟩ = some (.slice y.tb.A N.tb.length y.tb.c) := X3.out.b.cell 4
          have a5 : w3.cell? ⟨w.heap.size, 5, none⟩ = some (.slice y.bu.A N.bu.length y.bu.c) := X3.out.b.cell 5
          have a6 : w3.cell? ⟨w.heap.size, 6, none⟩ = some (.slice y.ow.A N.ow.length y.ow.c) := X3.out.b.cell 6
          have a7 : w3.cell? ⟨w.heap.size, 7, none⟩ = some (.slice y.tu.A N.tu.length y.tu.c) := X3.out.b.cell 7
          have a8 : w3.cell? ⟨w.heap.size, 8, none⟩ = some (.slice y.so.A N.so.length y.so.c) := X3.out.b.cell 8
          have a9 : w3.cell? ⟨w.heap.size, 9, none⟩ = some (.slice y.ar.A N.ar.length y.ar.c) := X3.out.b.cell 9
          have a10 : w3.cell? ⟨w.heap.size, 10, none⟩ = some (.int .i64 N.ti) := X3.out.b.cell 10
          go_wp2_with fail
          refine (C3.out _ (X3.out.in HI.out)).mono ?_
          rintro e w4 ⟨rfl, g4⟩
          have X4 := Lib.hid (X3.out.gb g4)
          clear g4
          clear a0 a1 a2 a3 a4 a5 a6 a7 a8 a9 a10
          go_wp2_with fail
          go_ret
          exact ⟨ret_bool R.out, X4.out.g⟩
        | true =>
          have C3 := Lib.hid (HC3.out true h3)
          cases h4 : withL (-1) 4 N.ow with
          | false =>
            have C4 := Lib.hid (HC4.out false h4)
            have R := Lib.hid (HNO.out (by rw [h4]; simp))
            clear h0 h1 h2 h3 h4
            go_enter Try.func40, Try.ntmps40
            go_wp2_with fail
            refine (C0.out _ (X0.out.in HI.out)).mono ?_
            rintro e w1 ⟨rfl, g1⟩
            have X1 := Lib.hid (X0.out.gb g1)
            clear g1
            have a0 : w1.cell? ⟨w.heap.size, 0, none⟩ = some (.int .i64 N.W) := X1.out.b.cell 0
            have a1 : w1.cell? ⟨w.heap.size, 1, none⟩ = some (.int .i64 N.H) := X1.out.b.cell 1
            have a2 : w1.cell? ⟨w.heap.size, 2, none⟩ = some (.slice y.br.A N.br.length y.br.c) := X1.out.b.cell 2
            have a3 : w1.cell? ⟨w.heap.size, 3, none⟩ = some (.slice y.ta.A N.ta.length y.ta.c) := X1.out.b.cell 3
            have a4 : w1.cell? ⟨w.heap.size, 4, none⟩ = some (.slice y.tb.A N.tb.length y.tb.c) := X1.out.b.cell 4
            have a5 : w1.cell? ⟨w.heap.size, 5, none⟩ = some (.slice y.bu.A N.bu.length y.bu.c) := X1.out.b.cell 5
            have a6 : w1.cell? ⟨w.heap.size, 6, none⟩ = some (.slice y.ow.A N.ow.length y.ow.c) := X1.out.b.cell 6
            have a7 : w1.cell? ⟨w.heap.size, 7, none⟩ = some (.slice y.tu.A N.tu.length y.tu.c) := X1.out.b.cell 7
            have a8 : w1.cell? ⟨w.heap.size, 8, none⟩ = some (.slice y.so.A N.so.length y.so.c) := X1.out.b.cell 8
            have a9 : w1.cell? ⟨w.heap.size, 9, none⟩ = some (.slice y.ar.A N.ar.length y.ar.c) := X1.out.b.cell 9
            have a10 : w1.cell? ⟨w.heap.size, 10, none⟩ = some (.int .i64 N.ti) := X1.out.b.cell 10
            go_wp2_with fail
            refine (C1.out _).mono ?_
            rintro e w2 ⟨rfl, g2⟩
            have X2 := Lib.hid (X1.out.gb g2)
            clear g2
            clear a0 a1 a2 a3 a4 a5 a6 a7 a8 a9 a10
            have a0 : w2.cell? ⟨w.heap.size, 0, none⟩ = some (.int .i64 N.W) := X2.out.b.cell 0
            have a1 : w2.cell? ⟨w.heap.size, 1, none⟩ = some (.int .i64 N.H) := X2.out.b.cell 1
            have a2 : w2.cell? ⟨w.heap.size, 2, none⟩ = some (.slice y.br.A N.br.length y.br.c) := X2.out.b.cell 2
            have a3 : w2.cell? ⟨w.heap.size, 3, none⟩ = some (.slice y.ta.A N.ta.length y.ta.c) := X2.out.b.cell 3
            have a4 : w2.cell? ⟨w.heap.size, 4, none⟩ = some (.slice y.tb.A N.tb.length y.tb.c) := X2.out.b.cell 4
            have a5 : w2.cell? ⟨w.heap.size, 5, none⟩ = some (.slice y.bu.A N.bu.length y.bu.c) := X2.out.b.cell 5
            have a6 : w2.cell? ⟨w.heap.size, 6, none⟩ = some (.slice y.ow.A N.ow.length y.ow.c) := X2.out.b.cell 6
            have a7 : w2.cell? ⟨w.heap.size, 7, none⟩ = some (.slice y.tu.A N.tu.length y.tu.c) := X2.out.b.cell 7
            have a8 : w2.cell? ⟨w.heap.size, 8, none⟩ = some (.slice y.so.A N.so.length y.so.c) := X2.out.b.cell 8
            have a9 : w2.cell? ⟨w.heap.size, 9, none⟩ = some (.slice y.ar.A N.ar.length y.ar.c) := X2.out.b.cell 9
            have a10 : w2.cell? ⟨w.heap.size, 10, none⟩ = some (.int .i64 N.ti) := X2.out.b.cell 10
            go_wp2_with fail
            refine (C2.out _ (X2.out.in HI.out)).mono ?_
            rintro e w3 ⟨rfl, g3⟩
            have X3 := Lib.hid (X2.out.gb g3)
            clear g3
            clear a0 a1 a2 a3 a4 a5 a6 a7 a8 a9 a10
            have a0 : w3.cell? ⟨w.heap.size, 0, none⟩ = some (.int .i64 N.W) := X3.out.b.cell 0
            have a1 : w3.cell? ⟨w.heap.size, 1, none⟩ = some (.int .i64 N.H) := X3.out.b.cell 1
            have a2 : w3.cell? ⟨w.heap.size, 2, none⟩ = some (.slice y.br.A N.br.length y.br.c) := X3.out.b.cell 2
            have a3 : w3.cell? ⟨w.heap.size, 3, none⟩ = some (.slice y.ta.A N.ta.length y.ta.c) := X3.out.b.cell 3
            have a4 : w3.cell? ⟨w.heap.size, 4, none⟩ = some (.slice y.tb.A N.tb.length y.tb.c) := X3.out.b.cell 4
            have a5 : w3.cell? ⟨w.heap.size, 5, none⟩ = some (.slice y.bu.A N.bu.length y.bu.c) := X3.out.b.cell 5
            have a6 : w3.cell? ⟨w.heap.size, 6, none⟩ = some (.slice y.ow.A N.ow.length y.ow.c) := X3.out.b.cell 6
            have a7 : w3.cell? ⟨w.heap.size, 7, none⟩ = some (.slice y.tu.A N.tu.length y.tu.c) := X3.out.b.cell 7
            have a8 : w3.cell? ⟨w.heap.size, 8, none⟩ = some (.slice y.so.A N.so.length y.so.c) := X3.out.b.cell 8
            have a9 : w3.cell? ⟨w.heap.size, 9, none⟩ = some (.slice y.ar.A N.ar.length y.ar.c) := X3.out.b.cell 9
            have a10 : w3.cell? ⟨w.heap.size, 10, none⟩ = some (.int .i64 N.ti) := X3.out.b.cell 10
            go_wp2_with fail
            refine (C3.out _ (X3.out.in HI.out)).mono ?_
            rintro e w4 ⟨rfl, g4⟩
            have X4 := Lib.hid (X3.out.gb g4)
            clear g4
            clear a0 a1 a2 a3 a4 a5 a6 a7 a8 a9 a10
            have a0 : w4.cell? ⟨w.heap.size, 0, none⟩ = some (.int .i64 N.W) := X4.out.b.cell 0
            have a1 : w4.cell? ⟨w.heap.size, 1, none⟩ = some (.int .i64 N.H) := X4.out.b.cell 1
            have a2 : w4.cell? ⟨w.heap.size, 2, none⟩ = some (.slice y.br.A N.br.length y.br.c) := X4.out.b.cell 2
            have a3 : w4.cell? ⟨w.heap.size, 3, none⟩ = some (.slice y.ta.A N.ta.length y.ta.c) := X4.out.b.cell 3
            have a4 : w4.cell? ⟨w.heap.size, 4, none⟩ = some (.slice y.tb.A N.tb.length y.tb.c) := X4.out.b.cell 4
            have a5 : w4.cell? ⟨w.heap.size, 5, none⟩ = some (.slice y.bu.A N.bu.length y.bu.c) := X4.out.b.cell 5
            have a6 : w4.cell? ⟨w.heap.size, 6, none⟩ = some (.slice y.ow.A N.ow.length y.ow.c) := X4.out.b.cell 6
            have a7 : w4.cell? ⟨w.heap.size, 7, none⟩ = some (.slice y.tu.A N.tu.length y.tu.c) := X4.out.b.cell 7
            have a8 : w4.cell? ⟨w.heap.size, 8, none⟩ = some (.slice y.so.A N.so.length y.so.c) := X4.out.b.cell 8
            have a9 : w4.cell? ⟨w.heap.size, 9, none⟩ = some (.slice y.ar.A N.ar.length y.ar.c) := X4.out.b.cell 9
            have a10 : w4.cell? ⟨w.heap.size, 10, none⟩ = some (.int .i64 N.ti) := X4.out.b.cell 10
            go_wp2_with fail
            refine (C4.out _ (X4.out.in HI.out).ow).mono ?_
            rintro e w5 ⟨rfl, g5⟩
            have X5 := Lib.hid (X4.out.gb g5)
            clear g5
            clear a0 a1 a2 a3 a4 a5 a6 a7 a8 a9 a10
            go_wp2_with fail
            go_ret
            exact ⟨ret_bool R.out, X5.out.g⟩
          | true =>
            have C4 := Lib.hid (HC4.out true h4)
            cases h5 : withL 0 9 N.tu with
            | false =>
              have C5 := Lib.hid (HC5.out false h5)
              have R := Lib.hid (HNO.out (by rw [h5]; simp))
              clear h0 h1 h2 h3 h4 h5
              go_enter Try.func40, Try.ntmps40
              go_wp2_with fail
              refine (C0.out _ (X0.out.in HI.out)).mono ?_
              rintro e w1 ⟨rfl, g1⟩
              have X1 := Lib.hid (X0.out.gb g1)
              clear g1
              have a0 : w1.cell? ⟨w.heap.size, 0, none⟩ = some (.int .i64 N.W) := X1.out.b.cell 0
              have a1 : w1.cell? ⟨w.heap.size, 1, none⟩ = some (.int .i64 N.H) := X1.out.b.cell 1
              have a2 : w1.cell? ⟨w.heap.size, 2, none⟩ = some (.slice y.br.A N.br.length y.br.c) := X1.out.b.cell 2
              have a3 : w1.cell? ⟨w.heap.size, 3, none⟩ = some (.slice y.ta.A N.ta.length y.ta.c) := X1.out.b.cell 3
              have a4 : w1.cell? ⟨w.heap.size, 4, none⟩ = some (.slice y.tb.A N.tb.length y.tb.c) := X1.out.b.cell 4
              have a5 : w1.cell? ⟨w.heap.size, 5, none⟩ = some (.slice y.bu.A N.bu.length y.bu.c) := X1.out.b.cell 5
              have a6 : w1.cell? ⟨w.heap.size, 6, none⟩ = some (.slice y.ow.A N.ow.length y.ow.c) := X1.out.b.cell 6
              have a7 : w1.cell? ⟨w.heap.size, 7, none⟩ = some (.slice y.tu.A N.tu.length y.tu.c) := X1.out.b.cell 7
              have a8 : w1.cell? ⟨w.heap.size, 8, none⟩ = some (.slice y.so.A N.so.length y.so.c) := X1.out.b.cell 8
              have a9 : w1.cell? ⟨w.heap.size, 9, none⟩ = some (.slice y.ar.A N.ar.length y.ar.c) := X1.out.b.cell 9
              have a10 : w1.cell? ⟨w.heap.size, 10, none⟩ = some (.int .i64 N.ti) := X1.out.b.cell 10
              go_wp2_with fail
              refine (C1.out _).mono ?_
              rintro e w2 ⟨rfl, g2⟩
              have X2 := Lib.hid (X1.out.gb g2)
              clear g2
              clear a0 a1 a2 a3 a4 a5 a6 a7 a8 a9 a10
              have a0 : w2.cell? ⟨w.heap.size, 0, none⟩ = some (.int .i64 N.W) := X2.out.b.cell 0
              have a1 : w2.cell? ⟨w.heap.size, 1, none⟩ = some (.int .i64 N.H) := X2.out.b.cell 1
              have a2 : w2.cell? ⟨w.heap.size, 2, none⟩ = some (.slice y.br.A N.br.length y.br.c) := X2.out.b.cell 2
              have a3 : w2.cell? ⟨w.heap.size, 3, none⟩ = some (.slice y.ta.A N.ta.length y.ta.c) := X2.out.b.cell 3
              have a4 : w2.cell? ⟨w.heap.size, 4, none⟩ = some (.slice y.tb.A N.tb.length y.tb.c) := X2.out.b.cell 4
              have a5 : w2.cell? ⟨w.heap.size, 5, none⟩ = some (.slice y.bu.A N.bu.length y.bu.c) := X2.out.b.cell 5
              have a6 : w2.cell? ⟨w.heap.size, 6, none⟩ = some (.slice y.ow.A N.ow.length y.ow.c) := X2.out.b.cell 6
              have a7 : w2.cell? ⟨w.heap.size, 7, none⟩ = some (.slice y.tu.A N.tu.length y.tu.c) := X2.out.b.cell 7
              have a8 : w2.cell? ⟨w.heap.size, 8, none⟩ = some (.slice y.so.A N.so.length y.so.c) := X2.out.b.cell 8
              have a9 : w2.cell? ⟨w.heap.size, 9, none⟩ = some (.slice y.ar.A N.ar.length y.ar.c) := X2.out.b.cell 9
              have a10 : w2.cell? ⟨w.heap.size, 10, none⟩ = some (.int .i64 N.ti) := X2.out.b.cell 10
              go_wp2_with fail
              refine (C2.out _ (X2.out.in HI.out)).mono ?_
              rintro e w3 ⟨rfl, g3⟩
              have X3 := Lib.hid (X2.out.gb g3)
              clear g3
              clear a0 a1 a2 a3 a4 a5 a6 a7 a8 a9 a10
              have a0 : w3.cell? ⟨w.heap.size, 0, none⟩ = some (.int .i64 N.W) := X3.out.b.cell 0
              have a1 : w3.cell? ⟨w.heap.size, 1, none⟩ = some (.int .i64 N.H) := X3.out.b.cell 1
              have a2 : w3.cell? ⟨w.heap.size, 2, none⟩ = some (.slice y.br.A N.br.length y.br.c) := X3.out.b.cell 2
              have a3 : w3.cell? ⟨w.heap.size, 3, none⟩ = some (.slice y.ta.A N.ta.length y.ta.c) := X3.out.b.cell 3
              have a4 : w3.cell? ⟨w.heap.size, 4, none⟩ = some (.slice y.tb.A N.tb.length y.tb.c) := X3.out.b.cell 4
              have a5 : w3.cell? ⟨w.heap.size, 5, none⟩ = some (.slice y.bu.A N.bu.length y.bu.c) := X3.out.b.cell 5
              have a6 : w3.cell? ⟨w.heap.size, 6, none⟩ = some (.slice y.ow.A N.ow.length y.ow.c) := X3.out.b.cell 6
              have a7 : w3.cell? ⟨w.heap.size, 7, none⟩ = some (.slice y.tu.A N.tu.length y.tu.c) := X3.out.b.cell 7
              have a8 : w3.cell? ⟨w.heap.size, 8, none⟩ = some (.slice y.so.A N.so.length y.so.c) := X3.out.b.cell 8
              have a9 : w3.cell? ⟨w.heap.size, 9, none⟩ = some (.slice y.ar.A N.ar.length y.ar.c) := X3.out.b.cell 9
              have a10 : w3.cell? ⟨w.heap.size, 10, none⟩ = some (.int .i64 N.ti) := X3.out.b.cell 10
              go_wp2_with fail
              refine (C3.out _ (X3.out.in HI.out)).mono ?_
              rintro e w4 ⟨rfl, g4⟩
              have X4 := Lib.hid (X3.out.gb g4)
              clear g4
              clear a0 a1 a2 a3 a4 a5 a6 a7 a8 a9 a10
              have a0 : w4.cell? ⟨w.heap.size, 0, none⟩ = some (.int .i64 N.W) := X4.out.b.cell 0
              have a1 : w4.cell? ⟨w.heap.size, 1, none⟩ = some (.int .i64 N.H) := X4.out.b.cell 1
              have a2 : w4.cell? ⟨w.heap.size, 2, none⟩ = some (.slice y.br.A N.br.length y.br.c) := X4.out.b.cell 2
              have a3 : w4.cell? ⟨w.heap.size, 3, none⟩ = some (.slice y.ta.A N.ta.length y.ta.c) := X4.out.b.cell 3
              have a4 : w4.cell? ⟨w.heap.size, 4, none⟩ = some (.slice y.tb.A N.tb.length y.tb.c) := X4.out.b.cell 4
              have a5 : w4.cell? ⟨w.heap.size, 5, none⟩ = some (.slice y.bu.A N.bu.length y.bu.c) := X4.out.b.cell 5
              have a6 : w4.cell? ⟨w.heap.size, 6, none⟩ = some (.slice y.ow.A N.ow.length y.ow.c) := X4.out.b.cell 6
              have a7 : w4.cell? ⟨w.heap.size, 7, none⟩ = some (.slice y.tu.A N.tu.length y.tu.c) := X4.out.b.cell 7
              have a8 : w4.cell? ⟨w.heap.size, 8, none⟩ = some (.slice y.so.A N.so.length y.so.c) := X4.out.b.cell 8
              have a9 : w4.cell? ⟨w.heap.size, 9, none⟩ = some (.slice y.ar.A N.ar.length y.ar.c) := X4.out.b.cell 9
              have a10 : w4.cell? ⟨w.heap.size, 10, none⟩ = some (.int .i64 N.ti) := X4.out.b.cell 10
              go_wp2_with fail
              refine (C4.out _ (X4.out.in HI.out).ow).mono ?_
              rintro e w5 ⟨rfl, g5⟩
              have X5 := Lib.hid (X4.out.gb g5)
              clear g5
              clear a0 a1 a2 a3 a4 a5 a6 a7 a8 a9 a10
              have a0 : w5.cell? ⟨w.heap.size, 0, none⟩ = some (.int .i64 N.W) := X5.out.b.cell 0
              have a1 : w5.cell? ⟨w.heap.size, 1, none⟩ = some (.int .i64 N.H) := X5.out.b.cell 1
              have a2 : w5.cell? ⟨w.heap.size, 2, none⟩ = some (.slice y.br.A N.br.length y.br.c) := X5.out.b.cell 2
              have a3 : w5.cell? ⟨w.heap.size, 3, none⟩ = some (.slice y.ta.A N.ta.length y.ta.c) := X5.out.b.cell 3
              have a4 : w5.cell? ⟨w.heap.size, 4, none⟩ = some (.slice y.tb.A N.tb.length y.tb.c) := X5.out.b.cell 4
              have a5 : w5.cell? ⟨w.heap.size, 5, none⟩ = some (.slice y.bu.A N.bu.length y.bu.c) := X5.out.b.cell 5
              have a6 : w5.cell? ⟨w.heap.size, 6, none⟩ = some (.slice y.ow.A N.ow.length y.ow.c) := X5.out.b.cell 6
              have a7 : w5.cell? ⟨w.heap.size, 7, none⟩ = some (.slice y.tu.A N.tu.length y.tu.c) := X5.out.b.cell 7
              have a8 : w5.cell? ⟨w.heap.size, 8, none⟩ = some (.slice y.so.A N.so.length y.so.c) := X5.out.b.cell 8
              have a9 : w5.cell? ⟨w.heap.size, 9, none⟩ = some (.slice y.ar.A N.ar.length y.ar.c) := X5.out.b.cell 9
              have a10 : w5.cell? ⟨w.heap.size, 10, none⟩ = some (.int .i64 N.ti) := X5.out.b.cell 10
              go_wp2_with fail
              refine (C5.out _ (X5.out.in HI.out).tu).mono ?_
              rintro e w6 ⟨rfl, g6⟩
              have X6 := Lib.hid (X5.out.gb g6)
              clear g6
              clear a0 a1 a2 a3 a4 a5 a6 a7 a8 a9 a10
              go_wp2_with fail
              go_ret
              exact ⟨ret_bool R.out, X6.out.g⟩
            | true =>
              have C5 := Lib.hid (HC5.out true h5)
              cases h6 : withL 0 1000000 [N.ti] with
              | false =>
                have C6 := Lib.hid (HC6.out false h6)
                have R := Lib.hid (HNO.out (by rw [h6]; simp))
                clear h0 h1 h2 h3 h4 h5 h6
                go_enter Try.func40, Try.ntmps40
                go_wp2_with fail
                refine (C0.out _ (X0.out.in HI.out)).mono ?_
                rintro e w1 ⟨rfl, g1⟩
                have X1 := Lib.hid (X0.out.gb g1)
                clear g1
                have a0 : w1.cell? ⟨w.heap.size, 0, none⟩ = some (.int .i64 N.W) := X1.out.b.cell 0
                have a1 : w1.cell? ⟨w.heap.size, 1, none⟩ = some (.int .i64 N.H) := X1.out.b.cell 1
                have a2 : w1.cell? ⟨w.heap.size, 2, none⟩ = some (.slice y.br.A N.br.length y.br.c) := X1.out.b.cell 2
                have a3 : w1.cell? ⟨w.heap.size, 3, none⟩ = some (.slice y.ta.A N.ta.length y.ta.c) := X1.out.b.cell 3
                have a4 : w1.cell? ⟨w.heap.size, 4, none⟩ = some (.slice y.tb.A N.tb.length y.tb.c) := X1.out.b.cell 4
                have a5 : w1.cell? ⟨w.heap.size, 5, none⟩ = some (.slice y.bu.A N.bu.length y.bu.c) := X1.out.b.cell 5
                have a6 : w1.cell? ⟨w.heap.size, 6, none⟩ = some (.slice y.ow.A N.ow.length y.ow.c) := X1.out.b.cell 6
                have a7 : w1.cell? ⟨w.heap.size, 7, none⟩ = some (.slice y.tu.A N.tu.length y.tu.c) := X1.out.b.cell 7
                have a8 : w1.cell? ⟨w.heap.size, 8, none⟩ = some (.slice y.so.A N.so.length y.so.c) := X1.out.b.cell 8
                have a9 : w1.cell? ⟨w.heap.size, 9, none⟩ = some (.slice y.ar.A N.ar.length y.ar.c) := X1.out.b.cell 9
                have a10 : w1.cell? ⟨w.heap.size, 10, none⟩ = some (.int .i64 N.ti) := X1.out.b.cell 10
                go_wp2_with fail
                refine (C1.out _).mono ?_
                rintro e w2 ⟨rfl, g2⟩
                have X2 := Lib.hid (X1.out.gb g2)
                clear g2
                clear a0 a1 a2 a3 a4 a5 a6 a7 a8 a9 a10
                have a0 : w2.cell? ⟨w.heap.size, 0, none⟩ = some (.int .i64 N.W) := X2.out.b.cell 0
                have a1 : w2.cell? ⟨w.heap.size, 1, none⟩ = some (.int .i64 N.H) := X2.out.b.cell 1
                have a2 : w2.cell? ⟨w.heap.size, 2, none⟩ = some (.slice y.br.A N.br.length y.br.c) := X2.out.b.cell 2
                have a3 : w2.cell? ⟨w.heap.size, 3, none⟩ = some (.slice y.ta.A N.ta.length y.ta.c) := X2.out.b.cell 3
                have a4 : w2.cell? ⟨w.heap.size, 4, none⟩ = some (.slice y.tb.A N.tb.length y.tb.c) := X2.out.b.cell 4
                have a5 : w2.cell? ⟨w.heap.size, 5, none⟩ = some (.slice y.bu.A N.bu.length y.bu.c) := X2.out.b.cell 5
                have a6 : w2.cell? ⟨w.heap.size, 6, none⟩ = some (.slice y.ow.A N.ow.length y.ow.c) := X2.out.b.cell 6
                have a7 : w2.cell? ⟨w.heap.size, 7, none⟩ = some (.slice y.tu.A N.tu.length y.tu.c) := X2.out.b.cell 7
                have a8 : w2.cell? ⟨w.heap.size, 8, none⟩ = some (.slice y.so.A N.so.length y.so.c) := X2.out.b.cell 8
                have a9 : w2.cell? ⟨w.heap.size, 9, none⟩ = some (.slice y.ar.A N.ar.length y.ar.c) := X2.out.b.cell 9
                have a10 : w2.cell? ⟨w.heap.size, 10, none⟩ = some (.int .i64 N.ti) := X2.out.b.cell 10
                go_wp2_with fail
                refine (C2.out _ (X2.out.in HI.out)).mono ?_
                rintro e w3 ⟨rfl, g3⟩
                have X3 := Lib.hid (X2.out.gb g3)
                clear g3
                clear a0 a1 a2 a3 a4 a5 a6 a7 a8 a9 a10
                have a0 : w3.cell? ⟨w.heap.size, 0, none⟩ = some (.int .i64 N.W) := X3.out.b.cell 0
                have a1 : w3.cell? ⟨w.heap.size, 1, none⟩ = some (.int .i64 N.H) := X3.out.b.cell 1
                have a2 : w3.cell? ⟨w.heap.size, 2, none⟩ = some (.slice y.br.A N.br.length y.br.c) := X3.out.b.cell 2
                have a3 : w3.cell? ⟨w.heap.size, 3, none⟩ = some (.slice y.ta.A N.ta.length y.ta.c) := X3.out.b.cell 3
                have a4 : w3.cell? ⟨w.heap.size, 4, none⟩ = some (.slice y.tb.A N.tb.length y.tb.c) := X3.out.b.cell 4
                have a5 : w3.cell? ⟨w.heap.size, 5, none⟩ = some (.slice y.bu.A N.bu.length y.bu.c) := X3.out.b.cell 5
                have a6 : w3.cell? ⟨w.heap.size, 6, none⟩ = some (.slice y.ow.A N.ow.length y.ow.c) := X3.out.b.cell 6
                have a7 : w3.cell? ⟨w.heap.size, 7, none⟩ = some (.slice y.tu.A N.tu.length y.tu.c) := X3.out.b.cell 7
                have a8 : w3.cell? ⟨w.heap.size, 8, none⟩ = some (.slice y.so.A N.so.length y.so.c) := X3.out.b.cell 8
                have a9 : w3.cell? ⟨w.heap.size, 9, none⟩ = some (.slice y.ar.A N.ar.length y.ar.c) := X3.out.b.cell 9
                have a10 : w3.cell? ⟨w.heap.size, 10, none⟩ = some (.int .i64 N.ti) := X3.out.b.cell 10
                go_wp2_with fail
                refine (C3.out _ (X3.out.in HI.out)).mono ?_
                rintro e w4 ⟨rfl, g4⟩
                have X4 := Lib.hid (X3.out.gb g4)
                clear g4
                clear a0 a1 a2 a3 a4 a5 a6 a7 a8 a9 a10
                have a0 : w4.cell? ⟨w.heap.size, 0, none⟩ = some (.int .i64 N.W) := X4.out.b.cell 0
                have a1 : w4.cell? ⟨w.heap.size, 1, none⟩ = some (.int .i64 N.H) := X4.out.b.cell 1
                have a2 : w4.cell? ⟨w.heap.size, 2, none⟩ = some (.slice y.br.A N.br.length y.br.c) := X4.out.b.cell 2
                have a3 : w4.cell? ⟨w.heap.size, 3, none⟩ = some (.slice y.ta.A N.ta.length y.ta.c) := X4.out.b.cell 3
                have a4 : w4.cell? ⟨w.heap.size, 4, none⟩ = some (.slice y.tb.A N.tb.length y.tb.c) := X4.out.b.cell 4
                have a5 : w4.cell? ⟨w.heap.size, 5, none⟩ = some (.slice y.bu.A N.bu.length y.bu.c) := X4.out.b.cell 5
                have a6 : w4.cell? ⟨w.heap.size, 6, none⟩ = some (.slice y.ow.A N.ow.length y.ow.c) := X4.out.b.cell 6
                have a7 : w4.cell? ⟨w.heap.size, 7, none⟩ = some (.slice y.tu.A N.tu.length y.tu.c) := X4.out.b.cell 7
                have a8 : w4.cell? ⟨w.heap.size, 8, none⟩ = some (.slice y.so.A N.so.length y.so.c) := X4.out.b.cell 8
                have a9 : w4.cell? ⟨w.heap.size, 9, none⟩ = some (.slice y.ar.A N.ar.length y.ar.c) := X4.out.b.cell 9
                have a10 : w4.cell? ⟨w.heap.size, 10, none⟩ = some (.int .i64 N.ti) := X4.out.b.cell 10
                go_wp2_with fail
                refine (C4.out _ (X4.out.in HI.out).ow).mono ?_
                rintro e w5 ⟨rfl, g5⟩
                have X5 := Lib.hid (X4.out.gb g5)
                clear g5
                clear a0 a1 a2 a3 a4 a5 a6 a7 a8 a9 a10
                have a0 : w5.cell? ⟨w.heap.size, 0, none⟩ = some (.int .i64 N.W) := X5.out.b.cell 0
                have a1 : w5.cell? ⟨w.heap.size, 1, none⟩ = some (.int .i64 N.H) := X5.out.b.cell 1
                have a2 : w5.cell? ⟨w.heap.size, 2, none⟩ = some (.slice y.br.A N.br.length y.br.c) := X5.out.b.cell 2
                have a3 : w5.cell? ⟨w.heap.size, 3, none⟩ = some (.slice y.ta.A N.ta.length y.ta.c) := X5.out.b.cell 3
                have a4 : w5.cell? ⟨w.heap.size, 4, none⟩ = some (.slice y.tb.A N.tb.length y.tb.c) := X5.out.b.cell 4
                have a5 : w5.cell? ⟨w.heap.size, 5, none⟩ = some (.slice y.bu.A N.bu.length y.bu.c) := X5.out.b.cell 5
                have a6 : w5.cell? ⟨w.heap.size, 6, none⟩ = some (.slice y.ow.A N.ow.length y.ow.c) := X5.out.b.cell 6
                have a7 : w5.cell? ⟨w.heap.size, 7, none⟩ = some (.slice y.tu.A N.tu.length y.tu.c) := X5.out.b.cell 7
                have a8 : w5.cell? ⟨w.heap.size, 8, none⟩ = some (.slice y.so.A N.so.length y.so.c) := X5.out.b.cell 8
                have a9 : w5.cell? ⟨w.heap.size, 9, none⟩ = some (.slice y.ar.A N.ar.length y.ar.c) := X5.out.b.cell 9
                have a10 : w5.cell? ⟨w.heap.size, 10, none⟩ = some (.int .i64 N.ti) := X5.out.b.cell 10
                go_wp2_with fail
                refine (C5.out _ (X5.out.in HI.out).tu).mono ?_
                rintro e w6 ⟨rfl, g6⟩
                have X6 := Lib.hid (X5.out.gb g6)
                clear g6
                clear a0 a1 a2 a3 a4 a5 a6 a7 a8 a9 a10
                have a0 : w6.cell? ⟨w.heap.size, 0, none⟩ = some (.int .i64 N.W) := X6.out.b.cell 0
                have a1 : w6.cell? ⟨w.heap.size, 1, none⟩ = some (.int .i64 N.H) := X6.out.b.cell 1
                have a2 : w6.cell? ⟨w.heap.size, 2, none⟩ = some (.slice y.br.A N.br.length y.br.c) := X6.out.b.cell 2
                have a3 : w6.cell? ⟨w.heap.size, 3, none⟩ = some (.slice y.ta.A N.ta.length y.ta.c) := X6.out.b.cell 3
                have a4 : w6.cell? ⟨w.heap.size, 4, none⟩ = some (.slice y.tb.A N.tb.length y.tb.c) := X6.out.b.cell 4
                have a5 : w6.cell? ⟨w.heap.size, 5, none⟩ = some (.slice y.bu.A N.bu.length y.bu.c) := X6.out.b.cell 5
                have a6 : w6.cell? ⟨w.heap.size, 6, none⟩ = some (.slice y.ow.A N.ow.length y.ow.c) := X6.out.b.cell 6
                have a7 : w6.cell? ⟨w.heap.size, 7, none⟩ = some (.slice y.tu.A N.tu.length y.tu.c) := X6.out.b.cell 7
                have a8 : w6.cell? ⟨w.heap.size, 8, none⟩ = some (.slice y.so.A N.so.length y.so.c) := X6.out.b.cell 8
                have a9 : w6.cell? ⟨w.heap.size, 9, none⟩ = some (.slice y.ar.A N.ar.length y.ar.c) := X6.out.b.cell 9
                have a10 : w6.cell? ⟨w.heap.size, 10, none⟩ = some (.int .i64 N.ti) := X6.out.b.cell 10
                go_wp2_with fail
                refine (C6.out _).mono ?_
                rintro e w7 ⟨rfl, g7⟩
                have X7 := Lib.hid (X6.out.gb g7)
                clear g7
                clear a0 a1 a2 a3 a4 a5 a6 a7 a8 a9 a10
                go_wp2_with fail
                go_ret
                exact ⟨ret_bool R.out, X7.out.g⟩
              | true =>
                have C6 := Lib.hid (HC6.out true h6)
                have R := Lib.hid (show true = netOk N from (netOk_iff.2 ⟨h0, h1, h2, h3, h4, h5, h6⟩).symm)
                clear h0 h1 h2 h3 h4 h5 h6
                go_enter Try.func40, Try.ntmps40
                go_wp2_with fail
                refine (C0.out _ (X0.out.in HI.out)).mono ?_
                rintro e w1 ⟨rfl, g1⟩
                have X1 := Lib.hid (X0.out.gb g1)
                clear g1
                have a0 : w1.cell? ⟨w.heap.size, 0, none⟩ = some (.int .i64 N.W) := X1.out.b.cell 0
                have a1 : w1.cell? ⟨w.heap.size, 1, none⟩ = some (.int .i64 N.H) := X1.out.b.cell 1
                have a2 : w1.cell? ⟨w.heap.size, 2, none⟩ = some (.slice y.br.A N.br.length y.br.c) := X1.out.b.cell 2
                have a3 : w1.cell? ⟨w.heap.size, 3, none⟩ = some (.slice y.ta.A N.ta.length y.ta.c) := X1.out.b.cell 3
                have a4 : w1.cell? ⟨w.heap.size, 4, none⟩ = some (.slice y.tb.A N.tb.length y.tb.c) := X1.out.b.cell 4
                have a5 : w1.cell? ⟨w.heap.size, 5, none⟩ = some (.slice y.bu.A N.bu.length y.bu.c) := X1.out.b.cell 5
                have a6 : w1.cell? ⟨w.heap.size, 6, none⟩ = some (.slice y.ow.A N.ow.length y.ow.c) := X1.out.b.cell 6
                have a7 : w1.cell? ⟨w.heap.size, 7, none⟩ = some (.slice y.tu.A N.tu.length y.tu.c) := X1.out.b.cell 7
                have a8 : w1.cell? ⟨w.heap.size, 8, none⟩ = some (.slice y.so.A N.so.length y.so.c) := X1.out.b.cell 8
                have a9 : w1.cell? ⟨w.heap.size, 9, none⟩ = some (.slice y.ar.A N.ar.length y.ar.c) := X1.out.b.cell 9
                have a10 : w1.cell? ⟨w.heap.size, 10, none⟩ = some (.int .i64 N.ti) := X1.out.b.cell 10
                go_wp2_with fail
                refine (C1.out _).mono ?_
                rintro e w2 ⟨rfl, g2⟩
                have X2 := Lib.hid (X1.out.gb g2)
                clear g2
                clear a0 a1 a2 a3 a4 a5 a6 a7 a8 a9 a10
                have a0 : w2.cell? ⟨w.heap.size, 0, none⟩ = some (.int .i64 N.W) := X2.out.b.cell 0
                have a1 : w2.cell? ⟨w.heap.size, 1, none⟩ = some (.int .i64 N.H) := X2.out.b.cell 1
                have a2 : w2.cell? ⟨w.heap.size, 2, none⟩ = some (.slice y.br.A N.br.length y.br.c) := X2.out.b.cell 2
                have a3 : w2.cell? ⟨w.heap.size, 3, none⟩ = some (.slice y.ta.A N.ta.length y.ta.c) := X2.out.b.cell 3
                have a4 : w2.cell? ⟨w.heap.size, 4, none⟩ = some (.slice y.tb.A N.tb.length y.tb.c) := X2.out.b.cell 4
                have a5 : w2.cell? ⟨w.heap.size, 5, none⟩ = some (.slice y.bu.A N.bu.length y.bu.c) := X2.out.b.cell 5
                have a6 : w2.cell? ⟨w.heap.size, 6, none⟩ = some (.slice y.ow.A N.ow.length y.ow.c) := X2.out.b.cell 6
                have a7 : w2.cell? ⟨w.heap.size, 7, none⟩ = some (.slice y.tu.A N.tu.length y.tu.c) := X2.out.b.cell 7
                have a8 : w2.cell? ⟨w.heap.size, 8, none⟩ = some (.slice y.so.A N.so.length y.so.c) := X2.out.b.cell 8
                have a9 : w2.cell? ⟨w.heap.size, 9, none⟩ = some (.slice y.ar.A N.ar.length y.ar.c) := X2.out.b.cell 9
                have a10 : w2.cell? ⟨w.heap.size, 10, none⟩ = some (.int .i64 N.ti) := X2.out.b.cell 10
                go_wp2_with fail
                refine (C2.out _ (X2.out.in HI.out)).mono ?_
                rintro e w3 ⟨rfl, g3⟩
                have X3 := Lib.hid (X2.out.gb g3)
                clear g3
                clear a0 a1 a2 a3 a4 a5 a6 a7 a8 a9 a10
                have a0 : w3.cell? ⟨w.heap.size, 0, none⟩ = some (.int .i64 N.W) := X3.out.b.cell 0
                have a1 : w3.cell? ⟨w.heap.size, 1, none⟩ = some (.int .i64 N.H) := X3.out.b.cell 1
                have a2 : w3.cell? ⟨w.heap.size, 2, none⟩ = some (.slice y.br.A N.br.length y.br.c) := X3.out.b.cell 2
                have a3 : w3.cell? ⟨w.heap.size, 3, none⟩ = some (.slice y.ta.A N.ta.length y.ta.c) := X3.out.b.cell 3
                have a4 : w3.cell? ⟨w.heap.size, 4, none⟩ = some (.slice y.tb.A N.tb.length y.tb.c) := X3.out.b.cell 4
                have a5 : w3.cell? ⟨w.heap.size, 5, none⟩ = some (.slice y.bu.A N.bu.length y.bu.c) := X3.out.b.cell 5
                have a6 : w3.cell? ⟨w.heap.size, 6, none⟩ = some (.slice y.ow.A N.ow.length y.ow.c) := X3.out.b.cell 6
                have a7 : w3.cell? ⟨w.heap.size, 7, none⟩ = some (.slice y.tu.A N.tu.length y.tu.c) := X3.out.b.cell 7
                have a8 : w3.cell? ⟨w.heap.size, 8, none⟩ = some (.slice y.so.A N.so.length y.so.c) := X3.out.b.cell 8
                have a9 : w3.cell? ⟨w.heap.size, 9, none⟩ = some (.slice y.ar.A N.ar.length y.ar.c) := X3.out.b.cell 9
                have a10 : w3.cell? ⟨w.heap.size, 10, none⟩ = some (.int .i64 N.ti) := X3.out.b.cell 10
                go_wp2_with fail
                refine (C3.out _ (X3.out.in HI.out)).mono ?_
                rintro e w4 ⟨rfl, g4⟩
                have X4 := Lib.hid (X3.out.gb g4)
                clear g4
                clear a0 a1 a2 a3 a4 a5 a6 a7 a8 a9 a10
                have a0 : w4.cell? ⟨w.heap.size, 0, none⟩ = some (.int .i64 N.W) := X4.out.b.cell 0
                have a1 : w4.cell? ⟨w.heap.size, 1, none⟩ = some (.int .i64 N.H) := X4.out.b.cell 1
                have a2 : w4.cell? ⟨w.heap.size, 2, none⟩ = some (.slice y.br.A N.br.length y.br.c) := X4.out.b.cell 2
                have a3 : w4.cell? ⟨w.heap.size, 3, none⟩ = some (.slice y.ta.A N.ta.length y.ta.c) := X4.out.b.cell 3
                have a4 : w4.cell? ⟨w.heap.size, 4, none⟩ = some (.slice y.tb.A N.tb.length y.tb.c) := X4.out.b.cell 4
                have a5 : w4.cell? ⟨w.heap.size, 5, none⟩ = some (.slice y.bu.A N.bu.length y.bu.c) := X4.out.b.cell 5
                have a6 : w4.cell? ⟨w.heap.size, 6, none⟩ = some (.slice y.ow.A N.ow.length y.ow.c) := X4.out.b.cell 6
                have a7 : w4.cell? ⟨w.heap.size, 7, none⟩ = some (.slice y.tu.A N.tu.length y.tu.c) := X4.out.b.cell 7
                have a8 : w4.cell? ⟨w.heap.size, 8, none⟩ = some (.slice y.so.A N.so.length y.so.c) := X4.out.b.cell 8
                have a9 : w4.cell? ⟨w.heap.size, 9, none⟩ = some (.slice y.ar.A N.ar.length y.ar.c) := X4.out.b.cell 9
                have a10 : w4.cell? ⟨w.heap.size, 10, none⟩ = some (.int .i64 N.ti) := X4.out.b.cell 10
                go_wp2_with fail
                refine (C4.out _ (X4.out.in HI.out).ow).mono ?_
                rintro e w5 ⟨rfl, g5⟩
                have X5 := Lib.hid (X4.out.gb g5)
                clear g5
                clear a0 a1 a2 a3 a4 a5 a6 a7 a8 a9 a10
                have a0 : w5.cell? ⟨w.heap.size, 0, none⟩ = some (.int .i64 N.W) := X5.out.b.cell 0
                have a1 : w5.cell? ⟨w.heap.size, 1, none⟩ = some (.int .i64 N.H) := X5.out.b.cell 1
                have a2 : w5.cell? ⟨w.heap.size, 2, none⟩ = some (.slice y.br.A N.br.length y.br.c) := X5.out.b.cell 2
                have a3 : w5.cell? ⟨w.heap.size, 3, none⟩ = some (.slice y.ta.A N.ta.length y.ta.c) := X5.out.b.cell 3
                have a4 : w5.cell? ⟨w.heap.size, 4, none⟩ = some (.slice y.tb.A N.tb.length y.tb.c) := X5.out.b.cell 4
                have a5 : w5.cell? ⟨w.heap.size, 5, none⟩ = some (.slice y.bu.A N.bu.length y.bu.c) := X5.out.b.cell 5
                have a6 : w5.cell? ⟨w.heap.size, 6, none⟩ = some (.slice y.ow.A N.ow.length y.ow.c) := X5.out.b.cell 6
                have a7 : w5.cell? ⟨w.heap.size, 7, none⟩ = some (.slice y.tu.A N.tu.length y.tu.c) := X5.out.b.cell 7
                have a8 : w5.cell? ⟨w.heap.size, 8, none⟩ = some (.slice y.so.A N.so.length y.so.c) := X5.out.b.cell 8
                have a9 : w5.cell? ⟨w.heap.size, 9, none⟩ = some (.slice y.ar.A N.ar.length y.ar.c) := X5.out.b.cell 9
                have a10 : w5.cell? ⟨w.heap.size, 10, none⟩ = some (.int .i64 N.ti) := X5.out.b.cell 10
                go_wp2_with fail
                refine (C5.out _ (X5.out.in HI.out).tu).mono ?_
                rintro e w6 ⟨rfl, g6⟩
                have X6 := Lib.hid (X5.out.gb g6)
                clear g6
                clear a0 a1 a2 a3 a4 a5 a6 a7 a8 a9 a10
                have a0 : w6.cell? ⟨w.heap.size, 0, none⟩ = some (.int .i64 N.W) := X6.out.b.cell 0
                have a1 : w6.cell? ⟨w.heap.size, 1, none⟩ = some (.int .i64 N.H) := X6.out.b.cell 1
                have a2 : w6.cell? ⟨w.heap.size, 2, none⟩ = some (.slice y.br.A N.br.length y.br.c) := X6.out.b.cell 2
                have a3 : w6.cell? ⟨w.heap.size, 3, none⟩ = some (.slice y.ta.A N.ta.length y.ta.c) := X6.out.b.cell 3
                have a4 : w6.cell? ⟨w.heap.size, 4, none⟩ = some (.slice y.tb.A N.tb.length y.tb.c) := X6.out.b.cell 4
                have a5 : w6.cell? ⟨w.heap.size, 5, none⟩ = some (.slice y.bu.A N.bu.length y.bu.c) := X6.out.b.cell 5
                have a6 : w6.cell? ⟨w.heap.size, 6, none⟩ = some (.slice y.ow.A N.ow.length y.ow.c) := X6.out.b.cell 6
                have a7 : w6.cell? ⟨w.heap.size, 7, none⟩ = some (.slice y.tu.A N.tu.length y.tu.c) := X6.out.b.cell 7
                have a8 : w6.cell? ⟨w.heap.size, 8, none⟩ = some (.slice y.so.A N.so.length y.so.c) := X6.out.b.cell 8
                have a9 : w6.cell? ⟨w.heap.size, 9, none⟩ = some (.slice y.ar.A N.ar.length y.ar.c) := X6.out.b.cell 9
                have a10 : w6.cell? ⟨w.heap.size, 10, none⟩ = some (.int .i64 N.ti) := X6.out.b.cell 10
                go_wp2_with fail
                refine (C6.out _).mono ?_
                rintro e w7 ⟨rfl, g7⟩
                have X7 := Lib.hid (X6.out.gb g7)
                clear g7
                clear a0 a1 a2 a3 a4 a5 a6 a7 a8 a9 a10
                go_wp2_with fail
                go_ret
                exact ⟨ret_bool R.out, X7.out.g⟩
end Go.Proofs.Ytplpdjpldadcmaa
end

section
namespace Go.Proofs.Ytplpdjpldadcmaa
open Go.ChangeShapes Go.WideShapes Go.ChangeAt Go.RowKit
set_option linter.unusedVariables false
set_option maxRecDepth 20000

def reqB (N : Nt) (a : Nat) (q : Int) (i : Nat) : Bool := decide (0 ≤ q) && reqG N a i q.toNat
def reqsV (N : Nt) (a : Nat) (q : Int) (k : Nat) : List Int := ((List.range k).filter fun i => reqB N a q i).map fun i : Nat => (i : Int)
theorem reqsV_next (N : Nt) (a : Nat) (q : Int) (k : Nat) : reqsV N a q (k + 1) = if reqB N a q k = true then reqsV N a q k ++ [(k : Int)] else reqsV N a q k := by
  simp only [reqsV, List.range_succ, List.filter_append, List.map_append]
  cases h : reqB N a q k with
  | true => simp [h]
  | false => simp [h]
theorem reqsV_len (N : Nt) (a : Nat) (q : Int) (k : Nat) : (reqsV N a q k).length ≤ k := by
  simp only [reqsV, List.length_map]
  exact Nat.le_trans (List.length_filter_le _ _) (by simp)
/-- An entry of a valid table is a port. -/
theorem entry_le {W H : Int} {L P : List Int} {k a b : Nat} (hk : countG W H = (k : Int)) (h : tableG W H L P = true) (ha : a < k) (hb : b < k) : P.getD (a * k + b) 0 ≤ 4 := by
  rw [tableG, Bool.and_eq_true, List.all_eq_true] at h
  have h1 := h.2 a (List.mem_range.2 (by rw [hk]; exact ha))
  rw [List.all_eq_true] at h1
  have h2 := h1 b (List.mem_range.2 (by rw [hk]; exact hb))
  have e : tabG (countG W H) P (a : Int) (b : Int) = P.getD (a * k + b) 0 := by
    rw [tabG, hk, show ((a : Int) * (k : Int) + (b : Int)).toNat = a * k + b by rw [← Int.natCast_mul, ← Int.natCast_add]; rfl]
  rw [entryG] at h2
  split at h2
  · rename_i hab
    have h3 := of_decide_eq_true h2
    rw [← hab] at e
    rw [h3] at e
    omega
  · rw [← e]
    by_cases h4 : tabG (countG W H) P (a : Int) (b : Int) = 4
    · omega
    · cases hs : stepsG W H L (a : Int) (tabG (countG W H) P (a : Int) (b : Int)) with
      | true => have := (steps_next hs).2.1; omega
      | false =>
        rw [walkOf, walkF_bad rfl h4 hs] at h2
        simp at h2
theorem leastTo_le (N : Nt) (a i : Nat) : ∀ k, leastTo N a i k < (k : Int) := by
  intro k
  induction k with
  | zero => simp [leastTo]
  | succ k ih =>
    rw [leastTo]
    split
    · split <;> omega
    · omega
theorem want_le {N : Nt} {k a i : Nat} (hf : Fit N k) (h : netOk N = true) (ha : a < k) (hi : i < 10) : wantG N a i ≤ 4 := by
  rw [netOk, Bool.and_eq_true] at h
  obtain ⟨h1, h2⟩ := clsOk_both h.1
  have hl := leastTo_le N a i 5
  rw [wantG]
  cases hb : bufA N (10 * a + i) with
  | nil => simp only [wantL]; omega
  | cons x tl =>
    rw [wantL]
    split
    · have hjl : 10 * a + i < N.bu.length := by rw [hf.bu]; omega
      have hx := hf.fb (10 * a + i) (x :: tl) x (by rw [← hb, bufA, List.getD_eq_getElem?_getD, List.getElem?_eq_getElem hjl]; rfl) (List.mem_cons_self ..)
      rw [hf.cnt, tabC]
      split
      · exact entry_le hf.cnt h2 ha (by omega)
      · exact entry_le hf.cnt h1 ha (by omega)
    · omega
theorem reqsV_is {N : Nt} {k a : Nat} {q : Int} (hf : Fit N k) (h : netOk N = true) (ha : a < k) (hh : hasG N.W N.H (a : Int) = true) : reqsV N a q 10 = reqsG N (a : Int) q := by
  rw [reqsG, hereG, h, hh, Bool.true_and, Bool.true_and, Int.toNat_natCast]
  by_cases h0 : 0 ≤ q
  · by_cases h4 : q ≤ 4
    · rw [if_pos (decide_eq_true ⟨h0, h4⟩)]
      simp only [reqsV, reqsTo, reqB, decide_eq_true h0, Bool.true_and]
    · rw [if_neg (by rw [decide_eq_true_eq]; omega)]
      simp only [reqsV, List.map_eq_nil_iff, List.filter_eq_nil_iff]
      intro i hi
      have hw := want_le hf h ha (List.mem_range.1 hi)
      rw [reqB, reqG, decide_eq_false (show ¬ wantG N a i = ((q.toNat : Nat) : Int) by omega)]
      simp
  · rw [if_neg (by rw [decide_eq_true_eq]; omega)]
    simp only [reqsV, List.map_eq_nil_iff, List.filter_eq_nil_iff]
    intro i hi
    rw [reqB, decide_eq_false h0]
    simp
set_option maxHeartbeats 3200000 in
theorem implReqsU (y : Na) (N : Nt) (k a : Nat) (q : Int) (hf : Fit N k) (hok : netOk N = true) (hn : NetSm N) (ha : a < k) (w : World) (h : NetIn w w.heap.size y N) :
    Calls Try.prog 47 #[.agg #[.int .i64 N.W, .int .i64 N.H, .slice y.br.A N.br.length y.br.c, .slice y.ta.A N.ta.length y.ta.c, .slice y.tb.A N.tb.length y.tb.c, .slice y.bu.A N.bu.length y.bu.c, .slice y.ow.A N.ow.length y.ow.c, .slice y.tu.A N.tu.length y.tu.c, .slice y.so.A N.so.length y.so.c, .slice y.ar.A N.ar.length y.ar.c, .int .i64 N.ti], .int .i64 (a : Int), .int .i64 q] w (NewI (reqsV N a q 10) w) := by
  obtain ⟨i0, ii, iz0, iz1, iz2⟩ := info_parts info_int
  have ge := gb_alloc (gb_refl w none) (.cells #[.int .i64 N.W, .int .i64 N.H, .slice y.br.A N.br.length y.br.c, .slice y.ta.A N.ta.length y.ta.c, .slice y.tb.A N.tb.length y.tb.c, .slice y.bu.A N.bu.length y.bu.c, .slice y.ow.A N.ow.length y.ow.c, .slice y.tu.A N.tu.length y.tu.c, .slice y.so.A N.so.length y.so.c, .slice y.ar.A N.ar.length y.ar.c, .int .i64 N.ti] 44)
  have HIN := Lib.hid ((h.none (Nat.le_refl _) ge).more ge.size)
  have KB := Lib.hid (Blk.new w 44 #[.int .i64 N.W, .int .i64 N.H, .slice y.br.A N.br.length y.br.c, .slice y.ta.A N.ta.length y.ta.c, .slice y.tb.A N.tb.length y.tb.c, .slice y.bu.A N.bu.length y.bu.c, .slice y.ow.A N.ow.length y.ow.c, .slice y.tu.A N.tu.length y.tu.c, .slice y.so.A N.so.length y.so.c, .slice y.ar.A N.ar.length y.ar.c, .int .i64 N.ti])
  have B1 := Lib.hid (gb_below_none ge (Nat.le_refl _))
  have h0w := Lib.hid h
  have HRQ := Lib.hid (fun i (hi : i < 10) (b : Bool) (hb : reqB N a q i = b) w' hh => show Calls Try.prog 46 #[.agg #[.int .i64 N.W, .int .i64 N.H, .slice y.br.A N.br.length y.br.c, .slice y.ta.A N.ta.length y.ta.c, .slice y.tb.A N.tb.length y.tb.c, .slice y.bu.A N.bu.length y.bu.c, .slice y.ow.A N.ow.length y.ow.c, .slice y.tu.A N.tu.length y.tu.c, .slice y.so.A N.so.length y.so.c, .slice y.ar.A N.ar.length y.ar.c, .int .i64 N.ti], .agg #[.int .i64 (a : Int), .int .i64 ((i / 2 : Nat) : Int), .int .i64 ((i % 2 : Nat) : Int)], .int .i64 q] w' (RetB b w') from hb ▸ implIsReqU y N k a i _ _ q hf hn ha hi rfl rfl (want_le hf hok ha hi) w' hh)
  clear h hn hf hok ha ge
  go_enter Try.func47, Try.ntmps47
  go_wp2_with fail
  generalize w.alloc (.cells #[.int .i64 N.W, .int .i64 N.H, .slice y.br.A N.br.length y.br.c, .slice y.ta.A N.ta.length y.ta.c, .slice y.tb.A N.tb.length y.tb.c, .slice y.bu.A N.bu.length y.bu.c, .slice y.ow.A N.ow.length y.ow.c, .slice y.tu.A N.tu.length y.tu.c, .slice y.so.A N.so.length y.so.c, .slice y.ar.A N.ar.length y.ar.c, .int .i64 N.ti] 44) = wv at *
  go_loopw [7, 9] (fun s v wr => ∃ (i : Nat) (A : Option Addr) (c : Nat), v = .int .i64 (i : Int) ∧ i ≤ 10 ∧ s = .slice A (reqsV N a q i).length c ∧ wr.ownsRow w.heap.size 3 1 s (reqsV N a q i).length (intsV (reqsV N a q i)) ∧ NetIn wr wr.heap.size y N ∧ Blk wr w.heap.size 44 #[.int .i64 N.W, .int .i64 N.H, .slice y.br.A N.br.length y.br.c, .slice y.ta.A N.ta.length y.ta.c, .slice y.tb.A N.tb.length y.tb.c, .slice y.bu.A N.bu.length y.bu.c, .slice y.ow.A N.ow.length y.ow.c, .slice y.tu.A N.tu.length y.tu.c, .slice y.so.A N.so.length y.so.c, .slice y.ar.A N.ar.length y.ar.c, .int .i64 N.ti] ∧ Below w.heap.size w wr) (fun _ v _ => 10 - (intOf v).toNat)
  case atStart => exact ⟨0, none, 0, rfl, by omega, rfl, World.ownsRow_nil _ _ _ _, HIN.out, KB.out, B1.out⟩
  case round =>
    obtain ⟨i, A, c, rfl, hi, rfl, ho, hin, kb, hb⟩ := hrel
    have HO := Lib.hid ho
    have HI := Lib.hid hin
    have HK := Lib.hid kb
    have HB := Lib.hid hb
    have hln := reqsV_len N a q i
    obtain ⟨m, hm⟩ : ∃ m, (reqsV N a q i).length = m := ⟨_, rfl⟩
    rw [hm] at HO hln
    rw [hm]
    by_cases hlt : i < 10
    · have g0 : (i : Int) < 10 := by omega
      have e4 : IntKind.i64.wrap ((i : Int) + 1) = ((i + 1 : Nat) : Int) := IntWalk.i64_in _ (by omega)
      have hnx := reqsV_next N a q i
      obtain ⟨b, hbb⟩ : ∃ b, reqB N a q i = b := ⟨_, rfl⟩
      rw [hbb] at hnx
      have HM := Lib.hid hm
      have HNX := Lib.hid hnx
      have HR1 := Lib.hid (HRQ.out i hlt b hbb)
      have HIO := Lib.hid (fun w' => implInletOf a i hlt w')
      have T0 := Lib.hid (gb_refl wr none)
      have KQ := Lib.hid (fun w' (hg : wr.grownBy w' none) => (show w'.cell? ⟨w.heap.size, 0, none⟩ = some (.int .i64 N.W) ∧ w'.cell? ⟨w.heap.size, 1, none⟩ = some (.int .i64 N.H) ∧ w'.cell? ⟨w.heap.size, 2, none⟩ = some (.slice y.br.A N.br.length y.br.c) ∧ w'.cell? ⟨w.heap.size, 3, none⟩ = some (.slice y.ta.A N.ta.length y.ta.c) ∧ w'.cell? ⟨w.heap.size, 4, none⟩ = some (.slice y.tb.A N.tb.length y.tb.c) ∧ w'.cell? ⟨w.heap.size, 5, none⟩ = some (.slice y.bu.A N.bu.length y.bu.c) ∧ w'.cell? ⟨w.heap.size, 6, none⟩ = some (.slice y.ow.A N.ow.length y.ow.c) ∧ w'.cell? ⟨w.heap.size, 7, none⟩ = some (.slice y.tu.A N.tu.length y.tu.c) ∧ w'.cell? ⟨w.heap.size, 8, none⟩ = some (.slice y.so.A N.so.length y.so.c) ∧ w'.cell? ⟨w.heap.size, 9, none⟩ = some (.slice y.ar.A N.ar.length y.ar.c) ∧ w'.cell? ⟨w.heap.size, 10, none⟩ = some (.int .i64 N.ti) from ⟨(HK.out.grown hg (by simp)).cell 0, (HK.out.grown hg (by simp)).cell 1, (HK.out.grown hg (by simp)).cell 2, (HK.out.grown hg (by simp)).cell 3, (HK.out.grown hg (by simp)).cell 4, (HK.out.grown hg (by simp)).cell 5, (HK.out.grown hg (by simp)).cell 6, (HK.out.grown hg (by simp)).cell 7, (HK.out.grown hg (by simp)).cell 8, (HK.out.grown hg (by simp)).cell 9, (HK.out.grown hg (by simp)).cell 10⟩))
      clear ho hin kb hb hm hnx hbb
      obtain ⟨p, hp⟩ : ∃ p, i / 2 = p := ⟨_, rfl⟩
      obtain ⟨d, hd⟩ : ∃ d, i % 2 = d := ⟨_, rfl⟩
      rw [hp, hd] at HR1 HIO
      clear hp hd
      cases b with
      | true =>
        go_wp2_with fail
        go_region_held3 (fun w' => w'.cell? ⟨w.heap.size, 0, none⟩ = some (.int .i64 N.W) ∧ w'.cell? ⟨w.heap.size, 1, none⟩ = some (.int .i64 N.H) ∧ w'.cell? ⟨w.heap.size, 2, none⟩ = some (.slice y.br.A N.br.length y.br.c) ∧ w'.cell? ⟨w.heap.size, 3, none⟩ = some (.slice y.ta.A N.ta.length y.ta.c) ∧ w'.cell? ⟨w.heap.size, 4, none⟩ = some (.slice y.tb.A N.tb.length y.tb.c) ∧ w'.cell? ⟨w.heap.size, 5, none⟩ = some (.slice y.bu.A N.bu.length y.bu.c) ∧ w'.cell? ⟨w.heap.size, 6, none⟩ = some (.slice y.ow.A N.ow.length y.ow.c) ∧ w'.cell? ⟨w.heap.size, 7, none⟩ = some (.slice y.tu.A N.tu.length y.tu.c) ∧ w'.cell? ⟨w.heap.size, 8, none⟩ = some (.slice y.so.A N.so.length y.so.c) ∧ w'.cell? ⟨w.heap.size, 9, none⟩ = some (.slice y.ar.A N.ar.length y.ar.c) ∧ w'.cell? ⟨w.heap.size, 10, none⟩ = some (.int .i64 N.ti))
          (first | with_reducible exact KQ.out _ (gb_drew T0.out) | with_reducible exact KQ.out _ T6.out | with_reducible exact KQ.out _ T5.out | fail)
          (first
            | (go_at_call 35; (with_reducible refine (HIO.out _).mono ?_); rintro e w5 ⟨rfl, hg⟩; have T5 := Lib.hid (gb_trans (gb_drew T0.out) hg); clear hg)
            | (go_at_call 46; (with_reducible refine (HR1.out _ ((HI.out.none (Nat.le_refl _) T5.out).more T5.out.size)).mono ?_); rintro e w6 ⟨rfl, hg⟩; have T6 := Lib.hid (gb_trans T5.out hg); clear hg)
            | fail)
        have O2 := Lib.hid (own_none HO.out T6.out)
        have I2 := Lib.hid ((HI.out.none (Nat.le_refl _) T6.out).more T6.out.size)
        have K2 := Lib.hid (HK.out.grown T6.out (by simp))
        have B2 := Lib.hid (HB.out.trans (gb_below_none T6.out HB.out.size))
        have HEQ := Lib.hid (show reqsV N a q (i + 1) = reqsV N a q i ++ [(i : Int)] by rw [HNX.out]; simp)
        have b3' := Lib.hid (show ∀ u ∈ [Value.int .i64 (i : Int)], u.oneCell' = true by simp [Value.oneCell'])
        have b4' := Lib.hid (show m + 1 ≤ maxLen by unfold maxLen; omega)
        have SZ2 := Lib.hid (show w.heap.size ≤ (w6.alloc (.cells #[.int .i64 (i : Int)] 3)).heap.size by have := B2.out.size; rw [alloc_size]; omega)
        go_wp2_with (at_builtin; refine wpList_append_own _ rfl _ _ 24 rfl w.heap.size 3 i0 (.int .i64 0) 1 8 Try.underlying24 ii iz0 iz1 iz2 rfl (by decide) _ m _ rfl (O2.out.alloc _) ⟨w6.heap.size, 0, none⟩ 1 1 [.int .i64 (i : Int)] rfl rfl (World.news_of_block (cs := #[.int .i64 (i : Int)]) (t := 3) (fr := (0, 0)) (heap_alloc_new w6 _)) b3'.out b4'.out (by omega) SZ2.out ?_; intro v' w4 hown4 hgrow4 hnb4; obtain ⟨A4, c4, rfl, _⟩ := own_form hown4; have O4 := Lib.hid hown4; have G4 := Lib.hid hgrow4; clear hown4 hgrow4 hnb4)
        have ga := gb_alloc (gb_refl w6 none) (.cells #[.int .i64 (i : Int)] 3)
        have B4 := Lib.hid ((B2.out.alloc B2.out.size _).grown G4.out SZ2.out (fun j e => (O2.out.lt j e).1))
        have K4 := Lib.hid ((K2.out.grown ga (by simp)).grown G4.out (fun e => own_ne O2.out K2.out (by decide) e.symm))
        have HL4 := Lib.hid (show (reqsV N a q (i + 1)).length = m + 1 by rw [HEQ.out, List.length_append, HM.out]; rfl)
        have O5 := Lib.hid (show w4.ownsRow w.heap.size 3 1 (.slice A4 (m + 1) c4) (m + 1) (intsV (reqsV N a q (i + 1))) by rw [HEQ.out, intsV_append]; exact O4.out)
        have I4 := Lib.hid (show NetIn w4 w4.heap.size y N from by
          have h2 : NetIn w4 w.heap.size y N := ((h0w.out.below B4.out))
          exact h2.more B4.out.size)
        go_wp2_with fail
        go_roundw
        case rel => exact ⟨i + 1, _, _, by go_num, by omega, by rw [HL4.out], by rw [HL4.out]; exact O5.out, I4.out, K4.out, B4.out⟩
        case measure => simp [intOf]; omega
      | false =>
        go_wp2_with fail
        go_region_held3 (fun w' => w'.cell? ⟨w.heap.size, 0, none⟩ = some (.int .i64 N.W) ∧ w'.cell? ⟨w.heap.size, 1, none⟩ = some (.int .i64 N.H) ∧ w'.cell? ⟨w.heap.size, 2, none⟩ = some (.slice y.br.A N.br.length y.br.c) ∧ w'.cell? ⟨w.heap.size, 3, none⟩ = some (.slice y.ta.A N.ta.length y.ta.c) ∧ w'.cell? ⟨w.heap.size, 4, none⟩ = some (.slice y.tb.A N.tb.length y.tb.c) ∧ w'.cell? ⟨w.heap.size, 5, none⟩ = some (.slice y.bu.A N.bu.length y.bu.c) ∧ w'.cell? ⟨w.heap.size, 6, none⟩ = some (.slice y.ow.A N.ow.length y.ow.c) ∧ w'.cell? ⟨w.heap.size, 7, none⟩ = some (.slice y.tu.A N.tu.length y.tu.c) ∧ w'.cell? ⟨w.heap.size, 8, none⟩ = some (.slice y.so.A N.so.length y.so.c) ∧ w'.cell? ⟨w.heap.size, 9, none⟩ = some (.slice y.ar.A N.ar.length y.ar.c) ∧ w'.cell? ⟨w.heap.size, 10, none⟩ = some (.int .i64 N.ti))
          (first | with_reducible exact KQ.out _ (gb_drew T0.out) | with_reducible exact KQ.out _ T6.out | with_reducible exact KQ.out _ T5.out | fail)
          (first
            | (go_at_call 35; (with_reducible refine (HIO.out _).mono ?_); rintro e w5 ⟨rfl, hg⟩; have T5 := Lib.hid (gb_trans (gb_drew T0.out) hg); clear hg)
            | (go_at_call 46; (with_reducible refine (HR1.out _ ((HI.out.none (Nat.le_refl _) T5.out).more T5.out.size)).mono ?_); rintro e w6 ⟨rfl, hg⟩; have T6 := Lib.hid (gb_trans T5.out hg); clear hg)
            | fail)
        have O2 := Lib.hid (own_none HO.out T6.out)
        have I2 := Lib.hid ((HI.out.none (Nat.le_refl _) T6.out).more T6.out.size)
        have K2 := Lib.hid (HK.out.grown T6.out (by simp))
        have B2 := Lib.hid (HB.out.trans (gb_below_none T6.out HB.out.size))
        have HEQ := Lib.hid (show reqsV N a q (i + 1) = reqsV N a q i by rw [HNX.out]; rfl)
        go_wp2_with fail
        go_roundw
        case rel => exact ⟨i + 1, _, _, by go_num, by omega, by rw [HEQ.out, HM.out], by rw [HEQ.out, HM.out]; exact O2.out, I2.out, K2.out, B2.out⟩
        case measure => simp [intOf]; omega
    · obtain rfl : i = 10 := by omega
      have HM := Lib.hid hm
      clear ho hin kb hb hm
      go_wp2_with fail
      go_ret
      exact ⟨_, rfl, by rw [HM.out]; exact HO.out, HB.out⟩
end Go.Proofs.Ytplpdjpldadcmaa
end

section
namespace Go.Proofs.Ytplpdjpldadcmaa
open Go.ChangeShapes Go.WideShapes Go.ChangeAt Go.RowKit
set_option linter.unusedVariables false
set_option maxRecDepth 20000

theorem implHasNodeR (W H n : Int) (b : Bool) (h : hasG W H n = b) (w : World) :
    Calls Try.prog 41 #[.agg #[.int .i64 W, .int .i64 H], .int .i64 n] w (RetB b w) := h ▸ implHasNode W H n w
theorem has_nat {W H a : Int} {k : Nat} (hk : countG W H = (k : Int)) (h : hasG W H a = true) : ∃ a' : Nat, a = (a' : Int) ∧ a' < k := by
  have h4 := hasG_iff.1 h
  exact ⟨a.toNat, by omega, by omega⟩
def inpG (N : Nt) (a i : Int) : Bool := netOk N && (hasG N.W N.H a && decide (0 ≤ i ∧ i ≤ 9))
set_option maxHeartbeats 1600000 in
theorem implHasInput (y : Na) (N : Nt) (a i : Int) (w : World) (h : NetIn w w.heap.size y N) (hn : NetSm N) (hc : NetCap y N) (hL : WfL N.br) :
    Calls Try.prog 33 #[.agg #[.int .i64 N.W, .int .i64 N.H, .slice y.br.A N.br.length y.br.c, .slice y.ta.A N.ta.length y.ta.c, .slice y.tb.A N.tb.length y.tb.c, .slice y.bu.A N.bu.length y.bu.c, .slice y.ow.A N.ow.length y.ow.c, .slice y.tu.A N.tu.length y.tu.c, .slice y.so.A N.so.length y.so.c, .slice y.ar.A N.ar.length y.ar.c, .int .i64 N.ti], .int .i64 a, .int .i64 i] w (RetB (inpG N a i) w) := by
  have ge := gb_alloc (gb_refl w none) (.cells #[.int .i64 N.W, .int .i64 N.H, .slice y.br.A N.br.length y.br.c, .slice y.ta.A N.ta.length y.ta.c, .slice y.tb.A N.tb.length y.tb.c, .slice y.bu.A N.bu.length y.bu.c, .slice y.ow.A N.ow.length y.ow.c, .slice y.tu.A N.tu.length y.tu.c, .slice y.so.A N.so.length y.so.c, .slice y.ar.A N.ar.length y.ar.c, .int .i64 N.ti] 44)
  have hin := (h.none (Nat.le_refl _) ge).more ge.size
  have HIN := Lib.hid hin
  have KB := Lib.hid (Blk.new w 44 #[.int .i64 N.W, .int .i64 N.H, .slice y.br.A N.br.length y.br.c, .slice y.ta.A N.ta.length y.ta.c, .slice y.tb.A N.tb.length y.tb.c, .slice y.bu.A N.bu.length y.bu.c, .slice y.ow.A N.ow.length y.ow.c, .slice y.tu.A N.tu.length y.tu.c, .slice y.so.A N.so.length y.so.c, .slice y.ar.A N.ar.length y.ar.c, .int .i64 N.ti])
  have GE := Lib.hid ge
  have hNK := implNetOk y N _ hin hn hc hL
  obtain ⟨b, hb⟩ : ∃ b, netOk N = b := ⟨_, rfl⟩
  obtain ⟨d, hd⟩ : ∃ d, hasG N.W N.H a = d := ⟨_, rfl⟩
  obtain ⟨e, he⟩ : ∃ e, decide (0 ≤ i ∧ i ≤ 9) = e := ⟨_, rfl⟩
  rw [hb] at hNK
  have HNK := Lib.hid hNK
  have HHA := Lib.hid (fun w' => implHasNodeR N.W N.H a d hd w')
  have HWI := Lib.hid (fun w' => implWithin1 0 9 i e he w')
  have HR : Hid (inpG N a i = (b && (d && e))) := Lib.hid (by rw [inpG, hb, hd, he])
  clear h hn hc hL ge hin hNK hb hd he
  go_enter Try.func33, Try.ntmps33
  go_wp2_with fail
  refine HNK.out.mono ?_
  rintro e1 w1 ⟨rfl, hg1⟩
  have G1 := Lib.hid (gb_trans GE.out hg1)
  have b0 : w1.cell? ⟨w.heap.size, 0, none⟩ = some (.int .i64 N.W) := (KB.out.grown hg1 (by simp)).cell 0
  have b1 : w1.cell? ⟨w.heap.size, 1, none⟩ = some (.int .i64 N.H) := (KB.out.grown hg1 (by simp)).cell 1
  clear hg1
  cases b with
  | false =>
    go_wp2_with fail
    go_ret
    exact ⟨by rw [HR.out]; rfl, G1.out⟩
  | true =>
    go_wp2_with fail
    refine (HHA.out _).mono ?_
    rintro e2 w2 ⟨rfl, hg2⟩
    have G2 := Lib.hid (gb_trans G1.out hg2)
    clear hg2 b0 b1
    cases d with
    | false =>
      go_wp2_with fail
      go_ret
      exact ⟨by rw [HR.out]; rfl, G2.out⟩
    | true =>
      go_wp2_with fail
      refine (HWI.out _).mono ?_
      rintro e3 w3 ⟨rfl, hg3⟩
      have G3 := Lib.hid (gb_trans G2.out hg3)
      clear hg3
      go_wp2_with fail
      go_ret
      exact ⟨by rw [HR.out]; rfl, G3.out⟩
set_option maxHeartbeats 1600000 in
theorem implWantedPort (y : Na) (N : Nt) (a i : Int) (w : World) (h : NetIn w w.heap.size y N) (hn : NetSm N) (hc : NetCap y N) (hL : WfL N.br) :
    Calls Try.prog 10 #[.agg #[.int .i64 N.W, .int .i64 N.H, .slice y.br.A N.br.length y.br.c, .slice y.ta.A N.ta.length y.ta.c, .slice y.tb.A N.tb.length y.tb.c, .slice y.bu.A N.bu.length y.bu.c, .slice y.ow.A N.ow.length y.ow.c, .slice y.tu.A N.tu.length y.tu.c, .slice y.so.A N.so.length y.so.c, .slice y.ar.A N.ar.length y.ar.c, .int .i64 N.ti], .int .i64 a, .int .i64 i] w (RetI (wantedG N a i) none w) := by
  have ge := gb_alloc (gb_refl w none) (.cells #[.int .i64 N.W, .int .i64 N.H, .slice y.br.A N.br.length y.br.c, .slice y.ta.A N.ta.length y.ta.c, .slice y.tb.A N.tb.length y.tb.c, .slice y.bu.A N.bu.length y.bu.c, .slice y.ow.A N.ow.length y.ow.c, .slice y.tu.A N.tu.length y.tu.c, .slice y.so.A N.so.length y.so.c, .slice y.ar.A N.ar.length y.ar.c, .int .i64 N.ti] 44)
  have hin := (h.none (Nat.le_refl _) ge).more ge.size
  have HIN := Lib.hid hin
  have KB := Lib.hid (Blk.new w 44 #[.int .i64 N.W, .int .i64 N.H, .slice y.br.A N.br.length y.br.c, .slice y.ta.A N.ta.length y.ta.c, .slice y.tb.A N.tb.length y.tb.c, .slice y.bu.A N.bu.length y.bu.c, .slice y.ow.A N.ow.length y.ow.c, .slice y.tu.A N.tu.length y.tu.c, .slice y.so.A N.so.length y.so.c, .slice y.ar.A N.ar.length y.ar.c, .int .i64 N.ti])
  have GE := Lib.hid ge
  have hHI := implHasInput y N a i _ hin hn hc hL
  have hr : wantedG N a i = if inpG N a i = true then wantG N a.toNat i.toNat else -1 := by
    rw [wantedG, hereG, inpG, show decide (0 ≤ (0 : Int) ∧ (0 : Int) ≤ 4) = true from rfl, Bool.and_true, Bool.and_assoc]
  obtain ⟨b, hb⟩ : ∃ b, inpG N a i = b := ⟨_, rfl⟩
  rw [hb] at hHI hr
  have HHI := Lib.hid hHI
  cases b with
  | false =>
    have HR := Lib.hid (show wantedG N a i = -1 by rw [hr]; rfl)
    clear h hn hc hL ge hin hHI hb hr
    go_enter Try.func10, Try.ntmps10
    go_wp2_with fail
    refine HHI.out.mono ?_
    rintro e1 w1 ⟨rfl, hg1⟩
    go_wp2_with fail
    go_ret
    exact ⟨by rw [HR.out]; rfl, gb_trans GE.out hg1⟩
  | true =>
    rw [inpG, Bool.and_eq_true, Bool.and_eq_true, decide_eq_true_eq] at hb
    obtain ⟨hok, hha, hi⟩ := hb
    obtain ⟨k, hf⟩ := fit_of hok
    obtain ⟨a', rfl, ha⟩ := has_nat hf.cnt hha
    obtain ⟨i', rfl⟩ : ∃ i' : Nat, i = (i' : Int) := ⟨i.toNat, by omega⟩
    have HR := Lib.hid (show wantedG N (a' : Int) (i' : Int) = wantG N a' i' by rw [hr]; rfl)
    have hi' : i' < 10 := by omega
    obtain ⟨r, hrr⟩ : ∃ r, wantG N a' i' = r := ⟨_, rfl⟩
    have hWA := fun w' hh => implWantedU y N k a' i' _ _ hf ha hi' rfl rfl w' hh
    obtain ⟨p, hp⟩ : ∃ p, i' / 2 = p := ⟨_, rfl⟩
    obtain ⟨c, hc'⟩ : ∃ c, i' % 2 = c := ⟨_, rfl⟩
    have hIO := fun w' => implInletOf a' i' hi' w'
    rw [hrr] at hWA HR
    rw [hp, hc'] at hWA hIO
    have HWA := Lib.hid hWA
    have HIO := Lib.hid hIO
    clear h hn hc hL ge hin hHI hr hok hha hi hf ha hi' hrr hp hc' hWA hIO
    go_enter Try.func10, Try.ntmps10
    go_wp2_with fail
    refine HHI.out.mono ?_
    rintro e1 w1 ⟨rfl, hg1⟩
    have KQ := Lib.hid (fun w' (hg : w1.grownBy w' none) => (show w'.cell? ⟨w.heap.size, 0, none⟩ = some (.int .i64 N.W) ∧ w'.cell? ⟨w.heap.size, 1, none⟩ = some (.int .i64 N.H) ∧ w'.cell? ⟨w.heap.size, 2, none⟩ = some (.slice y.br.A N.br.length y.br.c) ∧ w'.cell? ⟨w.heap.size, 3, none⟩ = some (.slice y.ta.A N.ta.length y.ta.c) ∧ w'.cell? ⟨w.heap.size, 4, none⟩ = some (.slice y.tb.A N.tb.length y.tb.c) ∧ w'.cell? ⟨w.heap.size, 5, none⟩ = some (.slice y.bu.A N.bu.length y.bu.c) ∧ w'.cell? ⟨w.heap.size, 6, none⟩ = some (.slice y.ow.A N.ow.length y.ow.c) ∧ w'.cell? ⟨w.heap.size, 7, none⟩ = some (.slice y.tu.A N.tu.length y.tu.c) ∧ w'.cell? ⟨w.heap.size, 8, none⟩ = some (.slice y.so.A N.so.length y.so.c) ∧ w'.cell? ⟨w.heap.size, 9, none⟩ = some (.slice y.ar.A N.ar.length y.ar.c) ∧ w'.cell? ⟨w.heap.size, 10, none⟩ = some (.int .i64 N.ti) from ⟨((KB.out.grown hg1 (by simp)).grown hg (by simp)).cell 0, ((KB.out.grown hg1 (by simp)).grown hg (by simp)).cell 1, ((KB.out.grown hg1 (by simp)).grown hg (by simp)).cell 2, ((KB.out.grown hg1 (by simp)).grown hg (by simp)).cell 3, ((KB.out.grown hg1 (by simp)).grown hg (by simp)).cell 4, ((KB.out.grown hg1 (by simp)).grown hg (by simp)).cell 5, ((KB.out.grown hg1 (by simp)).grown hg (by simp)).cell 6, ((KB.out.grown hg1 (by simp)).grown hg (by simp)).cell 7, ((KB.out.grown hg1 (by simp)).grown hg (by simp)).cell 8, ((KB.out.grown hg1 (by simp)).grown hg (by simp)).cell 9, ((KB.out.grown hg1 (by simp)).grown hg (by simp)).cell 10⟩))
    have HIN1 := Lib.hid ((HIN.out.none (Nat.le_refl _) hg1).more hg1.size)
    have G1 := Lib.hid (gb_trans GE.out hg1)
    have T0 := Lib.hid (gb_refl w1 none)
    clear hg1
    go_wp2_with fail
    go_region_held3 (fun w' => w'.cell? ⟨w.heap.size, 0, none⟩ = some (.int .i64 N.W) ∧ w'.cell? ⟨w.heap.size, 1, none⟩ = some (.int .i64 N.H) ∧ w'.cell? ⟨w.heap.size, 2, none⟩ = some (.slice y.br.A N.br.length y.br.c) ∧ w'.cell? ⟨w.heap.size, 3, none⟩ = some (.slice y.ta.A N.ta.length y.ta.c) ∧ w'.cell? ⟨w.heap.size, 4, none⟩ = some (.slice y.tb.A N.tb.length y.tb.c) ∧ w'.cell? ⟨w.heap.size, 5, none⟩ = some (.slice y.bu.A N.bu.length y.bu.c) ∧ w'.cell? ⟨w.heap.size, 6, none⟩ = some (.slice y.ow.A N.ow.length y.ow.c) ∧ w'.cell? ⟨w.heap.size, 7, none⟩ = some (.slice y.tu.A N.tu.length y.tu.c) ∧ w'.cell? ⟨w.heap.size, 8, none⟩ = some (.slice y.so.A N.so.length y.so.c) ∧ w'.cell? ⟨w.heap.size, 9, none⟩ = some (.slice y.ar.A N.ar.length y.ar.c) ∧ w'.cell? ⟨w.heap.size, 10, none⟩ = some (.int .i64 N.ti))
      (first | with_reducible exact KQ.out _ (gb_drew T0.out) | with_reducible exact KQ.out _ T6.out | with_reducible exact KQ.out _ T5.out | fail)
      (first
        | (go_at_call 35; (with_reducible refine (HIO.out _).mono ?_); rintro e w5 ⟨rfl, hg⟩; have T5 := Lib.hid (gb_trans (gb_drew T0.out) hg); clear hg)
        | (go_at_call 34; (with_reducible refine (HWA.out _ ((HIN1.out.none (Nat.le_refl _) T5.out).more T5.out.size)).mono ?_); rintro e w6 ⟨rfl, hg⟩; have T6 := Lib.hid (gb_trans T5.out hg); clear hg)
        | fail)
    all_goals
      go_wp2_with fail
      go_ret
      exact ⟨by rw [HR.out]; rfl, gb_trans G1.out T6.out⟩
set_option maxHeartbeats 3200000 in
theorem implHasRoom (y : Na) (N : Nt) (a q c : Int) (w : World) (h : NetIn w w.heap.size y N) (hn : NetSm N) (hc : NetCap y N) (hL : WfL N.br) :
    Calls Try.prog 13 #[.agg #[.int .i64 N.W, .int .i64 N.H, .slice y.br.A N.br.length y.br.c, .slice y.ta.A N.ta.length y.ta.c, .slice y.tb.A N.tb.length y.tb.c, .slice y.bu.A N.bu.length y.bu.c, .slice y.ow.A N.ow.length y.ow.c, .slice y.tu.A N.tu.length y.tu.c, .slice y.so.A N.so.length y.so.c, .slice y.ar.A N.ar.length y.ar.c, .int .i64 N.ti], .int .i64 a, .int .i64 q, .int .i64 c] w (RetB (hasRoomG N a q c) w) := by
  have ge := gb_alloc (gb_refl w none) (.cells #[.int .i64 N.W, .int .i64 N.H, .slice y.br.A N.br.length y.br.c, .slice y.ta.A N.ta.length y.ta.c, .slice y.tb.A N.tb.length y.tb.c, .slice y.bu.A N.bu.length y.bu.c, .slice y.ow.A N.ow.length y.ow.c, .slice y.tu.A N.tu.length y.tu.c, .slice y.so.A N.so.length y.so.c, .slice y.ar.A N.ar.length y.ar.c, .int .i64 N.ti] 44)
  have hin := (h.none (Nat.le_refl _) ge).more ge.size
  have HIN := Lib.hid hin
  have KB := Lib.hid (Blk.new w 44 #[.int .i64 N.W, .int .i64 N.H, .slice y.br.A N.br.length y.br.c, .slice y.ta.A N.ta.length y.ta.c, .slice y.tb.A N.tb.length y.tb.c, .slice y.bu.A N.bu.length y.bu.c, .slice y.ow.A N.ow.length y.ow.c, .slice y.tu.A N.tu.length y.tu.c, .slice y.so.A N.so.length y.so.c, .slice y.ar.A N.ar.length y.ar.c, .int .i64 N.ti])
  have GE := Lib.hid ge
  have hNK := implNetOk y N _ hin hn hc hL
  obtain ⟨b, hb⟩ : ∃ b, netOk N = b := ⟨_, rfl⟩
  obtain ⟨d, hd⟩ : ∃ d, hasG N.W N.H a = d := ⟨_, rfl⟩
  obtain ⟨e, he⟩ : ∃ e, decide (0 ≤ q ∧ q ≤ 4) = e := ⟨_, rfl⟩
  obtain ⟨f, hff⟩ : ∃ f, decide (0 ≤ c ∧ c ≤ 1) = f := ⟨_, rfl⟩
  rw [hb] at hNK
  have HNK := Lib.hid hNK
  have HHA := Lib.hid (fun w' => implHasNodeR N.W N.H a d hd w')
  have HWI := Lib.hid (fun w' => implWithin1 0 4 q e he w')
  have HCL := Lib.hid (fun w' => implIsClassN c f hff w')
  have hr : hasRoomG N a q c = ((b && (d && e)) && (f && roomG N a.toNat q.toNat c.toNat)) := by rw [hasRoomG, hereG, hb, hd, he, hff]
  have HR := Lib.hid hr
  have HF : Hid (b = true → d = true → e = true → f = true → ∃ r, roomG N a.toNat q.toNat c.toNat = r ∧ ∀ w', NetIn w' w'.heap.size y N → Calls Try.prog 44 #[.agg #[.int .i64 N.W, .int .i64 N.H, .slice y.br.A N.br.length y.br.c, .slice y.ta.A N.ta.length y.ta.c, .slice y.tb.A N.tb.length y.tb.c, .slice y.bu.A N.bu.length y.bu.c, .slice y.ow.A N.ow.length y.ow.c, .slice y.tu.A N.tu.length y.tu.c, .slice y.so.A N.so.length y.so.c, .slice y.ar.A N.ar.length y.ar.c, .int .i64 N.ti], .int .i64 a, .int .i64 q, .int .i64 c] w' (RetB r w')) := Lib.hid (fun h1 h2 h3 h4 => by
    subst h1; subst h2; subst h3; subst h4
    obtain ⟨k, hf⟩ := fit_of hb
    obtain ⟨a', rfl, ha⟩ := has_nat hf.cnt hd
    have h5 := of_decide_eq_true he
    have h6 := of_decide_eq_true hff
    obtain ⟨q', rfl⟩ : ∃ q' : Nat, q = (q' : Int) := ⟨q.toNat, by omega⟩
    obtain ⟨c', rfl⟩ : ∃ c' : Nat, c = (c' : Int) := ⟨c.toNat, by omega⟩
    exact ⟨_, rfl, fun w' hh => implHasRoomU y N k a' q' c' hf hn ha (by omega) (by omega) w' hh⟩)
  clear h hn hc hL ge hin hNK hb hd he hff hr
  go_enter Try.func13, Try.ntmps13
  go_wp2_with fail
  refine HNK.out.mono ?_
  rintro e1 w1 ⟨rfl, hg1⟩
  have G1 := Lib.hid (gb_trans GE.out hg1)
  have K1 := Lib.hid (KB.out.grown hg1 (by simp))
  have I1 := Lib.hid ((HIN.out.none (Nat.le_refl _) hg1).more hg1.size)
  have b0 : w1.cell? ⟨w.heap.size, 0, none⟩ = some (.int .i64 N.W) := K1.out.cell 0
  have b1 : w1.cell? ⟨w.heap.size, 1, none⟩ = some (.int .i64 N.H) := K1.out.cell 1
  clear hg1
  cases b with
  | false =>
    go_wp2_with fail
    go_ret
    exact ⟨by rw [HR.out]; rfl, G1.out⟩
  | true =>
  go_wp2_with fail
  refine (HHA.out _).mono ?_
  rintro e2 w2 ⟨rfl, hg2⟩
  have G2 := Lib.hid (gb_trans G1.out hg2)
  have K2 := Lib.hid (K1.out.grown hg2 (by simp))
  have I2 := Lib.hid ((I1.out.none (Nat.le_refl _) hg2).more hg2.size)
  clear hg2 b0 b1
  cases d with
  | false =>
    go_wp2_with fail
    go_ret
    exact ⟨by rw [HR.out]; rfl, G2.out⟩
  | true =>
  go_wp2_with fail
  refine (HWI.out _).mono ?_
  rintro e3 w3 ⟨rfl, hg3⟩
  have G3 := Lib.hid (gb_trans G2.out hg3)
  have K3 := Lib.hid (K2.out.grown hg3 (by simp))
  have I3 := Lib.hid ((I2.out.none (Nat.le_refl _) hg3).more hg3.size)
  clear hg3
  cases e with
  | false =>
    go_wp2_with fail
    go_ret
    exact ⟨by rw [HR.out]; rfl, G3.out⟩
  | true =>
  go_wp2_with fail
  refine (HCL.out _).mono ?_
  rintro e4 w4 ⟨rfl, rfl⟩
  cases f with
  | false =>
    go_wp2_with fail
    go_ret
    exact ⟨by rw [HR.out]; rfl, G3.out⟩
  | true =>
  obtain ⟨r, hrr, hro⟩ := HF.out (by first | trivial | rfl) (by first | trivial | rfl) (by first | trivial | rfl) (by first | trivial | rfl)
  have HRR := Lib.hid hrr
  have HRO := Lib.hid hro
  have b0 : w3.cell? ⟨w.heap.size, 0, none⟩ = some (.int .i64 N.W) := K3.out.cell 0
  have b1 : w3.cell? ⟨w.heap.size, 1, none⟩ = some (.int .i64 N.H) := K3.out.cell 1
  have b2 : w3.cell? ⟨w.heap.size, 2, none⟩ = some (.slice y.br.A N.br.length y.br.c) := K3.out.cell 2
  have b3 : w3.cell? ⟨w.heap.size, 3, none⟩ = some (.slice y.ta.A N.ta.length y.ta.c) := K3.out.cell 3
  have b4 : w3.cell? ⟨w.heap.size, 4, none⟩ = some (.slice y.tb.A N.tb.length y.tb.c) := K3.out.cell 4
  have b5 : w3.cell? ⟨w.heap.size, 5, none⟩ = some (.slice y.bu.A N.bu.length y.bu.c) := K3.out.cell 5
  have b6 : w3.cell? ⟨w.heap.size, 6, none⟩ = some (.slice y.ow.A N.ow.length y.ow.c) := K3.out.cell 6
  have b7 : w3.cell? ⟨w.heap.size, 7, none⟩ = some (.slice y.tu.A N.tu.length y.tu.c) := K3.out.cell 7
  have b8 : w3.cell? ⟨w.heap.size, 8, none⟩ = some (.slice y.so.A N.so.length y.so.c) := K3.out.cell 8
  have b9 : w3.cell? ⟨w.heap.size, 9, none⟩ = some (.slice y.ar.A N.ar.length y.ar.c) := K3.out.cell 9
  have b10 : w3.cell? ⟨w.heap.size, 10, none⟩ = some (.int .i64 N.ti) := K3.out.cell 10
  clear hrr hro
  go_wp2_with fail
  refine (HRO.out _ I3.out).mono ?_
  rintro e5 w5 ⟨rfl, hg5⟩
  go_wp2_with fail
  go_ret
  exact ⟨by rw [HR.out, HRR.out]; rfl, gb_trans G3.out hg5⟩
set_option maxHeartbeats 3200000 in
theorem implIsRequest (y : Na) (N : Nt) (a i q : Int) (w : World) (h : NetIn w w.heap.size y N) (hn : NetSm N) (hc : NetCap y N) (hL : WfL N.br) :
    Calls Try.prog 15 #[.agg #[.int .i64 N.W, .int .i64 N.H, .slice y.br.A N.br.length y.br.c, .slice y.ta.A N.ta.length y.ta.c, .slice y.tb.A N.tb.length y.tb.c, .slice y.bu.A N.bu.length y.bu.c, .slice y.ow.A N.ow.length y.ow.c, .slice y.tu.A N.tu.length y.tu.c, .slice y.so.A N.so.length y.so.c, .slice y.ar.A N.ar.length y.ar.c, .int .i64 N.ti], .int .i64 a, .int .i64 i, .int .i64 q] w (RetB (isReqG N a i q) w) := by
  have ge := gb_alloc (gb_refl w none) (.cells #[.int .i64 N.W, .int .i64 N.H, .slice y.br.A N.br.length y.br.c, .slice y.ta.A N.ta.length y.ta.c, .slice y.tb.A N.tb.length y.tb.c, .slice y.bu.A N.bu.length y.bu.c, .slice y.ow.A N.ow.length y.ow.c, .slice y.tu.A N.tu.length y.tu.c, .slice y.so.A N.so.length y.so.c, .slice y.ar.A N.ar.length y.ar.c, .int .i64 N.ti] 44)
  have hin := (h.none (Nat.le_refl _) ge).more ge.size
  have HIN := Lib.hid hin
  have KB := Lib.hid (Blk.new w 44 #[.int .i64 N.W, .int .i64 N.H, .slice y.br.A N.br.length y.br.c, .slice y.ta.A N.ta.length y.ta.c, .slice y.tb.A N.tb.length y.tb.c, .slice y.bu.A N.bu.length y.bu.c, .slice y.ow.A N.ow.length y.ow.c, .slice y.tu.A N.tu.length y.tu.c, .slice y.so.A N.so.length y.so.c, .slice y.ar.A N.ar.length y.ar.c, .int .i64 N.ti])
  have GE := Lib.hid ge
  have hHI := fun w' (hg : w.grownBy w' none) => implHasInput y N a i w' ((h.none (Nat.le_refl _) hg).more hg.size) hn hc hL
  obtain ⟨b, hb⟩ : ∃ b, inpG N a i = b := ⟨_, rfl⟩
  rw [hb] at hHI
  have HHI := Lib.hid hHI
  cases b with
  | false =>
    have HR := Lib.hid (show isReqG N a i q = false by
      rw [inpG, Bool.and_eq_false_iff, Bool.and_eq_false_iff] at hb
      rw [isReqG, hereG]
      rcases hb with hb | hb | hb <;> rw [hb] <;> simp)
    clear h hn hc hL ge hin hHI hb
    go_enter Try.func15, Try.ntmps15
    go_wp2_with fail
    generalize w.alloc (.cells #[.int .i64 N.W, .int .i64 N.H, .slice y.br.A N.br.length y.br.c, .slice y.ta.A N.ta.length y.ta.c, .slice y.tb.A N.tb.length y.tb.c, .slice y.bu.A N.bu.length y.bu.c, .slice y.ow.A N.ow.length y.ow.c, .slice y.tu.A N.tu.length y.tu.c, .slice y.so.A N.so.length y.so.c, .slice y.ar.A N.ar.length y.ar.c, .int .i64 N.ti] 44) = wv at *
    have T0 := Lib.hid (gb_refl wv none)
    have KQ := Lib.hid (fun w' (hg : wv.grownBy w' none) => (show w'.cell? ⟨w.heap.size, 0, none⟩ = some (.int .i64 N.W) ∧ w'.cell? ⟨w.heap.size, 1, none⟩ = some (.int .i64 N.H) ∧ w'.cell? ⟨w.heap.size, 2, none⟩ = some (.slice y.br.A N.br.length y.br.c) ∧ w'.cell? ⟨w.heap.size, 3, none⟩ = some (.slice y.ta.A N.ta.length y.ta.c) ∧ w'.cell? ⟨w.heap.size, 4, none⟩ = some (.slice y.tb.A N.tb.length y.tb.c) ∧ w'.cell? ⟨w.heap.size, 5, none⟩ = some (.slice y.bu.A N.bu.length y.bu.c) ∧ w'.cell? ⟨w.heap.size, 6, none⟩ = some (.slice y.ow.A N.ow.length y.ow.c) ∧ w'.cell? ⟨w.heap.size, 7, none⟩ = some (.slice y.tu.A N.tu.length y.tu.c) ∧ w'.cell? ⟨w.heap.size, 8, none⟩ = some (.slice y.so.A N.so.length y.so.c) ∧ w'.cell? ⟨w.heap.size, 9, none⟩ = some (.slice y.ar.A N.ar.length y.ar.c) ∧ w'.cell? ⟨w.heap.size, 10, none⟩ = some (.int .i64 N.ti) from ⟨(KB.out.grown hg (by simp)).cell 0, (KB.out.grown hg (by simp)).cell 1, (KB.out.grown hg (by simp)).cell 2, (KB.out.grown hg (by simp)).cell 3, (KB.out.grown hg (by simp)).cell 4, (KB.out.grown hg (by simp)).cell 5, (KB.out.grown hg (by simp)).cell 6, (KB.out.grown hg (by simp)).cell 7, (KB.out.grown hg (by simp)).cell 8, (KB.out.grown hg (by simp)).cell 9, (KB.out.grown hg (by simp)).cell 10⟩))
    refine wp_region_held_drew (S := (fun w' => w'.cell? ⟨w.heap.size, 0, none⟩ = some (.int .i64 N.W) ∧ w'.cell? ⟨w.heap.size, 1, none⟩ = some (.int .i64 N.H) ∧ w'.cell? ⟨w.heap.size, 2, none⟩ = some (.slice y.br.A N.br.length y.br.c) ∧ w'.cell? ⟨w.heap.size, 3, none⟩ = some (.slice y.ta.A N.ta.length y.ta.c) ∧ w'.cell? ⟨w.heap.size, 4, none⟩ = some (.slice y.tb.A N.tb.length y.tb.c) ∧ w'.cell? ⟨w.heap.size, 5, none⟩ = some (.slice y.bu.A N.bu.length y.bu.c) ∧ w'.cell? ⟨w.heap.size, 6, none⟩ = some (.slice y.ow.A N.ow.length y.ow.c) ∧ w'.cell? ⟨w.heap.size, 7, none⟩ = some (.slice y.tu.A N.tu.length y.tu.c) ∧ w'.cell? ⟨w.heap.size, 8, none⟩ = some (.slice y.so.A N.so.length y.so.c) ∧ w'.cell? ⟨w.heap.size, 9, none⟩ = some (.slice y.ar.A N.ar.length y.ar.c) ∧ w'.cell? ⟨w.heap.size, 10, none⟩ = some (.int .i64 N.ti))) (by kernel_rfl) (KQ.out _ (gb_drew T0.out)) (fun hHeld => ?_)
    refine wpAnyH_take (i := 0) (v := ?_) rfl (by kernel_rfl) (by kernel_rfl) (by kernel_rfl) (fun _ _ _ h => h) (Or.inl ⟨by rfl, ?_⟩) (by assumption) ?_
    rotate_left
    · intro wq hSw; (try dsimp only at hSw); go_simp; (try with_reducible rfl)
    simp only [List.getElem_toArray, List.getElem_cons_zero, Act.put, List.setIfInBounds_toArray, List.set_cons_zero, List.set_cons_succ]
    refine wpAnyH_take (i := 1) (v := ?_) rfl (by kernel_rfl) (by kernel_rfl) (by kernel_rfl) (fun _ _ _ h => h) (Or.inl ⟨by rfl, ?_⟩) (by assumption) ?_
    rotate_left
    · intro wq hSw; (try dsimp only at hSw); go_simp; (try with_reducible rfl)
    simp only [List.getElem_toArray, List.getElem_cons_succ, List.getElem_cons_zero, Act.put, List.setIfInBounds_toArray, List.set_cons_zero, List.set_cons_succ]
    refine wpAnyH_take (i := 2) (v := ?_) rfl (by kernel_rfl) (by kernel_rfl) (by kernel_rfl) (fun _ _ _ h => h) (Or.inl ⟨by rfl, ?_⟩) (by assumption) ?_
    rotate_left
    · intro wq hSw; (try dsimp only at hSw); go_simp; (try with_reducible rfl)
    simp only [List.getElem_toArray, List.getElem_cons_succ, List.getElem_cons_zero, Act.put, List.setIfInBounds_toArray, List.set_cons_zero, List.set_cons_succ]
    refine wpAnyH_ready (rs := [3]) (by kernel_rfl) (by simp) ?_
    refine AllReadyH.cons rfl (fun K hK => ?_) AllReadyH.nil
    go_simp
    refine (HHI.out _ (gb_drew GE.out)).mono ?_; rintro e1 w5 ⟨rfl, hg⟩; have T5 := Lib.hid (gb_trans (gb_drew T0.out) hg); clear hg
    try go_wp2_with fail
    refine hK.out _ _ (KQ.out _ T5.out) (fun hHeld => ?_)
    clear hK K
    try simp only [List.getElem_toArray, List.getElem_cons_succ, List.getElem_cons_zero, Act.put, List.setIfInBounds_toArray, List.set_cons_zero, List.set_cons_succ]
    refine wpAnyH_take (i := 4) (v := ?_) rfl (by kernel_rfl) (by kernel_rfl) (by kernel_rfl) (fun _ _ _ h => h) (Or.inl ⟨by rfl, ?_⟩) (by assumption) ?_
    rotate_left
    · intro wq hSw; (try dsimp only at hSw); go_simp; (try with_reducible rfl)
    simp only [List.getElem_toArray, List.getElem_cons_succ, List.getElem_cons_zero, Act.put, List.setIfInBounds_toArray, List.set_cons_zero, List.set_cons_succ]
    refine wpAnyH_take (i := 5) (v := undef) rfl (by kernel_rfl) (by kernel_rfl) (by kernel_rfl) (fun _ _ _ h => h) (Or.inr ⟨by rfl, rfl⟩) (by assumption) ?_
    simp only [List.getElem_toArray, List.getElem_cons_succ, List.getElem_cons_zero, Act.put, List.setIfInBounds_toArray, List.set_cons_zero, List.set_cons_succ]
    refine wpAnyH_take (i := 6) (v := undef) rfl (by kernel_rfl) (by kernel_rfl) (by kernel_rfl) (fun _ _ _ h => h) (Or.inr ⟨by rfl, rfl⟩) (by assumption) ?_
    simp only [List.getElem_toArray, List.getElem_cons_succ, List.getElem_cons_zero, Act.put, List.setIfInBounds_toArray, List.set_cons_zero, List.set_cons_succ]
    refine wpAnyH_take (i := 7) (v := undef) rfl (by kernel_rfl) (by kernel_rfl) (by kernel_rfl) (fun _ _ _ h => h) (Or.inr ⟨by rfl, rfl⟩) (by assumption) ?_
    simp only [List.getElem_toArray, List.getElem_cons_succ, List.getElem_cons_zero, Act.put, List.setIfInBounds_toArray, List.set_cons_zero, List.set_cons_succ]
    refine wpAnyH_take (i := 8) (v := undef) rfl (by kernel_rfl) (by kernel_rfl) (by kernel_rfl) (fun _ _ _ h => h) (Or.inr ⟨by rfl, rfl⟩) (by assumption) ?_
    simp only [List.getElem_toArray, List.getElem_cons_succ, List.getElem_cons_zero, Act.put, List.setIfInBounds_toArray, List.set_cons_zero, List.set_cons_succ]
    refine wpAnyH_take (i := 9) (v := undef) rfl (by kernel_rfl) (by kernel_rfl) (by kernel_rfl) (fun _ _ _ h => h) (Or.inr ⟨by rfl, rfl⟩) (by assumption) ?_
    simp only [List.getElem_toArray, List.getElem_cons_succ, List.getElem_cons_zero, Act.put, List.setIfInBounds_toArray, List.set_cons_zero, List.set_cons_succ]
    refine wpAnyH_take (i := 10) (v := undef) rfl (by kernel_rfl) (by kernel_rfl) (by kernel_rfl) (fun _ _ _ h => h) (Or.inr ⟨by rfl, rfl⟩) (by assumption) ?_
    simp only [List.getElem_toArray, List.getElem_cons_succ, List.getElem_cons_zero, Act.put, List.setIfInBounds_toArray, List.set_cons_zero, List.set_cons_succ]
    refine wpAnyH_take (i := 11) (v := ?_) rfl (by kernel_rfl) (by kernel_rfl) (by kernel_rfl) (fun _ _ _ h => h) (Or.inl ⟨by rfl, ?_⟩) (by assumption) ?_
    rotate_left
    · intro wq hSw; (try dsimp only at hSw); go_simp; (try with_reducible rfl)
    simp only [List.getElem_toArray, List.getElem_cons_succ, List.getElem_cons_zero, Act.put, List.setIfInBounds_toArray, List.set_cons_zero, List.set_cons_succ]
    refine wpAnyH_take (i := 12) (v := ?_) rfl (by kernel_rfl) (by kernel_rfl) (by kernel_rfl) (fun _ _ _ h => h) (Or.inl ⟨by rfl, ?_⟩) (by assumption) ?_
    rotate_left
    · intro wq hSw; (try dsimp only at hSw); go_simp; (try with_reducible rfl)
    simp only [List.getElem_toArray, List.getElem_cons_succ, List.getElem_cons_zero, Act.put, List.setIfInBounds_toArray, List.set_cons_zero, List.set_cons_succ]
    refine wpAnyH_done (by kernel_rfl) ?_ _
    go_wp2_with fail
    go_ret
    exact ⟨by rw [HR.out]; rfl, gb_trans GE.out T5.out⟩
  | true =>
    rw [inpG, Bool.and_eq_true, Bool.and_eq_true, decide_eq_true_eq] at hb
    obtain ⟨hok, hha, hi⟩ := hb
    obtain ⟨k, hf⟩ := fit_of hok
    obtain ⟨a', rfl, ha⟩ := has_nat hf.cnt hha
    obtain ⟨i', rfl⟩ : ∃ i' : Nat, i = (i' : Int) := ⟨i.toNat, by omega⟩
    have hi' : i' < 10 := by omega
    have hw4 := want_le hf hok ha hi'
    have hres : isReqG N (a' : Int) (i' : Int) q = (decide (0 ≤ q) && reqG N a' i' q.toNat) := by
      rw [isReqG, hereG, hok, hha, decide_eq_true (show 0 ≤ (i' : Int) ∧ (i' : Int) ≤ 9 by omega), Bool.true_and, Bool.true_and, Bool.true_and, Int.toNat_natCast, Int.toNat_natCast]
      by_cases h0 : 0 ≤ q
      · by_cases h4 : q ≤ 4
        · rw [decide_eq_true h0, decide_eq_true (⟨h0, h4⟩ : 0 ≤ q ∧ q ≤ 4)]
        · rw [decide_eq_false (show ¬ (0 ≤ q ∧ q ≤ 4) by omega), reqG, decide_eq_false (show ¬ wantG N a' i' = ((q.toNat : Nat) : Int) by omega)]
          simp
      · rw [decide_eq_false h0, decide_eq_false (show ¬ (0 ≤ q ∧ q ≤ 4) by omega)]
    obtain ⟨r, hrr⟩ : ∃ r, (decide (0 ≤ q) && reqG N a' i' q.toNat) = r := ⟨_, rfl⟩
    have hRQ := fun w' hh => implIsReqU y N k a' i' _ _ q hf hn ha hi' rfl rfl hw4 w' hh
    obtain ⟨p, hp⟩ : ∃ p, i' / 2 = p := ⟨_, rfl⟩
    obtain ⟨c, hc'⟩ : ∃ c, i' % 2 = c := ⟨_, rfl⟩
    have hIO := fun w' => implInletOf a' i' hi' w'
    rw [hrr] at hRQ hres
    rw [hp, hc'] at hRQ hIO
    have HR := Lib.hid hres
    have HRQ := Lib.hid hRQ
    have HIO := Lib.hid hIO
    clear h hn hc hL ge hin hHI hok hha hi hf ha hi' hrr hp hc' hRQ hIO hw4 hres
    go_enter Try.func15, Try.ntmps15
    go_wp2_with fail
    generalize w.alloc (.cells #[.int .i64 N.W, .int .i64 N.H, .slice y.br.A N.br.length y.br.c, .slice y.ta.A N.ta.length y.ta.c, .slice y.tb.A N.tb.length y.tb.c, .slice y.bu.A N.bu.length y.bu.c, .slice y.ow.A N.ow.length y.ow.c, .slice y.tu.A N.tu.length y.tu.c, .slice y.so.A N.so.length y.so.c, .slice y.ar.A N.ar.length y.ar.c, .int .i64 N.ti] 44) = wv at *
    have T0 := Lib.hid (gb_refl wv none)
    have KQ := Lib.hid (fun w' (hg : wv.grownBy w' none) => (show w'.cell? ⟨w.heap.size, 0, none⟩ = some (.int .i64 N.W) ∧ w'.cell? ⟨w.heap.size, 1, none⟩ = some (.int .i64 N.H) ∧ w'.cell? ⟨w.heap.size, 2, none⟩ = some (.slice y.br.A N.br.length y.br.c) ∧ w'.cell? ⟨w.heap.size, 3, none⟩ = some (.slice y.ta.A N.ta.length y.ta.c) ∧ w'.cell? ⟨w.heap.size, 4, none⟩ = some (.slice y.tb.A N.tb.length y.tb.c) ∧ w'.cell? ⟨w.heap.size, 5, none⟩ = some (.slice y.bu.A N.bu.length y.bu.c) ∧ w'.cell? ⟨w.heap.size, 6, none⟩ = some (.slice y.ow.A N.ow.length y.ow.c) ∧ w'.cell? ⟨w.heap.size, 7, none⟩ = some (.slice y.tu.A N.tu.length y.tu.c) ∧ w'.cell? ⟨w.heap.size, 8, none⟩ = some (.slice y.so.A N.so.length y.so.c) ∧ w'.cell? ⟨w.heap.size, 9, none⟩ = some (.slice y.ar.A N.ar.length y.ar.c) ∧ w'.cell? ⟨w.heap.size, 10, none⟩ = some (.int .i64 N.ti) from ⟨(KB.out.grown hg (by simp)).cell 0, (KB.out.grown hg (by simp)).cell 1, (KB.out.grown hg (by simp)).cell 2, (KB.out.grown hg (by simp)).cell 3, (KB.out.grown hg (by simp)).cell 4, (KB.out.grown hg (by simp)).cell 5, (KB.out.grown hg (by simp)).cell 6, (KB.out.grown hg (by simp)).cell 7, (KB.out.grown hg (by simp)).cell 8, (KB.out.grown hg (by simp)).cell 9, (KB.out.grown hg (by simp)).cell 10⟩))
    go_region_held3 (fun w' => w'.cell? ⟨w.heap.size, 0, none⟩ = some (.int .i64 N.W) ∧ w'.cell? ⟨w.heap.size, 1, none⟩ = some (.int .i64 N.H) ∧ w'.cell? ⟨w.heap.size, 2, none⟩ = some (.slice y.br.A N.br.length y.br.c) ∧ w'.cell? ⟨w.heap.size, 3, none⟩ = some (.slice y.ta.A N.ta.length y.ta.c) ∧ w'.cell? ⟨w.heap.size, 4, none⟩ = some (.slice y.tb.A N.tb.length y.tb.c) ∧ w'.cell? ⟨w.heap.size, 5, none⟩ = some (.slice y.bu.A N.bu.length y.bu.c) ∧ w'.cell? ⟨w.heap.size, 6, none⟩ = some (.slice y.ow.A N.ow.length y.ow.c) ∧ w'.cell? ⟨w.heap.size, 7, none⟩ = some (.slice y.tu.A N.tu.length y.tu.c) ∧ w'.cell? ⟨w.heap.size, 8, none⟩ = some (.slice y.so.A N.so.length y.so.c) ∧ w'.cell? ⟨w.heap.size, 9, none⟩ = some (.slice y.ar.A N.ar.length y.ar.c) ∧ w'.cell? ⟨w.heap.size, 10, none⟩ = some (.int .i64 N.ti))
      (first | with_reducible exact KQ.out _ (gb_drew T0.out) | with_reducible exact KQ.out _ T7.out | with_reducible exact KQ.out _ T6.out | with_reducible exact KQ.out _ T5.out | fail)
      (first
        | (go_at_call 33; (with_reducible refine (HHI.out _ (gb_drew GE.out)).mono ?_); rintro e w5 ⟨rfl, hg⟩; have T5 := Lib.hid (gb_trans (gb_drew T0.out) hg); clear hg)
        | (go_at_call 35; (with_reducible refine (HIO.out _).mono ?_); rintro e w6 ⟨rfl, hg⟩; have T6 := Lib.hid (gb_trans T5.out hg); clear hg)
        | (go_at_call 46; (with_reducible refine (HRQ.out _ ((HIN.out.none (Nat.le_refl _) T6.out).more T6.out.size)).mono ?_); rintro e w7 ⟨rfl, hg⟩; have T7 := Lib.hid (gb_trans T6.out hg); clear hg)
        | fail)
    all_goals
      go_wp2_with fail
      go_ret
      exact ⟨by rw [HR.out]; rfl, gb_trans GE.out T7.out⟩
set_option maxHeartbeats 1600000 in
theorem implRequestsAt (y : Na) (N : Nt) (a q : Int) (w : World) (h : NetIn w w.heap.size y N) (hn : NetSm N) (hc : NetCap y N) (hL : WfL N.br) :
    Calls Try.prog 17 #[.agg #[.int .i64 N.W, .int .i64 N.H, .slice y.br.A N.br.length y.br.c, .slice y.ta.A N.ta.length y.ta.c, .slice y.tb.A N.tb.length y.tb.c, .slice y.bu.A N.bu.length y.bu.c, .slice y.ow.A N.ow.length y.ow.c, .slice y.tu.A N.tu.length y.tu.c, .slice y.so.A N.so.length y.so.c, .slice y.ar.A N.ar.length y.ar.c, .int .i64 N.ti], .int .i64 a, .int .i64 q] w (NewI (reqsG N a q) w) := by
  have ge := gb_alloc (gb_refl w none) (.cells #[.int .i64 N.W, .int .i64 N.H, .slice y.br.A N.br.length y.br.c, .slice y.ta.A N.ta.length y.ta.c, .slice y.tb.A N.tb.length y.tb.c, .slice y.bu.A N.bu.length y.bu.c, .slice y.ow.A N.ow.length y.ow.c, .slice y.tu.A N.tu.length y.tu.c, .slice y.so.A N.so.length y.so.c, .slice y.ar.A N.ar.length y.ar.c, .int .i64 N.ti] 44)
  have hin := (h.none (Nat.le_refl _) ge).more ge.size
  have HIN := Lib.hid hin
  have KB := Lib.hid (Blk.new w 44 #[.int .i64 N.W, .int .i64 N.H, .slice y.br.A N.br.length y.br.c, .slice y.ta.A N.ta.length y.ta.c, .slice y.tb.A N.tb.length y.tb.c, .slice y.bu.A N.bu.length y.bu.c, .slice y.ow.A N.ow.length y.ow.c, .slice y.tu.A N.tu.length y.tu.c, .slice y.so.A N.so.length y.so.c, .slice y.ar.A N.ar.length y.ar.c, .int .i64 N.ti])
  have GE := Lib.hid ge
  have hNK := implNetOk y N _ hin hn hc hL
  obtain ⟨b, hb⟩ : ∃ b, netOk N = b := ⟨_, rfl⟩
  obtain ⟨d, hd⟩ : ∃ d, hasG N.W N.H a = d := ⟨_, rfl⟩
  rw [hb] at hNK
  have HNK := Lib.hid hNK
  have HHA := Lib.hid (fun w' => implHasNodeR N.W N.H a d hd w')
  have HNO : Hid ((b = false ∨ d = false) → reqsG N a q = []) := Lib.hid (fun hh => by
    rw [reqsG, if_neg]
    rw [hereG, hb, hd]
    rcases hh with rfl | rfl <;> simp)
  have HF : Hid (b = true → d = true → ∀ w', NetIn w' w'.heap.size y N → Calls Try.prog 47 #[.agg #[.int .i64 N.W, .int .i64 N.H, .slice y.br.A N.br.length y.br.c, .slice y.ta.A N.ta.length y.ta.c, .slice y.tb.A N.tb.length y.tb.c, .slice y.bu.A N.bu.length y.bu.c, .slice y.ow.A N.ow.length y.ow.c, .slice y.tu.A N.tu.length y.tu.c, .slice y.so.A N.so.length y.so.c, .slice y.ar.A N.ar.length y.ar.c, .int .i64 N.ti], .int .i64 a, .int .i64 q] w' (NewI (reqsG N a q) w')) := Lib.hid (fun h1 h2 => by
    subst h1; subst h2
    obtain ⟨k, hf⟩ := fit_of hb
    obtain ⟨a', rfl, ha⟩ := has_nat hf.cnt hd
    rw [← reqsV_is hf hb ha hd]
    exact fun w' hh => implReqsU y N k a' q hf hb hn ha w' hh)
  clear h hn hc hL ge hin hNK hb hd
  go_enter Try.func17, Try.ntmps17
  go_wp2_with fail
  refine HNK.out.mono ?_
  rintro e1 w1 ⟨rfl, hg1⟩
  have G1 := Lib.hid (gb_trans GE.out hg1)
  have K1 := Lib.hid (KB.out.grown hg1 (by simp))
  have I1 := Lib.hid ((HIN.out.none (Nat.le_refl _) hg1).more hg1.size)
  have b0 : w1.cell? ⟨w.heap.size, 0, none⟩ = some (.int .i64 N.W) := K1.out.cell 0
  have b1 : w1.cell? ⟨w.heap.size, 1, none⟩ = some (.int .i64 N.H) := K1.out.cell 1
  clear hg1
  cases b with
  | false =>
    go_wp2_with fail
    go_ret
    exact ⟨_, rfl, by rw [HNO.out (by simp)]; exact World.ownsRow_nil _ _ _ _, gb_below_none G1.out (Nat.le_refl _)⟩
  | true =>
  go_wp2_with fail
  refine (HHA.out _).mono ?_
  rintro e2 w2 ⟨rfl, hg2⟩
  have G2 := Lib.hid (gb_trans G1.out hg2)
  have K2 := Lib.hid (K1.out.grown hg2 (by simp))
  have I2 := Lib.hid ((I1.out.none (Nat.le_refl _) hg2).more hg2.size)
  clear hg2 b0 b1
  cases d with
  | false =>
    go_wp2_with fail
    go_ret
    exact ⟨_, rfl, by rw [HNO.out (by simp)]; exact World.ownsRow_nil _ _ _ _, gb_below_none G2.out (Nat.le_refl _)⟩
  | true =>
  have b0 : w2.cell? ⟨w.heap.size, 0, none⟩ = some (.int .i64 N.W) := K2.out.cell 0
  have b1 : w2.cell? ⟨w.heap.size, 1, none⟩ = some (.int .i64 N.H) := K2.out.cell 1
  have b2 : w2.cell? ⟨w.heap.size, 2, none⟩ = some (.slice y.br.A N.br.length y.br.c) := K2.out.cell 2
  have b3 : w2.cell? ⟨w.heap.size, 3, none⟩ = some (.slice y.ta.A N.ta.length y.ta.c) := K2.out.cell 3
  have b4 : w2.cell? ⟨w.heap.size, 4, none⟩ = some (.slice y.tb.A N.tb.length y.tb.c) := K2.out.cell 4
  have b5 : w2.cell? ⟨w.heap.size, 5, none⟩ = some (.slice y.bu.A N.bu.length y.bu.c) := K2.out.cell 5
  have b6 : w2.cell? ⟨w.heap.size, 6, none⟩ = some (.slice y.ow.A N.ow.length y.ow.c) := K2.out.cell 6
  have b7 : w2.cell? ⟨w.heap.size, 7, none⟩ = some (.slice y.tu.A N.tu.length y.tu.c) := K2.out.cell 7
  have b8 : w2.cell? ⟨w.heap.size, 8, none⟩ = some (.slice y.so.A N.so.length y.so.c) := K2.out.cell 8
  have b9 : w2.cell? ⟨w.heap.size, 9, none⟩ = some (.slice y.ar.A N.ar.length y.ar.c) := K2.out.cell 9
  have b10 : w2.cell? ⟨w.heap.size, 10, none⟩ = some (.int .i64 N.ti) := K2.out.cell 10
  go_wp2_with fail
  refine (HF.out (by first | trivial | rfl) (by first | trivial | rfl) _ I2.out).mono ?_
  rintro e5 w5 ⟨v5, rfl, ho5, hb5⟩
  obtain ⟨A5, c5, rfl, _⟩ := own_form ho5
  have O5 := Lib.hid ho5
  have B5 := Lib.hid hb5
  clear ho5 hb5
  go_wp2_with fail
  go_ret
  exact ⟨_, rfl, own_less O5.out G2.out.size, gb_below_none (gb_trans G2.out (gb_of_below B5.out none)) (Nat.le_refl _)⟩
end Go.Proofs.Ytplpdjpldadcmaa
end
