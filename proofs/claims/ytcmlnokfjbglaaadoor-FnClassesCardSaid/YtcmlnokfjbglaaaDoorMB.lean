/- What is proved here: small facts on a square of 16 rows of 16 numbers that is written pair by pair, on its greatest number, and on walks of a table; nothing of the program; the dependencies of a table as mathematics: the pairs of channels that follow each other on the ways between all pairs of nodes; nothing of the program; orders of channels as mathematics: the next channel without a rank and without predecessors that lack one, the order that ranking them one by one yields, and that it is one; nothing of the program; walks along dependencies as mathematics: numbers of steps, least numbers of steps, that they are at most 128, that either an order or a cycle exists; nothing of the program; the tables of the rules xy, yx and west have an order of their dependencies on every grid; nothing of the program; the names of verdicts as texts; nothing of the program; a row of ranks of the call's own, and the two answers of an order of channels; nothing of the program; the shortest cycle of dependencies as mathematics: the least channel on one of the least length, the way from it back to it, and that this is a cycle that cannot be shortened; nothing of the program; verdicts as mathematics: the verdict on a table, that it proves itself, and the safe rules; nothing of the program; the broken channels of a valid mesh are numbers of 64 bits; nothing of the program; the second channel of a dependency of a table begins where the first one ends; what merging with a table's dependencies and shifting back yield; nothing of the program; two classes as mathematics: the merged dependencies of a table and of another one shifted by 64, that they have an order exactly if both have one, and the verdict on both; nothing of the program; what the program's grid functions return, for all arguments; only new blocks are written; What is stated here: a mesh as the cells of a block, and a mesh whose first broken channels are good; nothing of the program; how a walk loads and stores a whole array of 256 numbers that is known as a block; nothing of the program but its types; the column and the row that the program finds for a node that exists; only new blocks are written; what the program's NextNode and its end of a channel return, for all arguments (the channel: of 64 bits); only new blocks are written; what the program's MeshOk returns for numbers of 64 bits; only new blocks are written; what the program's table of ports holds for a mesh and a table of the right size, and what it is otherwise; only new blocks are written; small facts on a mesh and a table as blocks, and on a square that is laid into a new block; nothing of the program; small facts on a mesh, a table and a verdict in boxes of a call's own, and what a function that returns a verdict gives; nothing of the program; what the library's search in a list of numbers returns; only new blocks are written; what the program's search in a list and its test of a channel of a mesh return for numbers of 64 bits; only new blocks are written; what the program's walk of a square of ports returns for two nodes; only new blocks are written; the ways of a valid table between the nodes of a pair; nothing of the program; the program's list of the walks between all pairs of nodes: empty for a table that is not valid, else the walk of each pair in its order; only new blocks are written; what the program's TableOk returns, for all arguments; only new blocks are written; lists of dependencies as cells: rows of the call's own and slices that can be read; nothing of the program; what the library's comparisons of integers return, and the program's comparison of two dependencies; only new blocks are written. -/
import Derived.Test.YtcmlnokfjbglaaaDoorMA
import Derived.Laws.Rows
import Derived.Laws.Tables
import Derived.Laws.ResultCell
import Derived.Deep.RegionHeld3
section
namespace Go.Proofs.YtcmlnokfjbglaaaDoor
open Go.ChangeShapes Go.WideShapes Go.ChangeAt Go.RowKit
set_option linter.unusedVariables false

/-- 256 zeros. -/
def zerosX : List Int := List.replicate 256 0
theorem zerosX_length : zerosX.length = 256 := List.length_replicate
/-- The square after the first i pairs of k nodes were written. -/
def sqTo (k : Nat) (f : Nat → Int) : Nat → List Int
  | 0 => zerosX
  | i + 1 => (sqTo k f i).set (16 * (i / k) + i % k) (f i)
theorem sqTo_length (k : Nat) (f : Nat → Int) (i : Nat) : (sqTo k f i).length = 256 := by
  induction i with
  | zero => exact zerosX_length
  | succ i ih => rw [sqTo, List.length_set]; exact ih
theorem pair_div {a b k : Nat} (hb : b < k) : (a * k + b) / k = a := by
  rw [Nat.add_comm, Nat.add_mul_div_right _ _ (by omega), Nat.div_eq_of_lt hb]; omega
theorem pair_mod {a b k : Nat} (hb : b < k) : (a * k + b) % k = b := by
  rw [Nat.add_comm, Nat.add_mul_mod_self_right]; exact Nat.mod_eq_of_lt hb
theorem sqTo_at {k a b i : Nat} (f : Nat → Int) (hk : k ≤ 16) (ha : a < k) (hb : b < k) (h : a * k + b < i) : (sqTo k f i).getD (16 * a + b) 0 = f (a * k + b) := by
  induction i with
  | zero => omega
  | succ i ih =>
    rw [sqTo, List.getD_eq_getElem?_getD, List.getElem?_set]
    have hm : i % k < k := Nat.mod_lt _ (by omega)
    by_cases e : a * k + b = i
    · have e1 : i / k = a := by rw [← e]; exact pair_div hb
      have e2 : i % k = b := by rw [← e]; exact pair_mod hb
      rw [e1, e2, if_pos rfl, if_pos (by rw [sqTo_length]; omega), e]
      rfl
    · have hne : ¬ 16 * (i / k) + i % k = 16 * a + b := fun he => by
        have e1 : i / k = a := by omega
        have e2 : i % k = b := by omega
        have := Nat.div_add_mod i k
        rw [e1, e2, Nat.mul_comm] at this
        exact e this
      rw [if_neg hne, ← List.getD_eq_getElem?_getD]
      exact ih (by omega)
theorem sqTo_mem {k i : Nat} {f : Nat → Int} {x : Int} (h : x ∈ sqTo k f i) : x = 0 ∨ ∃ j, j < i ∧ x = f j := by
  induction i with
  | zero => exact .inl (List.eq_of_mem_replicate h)
  | succ i ih =>
    rcases List.mem_or_eq_of_mem_set h with h1 | h1
    · rcases ih h1 with h2 | ⟨j, hj, h2⟩
      · exact .inl h2
      · exact .inr ⟨j, by omega, h2⟩
    · exact .inr ⟨i, by omega, h1⟩

/-- The greatest of the first n numbers, at least 0. -/
def topTo (X : List Int) : Nat → Int
  | 0 => 0
  | n + 1 => max (topTo X n) (X.getD n 0)
/-- The greatest of the first i + 1 numbers. -/
def mxTo (R : List Int) : Nat → Int
  | 0 => R.getD 0 0
  | i + 1 => max (mxTo R i) (R.getD (i + 1) 0)
theorem top_row {X R : List Int} {s : Nat} (i : Nat) (h : ∀ j, j ≤ i → R.getD j 0 = X.getD (s + j) 0) : max (topTo X s) (mxTo R i) = topTo X (s + i + 1) := by
  induction i with
  | zero => rw [mxTo, h 0 (Nat.le_refl _)]; rfl
  | succ i ih =>
    rw [mxTo, ← Int.max_assoc, ih (fun j hj => h j (by omega)), h (i + 1) (Nat.le_refl _)]
    rfl
theorem topTo_le {X : List Int} {m : Int} (hm : 0 ≤ m) (h : ∀ x ∈ X, x ≤ m) (n : Nat) : topTo X n ≤ m := by
  induction n with
  | zero => exact hm
  | succ n ih =>
    rw [topTo]
    refine Int.max_le.2 ⟨ih, ?_⟩
    rw [List.getD_eq_getElem?_getD]
    cases hx : X[n]? with
    | none => exact hm
    | some x => exact h x (List.mem_of_getElem? hx)
theorem le_topTo {X : List Int} {i n : Nat} (h : i < n) : X.getD i 0 ≤ topTo X n := by
  induction n with
  | zero => omega
  | succ n ih =>
    rw [topTo]
    rcases Nat.lt_succ_iff_lt_or_eq.1 h with h1 | rfl
    · exact Int.le_trans (ih h1) (Int.le_max_left _ _)
    · exact Int.le_max_right _ _
theorem topTo_nonneg (X : List Int) (n : Nat) : 0 ≤ topTo X n := by
  induction n with
  | zero => exact Int.le_refl _
  | succ n ih => rw [topTo]; exact Int.le_trans ih (Int.le_max_left _ _)
/-- A list that is given at all its indices is between. -/
theorem mxTo_le {R : List Int} {m : Int} (h : ∀ j, R.getD j 0 ≤ m) (i : Nat) : mxTo R i ≤ m := by
  induction i with
  | zero => exact h 0
  | succ i ih => rw [mxTo]; exact Int.max_le.2 ⟨ih, h _⟩

/-- The port of an entry: -1 outside of the range 0 to 4. -/
def portP (p : Int) : Int := if p < 0 ∨ 4 < p then -1 else p
theorem portP_bounds (p : Int) : -1 ≤ portP p ∧ portP p ≤ 4 := by unfold portP; split <;> omega
theorem portP_in {p : Int} (h0 : 0 ≤ p) (h1 : p ≤ 4) : portP p = p := if_neg (by omega)
theorem portP_out {p : Int} (h : p < 0 ∨ 4 < p) : portP p = -1 := if_pos h
theorem portP_four {p : Int} : portP p = 4 ↔ p = 4 := by unfold portP; split <;> omega
theorem portP_in_of {p q : Int} (h : portP p = q) (h0 : 0 ≤ q) : p = q := by unfold portP at h; split at h <;> omega

section
variable {W H : Int} {L P : List Int}
/-- The nodes of a grid. -/
def cntN (W H : Int) : Nat := (countG W H).toNat
theorem cntN_int (W H : Int) : (cntN W H : Int) = countG W H := Int.toNat_of_nonneg (countG_le W H).1
theorem cntN_le (W H : Int) : cntN W H ≤ 16 := by have := countG_le W H; have := cntN_int W H; omega
/-- The table as a square of ports. -/
def portsX (W H : Int) (P : List Int) (i : Nat) : List Int := sqTo (cntN W H) (fun j => portP (P.getD j 0)) i
/-- The lengths of the walks as a square. -/
def lensX (W H : Int) (L P : List Int) (i : Nat) : List Int := sqTo (cntN W H) (fun j => (lenAt W H L P j : Int)) i
/-- The square holds the ports of the table. -/
def isPorts (W H : Int) (P X : List Int) : Prop := X.length = 256 ∧ ∀ a b : Nat, (a : Int) < countG W H → (b : Int) < countG W H → X.getD (16 * a + b) 0 = portP (tabG (countG W H) P a b)
theorem sq_lt {k a b : Nat} (ha : a < k) (hb : b < k) : a * k + b < k * k := by
  have : (a + 1) * k ≤ k * k := Nat.mul_le_mul_right _ (by omega)
  rw [Nat.add_mul, Nat.one_mul] at this
  omega
theorem portsX_is (hs : sizedG W H L P = true) : isPorts W H P (portsX W H P P.length) := by
  refine ⟨sqTo_length _ _ _, fun a b ha hb => ?_⟩
  have hk := cntN_int W H
  have hp := (sizedG_mesh hs).2
  have hpn : P.length = cntN W H * cntN W H := by rw [← hk] at hp; exact_mod_cast hp
  rw [portsX, sqTo_at _ (cntN_le W H) (by omega) (by omega) (by rw [hpn]; exact sq_lt (by omega) (by omega))]
  rw [tabG, ← hk, show ((a : Int) * (cntN W H : Int) + (b : Int)).toNat = a * cntN W H + b by rw [← Int.natCast_mul, ← Int.natCast_add, Int.toNat_natCast]]
theorem lensX_top : topTo (lensX W H L P (sqG W H)) 256 = (mostTo W H L P (sqG W H) : Int) := by
  have hk := cntN_le W H
  refine Int.le_antisymm (topTo_le (by omega) (fun x hx => ?_) _) ?_
  · rcases sqTo_mem hx with rfl | ⟨j, hj, rfl⟩
    · omega
    · exact_mod_cast mostTo_le hj
  · have h : ∀ i, i ≤ sqG W H → (mostTo W H L P i : Int) ≤ topTo (lensX W H L P (sqG W H)) 256 := fun i => by
      induction i with
      | zero => intro _; exact topTo_nonneg _ _
      | succ i ih =>
        intro hi
        rw [mostTo]
        have h1 := ih (by omega)
        have hlt : i < cntN W H * cntN W H := hi
        have hk0 : 0 < cntN W H := Nat.pos_of_ne_zero fun e => by rw [e] at hlt; omega
        have hd : i / cntN W H < cntN W H := Nat.div_lt_of_lt_mul hlt
        have hm : i % cntN W H < cntN W H := Nat.mod_lt _ hk0
        have he : i / cntN W H * cntN W H + i % cntN W H = i := by rw [Nat.mul_comm]; exact Nat.div_add_mod _ _
        have h2 := sqTo_at (fun j => (lenAt W H L P j : Int)) hk hd hm (i := sqG W H) (by omega)
        have h3 := le_topTo (X := lensX W H L P (sqG W H)) (i := 16 * (i / cntN W H) + i % cntN W H) (n := 256) (by omega)
        rw [lensX, h2, he] at h3
        rw [lensX] at h1 ⊢
        omega
    exact h _ (Nat.le_refl _)
/-- The number of a pair. -/
theorem lenAt_pair {a b : Nat} (hb : (b : Int) < countG W H) : lenAt W H L P (a * cntN W H + b) = (walkOf W H L P a b).length := by
  have hk := cntN_int W H
  have e1 : ((a * cntN W H + b : Nat) : Int) / countG W H = a := by
    rw [← hk, ← Int.natCast_ediv, pair_div (by omega)]
  have e2 : ((a * cntN W H + b : Nat) : Int) % countG W H = b := by
    rw [← hk, ← Int.natCast_emod, pair_mod (by omega)]
  rw [lenAt, e1, e2]

/-- The walk ends. -/
def endsG (W H : Int) (L P : List Int) (a b : Int) : Bool := (walkF W H L P b ((countG W H).toNat + 1) a).isSome
theorem walkF_never {to : Int} (h : tabG (countG W H) P to to ≠ 4) : ∀ (f : Nat) (a : Int), walkF W H L P to f a = none
  | 0, _ => rfl
  | f + 1, a => by
    rw [walkF]
    split
    · rename_i h4
      rw [if_neg (fun e => by subst e; exact h h4)]
    · split
      · rw [walkF_never h f]; rfl
      · rfl
theorem ends_entry (a b : Int) : endsG W H L P a b = entryG W H L P a b := by
  by_cases e : a = b
  · subst e
    rw [entry_same, endsG]
    by_cases h4 : tabG (countG W H) P a a = 4
    · rw [walkF_end h4 rfl, h4]; rfl
    · rw [walkF_never h4]; simp [h4]
  · rw [entry_two e, endsG, walkOf]
    by_cases h4 : tabG (countG W H) P a b = 4
    · rw [walkF_lost h4 e]; rfl
    · cases hs : stepsG W H L a (tabG (countG W H) P a b) with
      | false => rw [walkF_bad rfl h4 hs]; rfl
      | true =>
        rw [walkF_go rfl h4 hs]
        cases walkF W H L P b (countG W H).toNat (nextG W H a (tabG (countG W H) P a b)) <;> simp
theorem walkOf_same (a : Int) : walkOf W H L P a a = [] := by
  rw [walkOf]
  by_cases h4 : tabG (countG W H) P a a = 4
  · rw [walkF_end h4 rfl]; rfl
  · rw [walkF_never h4]; rfl
theorem walkG_ask {a b : Int} (h : askG W H L P a b = true) : walkG W H L P a b = walkOf W H L P a b := by
  by_cases e : a = b
  · subst e; rw [walkOf_same, walkG, if_neg (by simp)]
  · rw [walkG, if_pos ⟨h, e⟩]
theorem walkG_no {a b : Int} (h : askG W H L P a b = false) : walkG W H L P a b = [] := by rw [walkG, if_neg (by simp [h])]
theorem portAtG_ask {a b : Int} (h : askG W H L P a b = true) : portAtG W H L P a b = portP (tabG (countG W H) P a b) := by
  unfold portAtG portP
  by_cases h2 : 0 ≤ tabG (countG W H) P a b ∧ tabG (countG W H) P a b ≤ 4
  · rw [if_pos ⟨h, h2⟩, if_neg (by omega)]
  · rw [if_neg (fun e => h2 e.2), if_pos (by omega)]
theorem portAtG_no {a b : Int} (h : askG W H L P a b = false) : portAtG W H L P a b = -1 := by rw [portAtG, if_neg (by simp [h])]
/-- Whether the rest of a walk ends. -/
def restE (W H : Int) (L P : List Int) (to : Int) (f : Nat) (a : Int) : Bool := (walkF W H L P to f a).isSome
theorem restE_start (a b : Int) : restE W H L P b ((countG W H).toNat + 1) a = endsG W H L P a b := rfl
theorem restE_end {to a : Int} {f : Nat} (h : tabG (countG W H) P a to = 4) (he : a = to) : restE W H L P to (f + 1) a = true := by rw [restE, walkF_end h he]; rfl
theorem restE_lost {to a : Int} {f : Nat} (h : tabG (countG W H) P a to = 4) (he : a ≠ to) : restE W H L P to (f + 1) a = false := by rw [restE, walkF_lost h he]; rfl
theorem restE_bad {to a p : Int} {f : Nat} (h : tabG (countG W H) P a to = p) (h4 : p ≠ 4) (hs : stepsG W H L a p = false) : restE W H L P to (f + 1) a = false := by rw [restE, walkF_bad h h4 hs]; rfl
theorem restE_go {to a p : Int} {f : Nat} (h : tabG (countG W H) P a to = p) (h4 : p ≠ 4) (hs : stepsG W H L a p = true) : restE W H L P to (f + 1) a = restE W H L P to f (nextG W H a p) := by
  rw [restE, walkF_go h h4 hs, restE]
  cases walkF W H L P to f (nextG W H a p) <;> rfl
end
end Go.Proofs.YtcmlnokfjbglaaaDoor
end

section
namespace Go.Proofs.YtcmlnokfjbglaaaDoor
open Go.ChangeShapes Go.WideShapes Go.ChangeAt Go.RowKit
set_option linter.unusedVariables false

/-- The first j pairs of a way. -/
def wayD (R : List Int) (j : Nat) : List Dep := (List.range j).map fun t => (R.getD t 0, R.getD (t + 1) 0)
theorem wayD_zero (R : List Int) : wayD R 0 = [] := rfl
theorem wayD_length (R : List Int) (j : Nat) : (wayD R j).length = j := by simp [wayD]
theorem wayD_next (R : List Int) (j : Nat) : wayD R (j + 1) = wayD R j ++ [(R.getD j 0, R.getD (j + 1) 0)] := by
  unfold wayD
  rw [List.range_succ, List.map_append]
  rfl
theorem ins_way {D : List Dep} {R : List Int} {j : Nat} {x y : Int} (hx : R.getD j 0 = x) (hy : R.getD (j + 1) 0 = y) : insD (insAll D (wayD R j)) (x, y) = insAll D (wayD R (j + 1)) := by
  rw [wayD_next, insAll_append, hx, hy]
  rfl
section
variable {W H : Int} {L P : List Int}
/-- The pairs of the first k ways. -/
def allD (W H : Int) (L P : List Int) : Nat → List Dep
  | 0 => []
  | k + 1 => insAll (allD W H L P k) (wayD (pairW W H L P k) ((pairW W H L P k).length - 1))
theorem allD_asc : ∀ k, ascD (allD W H L P k)
  | 0 => asc_nil
  | k + 1 => insAll_asc (allD_asc k) _
theorem allD_next {k : Nat} {R : List Int} (h : pairW W H L P k = R) : insAll (allD W H L P k) (wayD R (R.length - 1)) = allD W H L P (k + 1) := by subst h; rfl
theorem allD_len : ∀ k, (allD W H L P k).length ≤ k * 16
  | 0 => Nat.le_refl _
  | k + 1 => by
    have h1 := (insAll_length (allD W H L P k) (wayD (pairW W H L P k) ((pairW W H L P k).length - 1))).1
    have h2 := allD_len k
    have h3 := pairW_len (W := W) (H := H) (L := L) (P := P) k
    rw [wayD_length] at h1
    show (insAll _ _).length ≤ _
    omega
theorem ins_len {k j : Nat} {R : List Int} (hk : k ≤ 256) (hj : j ≤ 16) : (insAll (allD W H L P k) (wayD R j)).length ≤ 5000 := by
  have h1 := (insAll_length (allD W H L P k) (wayD R j)).1
  have h2 := allD_len (W := W) (H := H) (L := L) (P := P) k
  rw [wayD_length] at h1
  omega
theorem mem_allD : ∀ {k : Nat} {d : Dep}, d ∈ allD W H L P k → ∃ i j, i < k ∧ j + 1 < (pairW W H L P i).length ∧ d = ((pairW W H L P i).getD j 0, (pairW W H L P i).getD (j + 1) 0)
  | 0, d, h => by cases h
  | k + 1, d, h => by
    rcases mem_insAll.1 h with h | h
    · obtain ⟨i, j, h1, h2, h3⟩ := mem_allD h
      exact ⟨i, j, by omega, h2, h3⟩
    · unfold wayD at h
      obtain ⟨j, h1, rfl⟩ := List.mem_map.1 h
      have := List.mem_range.1 h1
      exact ⟨k, j, Nat.lt_succ_self k, by omega, rfl⟩
def depG (W H : Int) (L P : List Int) : List Dep := if tableG W H L P then allD W H L P (sqG W H) else []
theorem depG_yes (h : tableG W H L P = true) : depG W H L P = allD W H L P (sqG W H) := if_pos h
theorem depG_no (h : tableG W H L P = false) : depG W H L P = [] := if_neg (by simp [h])
theorem sqG_le : sqG W H ≤ 256 := by
  have h := cntN_le W H
  exact Nat.mul_le_mul h h
theorem depG_asc : ascD (depG W H L P) := by
  unfold depG
  split
  · exact allD_asc _
  · exact asc_nil
theorem depG_len : (depG W H L P).length ≤ 4096 := by
  unfold depG
  split
  · have h1 := allD_len (W := W) (H := H) (L := L) (P := P) (sqG W H)
    have h2 := sqG_le (W := W) (H := H)
    omega
  · simp
theorem depG_in {d : Dep} (h : d ∈ depG W H L P) : 0 ≤ d.1 ∧ d.1 < 64 ∧ 0 ≤ d.2 ∧ d.2 < 64 := by
  unfold depG at h
  split at h
  · obtain ⟨i, j, _, h2, rfl⟩ := mem_allD h
    have h3 := pairW_range (W := W) (H := H) (L := L) (P := P) (i := i) (j := j) (by omega)
    have h4 := pairW_range (W := W) (H := H) (L := L) (P := P) (i := i) (j := j + 1) h2
    exact ⟨h3.1, h3.2, h4.1, h4.2⟩
  · cases h
theorem depG_ok : okD (depG W H L P) = true := okD_of depG_asc fun d hd => by
  have := depG_in hd
  exact inD_iff.2 (by omega)
end
end Go.Proofs.YtcmlnokfjbglaaaDoor
end

section
namespace Go.Proofs.YtcmlnokfjbglaaaDoor
open Go.ChangeShapes Go.WideShapes Go.ChangeAt Go.RowKit
set_option linter.unusedVariables false

/-- The element leads from a channel without a rank to c. -/
def holdO (R : List Int) (d : Dep) (c : Nat) : Bool := decide (d.2 = (c : Int)) && decide (R.getD d.1.toNat 0 < 0)
def freeO (D : List Dep) (R : List Int) (c : Nat) : Bool := (List.range D.length).all fun i => !holdO R (atD D i) c
theorem freeO_iff {D : List Dep} {R : List Int} {c : Nat} : freeO D R c = true ↔ ∀ i, i < D.length → holdO R (atD D i) c = false := by
  unfold freeO
  rw [List.all_eq_true]
  exact ⟨fun h i hi => by simpa using h i (List.mem_range.2 hi), fun h i hi => by simpa using h i (List.mem_range.1 hi)⟩
theorem freeO_no {D : List Dep} {R : List Int} {c i : Nat} (hi : i < D.length) (h : holdO R (atD D i) c = true) : freeO D R c = false := by
  cases hf : freeO D R c with
  | false => rfl
  | true => rw [freeO_iff.1 hf i hi] at h; cases h
/-- c can be ranked next. -/
def candO (D : List Dep) (R : List Int) (c : Nat) : Bool := decide (R.getD c 0 < 0) && freeO D R c
/-- The least such channel. -/
def bestO (D : List Dep) (R : List Int) : Option Nat := (List.range 128).find? (candO D R)
theorem find_range {p : Nat → Bool} {n c : Nat} (hc : c < n) (h : p c = true) (h0 : ∀ j, j < c → p j = false) : (List.range n).find? p = some c := by
  induction n with
  | zero => omega
  | succ n ih =>
    rw [List.range_succ, List.find?_append]
    rcases Nat.lt_succ_iff_lt_or_eq.1 hc with h1 | h1
    · rw [ih h1]; rfl
    · subst h1
      have : (List.range c).find? p = none := List.find?_eq_none.2 fun x hx => by
        rw [h0 x (List.mem_range.1 hx)]; simp
      rw [this]
      simp [h]
theorem bestO_some {D : List Dep} {R : List Int} {c : Nat} (hc : c < 128) (h : candO D R c = true) (h0 : ∀ j, j < c → candO D R j = false) : bestO D R = some c := find_range hc h h0
theorem bestO_none {D : List Dep} {R : List Int} (h0 : ∀ j, j < 128 → candO D R j = false) : bestO D R = none := List.find?_eq_none.2 fun x hx => by rw [h0 x (List.mem_range.1 hx)]; simp
theorem bestO_is {D : List Dep} {R : List Int} {c : Nat} (h : bestO D R = some c) : c < 128 ∧ candO D R c = true := ⟨List.mem_range.1 (List.mem_of_find?_eq_some h), List.find?_some h⟩
theorem bestO_least {D : List Dep} {R : List Int} {c : Nat} (h : bestO D R = some c) {j : Nat} (hj : j < c) : candO D R j = false := by
  cases hp : candO D R j with
  | false => rfl
  | true =>
    have key : ∀ n : Nat, j < n → ∃ k, (List.range n).find? (candO D R) = some k ∧ k ≤ j := fun n => by
      induction n with
      | zero => intro h; omega
      | succ n ih =>
        intro hn
        rw [List.range_succ, List.find?_append]
        rcases Nat.lt_succ_iff_lt_or_eq.1 hn with h1 | h1
        · obtain ⟨k, hk, hl⟩ := ih h1
          exact ⟨k, by rw [hk]; rfl, hl⟩
        · subst h1
          cases hf : (List.range j).find? (candO D R) with
          | some k => exact ⟨k, rfl, Nat.le_of_lt (List.mem_range.1 (List.mem_of_find?_eq_some hf))⟩
          | none => exact ⟨j, by simp [hp], Nat.le_refl _⟩
    obtain ⟨k, hk, hl⟩ := key 128 (by have := (bestO_is h).1; omega)
    unfold bestO at h
    rw [h] at hk
    cases hk
    omega
/-- The ranks behind r steps. -/
def ordTo (D : List Dep) : Nat → Option (List Int)
  | 0 => some (List.replicate 128 (-1))
  | r + 1 => (ordTo D r).bind fun R => (bestO D R).map fun c => R.set c (r : Int)
theorem ordTo_next {D : List Dep} {r c : Nat} {R : List Int} (h : ordTo D r = some R) (hc : bestO D R = some c) : ordTo D (r + 1) = some (R.set c (r : Int)) := by simp [ordTo, h, hc]
theorem ordTo_stop {D : List Dep} {r : Nat} {R : List Int} (h : ordTo D r = some R) (hc : bestO D R = none) : ordTo D (r + 1) = none := by simp [ordTo, h, hc]
theorem ordTo_none {D : List Dep} {r : Nat} (h : ordTo D r = none) : ∀ k, ordTo D (r + k) = none
  | 0 => h
  | k + 1 => by rw [← Nat.add_assoc, ordTo, ordTo_none h k]; rfl
theorem ordTo_dead {D : List Dep} {r : Nat} (h : ordTo D r = none) (hr : r ≤ 128) : ordTo D 128 = none := by
  have := ordTo_none h (128 - r)
  rwa [show r + (128 - r) = 128 by omega] at this
def orderO (D : List Dep) : Option (List Int) := if okD D then ordTo D 128 else none
theorem orderO_bad {D : List Dep} (h : okD D = false) : orderO D = none := by simp [orderO, h]
theorem orderO_ok {D : List Dep} (h : okD D = true) : orderO D = ordTo D 128 := by simp [orderO, h]
/-- What holds behind r steps. -/
structure OrdInv (D : List Dep) (r : Nat) (R : List Int) : Prop where
  len : R.length = 128
  rng : ∀ c, c < 128 → R.getD c 0 = -1 ∨ (0 ≤ R.getD c 0 ∧ R.getD c 0 < (r : Int))
  cnt : R.countP (fun x => decide (x < 0)) = 128 - r
  all : ∀ s : Nat, s < r → ∃ c, c < 128 ∧ R.getD c 0 = (s : Int)
  dep : ∀ d ∈ D, 0 ≤ R.getD d.2.toNat 0 → 0 ≤ R.getD d.1.toNat 0 ∧ R.getD d.1.toNat 0 < R.getD d.2.toNat 0
theorem set_getD {R : List Int} {c i : Nat} {x : Int} (hc : c < R.length) : (R.set c x).getD i 0 = if c = i then x else R.getD i 0 := by
  rw [List.getD_eq_getElem?_getD, List.getElem?_set]
  split
  · rename_i h
    subst h
    first | rfl | (rw [if_pos hc]; rfl) | simp [hc]
  · rw [List.getD_eq_getElem?_getD]
theorem ord_start (D : List Dep) (hD : okD D = true) : OrdInv D 0 (List.replicate 128 (-1)) := by
  have hg : ∀ c, c < 128 → (List.replicate 128 (-1 : Int)).getD c 0 = -1 := fun c hc => by
    rw [List.getD_eq_getElem?_getD, List.getElem?_replicate, if_pos hc]; rfl
  refine ⟨List.length_replicate, fun c hc => .inl (hg c hc), ?_, fun s hs => by omega, fun d hd h => ?_⟩
  · rw [List.countP_replicate]; rfl
  · have := inD_iff.1 (okD_in hD hd)
    rw [hg d.2.toNat (by omega)] at h
    omega
theorem ord_next {D : List Dep} (hD : okD D = true) {r c : Nat} {R : List Int} (h : OrdInv D r R) (hr : r < 128) (hc : bestO D R = some c) : OrdInv D (r + 1) (R.set c (r : Int)) := by
  obtain ⟨hc1, hc2⟩ := bestO_is hc
  simp only [candO, Bool.and_eq_true, decide_eq_true_eq] at hc2
  obtain ⟨hn, hf⟩ := hc2
  have hcl : c < R.length := by rw [h.len]; exact hc1
  refine ⟨by rw [List.length_set]; exact h.len, fun i hi => ?_, ?_, fun s hs => ?_, fun d hd h2 => ?_⟩
  · rw [set_getD hcl]
    split
    · right; omega
    · rcases h.rng i hi with h1 | h1
      · exact .inl h1
      · right; omega
  · have e : R.getD c 0 = R[c] := by rw [List.getD_eq_getElem?_getD, List.getElem?_eq_getElem hcl]; rfl
    rw [e] at hn
    have hr0 : ¬ ((r : Int) < 0) := by omega
    rw [List.countP_set hcl, h.cnt]
    simp [hn, hr0]
    omega
  · rcases Nat.lt_succ_iff_lt_or_eq.1 hs with h1 | h1
    · obtain ⟨i, hi, he⟩ := h.all s h1
      refine ⟨i, hi, ?_⟩
      rw [set_getD hcl, if_neg (fun e => by subst e; omega)]
      exact he
    · exact ⟨c, hc1, by rw [set_getD hcl, if_pos rfl, h1]⟩
  · have hin := inD_iff.1 (okD_in hD hd)
    obtain ⟨i, hi, rfl⟩ := atD_ex hd
    have hh := freeO_iff.1 hf i hi
    simp only [holdO, Bool.and_eq_false_iff, decide_eq_false_iff_not] at hh
    rw [set_getD hcl] at h2
    rw [set_getD hcl, set_getD hcl]
    by_cases e2 : c = (atD D i).2.toNat
    · rw [if_pos e2]
      have h3 : ¬ (R.getD (atD D i).1.toNat 0 < 0) := by
        rcases hh with h4 | h4
        · exact absurd (by omega) h4
        · exact h4
      have e1 : c ≠ (atD D i).1.toNat := fun e => by rw [← e] at h3; omega
      rw [if_neg e1]
      rcases h.rng (atD D i).1.toNat (by omega) with h5 | h5
      · omega
      · omega
    · rw [if_neg e2] at h2 ⊢
      obtain ⟨h5, h6⟩ := h.dep _ hd h2
      have e1 : c ≠ (atD D i).1.toNat := fun e => by rw [← e] at h5; omega
      rw [if_neg e1]
      exact ⟨h5, h6⟩
theorem ord_inv {D : List Dep} (hD : okD D = true) : ∀ {r : Nat} {R : List Int}, r ≤ 128 → ordTo D r = some R → OrdInv D r R
  | 0, R, _, h => by
    have : R = List.replicate 128 (-1) := (Option.some.inj h).symm
    rw [this]
    exact ord_start D hD
  | r + 1, R, hr, h => by
    cases h1 : ordTo D r with
    | none => rw [ordTo, h1] at h; cases h
    | some R0 =>
      cases h2 : bestO D R0 with
      | none => rw [ordTo_stop h1 h2] at h; cases h
      | some c =>
        rw [ordTo_next h1 h2] at h
        have : R = R0.set c (r : Int) := (Option.some.inj h).symm
        rw [this]
        exact ord_next hD (ord_inv hD (by omega) h1) (by omega) h2
theorem ordTo_len {D : List Dep} : ∀ {r : Nat} {R : List Int}, ordTo D r = some R → R.length = 128
  | 0, R, h => by rw [← Option.some.inj h]; exact List.length_replicate
  | r + 1, R, h => by
    cases h1 : ordTo D r with
    | none => rw [ordTo, h1] at h; cases h
    | some R0 =>
      cases h2 : bestO D R0 with
      | none => rw [ordTo_stop h1 h2] at h; cases h
      | some c =>
        rw [ordTo_next h1 h2] at h
        rw [← Option.some.inj h, List.length_set]
        exact ordTo_len h1
/-- An order: its ranks are all the numbers, and they rise along each element. -/
def riseO (D : List Dep) (R : List Int) (i : Nat) : Bool := decide (R.getD (atD D i).1.toNat 0 < R.getD (atD D i).2.toNat 0)
def isOrdO (D : List Dep) (R : List Int) : Bool := okD D && decide (R.length = 128) && ((List.range 128).all fun r => inG R (r : Int)) && (List.range D.length).all (riseO D R)
theorem isOrdO_of {D : List Dep} {R : List Int} (h1 : okD D = true) (h2 : R.length = 128) (h3 : ∀ r : Nat, r < 128 → inG R (r : Int) = true) (h4 : ∀ i, i < D.length → riseO D R i = true) : isOrdO D R = true := by
  simp only [isOrdO, h1, h2, decide_true, Bool.true_and, Bool.and_eq_true, List.all_eq_true, List.mem_range]
  exact ⟨h3, h4⟩
theorem isOrdO_bad {D : List Dep} {R : List Int} (h : okD D = false) : isOrdO D R = false := by simp [isOrdO, h]
theorem isOrdO_len {D : List Dep} {R : List Int} (h : R.length ≠ 128) : isOrdO D R = false := by simp [isOrdO, h]
theorem isOrdO_lack {D : List Dep} {R : List Int} {r : Nat} (hr : r < 128) (h : inG R (r : Int) = false) : isOrdO D R = false := by
  cases ho : isOrdO D R with
  | false => rfl
  | true =>
    simp only [isOrdO, Bool.and_eq_true, List.all_eq_true, List.mem_range] at ho
    rw [ho.1.2 r hr] at h
    cases h
theorem isOrdO_fall {D : List Dep} {R : List Int} {i : Nat} (hi : i < D.length) (h : riseO D R i = false) : isOrdO D R = false := by
  cases ho : isOrdO D R with
  | false => rfl
  | true =>
    simp only [isOrdO, Bool.and_eq_true, List.all_eq_true, List.mem_range] at ho
    rw [ho.2 i hi] at h
    cases h
/-- What is found is an order. -/
theorem order_is {D : List Dep} {R : List Int} (h : orderO D = some R) : okD D = true ∧ R.length = 128 ∧ isOrdO D R = true := by
  cases hD : okD D with
  | false => rw [orderO_bad hD] at h; cases h
  | true =>
    rw [orderO_ok hD] at h
    have hi := ord_inv hD (Nat.le_refl _) h
    refine ⟨rfl, hi.len, isOrdO_of hD hi.len (fun r hr => ?_) (fun i hj => ?_)⟩
    · obtain ⟨c, hc, he⟩ := hi.all r hr
      exact inG_yes (by rw [hi.len]; exact hc) he
    · have hn : ∀ x ∈ R, ¬ x < 0 := fun x hx => by
        have := List.countP_eq_zero.1 hi.cnt x hx
        simpa using this
      have hin := inD_iff.1 (okD_in hD (atD_mem hj))
      have hm : R.getD (atD D i).2.toNat 0 ∈ R := by
        rw [List.getD_eq_getElem?_getD, List.getElem?_eq_getElem (by rw [hi.len]; omega)]
        exact List.getElem_mem _
      have := hi.dep _ (atD_mem hj) (by have := hn _ hm; omega)
      exact decide_eq_true this.2
/-- The least channel to which no element leads has the rank 0. -/
def noPre (D : List Dep) (c : Nat) : Bool := (List.range D.length).all fun i => decide ((atD D i).2 ≠ (c : Int))
theorem cand_start {D : List Dep} (hD : okD D = true) {c : Nat} (hc : c < 128) : candO D (List.replicate 128 (-1)) c = noPre D c := by
  have hg : ∀ c, c < 128 → (List.replicate 128 (-1 : Int)).getD c 0 = -1 := fun c hc => by
    rw [List.getD_eq_getElem?_getD, List.getElem?_replicate, if_pos hc]; rfl
  unfold candO freeO noPre
  rw [hg c hc]
  rw [show decide ((-1 : Int) < 0) = true from rfl, Bool.true_and]
  apply Bool.eq_iff_iff.2
  rw [List.all_eq_true, List.all_eq_true]
  have key : ∀ i, i < D.length → (!holdO (List.replicate 128 (-1)) (atD D i) c) = decide ((atD D i).2 ≠ (c : Int)) := fun i hi => by
    have hin := inD_iff.1 (okD_in hD (atD_mem hi))
    unfold holdO
    rw [hg _ (by omega), show decide ((-1 : Int) < 0) = true from rfl, Bool.and_true]
    by_cases h : (atD D i).2 = (c : Int) <;> simp [h]
  exact ⟨fun h i hi => by rw [← key i (List.mem_range.1 hi)]; exact h i hi, fun h i hi => by rw [key i (List.mem_range.1 hi)]; exact h i hi⟩
theorem ord_first {D : List Dep} (hD : okD D = true) {R : List Int} (h : ordTo D 128 = some R) : ∃ c, c < 128 ∧ noPre D c = true ∧ (∀ j, j < c → noPre D j = false) ∧ R.getD c 0 = 0 := by
  have key : ∀ r, ∀ R, r + 1 ≤ 128 → ordTo D (r + 1) = some R → ∃ c, bestO D (List.replicate 128 (-1)) = some c ∧ R.getD c 0 = 0 := fun r => by
    induction r with
    | zero =>
      intro R _ h
      cases h2 : bestO D (List.replicate 128 (-1)) with
      | none => rw [ordTo_stop (r := 0) rfl h2] at h; cases h
      | some c =>
        rw [ordTo_next (r := 0) rfl h2] at h
        refine ⟨c, rfl, ?_⟩
        rw [← Option.some.inj h, set_getD (by rw [List.length_replicate]; exact (bestO_is h2).1), if_pos rfl]
        rfl
    | succ r ih =>
      intro R hr h
      cases h1 : ordTo D (r + 1) with
      | none => rw [ordTo, h1] at h; cases h
      | some R0 =>
        cases h2 : bestO D R0 with
        | none => rw [ordTo_stop h1 h2] at h; cases h
        | some c =>
          rw [ordTo_next h1 h2] at h
          obtain ⟨c0, hc0, he⟩ := ih R0 (by omega) h1
          obtain ⟨hc1, hc2⟩ := bestO_is h2
          simp only [candO, Bool.and_eq_true, decide_eq_true_eq] at hc2
          refine ⟨c0, hc0, ?_⟩
          rw [← Option.some.inj h, set_getD (by rw [ordTo_len h1]; exact hc1), if_neg (fun e => by subst e; omega)]
          exact he
  obtain ⟨c, hc, he⟩ := key 127 R (by omega) h
  obtain ⟨h1, h2⟩ := bestO_is hc
  exact ⟨c, h1, by rw [← cand_start hD h1]; exact h2, fun j hj => by rw [← cand_start hD (by omega)]; exact bestO_least hc hj, he⟩

/-- The rank of a channel under the rule xy. -/
def rankG (W H rule c : Int) : Int :=
  if rule = 1 ∧ leadsG W H c = true then
    (if c % 4 = 1 then c / 4 % W else if c % 4 = 3 then W - 1 - c / 4 % W else if c % 4 = 2 then 10 + c / 4 / W else 10 + H - 1 - c / 4 / W)
  else -1
/-- Each channel of the route is an index, and its rank is above that of the one ahead. -/
def upO (R T : List Int) (i : Nat) : Bool :=
  decide (0 ≤ T.getD i 0 ∧ T.getD i 0 ≤ (R.length : Int) - 1) && (decide (i = 0) || decide (R.getD (T.getD (i - 1) 0).toNat 0 < R.getD (T.getD i 0).toNat 0))
def risesO (R T : List Int) : Bool := (List.range T.length).all (upO R T)
theorem risesO_of {R T : List Int} (h : ∀ i, i < T.length → upO R T i = true) : risesO R T = true := by
  simp only [risesO, List.all_eq_true, List.mem_range]; exact h
theorem risesO_not {R T : List Int} {i : Nat} (hi : i < T.length) (h : upO R T i = false) : risesO R T = false := by
  cases ho : risesO R T with
  | false => rfl
  | true =>
    simp only [risesO, List.all_eq_true, List.mem_range] at ho
    rw [ho i hi] at h
    cases h
end Go.Proofs.YtcmlnokfjbglaaaDoor
end

section
namespace Go.Proofs.YtcmlnokfjbglaaaDoor
open Go.ChangeShapes Go.WideShapes Go.ChangeAt Go.RowKit
set_option linter.unusedVariables false

/-- An element leads from a to b. -/
def edgeB (D : List Dep) (a b : Nat) : Bool := D.any fun d => decide (d.1 = (a : Int)) && decide (d.2 = (b : Int))
theorem edge_iff {D : List Dep} {a b : Nat} : edgeB D a b = true ↔ ((a : Int), (b : Int)) ∈ D := by
  unfold edgeB
  rw [List.any_eq_true]
  constructor
  · rintro ⟨d, hd, h⟩
    simp only [Bool.and_eq_true, decide_eq_true_eq] at h
    have : d = ((a : Int), (b : Int)) := Prod.ext h.1 h.2
    rwa [this] at hd
  · exact fun h => ⟨_, h, by simp⟩
theorem edge_lt {D : List Dep} (hD : okD D = true) {a b : Nat} (h : edgeB D a b = true) : a < 128 ∧ b < 128 := by
  have h1 := inD_iff.1 (okD_in hD (edge_iff.1 h))
  exact ⟨by have := h1.2.1; simp only at this; omega, by have := h1.2.2.2; simp only at this; omega⟩
theorem edge_succ {D : List Dep} {a b : Nat} : edgeB D a b = true ↔ (b : Int) ∈ succD D (a : Int) := by
  rw [edge_iff]
  unfold succD
  rw [List.mem_map]
  constructor
  · exact fun h => ⟨_, List.mem_filter.2 ⟨h, by simp⟩, rfl⟩
  · rintro ⟨d, hd, he⟩
    obtain ⟨h1, h2⟩ := List.mem_filter.1 hd
    have h3 : d.1 = (a : Int) := by simpa using h2
    have : d = ((a : Int), (b : Int)) := Prod.ext h3 he
    rwa [this] at h1
theorem succ_in {D : List Dep} (hD : okD D = true) {c x : Int} (h : x ∈ succD D c) : 0 ≤ x ∧ x < 128 := by
  unfold succD at h
  obtain ⟨d, hd, rfl⟩ := List.mem_map.1 h
  have h1 := inD_iff.1 (okD_in hD (List.mem_filter.1 hd).1)
  omega

/-- n elements, one behind the other, lead from a to b. -/
def wayB (D : List Dep) (a : Nat) : Nat → Nat → Bool
  | 0, b => decide (b = a)
  | n + 1, b => (List.range 128).any fun u => wayB D a n u && edgeB D u b
theorem wayB_zero {D : List Dep} {a b : Nat} : wayB D a 0 b = true ↔ b = a := by simp [wayB]
theorem wayB_next {D : List Dep} (hD : okD D = true) {a n b : Nat} : wayB D a (n + 1) b = true ↔ ∃ u, wayB D a n u = true ∧ edgeB D u b = true := by
  rw [wayB, List.any_eq_true]
  constructor
  · rintro ⟨u, hu, h⟩
    rw [Bool.and_eq_true] at h
    exact ⟨u, h⟩
  · rintro ⟨u, h1, h2⟩
    exact ⟨u, List.mem_range.2 (edge_lt hD h2).1, by rw [h1, h2]; rfl⟩
theorem way_one {D : List Dep} (hD : okD D = true) {a b : Nat} : wayB D a 1 b = true ↔ edgeB D a b = true := by
  rw [wayB_next hD]
  exact ⟨fun ⟨u, h1, h2⟩ => by rw [wayB_zero.1 h1] at h2; exact h2, fun h => ⟨a, wayB_zero.2 rfl, h⟩⟩
theorem way_lt {D : List Dep} (hD : okD D = true) {a n b : Nat} (hn : 1 ≤ n) (h : wayB D a n b = true) : b < 128 := by
  obtain ⟨m, rfl⟩ : ∃ m, n = m + 1 := ⟨n - 1, by omega⟩
  obtain ⟨u, _, h2⟩ := (wayB_next hD).1 h
  exact (edge_lt hD h2).2
theorem way_from {D : List Dep} (hD : okD D = true) {a : Nat} : ∀ {n b : Nat}, 1 ≤ n → wayB D a n b = true → a < 128
  | 0, b, hn, h => by omega
  | 1, b, _, h => (edge_lt hD ((way_one hD).1 h)).1
  | n + 2, b, _, h => by
    obtain ⟨u, h1, _⟩ := (wayB_next hD).1 h
    exact way_from hD (n := n + 1) (by omega) h1
theorem way_add {D : List Dep} (hD : okD D = true) {a b : Nat} {n : Nat} (h : wayB D a n b = true) : ∀ {m c : Nat}, wayB D b m c = true → wayB D a (n + m) c = true
  | 0, c, k => by rw [wayB_zero.1 k]; exact h
  | m + 1, c, k => by
    obtain ⟨u, h1, h2⟩ := (wayB_next hD).1 k
    exact (wayB_next hD).2 ⟨u, way_add hD h h1, h2⟩
theorem way_split {D : List Dep} (hD : okD D = true) {a n : Nat} : ∀ {m c : Nat}, wayB D a (n + m) c = true → ∃ b, wayB D a n b = true ∧ wayB D b m c = true
  | 0, c, h => ⟨c, h, wayB_zero.2 rfl⟩
  | m + 1, c, h => by
    obtain ⟨u, h1, h2⟩ := (wayB_next hD).1 (show wayB D a ((n + m) + 1) c = true from h)
    obtain ⟨b, h3, h4⟩ := way_split hD h1
    exact ⟨b, h3, (wayB_next hD).2 ⟨u, h4, h2⟩⟩
theorem way_head {D : List Dep} (hD : okD D = true) {a n c : Nat} (h : wayB D a (n + 1) c = true) : ∃ s, edgeB D a s = true ∧ wayB D s n c = true := by
  rw [Nat.add_comm] at h
  obtain ⟨b, h1, h2⟩ := way_split hD h
  exact ⟨b, (way_one hD).1 h1, h2⟩
theorem way_cons {D : List Dep} (hD : okD D = true) {a s n c : Nat} (h : edgeB D a s = true) (k : wayB D s n c = true) : wayB D a (n + 1) c = true := by
  rw [Nat.add_comm]
  exact way_add hD ((way_one hD).2 h) k

/-- The first level, from 1 on, at which b is reached. -/
def fstB (D : List Dep) (a n b : Nat) : Prop := wayB D a n b = true ∧ ∀ m, 1 ≤ m → m < n → wayB D a m b = false
/-- The least number of elements, at least 1, that lead from a to b; 0 if there are none. -/
def isDist (D : List Dep) (a b n : Nat) : Prop := (n = 0 ∧ ∀ m, 1 ≤ m → wayB D a m b = false) ∨ (1 ≤ n ∧ fstB D a n b)
theorem dist_uniq {D : List Dep} {a b n m : Nat} (h : isDist D a b n) (k : isDist D a b m) : n = m := by
  rcases h with ⟨h1, h2⟩ | ⟨h1, h2, h3⟩
  · rcases k with ⟨k1, k2⟩ | ⟨k1, k2, k3⟩
    · omega
    · rw [h2 m k1] at k2; cases k2
  · rcases k with ⟨k1, k2⟩ | ⟨k1, k2, k3⟩
    · rw [k2 n h1] at h2; cases h2
    · rcases Nat.lt_trichotomy n m with h4 | h4 | h4
      · rw [k3 n h1 h4] at h2; cases h2
      · exact h4
      · rw [h3 m k1 h4] at k2; cases k2
theorem fst_ex {D : List Dep} {a b : Nat} : ∀ {n : Nat}, 1 ≤ n → wayB D a n b = true → ∃ m, 1 ≤ m ∧ m ≤ n ∧ fstB D a m b := by
  intro n
  induction n using Nat.strongRecOn with
  | ind n ih =>
    intro hn h
    by_cases hx : ∃ m, 1 ≤ m ∧ m < n ∧ wayB D a m b = true
    · obtain ⟨m, h1, h2, h3⟩ := hx
      obtain ⟨k, k1, k2, k3⟩ := ih m h2 h1 h3
      exact ⟨k, k1, by omega, k3⟩
    · exact ⟨n, hn, Nat.le_refl _, h, fun m h1 h2 => by
        cases hw : wayB D a m b with
        | false => rfl
        | true => exact absurd ⟨m, h1, h2, hw⟩ hx⟩
/-- A channel at a level has one ahead of it at the level before. -/
def levB (D : List Dep) (a n b : Nat) : Prop := if n = 0 then b = a else fstB D a n b
theorem fst_back {D : List Dep} (hD : okD D = true) {a n b : Nat} (h : fstB D a (n + 1) b) : ∃ u, levB D a n u ∧ edgeB D u b = true := by
  obtain ⟨u, h1, h2⟩ := (wayB_next hD).1 h.1
  refine ⟨u, ?_, h2⟩
  unfold levB
  split
  · rename_i h0
    subst h0
    exact wayB_zero.1 h1
  · rename_i h0
    refine ⟨h1, fun m hm hmn => ?_⟩
    cases hw : wayB D a m u with
    | false => rfl
    | true =>
      have := h.2 (m + 1) (by omega) (by omega)
      rw [(wayB_next hD).2 ⟨u, hw, h2⟩] at this
      cases this
theorem pigeon : ∀ (n : Nat) (l : List Nat), l.Nodup → (∀ x ∈ l, x < n) → l.length ≤ n
  | 0, l, _, h => by
    cases l with
    | nil => exact Nat.le_refl _
    | cons x l => have := h x (List.mem_cons_self ..); omega
  | n + 1, l, hl, h => by
    by_cases hm : n ∈ l
    · have h1 := pigeon n (l.erase n) (hl.erase n) (fun x hx => by
        have h2 := (List.Nodup.mem_erase_iff hl).1 hx
        have := h x h2.2
        omega)
      rw [List.length_erase_of_mem hm] at h1
      have : 0 < l.length := List.length_pos_of_mem hm
      omega
    · have := pigeon n l hl (fun x hx => by
        have h2 := h x hx
        have h3 : x ≠ n := fun e => hm (e ▸ hx)
        omega)
      omega
theorem fst_chain {D : List Dep} (hD : okD D = true) {a : Nat} : ∀ {n b : Nat}, 1 ≤ n → fstB D a n b → ∃ l : List Nat, l.Nodup ∧ l.length = n ∧ ∀ x ∈ l, x < 128 ∧ ∃ k, 1 ≤ k ∧ k ≤ n ∧ wayB D a k x = true
  | 0, b, hn, h => by omega
  | 1, b, _, h => ⟨[b], by simp, rfl, fun x hx => by
      rw [List.mem_singleton] at hx
      subst hx
      exact ⟨way_lt hD (Nat.le_refl _) h.1, 1, Nat.le_refl _, Nat.le_refl _, h.1⟩⟩
  | n + 2, b, _, h => by
    obtain ⟨u, h1, h2⟩ := fst_back hD h
    unfold levB at h1
    rw [if_neg (by omega)] at h1
    obtain ⟨l, hl, hn, hx⟩ := fst_chain hD (n := n + 1) (by omega) h1
    refine ⟨b :: l, ?_, by rw [List.length_cons, hn], fun x hm => ?_⟩
    · rw [List.nodup_cons]
      refine ⟨fun hm => ?_, hl⟩
      obtain ⟨_, k, k1, k2, k3⟩ := hx b hm
      rw [h.2 k k1 (by omega)] at k3
      cases k3
    · rcases List.mem_cons.1 hm with e | h3
      · rw [e]
        exact ⟨way_lt hD (by omega) h.1, n + 2, by omega, Nat.le_refl _, h.1⟩
      · obtain ⟨h4, k, k1, k2, k3⟩ := hx x h3
        exact ⟨h4, k, k1, by omega, k3⟩
theorem fst_le {D : List Dep} (hD : okD D = true) {a n b : Nat} (h : fstB D a n b) : n ≤ 128 := by
  by_cases hn : 1 ≤ n
  · obtain ⟨l, hl, he, hx⟩ := fst_chain hD hn h
    rw [← he]
    exact pigeon 128 l hl (fun x hm => (hx x hm).1)
  · omega
def distD (D : List Dep) (a b : Nat) : Nat := match (List.range 128).find? (fun n => wayB D a (n + 1) b) with | none => 0 | some n => n + 1
theorem find_least {p : Nat → Bool} {n k : Nat} (h : (List.range n).find? p = some k) {j : Nat} (hj : j < k) : p j = false := by
  induction n with
  | zero => simp at h
  | succ n ih =>
    rw [List.range_succ, List.find?_append] at h
    cases hf : (List.range n).find? p with
    | some m =>
      rw [hf] at h
      exact ih (hf.trans h)
    | none =>
      rw [hf] at h
      have hk : k = n := by
        have := List.mem_of_find?_eq_some (l := [n]) h
        simpa using this
      subst hk
      have := List.find?_eq_none.1 hf j (List.mem_range.2 hj)
      simpa using this
theorem dist_is {D : List Dep} (hD : okD D = true) (a b : Nat) : isDist D a b (distD D a b) := by
  unfold distD
  cases hf : (List.range 128).find? (fun n => wayB D a (n + 1) b) with
  | some n =>
    have hp : wayB D a (n + 1) b = true := List.find?_some (p := fun n => wayB D a (n + 1) b) hf
    refine .inr ⟨by simp, hp, fun m h1 h2 => ?_⟩
    obtain ⟨j, rfl⟩ : ∃ j, m = j + 1 := ⟨m - 1, by omega⟩
    exact find_least hf (j := j) (by simpa using h2)
  | none =>
    refine .inl ⟨rfl, fun m h1 => ?_⟩
    cases hw : wayB D a m b with
    | false => rfl
    | true =>
      obtain ⟨k, k1, k2, k3⟩ := fst_ex h1 hw
      have hk := fst_le hD k3
      have := List.find?_eq_none.1 hf (k - 1) (List.mem_range.2 (by omega))
      rw [show k - 1 + 1 = k by omega, k3.1] at this
      simp at this
theorem dist_le {D : List Dep} (hD : okD D = true) (a b : Nat) : distD D a b ≤ 128 := by
  rcases dist_is hD a b with ⟨h, _⟩ | ⟨_, h⟩
  · omega
  · exact fst_le hD h
theorem dist_of {D : List Dep} (hD : okD D = true) {a b n : Nat} (h : isDist D a b n) : distD D a b = n := dist_uniq (dist_is hD a b) h
/-- A way is no shorter than the least one. -/
theorem dist_way {D : List Dep} (hD : okD D = true) {a b n : Nat} (hn : 1 ≤ n) (h : wayB D a n b = true) : 1 ≤ distD D a b ∧ distD D a b ≤ n := by
  rcases dist_is hD a b with ⟨h1, h2⟩ | ⟨h1, h2⟩
  · rw [h2 n hn] at h; cases h
  · refine ⟨h1, ?_⟩
    by_cases hlt : n < distD D a b
    · rw [h2.2 n hn hlt] at h; cases h
    · omega
theorem dist_pos {D : List Dep} (hD : okD D = true) {a b : Nat} (h : 1 ≤ distD D a b) : wayB D a (distD D a b) b = true := by
  rcases dist_is hD a b with ⟨h1, h2⟩ | ⟨h1, h2⟩
  · omega
  · exact h2.1
/-- The triangle inequality. -/
theorem dist_tri {D : List Dep} (hD : okD D = true) {a b c : Nat} (h : 1 ≤ distD D a b) (k : 1 ≤ distD D b c) : 1 ≤ distD D a c ∧ distD D a c ≤ distD D a b + distD D b c :=
  dist_way hD (by omega) (way_add hD (dist_pos hD h) (dist_pos hD k))

/-- The number of steps, or -1. -/
def stpG (D : List Dep) (x y : Int) : Int := if okD D = true ∧ (0 ≤ x ∧ x ≤ 127) ∧ (0 ≤ y ∧ y ≤ 127) then (if distD D x.toNat y.toNat = 0 then -1 else (distD D x.toNat y.toNat : Int)) else -1

/-- Along a way the ranks of an order rise. -/
theorem ord_way {D : List Dep} (hD : okD D = true) {R : List Int} (h : isOrdO D R = true) {a : Nat} : ∀ {n b : Nat}, 1 ≤ n → wayB D a n b = true → R.getD a 0 < R.getD b 0 := by
  have he : ∀ a b : Nat, edgeB D a b = true → R.getD a 0 < R.getD b 0 := fun a b hab => by
    obtain ⟨k, hk, e⟩ := atD_ex (edge_iff.1 hab)
    simp only [isOrdO, Bool.and_eq_true, List.all_eq_true, List.mem_range] at h
    have := h.2 k hk
    unfold riseO at this
    rw [e] at this
    simpa using this
  intro n
  induction n with
  | zero => intro b hn; omega
  | succ n ih =>
    intro b _ hw
    obtain ⟨u, h1, h2⟩ := (wayB_next hD).1 hw
    by_cases hn : 1 ≤ n
    · have := ih hn h1
      have := he u b h2
      omega
    · obtain rfl : n = 0 := by omega
      rw [wayB_zero.1 h1] at h2
      exact he a b h2
theorem ord_acyclic {D : List Dep} {R : List Int} (h : orderO D = some R) (c : Nat) : distD D c c = 0 := by
  obtain ⟨hD, _, ho⟩ := order_is h
  rcases dist_is hD c c with ⟨h1, _⟩ | ⟨h1, h2⟩
  · exact h1
  · have := ord_way hD ho h1 h2.1
    omega
/-- Channels without a rank, each of which waits for another one: some lie on a cycle. -/
theorem pre_cycle {D : List Dep} (hD : okD D = true) {S : Nat → Prop} {c0 : Nat} (h0 : S c0) (h0' : c0 < 128) (hp : ∀ c, c < 128 → S c → ∃ p, S p ∧ edgeB D p c = true) : ∃ c n, c < 128 ∧ 1 ≤ n ∧ wayB D c n c = true := by
  have key : ∀ k : Nat, (∃ c n, c < 128 ∧ 1 ≤ n ∧ wayB D c n c = true) ∨ ∃ (l : List Nat) (h : Nat), l.Nodup ∧ l.length = k + 1 ∧ h < 128 ∧ S h ∧ ∀ x ∈ l, x < 128 ∧ ∃ n, wayB D h n x = true := by
    intro k
    induction k with
    | zero => exact .inr ⟨[c0], c0, by simp, rfl, h0', h0, fun x hx => by rw [List.mem_singleton] at hx; subst hx; exact ⟨h0', 0, wayB_zero.2 rfl⟩⟩
    | succ k ih =>
      rcases ih with h | ⟨l, h, hl, hn, hh, hs, hx⟩
      · exact .inl h
      · obtain ⟨p, hps, hpe⟩ := hp h hh hs
        have hp128 := (edge_lt hD hpe).1
        by_cases hm : p ∈ l
        · obtain ⟨_, n, hw⟩ := hx p hm
          exact .inl ⟨p, n + 1, hp128, by omega, way_cons hD hpe hw⟩
        · refine .inr ⟨p :: l, p, by rw [List.nodup_cons]; exact ⟨hm, hl⟩, by rw [List.length_cons, hn], hp128, hps, fun x hxm => ?_⟩
          rcases List.mem_cons.1 hxm with e | h3
          · rw [e]; exact ⟨hp128, 0, wayB_zero.2 rfl⟩
          · obtain ⟨h4, n, hw⟩ := hx x h3
            exact ⟨h4, n + 1, way_cons hD hpe hw⟩
  rcases key 128 with h | ⟨l, h, hl, hn, _, _, hx⟩
  · exact h
  · have := pigeon 128 l hl (fun x hm => (hx x hm).1)
    omega
theorem ordTo_fail {D : List Dep} : ∀ {n : Nat}, ordTo D n = none → ∃ r R, r < n ∧ ordTo D r = some R ∧ bestO D R = none
  | 0, h => by cases h
  | n + 1, h => by
    cases h1 : ordTo D n with
    | none =>
      obtain ⟨r, R, h2, h3⟩ := ordTo_fail h1
      exact ⟨r, R, by omega, h3⟩
    | some R =>
      cases h2 : bestO D R with
      | none => exact ⟨n, R, by omega, h1, h2⟩
      | some c => rw [ordTo_next h1 h2] at h; cases h
/-- Either an order or a cycle exists. -/
theorem cycle_of {D : List Dep} (hD : okD D = true) (h : orderO D = none) : ∃ c, c < 128 ∧ 1 ≤ distD D c c := by
  rw [orderO_ok hD] at h
  obtain ⟨r, R, hr, hR, hb⟩ := ordTo_fail h
  have hi := ord_inv hD (by omega) hR
  have hno : ∀ c, c < 128 → candO D R c = false := fun c hc => by
    have := List.find?_eq_none.1 hb c (List.mem_range.2 hc)
    simpa using this
  have hpos : 0 < R.countP (fun x => decide (x < 0)) := by rw [hi.cnt]; omega
  obtain ⟨x, hx, hx0⟩ := List.countP_pos_iff.1 hpos
  obtain ⟨c0, hc0, rfl⟩ := List.getElem_of_mem hx
  have hc1 : c0 < 128 := by rw [← hi.len]; exact hc0
  have hg : R.getD c0 0 < 0 := by
    rw [List.getD_eq_getElem?_getD, List.getElem?_eq_getElem hc0]
    simpa using hx0
  obtain ⟨c, n, hc, hn, hw⟩ := pre_cycle hD (S := fun c => R.getD c 0 < 0) hg hc1 (fun c hc hs => by
    have h1 := hno c hc
    have h2 : freeO D R c = false := by
      simp only [candO, hs, decide_true, Bool.true_and] at h1
      exact h1
    have h3 : ∃ i, i < D.length ∧ holdO R (atD D i) c = true := by
      refine Classical.byContradiction fun hne => ?_
      have : freeO D R c = true := freeO_iff.2 fun i hi => by
        cases hh : holdO R (atD D i) c with
        | false => rfl
        | true => exact absurd ⟨i, hi, hh⟩ hne
      rw [this] at h2
      cases h2
    obtain ⟨i, hi2, hh⟩ := h3
    simp only [holdO, Bool.and_eq_true, decide_eq_true_eq] at hh
    have hin := inD_iff.1 (okD_in hD (atD_mem hi2))
    refine ⟨(atD D i).1.toNat, hh.2, edge_iff.2 ?_⟩
    have : atD D i = (((atD D i).1.toNat : Int), (c : Int)) := Prod.ext (by simp only; omega) hh.1
    rw [← this]
    exact atD_mem hi2)
  exact ⟨c, hc, (dist_way hD hn hw).1⟩
end Go.Proofs.YtcmlnokfjbglaaaDoor
end

section
namespace Go.Proofs.YtcmlnokfjbglaaaDoor
open Go.ChangeShapes Go.WideShapes Go.ChangeAt Go.RowKit
set_option linter.unusedVariables false

/-- Numbers that rise along the ways of the rules xy, yx and west. -/
def rkS (W H r c : Int) : Int :=
  if r = 1 then (if c % 4 = 1 then c / 4 % W else if c % 4 = 3 then W - 1 - c / 4 % W else if c % 4 = 2 then 10 + c / 4 / W else 10 + H - 1 - c / 4 / W)
  else if r = 2 then (if c % 4 = 2 then c / 4 / W else if c % 4 = 0 then H - 1 - c / 4 / W else if c % 4 = 1 then 10 + c / 4 % W else 10 + W - 1 - c / 4 % W)
  else (if c % 4 = 3 then W - 1 - c / 4 % W else if c % 4 = 2 then 10 + c / 4 / W else if c % 4 = 0 then 10 + H - 1 - c / 4 / W else 20 + c / 4 % W)
def riseW (f : Int → Int) : List Int → Bool
  | [] => true
  | a :: t => (match t with | [] => true | b :: _ => decide (f a < f b)) && riseW f t
def stdRise (W H r : Int) : Bool := (List.range (sqG W H)).all fun i => riseW (rkS W H r) (pairW W H [] (stdTab W H r) i)
theorem srs_111 : stdRise 1 1 1 = true := by decide +kernel
theorem srs_112 : stdRise 1 1 2 = true := by decide +kernel
theorem srs_113 : stdRise 1 1 3 = true := by decide +kernel
theorem srs_121 : stdRise 1 2 1 = true := by decide +kernel
theorem srs_122 : stdRise 1 2 2 = true := by decide +kernel
theorem srs_123 : stdRise 1 2 3 = true := by decide +kernel
theorem srs_131 : stdRise 1 3 1 = true := by decide +kernel
theorem srs_132 : stdRise 1 3 2 = true := by decide +kernel
theorem srs_133 : stdRise 1 3 3 = true := by decide +kernel
theorem srs_141 : stdRise 1 4 1 = true := by decide +kernel
theorem srs_142 : stdRise 1 4 2 = true := by decide +kernel
theorem srs_143 : stdRise 1 4 3 = true := by decide +kernel
theorem srs_211 : stdRise 2 1 1 = true := by decide +kernel
theorem srs_212 : stdRise 2 1 2 = true := by decide +kernel
theorem srs_213 : stdRise 2 1 3 = true := by decide +kernel
theorem srs_221 : stdRise 2 2 1 = true := by decide +kernel
theorem srs_222 : stdRise 2 2 2 = true := by decide +kernel
theorem srs_223 : stdRise 2 2 3 = true := by decide +kernel
theorem srs_231 : stdRise 2 3 1 = true := by decide +kernel
theorem srs_232 : stdRise 2 3 2 = true := by decide +kernel
theorem srs_233 : stdRise 2 3 3 = true := by decide +kernel
theorem srs_241 : stdRise 2 4 1 = true := by decide +kernel
theorem srs_242 : stdRise 2 4 2 = true := by decide +kernel
theorem srs_243 : stdRise 2 4 3 = true := by decide +kernel
theorem srs_311 : stdRise 3 1 1 = true := by decide +kernel
theorem srs_312 : stdRise 3 1 2 = true := by decide +kernel
theorem srs_313 : stdRise 3 1 3 = true := by decide +kernel
theorem srs_321 : stdRise 3 2 1 = true := by decide +kernel
theorem srs_322 : stdRise 3 2 2 = true := by decide +kernel
theorem srs_323 : stdRise 3 2 3 = true := by decide +kernel
theorem srs_331 : stdRise 3 3 1 = true := by decide +kernel
theorem srs_332 : stdRise 3 3 2 = true := by decide +kernel
theorem srs_333 : stdRise 3 3 3 = true := by decide +kernel
theorem srs_341 : stdRise 3 4 1 = true := by decide +kernel
theorem srs_342 : stdRise 3 4 2 = true := by decide +kernel
theorem srs_343 : stdRise 3 4 3 = true := by decide +kernel
theorem srs_411 : stdRise 4 1 1 = true := by decide +kernel
theorem srs_412 : stdRise 4 1 2 = true := by decide +kernel
theorem srs_413 : stdRise 4 1 3 = true := by decide +kernel
theorem srs_421 : stdRise 4 2 1 = true := by decide +kernel
theorem srs_422 : stdRise 4 2 2 = true := by decide +kernel
theorem srs_423 : stdRise 4 2 3 = true := by decide +kernel
theorem srs_431 : stdRise 4 3 1 = true := by decide +kernel
theorem srs_432 : stdRise 4 3 2 = true := by decide +kernel
theorem srs_433 : stdRise 4 3 3 = true := by decide +kernel
theorem srs_441 : stdRise 4 4 1 = true := by decide +kernel
theorem srs_442 : stdRise 4 4 2 = true := by decide +kernel
theorem srs_443 : stdRise 4 4 3 = true := by decide +kernel
theorem std_rise {W H r : Int} (h : okG W H = true) (h1 : 1 ≤ r) (h3 : r ≤ 3) : stdRise W H r = true := by
  obtain ⟨hW, hH⟩ := okG_cases h
  have hr : r = 1 ∨ r = 2 ∨ r = 3 := by omega
  rcases hW with rfl | rfl | rfl | rfl <;> rcases hH with rfl | rfl | rfl | rfl <;> rcases hr with rfl | rfl | rfl
  · exact srs_111
  · exact srs_112
  · exact srs_113
  · exact srs_121
  · exact srs_122
  · exact srs_123
  · exact srs_131
  · exact srs_132
  · exact srs_133
  · exact srs_141
  · exact srs_142
  · exact srs_143
  · exact srs_211
  · exact srs_212
  · exact srs_213
  · exact srs_221
  · exact srs_222
  · exact srs_223
  · exact srs_231
  · exact srs_232
  · exact srs_233
  · exact srs_241
  · exact srs_242
  · exact srs_243
  · exact srs_311
  · exact srs_312
  · exact srs_313
  · exact srs_321
  · exact srs_322
  · exact srs_323
  · exact srs_331
  · exact srs_332
  · exact srs_333
  · exact srs_341
  · exact srs_342
  · exact srs_343
  · exact srs_411
  · exact srs_412
  · exact srs_413
  · exact srs_421
  · exact srs_422
  · exact srs_423
  · exact srs_431
  · exact srs_432
  · exact srs_433
  · exact srs_441
  · exact srs_442
  · exact srs_443
theorem rise_at {f : Int → Int} : ∀ {T : List Int}, riseW f T = true → ∀ j, j + 1 < T.length → f (T.getD j 0) < f (T.getD (j + 1) 0)
  | [], _, j, hj => by simp at hj
  | [a], _, j, hj => by simp at hj
  | a :: b :: t, h, 0, _ => by
    simp only [riseW, Bool.and_eq_true, decide_eq_true_eq] at h
    exact h.1
  | a :: b :: t, h, j + 1, hj => by
    rw [riseW, Bool.and_eq_true] at h
    exact rise_at (T := b :: t) h.2 j (by simpa using hj)
/-- What rises along all elements rises along the ways. -/
theorem rank_way {D : List Dep} (hD : okD D = true) {f : Int → Int} (hf : ∀ d ∈ D, f d.1 < f d.2) {a : Nat} : ∀ {n b : Nat}, 1 ≤ n → wayB D a n b = true → f (a : Int) < f (b : Int)
  | 0, b, hn, _ => by omega
  | n + 1, b, _, h => by
    obtain ⟨u, h1, h2⟩ := (wayB_next hD).1 h
    have h3 : f (u : Int) < f (b : Int) := hf _ (edge_iff.1 h2)
    by_cases hn : 1 ≤ n
    · exact Int.lt_trans (rank_way hD hf hn h1) h3
    · obtain rfl : n = 0 := by omega
      rw [wayB_zero.1 h1] at h3
      exact h3
theorem order_of_rank {D : List Dep} (hD : okD D = true) {f : Int → Int} (hf : ∀ d ∈ D, f d.1 < f d.2) : ∃ R, orderO D = some R := by
  cases ho : orderO D with
  | some R => exact ⟨R, rfl⟩
  | none =>
    obtain ⟨c, _, hc⟩ := cycle_of hD ho
    have := rank_way hD hf hc (dist_pos hD hc)
    omega
/-- The dependencies of the table of a rule. -/
def depS (W H r : Int) : List Dep := depG W H [] (stdTab W H r)
theorem safe_std {W H r : Int} (h : okG W H = true) (h1 : 1 ≤ r) (h3 : r ≤ 3) : ∃ R, orderO (depS W H r) = some R := by
  unfold depS
  refine order_of_rank depG_ok (f := rkS W H r) fun d hd => ?_
  rw [depG_yes (std_facts h h1 (by omega)).1] at hd
  obtain ⟨i, j, hi, hj, rfl⟩ := mem_allD hd
  have := std_rise h h1 h3
  simp only [stdRise, List.all_eq_true, List.mem_range] at this
  exact rise_at (this i hi) j hj
end Go.Proofs.YtcmlnokfjbglaaaDoor
end

section
namespace Go.Proofs.YtcmlnokfjbglaaaDoor
open Go.ChangeShapes Go.WideShapes Go.ChangeAt Go.RowKit
set_option linter.unusedVariables false

/-- bad, safe, cyclic. -/
def nameV (c : Int) : ByteArray := if c = 0 then ⟨#[98, 97, 100]⟩ else if c = 1 then ⟨#[115, 97, 102, 101]⟩ else if c = 2 then ⟨#[99, 121, 99, 108, 105, 99]⟩ else ⟨#[]⟩
theorem nameV_0 : nameV 0 = ⟨#[98, 97, 100]⟩ := rfl
theorem nameV_1 : nameV 1 = ⟨#[115, 97, 102, 101]⟩ := rfl
theorem nameV_2 : nameV 2 = ⟨#[99, 121, 99, 108, 105, 99]⟩ := rfl
theorem nameV_no {c : Int} (h0 : c ≠ 0) (h1 : c ≠ 1) (h2 : c ≠ 2) : nameV c = ⟨#[]⟩ := by rw [nameV, if_neg h0, if_neg h1, if_neg h2]
end Go.Proofs.YtcmlnokfjbglaaaDoor
end

section
namespace Go.Proofs.YtcmlnokfjbglaaaDoor
open Go.ChangeShapes Go.WideShapes Go.ChangeAt Go.RowKit
set_option linter.unusedVariables false

/-- The row of ranks, above all that was there. -/
def RkAt (w : World) (n : Nat) (R : List Int) (v : Value) (wr : World) : Prop := wr.ownsRow w.heap.size 3 1 v n (intsV R) ∧ Below w.heap.size w wr
theorem RkAt.gb {w wr w' : World} {n : Nat} {R : List Int} {v : Value} (h : RkAt w n R v wr) (hg : wr.grownBy w' none) : RkAt w n R v w' := ⟨own_none h.1 hg, below_gb h.2 (Nat.le_refl _) hg⟩
theorem RkAt.set {w wr : World} {n g cap : Nat} {R : List Int} (h : RkAt w n R (.slice (some ⟨g, 0, none⟩) n cap) wr) (c : Nat) (x : Int) : RkAt w n (R.set c x) (.slice (some ⟨g, 0, none⟩) n cap) (wr.setCell ⟨g, c, none⟩ (.int .i64 x)) := by
  obtain ⟨h1, h2⟩ := h.1.stored c (.int .i64 x)
  rw [intsV_set] at h1
  exact ⟨h1, h.2.grown h2 h.2.size (fun j e => by cases e; exact (h.1.lt g rfl).1)⟩
def ranksO (D : List Dep) : List Int := (orderO D).getD []
def canO (D : List Dep) : Bool := (orderO D).isSome
theorem order_none {D : List Dep} (h : orderO D = none) : ranksO D = [] ∧ canO D = false := by simp [ranksO, canO, h]
theorem order_some {D : List Dep} {R : List Int} (h : orderO D = some R) : ranksO D = R ∧ canO D = true := by simp [ranksO, canO, h]
theorem ranksO_len (D : List Dep) : (ranksO D).length ≤ 128 := by
  cases h : orderO D with
  | none => rw [(order_none h).1]; simp
  | some R => rw [(order_some h).1, (order_is h).2.1]; exact Nat.le_refl _
end Go.Proofs.YtcmlnokfjbglaaaDoor
end

section
namespace Go.Proofs.YtcmlnokfjbglaaaDoor
open Go.ChangeShapes Go.WideShapes Go.ChangeAt Go.RowKit
set_option linter.unusedVariables false

/-- The least length of a cycle through one of the first channels, and the least of these channels. -/
def bestTo (D : List Dep) : Nat → Nat × Int
  | 0 => (0, -1)
  | c + 1 => if 0 < distD D c c ∧ ((bestTo D c).1 = 0 ∨ distD D c c < (bestTo D c).1) then (distD D c c, (c : Int)) else bestTo D c
theorem best_take {D : List Dep} {c : Nat} (h : 0 < distD D c c) (k : (bestTo D c).1 = 0 ∨ distD D c c < (bestTo D c).1) : bestTo D (c + 1) = (distD D c c, (c : Int)) := if_pos ⟨h, k⟩
theorem best_pass {D : List Dep} {c : Nat} (h : ¬ (0 < distD D c c ∧ ((bestTo D c).1 = 0 ∨ distD D c c < (bestTo D c).1))) : bestTo D (c + 1) = bestTo D c := if_neg h
def BestIs (D : List Dep) (c : Nat) : Prop :=
  ((bestTo D c).1 = 0 ∧ (bestTo D c).2 = -1 ∧ ∀ j, j < c → distD D j j = 0) ∨
  (∃ s, s < c ∧ (bestTo D c).2 = (s : Int) ∧ (bestTo D c).1 = distD D s s ∧ 1 ≤ distD D s s ∧ (∀ j, j < c → distD D j j = 0 ∨ distD D s s ≤ distD D j j) ∧ (∀ j, j < s → distD D j j = 0 ∨ distD D s s < distD D j j))
theorem best_is (D : List Dep) : ∀ c, BestIs D c
  | 0 => .inl ⟨rfl, rfl, fun j h => by omega⟩
  | c + 1 => by
    have ih := best_is D c
    by_cases h : 0 < distD D c c ∧ ((bestTo D c).1 = 0 ∨ distD D c c < (bestTo D c).1)
    · have e : bestTo D (c + 1) = (distD D c c, (c : Int)) := if_pos h
      unfold BestIs
      rw [e]
      refine .inr ⟨c, Nat.lt_succ_self _, rfl, rfl, h.1, fun j hj => ?_, fun j hj => ?_⟩
      · rcases Nat.lt_succ_iff_lt_or_eq.1 hj with hj | rfl
        · rcases ih with ⟨_, _, h3⟩ | ⟨s, _, _, h3, h4, h5, _⟩
          · exact .inl (h3 j hj)
          · have := h.2
            rcases h5 j hj with h6 | h6
            · exact .inl h6
            · right; omega
        · exact .inr (Nat.le_refl _)
      · rcases ih with ⟨_, _, h3⟩ | ⟨s, _, _, h3, h4, h5, _⟩
        · exact .inl (h3 j hj)
        · have := h.2
          rcases h5 j hj with h6 | h6
          · exact .inl h6
          · right; omega
    · have e : bestTo D (c + 1) = bestTo D c := if_neg h
      unfold BestIs
      rw [e]
      rcases ih with ⟨h1, h2, h3⟩ | ⟨s, h1, h2, h3, h4, h5, h6⟩
      · refine .inl ⟨h1, h2, fun j hj => ?_⟩
        rcases Nat.lt_succ_iff_lt_or_eq.1 hj with hj | rfl
        · exact h3 j hj
        · have : ¬ 0 < distD D j j := fun hp => h ⟨hp, .inl h1⟩
          omega
      · refine .inr ⟨s, by omega, h2, h3, h4, fun j hj => ?_, h6⟩
        rcases Nat.lt_succ_iff_lt_or_eq.1 hj with hj | rfl
        · exact h5 j hj
        · by_cases hp : 0 < distD D j j
          · have : ¬ distD D j j < (bestTo D j).1 := fun hl => h ⟨hp, .inr hl⟩
            right; omega
          · left; omega
/-- The next channel of the cycle: the least successor from which so many steps are left. -/
def candP (D : List Dep) (st left : Nat) (s : Int) : Bool := if left = 0 then decide (s = (st : Int)) else decide (s ≠ (st : Int)) && decide (distD D s.toNat st = left)
def nextP (D : List Dep) (st left u : Nat) : Nat := match (succD D (u : Int)).find? (candP D st left) with | some s => s.toNat | none => u
def atP (D : List Dep) (st b : Nat) : Nat → Nat
  | 0 => st
  | i + 1 => nextP D st (b - i - 1) (atP D st b i)
def cycP (D : List Dep) (st b : Nat) : List Int := (List.range b).map fun i => (atP D st b i : Int)
/-- The shortest cycle. -/
def cycG (D : List Dep) : List Int := if okD D = true then cycP D (bestTo D 128).2.toNat (bestTo D 128).1 else []
theorem cyc_bad {D : List Dep} (h : okD D = false) : cycG D = [] := by simp [cycG, h]
theorem cyc_ok {D : List Dep} (h : okD D = true) : cycG D = cycP D (bestTo D 128).2.toNat (bestTo D 128).1 := by simp [cycG, h]
theorem cyc_len (D : List Dep) (st b : Nat) : (cycP D st b).length = b := by simp [cycP]
theorem cyc_at {D : List Dep} {st b i : Nat} (h : i < b) : (cycP D st b).getD i 0 = (atP D st b i : Int) := by
  rw [List.getD_eq_getElem?_getD, cycP, List.getElem?_map, List.getElem?_range h]; rfl
/-- There is a next one. -/
theorem next_is {D : List Dep} (hD : okD D = true) {st left u : Nat} (h : distD D u st = left + 1) :
    edgeB D u (nextP D st left u) = true ∧ (left = 0 → nextP D st left u = st) ∧ (0 < left → nextP D st left u ≠ st ∧ distD D (nextP D st left u) st = left) := by
  have hw := dist_pos hD (a := u) (b := st) (by omega)
  rw [h] at hw
  have hex : ∃ s ∈ succD D (u : Int), candP D st left s = true := by
    obtain ⟨s, h1, h2⟩ := way_head hD hw
    refine ⟨(s : Int), edge_succ.1 h1, ?_⟩
    unfold candP
    split
    · rename_i h0
      subst h0
      rw [wayB_zero.1 h2]
      simp
    · rename_i h0
      have hst : s ≠ st := fun e => by
        subst e
        have := (dist_way hD (Nat.le_refl 1) ((way_one hD).2 h1)).2
        omega
      have h3 := dist_way hD (show 1 ≤ left by omega) h2
      have h4 : left ≤ distD D s st := by
        have h5 := dist_way hD (show 1 ≤ distD D s st + 1 by omega) (way_cons hD h1 (dist_pos hD h3.1))
        omega
      have h5 : (s : Int) ≠ (st : Int) := fun e => hst (by omega)
      simp only [Int.toNat_natCast]
      simp [h5]
      omega
  unfold nextP
  cases hf : (succD D (u : Int)).find? (candP D st left) with
  | none =>
    obtain ⟨s, hs, hc⟩ := hex
    have := List.find?_eq_none.1 hf s hs
    rw [hc] at this
    simp at this
  | some s =>
    have hs := List.mem_of_find?_eq_some hf
    have hc := List.find?_some hf
    have hr := succ_in hD hs
    have he : edgeB D u s.toNat = true := edge_succ.2 (by rw [Int.toNat_of_nonneg hr.1]; exact hs)
    refine ⟨he, fun h0 => ?_, fun h0 => ?_⟩
    · unfold candP at hc
      rw [if_pos h0] at hc
      have := of_decide_eq_true hc
      show s.toNat = st
      omega
    · unfold candP at hc
      rw [if_neg (by omega)] at hc
      simp only [Bool.and_eq_true, decide_eq_true_eq] at hc
      refine ⟨?_, hc.2⟩
      show s.toNat ≠ st
      have := hc.1
      omega
theorem path_dist {D : List Dep} (hD : okD D = true) {st b : Nat} (hb : distD D st st = b) : ∀ {i : Nat}, i < b → distD D (atP D st b i) st = b - i
  | 0, h => hb
  | i + 1, h => by
    have ih := path_dist hD hb (i := i) (by omega)
    have := (next_is hD (st := st) (left := b - i - 1) (u := atP D st b i) (by omega)).2.2 (by omega)
    rw [atP, this.2]
    omega
theorem path_edge {D : List Dep} (hD : okD D = true) {st b : Nat} (hb : distD D st st = b) {i : Nat} (h : i < b) : edgeB D (atP D st b i) (atP D st b (i + 1)) = true :=
  (next_is hD (st := st) (left := b - i - 1) (u := atP D st b i) (by have := path_dist hD hb h; omega)).1
theorem path_back {D : List Dep} (hD : okD D = true) {st b : Nat} (hb : distD D st st = b) (h : 1 ≤ b) : atP D st b b = st := by
  obtain ⟨i, rfl⟩ : ∃ i, b = i + 1 := ⟨b - 1, by omega⟩
  exact (next_is hD (st := st) (left := (i + 1) - i - 1) (u := atP D st (i + 1) i) (by have := path_dist hD hb (i := i) (by omega); omega)).2.1 (by omega)
theorem path_way {D : List Dep} (hD : okD D = true) {st b : Nat} (hb : distD D st st = b) : ∀ {i : Nat}, i ≤ b → wayB D st i (atP D st b i) = true
  | 0, _ => wayB_zero.2 rfl
  | i + 1, h => (wayB_next hD).2 ⟨_, path_way hD hb (i := i) (by omega), path_edge hD hb (by omega)⟩
theorem path_inj {D : List Dep} (hD : okD D = true) {st b : Nat} (hb : distD D st st = b) {i j : Nat} (hi : i < b) (hj : j < b) (h : atP D st b i = atP D st b j) : i = j := by
  have h1 := path_dist hD hb hi
  have h2 := path_dist hD hb hj
  rw [h] at h1
  omega
theorem path_lt {D : List Dep} (hD : okD D = true) {st b : Nat} (hb : distD D st st = b) {i : Nat} (h : i < b) : atP D st b i < 128 := (edge_lt hD (path_edge hD hb h)).1
/-- Each channel of the cycle is on no shorter one. -/
theorem path_self {D : List Dep} (hD : okD D = true) {st b : Nat} (hb : distD D st st = b) (hmin : ∀ j, j < 128 → distD D j j = 0 ∨ b ≤ distD D j j) {i : Nat} (h : i < b) : distD D (atP D st b i) (atP D st b i) = b := by
  have h1 := path_dist hD hb h
  have h2 := way_add hD (dist_pos hD (a := atP D st b i) (b := st) (by omega)) (path_way hD hb (Nat.le_of_lt h))
  have h3 := dist_way hD (by omega) h2
  rcases hmin _ (path_lt hD hb h) with h4 | h4
  · omega
  · omega

/-- The list has this element. -/
def hasD (D : List Dep) (x y : Int) : Bool := (List.range D.length).any fun i => decide ((atD D i).1 = x) && decide ((atD D i).2 = y)
theorem has_yes {D : List Dep} {x y : Int} {i : Nat} (hi : i < D.length) (h1 : (atD D i).1 = x) (h2 : (atD D i).2 = y) : hasD D x y = true := List.any_eq_true.2 ⟨i, List.mem_range.2 hi, by simp [h1, h2]⟩
theorem has_no {D : List Dep} {x y : Int} (h : ∀ i, i < D.length → ¬ ((atD D i).1 = x ∧ (atD D i).2 = y)) : hasD D x y = false := by
  unfold hasD
  rw [List.any_eq_false]
  intro i hi
  have := h i (List.mem_range.1 hi)
  simpa using this
theorem has_edge {D : List Dep} {a b : Nat} (h : edgeB D a b = true) : hasD D (a : Int) (b : Int) = true := by
  obtain ⟨k, hk, e⟩ := atD_ex (edge_iff.1 h)
  exact has_yes hk (by rw [e]) (by rw [e])
def cycAt (D : List Dep) (C : List Int) (i : Nat) : Bool := !inG (C.take i) (C.getD i 0) && hasD D (C.getD i 0) (C.getD ((i + 1) % C.length) 0)
/-- A cycle: no channel twice, and elements from each to the next one, and from the last to the first. -/
def isCycG (D : List Dep) (C : List Int) : Bool := okD D && (List.range C.length).all (cycAt D C) && decide (0 < C.length)
theorem isCyc_bad {D : List Dep} {C : List Int} (h : okD D = false) : isCycG D C = false := by simp [isCycG, h]
theorem isCyc_nil (D : List Dep) : isCycG D [] = false := by simp [isCycG]
theorem isCyc_no {D : List Dep} {C : List Int} {i : Nat} (hi : i < C.length) (h : cycAt D C i = false) : isCycG D C = false := by
  cases ho : isCycG D C with
  | false => rfl
  | true =>
    simp only [isCycG, Bool.and_eq_true, List.all_eq_true, List.mem_range] at ho
    rw [ho.1.2 i hi] at h
    cases h
theorem isCyc_yes {D : List Dep} {C : List Int} (hD : okD D = true) (h : ∀ i, i < C.length → cycAt D C i = true) : isCycG D C = decide (0 < C.length) := by
  have : (List.range C.length).all (cycAt D C) = true := by
    rw [List.all_eq_true]
    exact fun i hi => h i (List.mem_range.1 hi)
  simp [isCycG, hD, this]
theorem inG_none {L : List Int} {x : Int} (h : x ∉ L) : inG L x = false := by
  cases hi : inG L x with
  | false => rfl
  | true => exact absurd (List.contains_iff_mem.1 hi) h
theorem cycP_is {D : List Dep} (hD : okD D = true) {st b : Nat} (hb : distD D st st = b) (h1 : 1 ≤ b) : isCycG D (cycP D st b) = true := by
  rw [isCyc_yes hD (fun i hi => ?_), cyc_len]
  · exact decide_eq_true (by omega)
  · rw [cyc_len] at hi
    unfold cycAt
    rw [cyc_len, cyc_at hi]
    have hnin : inG ((cycP D st b).take i) (atP D st b i : Int) = false := inG_none fun hm => by
      obtain ⟨j, hj, e⟩ := List.getElem_of_mem hm
      rw [List.length_take, cyc_len] at hj
      rw [List.getElem_take] at e
      have hjb : j < b := by omega
      have e2 : (cycP D st b).getD j 0 = (atP D st b i : Int) := by
        rw [List.getD_eq_getElem?_getD, List.getElem?_eq_getElem (by rw [cyc_len]; exact hjb), e]; rfl
      rw [cyc_at hjb] at e2
      have := path_inj hD hb hjb hi (by omega)
      omega
    rw [hnin]
    have he := path_edge hD hb hi
    by_cases hlast : i + 1 = b
    · rw [hlast, Nat.mod_self, cyc_at (by omega)]
      rw [hlast, path_back hD hb h1] at he
      exact has_edge he
    · rw [Nat.mod_eq_of_lt (by omega), cyc_at (by omega)]
      exact has_edge he
/-- The shortest cycle: either there is none, or it is one, begins with its least channel, and each of its channels is on no shorter one. -/
theorem cyc_facts {D : List Dep} (hD : okD D = true) :
    (cycG D = [] ∧ ∀ c, c < 128 → distD D c c = 0) ∨
    (∃ st b, cycG D = cycP D st b ∧ st < 128 ∧ distD D st st = b ∧ 1 ≤ b ∧ (∀ j, j < 128 → distD D j j = 0 ∨ b ≤ distD D j j) ∧ (∀ i, i < b → st ≤ atP D st b i) ∧ isCycG D (cycG D) = true) := by
  rw [cyc_ok hD]
  rcases best_is D 128 with ⟨h1, h2, h3⟩ | ⟨s, h1, h2, h3, h4, h5, h6⟩
  · left
    rw [h1]
    exact ⟨rfl, h3⟩
  · right
    rw [h2, h3, Int.toNat_natCast]
    refine ⟨s, _, rfl, h1, rfl, h4, h5, fun i hi => ?_, cycP_is hD rfl h4⟩
    by_cases hlt : atP D s (distD D s s) i < s
    · have e := path_self hD rfl h5 hi
      rcases h6 _ hlt with h7 | h7
      · omega
      · omega
    · omega
/-- Whether there is a cycle. -/
def hasCyc (D : List Dep) : Bool := decide (0 < (cycG D).length)
theorem cycG_le (D : List Dep) : (cycG D).length ≤ 128 := by
  cases hD : okD D with
  | false => rw [cyc_bad hD]; simp
  | true =>
    rcases cyc_facts hD with ⟨h, _⟩ | ⟨st, b, h, _, hb, _⟩
    · rw [h]; simp
    · rw [h, cyc_len, ← hb]; exact dist_le hD st st
end Go.Proofs.YtcmlnokfjbglaaaDoor
end

section
namespace Go.Proofs.YtcmlnokfjbglaaaDoor
open Go.ChangeShapes Go.WideShapes Go.ChangeAt Go.RowKit
set_option linter.unusedVariables false

/-- A verdict: its code, its ranks, its cycle. -/
structure Verd where
  code : Int
  ranks : List Int
  cycle : List Int
def verdG (W H : Int) (L P : List Int) : Verd :=
  if tableG W H L P = true then (if canO (depG W H L P) = true then ⟨1, ranksO (depG W H L P), []⟩ else ⟨2, [], cycG (depG W H L P)⟩) else ⟨0, [], []⟩
section
variable {W H : Int} {L P : List Int}
theorem verd_bad (h : tableG W H L P = false) : verdG W H L P = ⟨0, [], []⟩ := if_neg (by simp [h])
theorem verd_safe (h : tableG W H L P = true) (k : canO (depG W H L P) = true) : verdG W H L P = ⟨1, ranksO (depG W H L P), []⟩ := by rw [verdG, if_pos h, if_pos k]
theorem verd_cyc (h : tableG W H L P = true) (k : canO (depG W H L P) = false) : verdG W H L P = ⟨2, [], cycG (depG W H L P)⟩ := by rw [verdG, if_pos h, if_neg (by simp [k])]
theorem verd_len : (verdG W H L P).ranks.length ≤ 128 ∧ (verdG W H L P).cycle.length ≤ 128 := by
  have h1 := ranksO_len (depG W H L P)
  have h2 := cycG_le (depG W H L P)
  unfold verdG
  split
  · split <;> exact ⟨by simp; try omega, by simp; try omega⟩
  · exact ⟨by simp, by simp⟩
theorem verd_code : (verdG W H L P).code = 0 ∨ (verdG W H L P).code = 1 ∨ (verdG W H L P).code = 2 := by
  unfold verdG
  split
  · split
    · exact .inr (.inl rfl)
    · exact .inr (.inr rfl)
  · exact .inl rfl
/-- Whether a verdict proves itself. -/
def provesG (W H : Int) (L P : List Int) (v : Verd) : Bool :=
  if v.code = 0 then !tableG W H L P && decide (v.ranks.length = 0) && decide (v.cycle.length = 0)
  else if v.code = 1 then tableG W H L P && isOrdO (depG W H L P) v.ranks && decide (v.cycle.length = 0)
  else if v.code = 2 then tableG W H L P && isCycG (depG W H L P) v.cycle && decide (v.ranks.length = 0)
  else false
theorem proves_bad {v : Verd} (h : v.code = 0) : provesG W H L P v = (!tableG W H L P && decide (v.ranks.length = 0) && decide (v.cycle.length = 0)) := if_pos h
theorem proves_safe {v : Verd} (h : v.code = 1) : provesG W H L P v = (tableG W H L P && isOrdO (depG W H L P) v.ranks && decide (v.cycle.length = 0)) := by rw [provesG, if_neg (by omega), if_pos h]
theorem proves_cyc {v : Verd} (h : v.code = 2) : provesG W H L P v = (tableG W H L P && isCycG (depG W H L P) v.cycle && decide (v.ranks.length = 0)) := by rw [provesG, if_neg (by omega), if_neg (by omega), if_pos h]
theorem proves_no {v : Verd} (h0 : v.code ≠ 0) (h1 : v.code ≠ 1) (h2 : v.code ≠ 2) : provesG W H L P v = false := by rw [provesG, if_neg h0, if_neg h1, if_neg h2]
/-- The found order is one; without one there is a cycle. -/
theorem dep_order (k : canO (depG W H L P) = true) : isOrdO (depG W H L P) (ranksO (depG W H L P)) = true := by
  cases ho : orderO (depG W H L P) with
  | none => rw [(order_none ho).2] at k; cases k
  | some R =>
    rw [(order_some ho).1]
    exact (order_is ho).2.2
theorem dep_cycle (k : canO (depG W H L P) = false) : isCycG (depG W H L P) (cycG (depG W H L P)) = true := by
  cases ho : orderO (depG W H L P) with
  | some R => rw [(order_some ho).2] at k; cases k
  | none =>
    obtain ⟨c, hc, h1⟩ := cycle_of depG_ok ho
    rcases cyc_facts (D := depG W H L P) depG_ok with ⟨_, h2⟩ | ⟨_, _, _, _, _, _, _, _, h2⟩
    · have := h2 c hc; omega
    · exact h2
theorem verd_proves : provesG W H L P (verdG W H L P) = true := by
  cases ht : tableG W H L P with
  | false => rw [verd_bad ht, proves_bad rfl, ht]; rfl
  | true =>
    cases hk : canO (depG W H L P) with
    | true => rw [verd_safe ht hk, proves_safe rfl, ht, dep_order hk]; rfl
    | false => rw [verd_cyc ht hk, proves_cyc rfl, ht, dep_cycle hk]; rfl
theorem verd_zero : (decide ((verdG W H L P).code = 0)) = !tableG W H L P := by
  cases ht : tableG W H L P with
  | false => rw [verd_bad ht]; rfl
  | true =>
    cases hk : canO (depG W H L P) with
    | true => rw [verd_safe ht hk]; rfl
    | false => rw [verd_cyc ht hk]; rfl
end
/-- Whether the table of a rule is safe. -/
def safeB (W H r : Int) : Bool := decide ((verdG W H [] (stdTab W H r)).code = 1)
theorem safe_yes {W H r : Int} (h : okG W H = true) (h1 : 1 ≤ r) (h3 : r ≤ 3) : safeB W H r = true := by
  obtain ⟨R, hR⟩ := safe_std h h1 h3
  unfold safeB
  rw [verd_safe (std_facts h h1 (by omega)).1 (order_some (show orderO (depG W H [] (stdTab W H r)) = some R from hR)).2]
  rfl
/-- The first safe rules. -/
def safeTo (W H : Int) (n : Nat) : List Int := ((List.range n).map fun i : Nat => (i : Int) + 1).filter (safeB W H)
def safeG (W H : Int) : List Int := if okG W H = true then safeTo W H 4 else []
theorem safeTo_zero (W H : Int) : safeTo W H 0 = [] := rfl
theorem safeTo_next (W H : Int) (n : Nat) : safeTo W H (n + 1) = if safeB W H ((n : Int) + 1) = true then safeTo W H n ++ [(n : Int) + 1] else safeTo W H n := by
  unfold safeTo
  rw [List.range_succ, List.map_append, List.filter_append]
  by_cases h : safeB W H ((n : Int) + 1) = true
  · rw [if_pos h]; simp [h]
  · rw [if_neg h]; simp [h]
theorem safeTo_len (W H : Int) : ∀ n, (safeTo W H n).length ≤ n
  | 0 => Nat.le_refl _
  | n + 1 => by
    have := safeTo_len W H n
    rw [safeTo_next]
    split <;> simp <;> omega
theorem safeG_len (W H : Int) : (safeG W H).length ≤ 4 := by
  unfold safeG
  split
  · exact safeTo_len W H 4
  · simp
theorem safe_mem {W H r : Int} (h : okG W H = true) (h1 : 1 ≤ r) (h4 : r ≤ 4) : r ∈ safeG W H ↔ safeB W H r = true := by
  unfold safeG safeTo
  rw [if_pos h, List.mem_filter, List.mem_map]
  constructor
  · exact fun k => k.2
  · exact fun k => ⟨⟨(r - 1).toNat, List.mem_range.2 (by omega), by omega⟩, k⟩
end Go.Proofs.YtcmlnokfjbglaaaDoor
end

section
namespace Go.Proofs.YtcmlnokfjbglaaaDoor
open Go.ChangeShapes Go.WideShapes Go.ChangeAt Go.RowKit
set_option linter.unusedVariables false

/-- The numbers of L have 64 bits. -/
def WfL (L : List Int) : Prop := ∀ x ∈ L, (Lit.int .i64 x).wf = true
theorem WfL.get {L : List Int} (h : WfL L) {k : Nat} {x : Int} (hk : k < L.length) (hx : L.getD k 0 = x) : (Lit.int .i64 x).wf = true := by
  rw [List.getD_eq_getElem?_getD, List.getElem?_eq_getElem hk] at hx
  simp only [Option.getD_some] at hx
  exact h x (hx ▸ List.getElem_mem hk)
theorem leads_wf {W H c : Int} (h : leadsG W H c = true) : (Lit.int .i64 c).wf = true := by
  have h1 : 0 ≤ c ∧ c < 4 * countG W H ∧ 0 ≤ nextG W H (c / 4) (c % 4) := by simpa [leadsG] using h
  have h2 := countG_le W H
  exact WalkArith.wf_i64 (by omega)
theorem mesh_wf {W H : Int} {L : List Int} (h : meshG W H L = true) : WfL L := fun x hx => by
  obtain ⟨j, hj, rfl⟩ := List.getElem_of_mem hx
  have h1 := (meshG_ok h).2 j hj
  simp only [goodAt, Bool.and_eq_true] at h1
  refine leads_wf (W := W) (H := H) ?_
  have := h1.1
  rw [List.getD_eq_getElem?_getD, List.getElem?_eq_getElem hj] at this
  exact this
end Go.Proofs.YtcmlnokfjbglaaaDoor
end

section
namespace Go.Proofs.YtcmlnokfjbglaaaDoor
open Go.ChangeShapes Go.WideShapes Go.ChangeAt Go.RowKit
set_option linter.unusedVariables false

theorem wfl_nilD : WfL [] := fun x h => by cases h
section
variable {W H : Int} {L P : List Int}
theorem pair_step {i j : Nat} (h : j + 1 < (pairW W H L P i).length) : (pairW W H L P i).getD (j + 1) 0 / 4 = nextG W H ((pairW W H L P i).getD j 0 / 4) ((pairW W H L P i).getD j 0 % 4) := by
  unfold pairW walkOf at h ⊢
  cases hw : walkF W H L P ((i : Int) % countG W H) ((countG W H).toNat + 1) ((i : Int) / countG W H) with
  | none => simp [hw] at h
  | some l =>
    simp only [hw, Option.getD_some] at h ⊢
    have hl := (walk_links _ _ _ hw).1 (j + 1) h
    have hh := link_has hl
    have he := link_next (W := W) (H := H) (L := L) (r := l) (i := j) rfl rfl hh
    rw [hl] at he
    exact of_decide_eq_true he.symm
theorem depG_step {d : Dep} (h : d ∈ depG W H L P) : d.2 / 4 = nextG W H (d.1 / 4) (d.1 % 4) := by
  unfold depG at h
  split at h
  · obtain ⟨i, j, _, h2, rfl⟩ := mem_allD h
    exact pair_step h2
  · cases h
theorem succ_has {D : List Dep} {d : Dep} (h : d ∈ D) : inG (succD D d.1) d.2 = true := by
  obtain ⟨k, hk, e⟩ := List.getElem_of_mem (mem_succ h)
  exact inG_yes hk (by rw [List.getD_eq_getElem?_getD, List.getElem?_eq_getElem hk]; exact e)
end
theorem insAll_comm {D E : List Dep} (hD : ascD D) (hE : ascD E) : insAll D E = insAll E D :=
  asc_ext _ _ (insAll_asc hD E) (insAll_asc hE D) (fun x => by rw [mem_insAll, mem_insAll]; exact or_comm)
theorem insAll_ok {D E : List Dep} (hD : okD D = true) (hE : okD E = true) : okD (insAll D E) = true :=
  okD_of (insAll_asc (okD_asc hD) E) (fun d hd => by rcases mem_insAll.1 hd with h | h; exact okD_in hD h; exact okD_in hE h)
theorem move_ok {D : List Dep} {z : Int} (hD : ascD D) (h : ∀ d ∈ D, 0 ≤ d.1 + z ∧ d.1 + z ≤ 127 ∧ 0 ≤ d.2 + z ∧ d.2 + z ≤ 127) : okD (moveD D z) = true := by
  refine okD_of ?_ ?_
  · refine List.pairwise_map.2 (hD.imp fun {a b} hab => ?_)
    rw [ltD_iff] at hab ⊢
    simp only
    omega
  · intro d hd
    obtain ⟨x, hx, rfl⟩ := List.mem_map.1 hd
    exact inD_iff.2 (h x hx)
theorem move_back (D : List Dep) (z : Int) : moveD (moveD D z) (-z) = D := by
  unfold moveD
  rw [List.map_map]
  refine (List.map_congr_left (fun d _ => ?_)).trans (List.map_id D)
  exact Prod.ext (by simp; omega) (by simp; omega)
/-- Small lists: their shift by 64, and back. -/
theorem shift64 {D : List Dep} (hD : ascD D) (h : ∀ d ∈ D, 0 ≤ d.1 ∧ d.1 ≤ 5 ∧ 0 ≤ d.2 ∧ d.2 ≤ 5) : okD D = true ∧ shiftD D 64 = moveD D 64 ∧ shiftD (moveD D 64) (-64) = D := by
  have h1 : okD D = true := okD_of hD fun d hd => by have := h d hd; exact inD_iff.2 (by omega)
  have h2 : okD (moveD D 64) = true := move_ok hD fun d hd => by have := h d hd; omega
  have h3 : moveD (moveD D 64) (-64) = D := move_back D 64
  exact ⟨h1, shift_yes h1 (by decide) h2, by rw [shift_yes h2 (by decide) (by rw [h3]; exact h1), h3]⟩
end Go.Proofs.YtcmlnokfjbglaaaDoor
end

section
namespace Go.Proofs.YtcmlnokfjbglaaaDoor
open Go.ChangeShapes Go.WideShapes Go.ChangeAt Go.RowKit
set_option linter.unusedVariables false

/-- All ends lie below 64. -/
def lowE (D : List Dep) : Prop := ∀ d ∈ D, 0 ≤ d.1 ∧ d.1 < 64 ∧ 0 ≤ d.2 ∧ d.2 < 64
def joinD (A B : List Dep) : List Dep := A ++ moveD B 64
theorem mem_move {B : List Dep} {z : Int} {d : Dep} : d ∈ moveD B z ↔ (d.1 - z, d.2 - z) ∈ B := by
  unfold moveD
  rw [List.mem_map]
  constructor
  · rintro ⟨e, he, rfl⟩
    have : ((e.1 + z - z, e.2 + z - z) : Dep) = e := Prod.ext (by simp) (by simp)
    simp only [this]
    exact he
  · intro h
    exact ⟨_, h, Prod.ext (by simp) (by simp)⟩
theorem move_asc {B : List Dep} {z : Int} (h : ascD B) : ascD (moveD B z) := by
  unfold moveD ascD
  rw [List.pairwise_map]
  refine h.imp fun {a b} hab => ?_
  rw [ltD_iff] at hab ⊢
  simp only
  omega
section
variable {A B : List Dep}
theorem join_asc (hA : ascD A) (hB : ascD B) (la : lowE A) (lb : lowE B) : ascD (joinD A B) := by
  refine List.pairwise_append.2 ⟨hA, move_asc hB, fun x hx y hy => ?_⟩
  have h1 := la x hx
  have h2 := lb _ (mem_move.1 hy)
  simp only at h2
  rw [ltD_iff]
  omega
theorem join_ok (hA : okD A = true) (hB : okD B = true) (la : lowE A) (lb : lowE B) : okD (joinD A B) = true :=
  okD_of (join_asc (okD_asc hA) (okD_asc hB) la lb) fun d hd => by
    rcases List.mem_append.1 hd with h | h
    · exact okD_in hA h
    · have h2 := lb _ (mem_move.1 h)
      simp only at h2
      rw [inD_iff]
      omega
theorem move_okL (hB : okD B = true) (lb : lowE B) : okD (moveD B 64) = true :=
  okD_of (move_asc (okD_asc hB)) fun d hd => by
    have h2 := lb _ (mem_move.1 hd)
    simp only at h2
    rw [inD_iff]
    omega
theorem shift_low (hB : okD B = true) (lb : lowE B) : shiftD B 64 = moveD B 64 := shift_yes hB (by decide) (move_okL hB lb)
theorem merge_low (hA : okD A = true) (hB : okD B = true) (la : lowE A) (lb : lowE B) : mergeD A (moveD B 64) = joinD A B := by
  rw [merge_yes hA (move_okL hB lb)]
  refine asc_ext _ _ (insAll_asc (okD_asc hA) _) (join_asc (okD_asc hA) (okD_asc hB) la lb) fun x => ?_
  rw [mem_insAll, joinD, List.mem_append]
theorem join_length : (joinD A B).length = A.length + B.length := by rw [joinD, List.length_append, move_length]
/-- An order exists exactly if there is no cycle. -/
theorem canO_iff {D : List Dep} (hD : okD D = true) : canO D = true ↔ ∀ c n : Nat, 1 ≤ n → wayB D c n c = false := by
  constructor
  · intro h c n hn
    cases ho : orderO D with
    | none => rw [(order_none ho).2] at h; cases h
    | some R =>
      have h0 := ord_acyclic ho c
      cases hw : wayB D c n c with
      | false => rfl
      | true => have := dist_way hD hn hw; omega
  · intro h
    cases ho : orderO D with
    | some R => exact (order_some ho).2
    | none =>
      obtain ⟨c, _, hc⟩ := cycle_of hD ho
      have := dist_pos hD hc
      rw [h c _ hc] at this
      cases this
theorem join_edge (la : lowE A) (lb : lowE B) {a b : Nat} : edgeB (joinD A B) a b = true ↔ (edgeB A a b = true ∧ a < 64 ∧ b < 64) ∨ (64 ≤ a ∧ 64 ≤ b ∧ edgeB B (a - 64) (b - 64) = true) := by
  rw [edge_iff, joinD, List.mem_append, mem_move, edge_iff, edge_iff]
  constructor
  · rintro (h | h)
    · have := la _ h
      simp only at this
      exact .inl ⟨h, by omega, by omega⟩
    · have := lb _ h
      simp only at this
      refine .inr ⟨by omega, by omega, ?_⟩
      rw [show ((a - 64 : Nat) : Int) = (a : Int) - 64 by omega, show ((b - 64 : Nat) : Int) = (b : Int) - 64 by omega]
      exact h
  · rintro (h | ⟨h1, h2, h⟩)
    · exact .inl h.1
    · refine .inr ?_
      rw [show ((a - 64 : Nat) : Int) = (a : Int) - 64 by omega, show ((b - 64 : Nat) : Int) = (b : Int) - 64 by omega] at h
      exact h
theorem join_way_low (hA : okD A = true) (hB : okD B = true) (la : lowE A) (lb : lowE B) {a : Nat} (ha : a < 64) : ∀ {n b : Nat}, wayB (joinD A B) a n b = true → wayB A a n b = true ∧ b < 64
  | 0, b, h => by have e := wayB_zero.1 h; exact ⟨wayB_zero.2 e, by omega⟩
  | n + 1, b, h => by
    obtain ⟨u, h1, h2⟩ := (wayB_next (join_ok hA hB la lb)).1 h
    obtain ⟨h3, h4⟩ := join_way_low hA hB la lb ha h1
    rcases (join_edge la lb).1 h2 with h5 | h5
    · exact ⟨(wayB_next hA).2 ⟨u, h3, h5.1⟩, h5.2.2⟩
    · omega
theorem join_way_high (hA : okD A = true) (hB : okD B = true) (la : lowE A) (lb : lowE B) {a : Nat} (ha : 64 ≤ a) : ∀ {n b : Nat}, wayB (joinD A B) a n b = true → wayB B (a - 64) n (b - 64) = true ∧ 64 ≤ b
  | 0, b, h => by have e := wayB_zero.1 h; exact ⟨wayB_zero.2 (by omega), by omega⟩
  | n + 1, b, h => by
    obtain ⟨u, h1, h2⟩ := (wayB_next (join_ok hA hB la lb)).1 h
    obtain ⟨h3, h4⟩ := join_way_high hA hB la lb ha h1
    rcases (join_edge la lb).1 h2 with h5 | h5
    · omega
    · exact ⟨(wayB_next hB).2 ⟨u - 64, h3, h5.2.2⟩, h5.2.1⟩
theorem way_join_low (hA : okD A = true) (hB : okD B = true) (la : lowE A) (lb : lowE B) {a : Nat} : ∀ {n b : Nat}, wayB A a n b = true → wayB (joinD A B) a n b = true
  | 0, b, h => wayB_zero.2 (wayB_zero.1 h)
  | n + 1, b, h => by
    obtain ⟨u, h1, h2⟩ := (wayB_next hA).1 h
    have h3 := la _ (edge_iff.1 h2)
    simp only at h3
    exact (wayB_next (join_ok hA hB la lb)).2 ⟨u, way_join_low hA hB la lb h1, (join_edge la lb).2 (.inl ⟨h2, by omega, by omega⟩)⟩
theorem way_join_high (hA : okD A = true) (hB : okD B = true) (la : lowE A) (lb : lowE B) {a : Nat} : ∀ {n b : Nat}, wayB B a n b = true → wayB (joinD A B) (a + 64) n (b + 64) = true
  | 0, b, h => wayB_zero.2 (by have := wayB_zero.1 h; omega)
  | n + 1, b, h => by
    obtain ⟨u, h1, h2⟩ := (wayB_next hB).1 h
    exact (wayB_next (join_ok hA hB la lb)).2 ⟨u + 64, way_join_high hA hB la lb h1, (join_edge la lb).2 (.inr ⟨by omega, by omega, by rw [Nat.add_sub_cancel, Nat.add_sub_cancel]; exact h2⟩)⟩
/-- Both are safe exactly if the merged dependencies have an order. -/
theorem join_can (hA : okD A = true) (hB : okD B = true) (la : lowE A) (lb : lowE B) : canO (joinD A B) = (canO A && canO B) := by
  rw [Bool.eq_iff_iff, Bool.and_eq_true, canO_iff (join_ok hA hB la lb), canO_iff hA, canO_iff hB]
  constructor
  · intro h
    refine ⟨fun c n hn => ?_, fun c n hn => ?_⟩
    · cases hw : wayB A c n c with
      | false => rfl
      | true => have := way_join_low hA hB la lb hw; rw [h c n hn] at this; cases this
    · cases hw : wayB B c n c with
      | false => rfl
      | true => have := way_join_high hA hB la lb hw; rw [h _ n hn] at this; cases this
  · rintro ⟨h1, h2⟩ c n hn
    cases hw : wayB (joinD A B) c n c with
    | false => rfl
    | true =>
      by_cases hc : c < 64
      · have := (join_way_low hA hB la lb hc hw).1; rw [h1 c n hn] at this; cases this
      · have := (join_way_high hA hB la lb (by omega) hw).1; rw [h2 _ n hn] at this; cases this
end
theorem depG_low {W H : Int} {L P : List Int} : lowE (depG W H L P) := fun d hd => depG_in hd
/-- Both tables are valid. -/
def clsOk (W H : Int) (L P Q : List Int) : Bool := tableG W H L P && tableG W H L Q
theorem clsOk_no1 {W H : Int} {L P Q : List Int} (h : tableG W H L P = false) : clsOk W H L P Q = false := by simp [clsOk, h]
theorem clsOk_no2 {W H : Int} {L P Q : List Int} (h : tableG W H L Q = false) : clsOk W H L P Q = false := by simp [clsOk, h]
theorem clsOk_yes {W H : Int} {L P Q : List Int} (h : tableG W H L P = true) (k : tableG W H L Q = true) : clsOk W H L P Q = true := by simp [clsOk, h, k]
theorem clsOk_both {W H : Int} {L P Q : List Int} (h : clsOk W H L P Q = true) : tableG W H L P = true ∧ tableG W H L Q = true := by simpa [clsOk] using h
/-- The dependencies of the virtual channels. -/
def clsD (W H : Int) (L P Q : List Int) : List Dep := if clsOk W H L P Q = true then mergeD (depG W H L P) (shiftD (depG W H L Q) 64) else []
section
variable {W H : Int} {L P Q : List Int}
theorem clsD_no (h : clsOk W H L P Q = false) : clsD W H L P Q = [] := if_neg (by simp [h])
theorem clsD_yes (h : clsOk W H L P Q = true) : clsD W H L P Q = mergeD (depG W H L P) (shiftD (depG W H L Q) 64) := if_pos h
theorem clsD_join (h : clsOk W H L P Q = true) : clsD W H L P Q = joinD (depG W H L P) (depG W H L Q) := by
  rw [clsD_yes h, shift_low depG_ok depG_low, merge_low depG_ok depG_ok depG_low depG_low]
theorem clsD_ok : okD (clsD W H L P Q) = true := by
  cases h : clsOk W H L P Q with
  | false => rw [clsD_no h]; rfl
  | true => rw [clsD_join h]; exact join_ok depG_ok depG_ok depG_low depG_low
theorem clsD_len : (clsD W H L P Q).length ≤ 8192 := by
  cases h : clsOk W H L P Q with
  | false => rw [clsD_no h]; simp
  | true =>
    rw [clsD_join h, join_length]
    have h1 := depG_len (W := W) (H := H) (L := L) (P := P)
    have h2 := depG_len (W := W) (H := H) (L := L) (P := Q)
    omega
theorem clsD_can (h : clsOk W H L P Q = true) : canO (clsD W H L P Q) = (canO (depG W H L P) && canO (depG W H L Q)) := by
  rw [clsD_join h, join_can depG_ok depG_ok depG_low depG_low]
/-- The verdict on two classes. -/
def verdC (W H : Int) (L P Q : List Int) : Verd :=
  if clsOk W H L P Q = true then (if canO (clsD W H L P Q) = true then ⟨1, ranksO (clsD W H L P Q), []⟩ else ⟨2, [], cycG (clsD W H L P Q)⟩) else ⟨0, [], []⟩
theorem verdC_bad (h : clsOk W H L P Q = false) : verdC W H L P Q = ⟨0, [], []⟩ := if_neg (by simp [h])
theorem verdC_safe (h : clsOk W H L P Q = true) (k : canO (clsD W H L P Q) = true) : verdC W H L P Q = ⟨1, ranksO (clsD W H L P Q), []⟩ := by rw [verdC, if_pos h, if_pos k]
theorem verdC_cyc (h : clsOk W H L P Q = true) (k : canO (clsD W H L P Q) = false) : verdC W H L P Q = ⟨2, [], cycG (clsD W H L P Q)⟩ := by rw [verdC, if_pos h, if_neg (by simp [k])]
theorem verdC_len : (verdC W H L P Q).ranks.length ≤ 128 ∧ (verdC W H L P Q).cycle.length ≤ 128 := by
  have h1 := ranksO_len (clsD W H L P Q)
  have h2 := cycG_le (clsD W H L P Q)
  unfold verdC
  split
  · split <;> exact ⟨by simp; try omega, by simp; try omega⟩
  · exact ⟨by simp, by simp⟩
/-- Two classes are safe exactly if both tables are. -/
theorem verdC_code (h : clsOk W H L P Q = true) : decide ((verdC W H L P Q).code = 1) = (decide ((verdG W H L P).code = 1) && decide ((verdG W H L Q).code = 1)) := by
  have hc := clsD_can h
  obtain ⟨h1, h2⟩ := clsOk_both h
  cases ha : canO (depG W H L P) with
  | true =>
    rw [verd_safe h1 ha]
    cases hb : canO (depG W H L Q) with
    | true => rw [verd_safe h2 hb, verdC_safe h (by rw [hc, ha, hb]; rfl)]; rfl
    | false => rw [verd_cyc h2 hb, verdC_cyc h (by rw [hc, ha, hb]; rfl)]; rfl
  | false =>
    rw [verd_cyc h1 ha, verdC_cyc h (by rw [hc, ha]; rfl)]
    rfl
end
/-- The rules xy and yx on classes of their own are safe. -/
theorem split_safe {W H : Int} (h : okG W H = true) : clsOk W H [] (stdTab W H 1) (stdTab W H 2) = true ∧ (verdC W H [] (stdTab W H 1) (stdTab W H 2)).code = 1 := by
  have h1 := safe_yes h (r := 1) (by omega) (by omega)
  have h2 := safe_yes h (r := 2) (by omega) (by omega)
  have ho : clsOk W H [] (stdTab W H 1) (stdTab W H 2) = true := clsOk_yes (std_facts h (by omega) (by omega)).1 (std_facts h (by omega) (by omega)).1
  have hv := verdC_code ho
  unfold safeB at h1 h2
  rw [h1, h2] at hv
  exact ⟨ho, by simpa using hv⟩
end Go.Proofs.YtcmlnokfjbglaaaDoor
end

section
namespace Go.Proofs.YtcmlnokfjbglaaaDoor
open Go.ChangeShapes Go.WideShapes Go.ChangeAt Go.RowKit
set_option linter.unusedVariables false

theorem boxi_blk {w w1 : World} {T : TypeId} {cs : Array Value} (h : (w.alloc (.cells cs T)).grownBy w1 none) : Blk w1 w.heap.size T cs := (Blk.new w T cs).grown h (by simp)
theorem boxi_gb {w w1 : World} {o : Obj} (h : (w.alloc o).grownBy w1 none) : w.grownBy w1 none := gb_trans (gb_alloc (gb_refl _ _) _) h

theorem implGridOk (W H : Int) (w : World) :
    Calls Tryd.prog 51 #[.agg #[.int .i64 W, .int .i64 H]] w (RetB (okG W H) w) := by
  by_cases h1 : W ≥ 1 <;> by_cases h2 : W ≤ 4 <;> by_cases h3 : H ≥ 1 <;> by_cases h4 : H ≤ 4
  all_goals first | (exfalso; omega) | skip
  all_goals
    go_enter Tryd.func51, Tryd.ntmps51
    go_wp2_with fail
    go_ret
    exact ⟨ret_bool (by simp [okG] <;> omega), gb_alloc (gb_refl _ _) _⟩

theorem implNodeCount (W H : Int) (w : World) :
    Calls Tryd.prog 34 #[.agg #[.int .i64 W, .int .i64 H]] w (RetI (countG W H) none w) := by
  cases hok : okG W H with
  | true =>
    obtain ⟨hW, hH⟩ := okG_cases hok
    have hm : wrap64 (W * H) = countG W H := by
      simp only [countG, hok, if_true]
      rcases hW with rfl | rfl | rfl | rfl <;> rcases hH with rfl | rfl | rfl | rfl <;> exact IntWalk.wrap64_in _ (by omega)
    have Hm := Lib.hid hm
    clear hW hH hm
    go_enter Tryd.func34, Tryd.ntmps34
    go_wp2_with fail
    refine (implGridOk W H _).mono ?_
    rintro e w1 ⟨rfl, hg⟩
    have hb := boxi_blk hg
    have c0 : w1.cell? ⟨w.heap.size, 0, none⟩ = some (.int .i64 W) := hb.cell 0
    have c1 : w1.cell? ⟨w.heap.size, 1, none⟩ = some (.int .i64 H) := hb.cell 1
    have Hg := Lib.hid hg
    clear hg hb
    rw [hok]
    go_wp2_with fail
    go_ret
    exact ⟨ret_int64 (by rw [← Hm.out]), boxi_gb Hg.out⟩
  | false =>
    go_enter Tryd.func34, Tryd.ntmps34
    go_wp2_with fail
    refine (implGridOk W H _).mono ?_
    rintro e w1 ⟨rfl, hg⟩
    rw [hok]
    go_wp2_with fail
    go_ret
    exact ⟨ret_int64 (by simp [countG, hok]), boxi_gb hg⟩

theorem implHasNode (W H n : Int) (w : World) :
    Calls Tryd.prog 70 #[.agg #[.int .i64 W, .int .i64 H], .int .i64 n] w (RetB (hasG W H n) w) := by
  obtain ⟨k, hk⟩ : ∃ k, countG W H = k := ⟨_, rfl⟩
  by_cases h0 : n ≥ 0
  · by_cases h1 : n < k
    all_goals
      go_enter Tryd.func70, Tryd.ntmps70
      go_wp2_with fail
      refine (implNodeCount W H _).mono ?_
      rintro e w1 ⟨rfl, hg⟩
      rw [hk]
      go_wp2_with fail
      go_ret
      exact ⟨ret_bool (by simp [hasG, hk]; omega), boxi_gb hg⟩
  · go_enter Tryd.func70, Tryd.ntmps70
    go_wp2_with fail
    go_ret
    exact ⟨ret_bool (by simp [hasG, hk]; omega), gb_alloc (gb_refl _ _) _⟩

def hasPlaceG (W H x y : Int) : Bool := decide (okG W H = true ∧ 0 ≤ x ∧ x < W ∧ 0 ≤ y ∧ y < H)

theorem implHasPlace (W H x y : Int) (w : World) :
    Calls Tryd.prog 74 #[.agg #[.int .i64 W, .int .i64 H], .int .i64 x, .int .i64 y] w (RetB (hasPlaceG W H x y) w) := by
  cases hok : okG W H with
  | true =>
    obtain ⟨p1, p2, p3, p4⟩ := okG_iff.1 hok
    by_cases h1 : x ≥ 0 <;> by_cases h2 : x < W <;> by_cases h3 : y ≥ 0 <;> by_cases h4 : y < H
    all_goals first | (exfalso; omega) | skip
    all_goals
      go_enter Tryd.func74, Tryd.ntmps74
      go_wp2_with fail
      refine (implGridOk W H _).mono ?_
      rintro e w1 ⟨rfl, hg⟩
      have hb := boxi_blk hg
      have c0 := hb.cell 0
      have c1 := hb.cell 1
      have Hg := Lib.hid hg
      clear hg hb
      simp at c0 c1
      rw [hok]
      go_wp2_with fail
      go_ret
      exact ⟨ret_bool (by
        unfold hasPlaceG
        first
        | exact (decide_eq_true ⟨hok, by omega⟩).symm
        | exact (decide_eq_false (fun h => by have := h.2; omega)).symm
        | exact decide_eq_decide.2 ⟨fun h => by omega, fun h => h.2.2.2.2⟩), boxi_gb Hg.out⟩
  | false =>
    go_enter Tryd.func74, Tryd.ntmps74
    go_wp2_with fail
    refine (implGridOk W H _).mono ?_
    rintro e w1 ⟨rfl, hg⟩
    rw [hok]
    go_wp2_with fail
    go_ret
    exact ⟨ret_bool (by simp [hasPlaceG, hok]), boxi_gb hg⟩

theorem implNodeAt (W H x y : Int) (w : World) :
    Calls Tryd.prog 72 #[.agg #[.int .i64 W, .int .i64 H], .int .i64 x, .int .i64 y] w (RetI (atG W H x y) none w) := by
  cases hp : hasPlaceG W H x y with
  | true =>
    obtain ⟨hok, hx0, hx1, hy0, hy1⟩ : okG W H = true ∧ 0 ≤ x ∧ x < W ∧ 0 ≤ y ∧ y < H := by simpa [hasPlaceG] using hp
    obtain ⟨hW, hH⟩ := okG_cases hok
    rcases hW with rfl | rfl | rfl | rfl
    all_goals
      go_enter Tryd.func72, Tryd.ntmps72
      go_wp2_with fail
      refine (implHasPlace _ H x y _).mono ?_
      rintro e w1 ⟨rfl, hg⟩
      have hb := boxi_blk hg
      have c0 := hb.cell 0
      have Hg := Lib.hid hg
      clear hg hb
      simp at c0
      rw [hp]
      go_wp2_with fail
      go_ret
      exact ⟨ret_int64 (by unfold atG; rw [if_pos ⟨hok, by omega⟩] <;> omega), boxi_gb Hg.out⟩
  | false =>
    go_enter Tryd.func72, Tryd.ntmps72
    go_wp2_with fail
    refine (implHasPlace W H x y _).mono ?_
    rintro e w1 ⟨rfl, hg⟩
    rw [hp]
    go_wp2_with fail
    go_ret
    exact ⟨ret_int64 (by unfold atG; rw [if_neg (by simpa [hasPlaceG] using hp)]), boxi_gb hg⟩
end Go.Proofs.YtcmlnokfjbglaaaDoor
end

section
namespace Go.Proofs.YtcmlnokfjbglaaaDoor
open Go.ChangeShapes Go.WideShapes Go.ChangeAt Go.RowKit
set_option linter.unusedVariables false

/-- A mesh as the cells of a block. -/
def meshC (W H : Int) (A : Option Addr) (n cap : Nat) : Array Value := #[.int .i64 W, .int .i64 H, .slice A n cap]
def MeshAt (W H : Int) (L : List Int) (A : Option Addr) (n cap : Nat) (w : World) (k : Nat) (wr : World) : Prop :=
  goodTo W H L k ∧ (w.alloc (.cells (meshC W H A n cap) 28)).grownBy wr none
end Go.Proofs.YtcmlnokfjbglaaaDoor
end

section
namespace Go.Proofs.YtcmlnokfjbglaaaDoor
open Go.ChangeShapes Go.WideShapes Go.ChangeAt Go.RowKit
set_option linter.unusedVariables false

/-- Numbers as the cells of a block. -/
def cellsX (X : List Int) : Array Value := (intsV X).toArray
theorem cellsX_size (X : List Int) : (cellsX X).size = X.length := by simp [cellsX, intsV_length]
theorem cellsX_at {X : List Int} {i : Nat} {x : Int} (hi : i < X.length) (h : X.getD i 0 = x) : (cellsX X)[i]? = some (.int .i64 x) := by
  rw [List.getD_eq_getElem?_getD, List.getElem?_eq_getElem hi] at h
  simp only [Option.getD_some] at h
  simp [cellsX, intsV, List.getElem?_eq_getElem hi, h]
theorem cellsX_set (X : List Int) (i : Nat) (x : Int) : (cellsX X).setIfInBounds i (.int .i64 x) = cellsX (X.set i x) := by
  simp [cellsX, intsV_set]
theorem cellsX_one (X : List Int) : (cellsX X).all (·.oneCell') = true := by
  rw [Array.all_eq_true_iff_forall_mem]
  intro v hv
  simp only [cellsX, intsV, List.mem_toArray, List.mem_map] at hv
  obtain ⟨x, _, rfl⟩ := hv
  rfl
theorem zero_cells : Tryd.zeroCells82 = cellsX zerosX := by kernel_rfl
theorem square_info : (Tryd.prog.info? 82).map (·.size) = some 256 := by kernel_rfl

section
variable {w : World} {g : Nat} {X Y : List Int}
theorem gb_setRow {w : World} {g : Nat} {old cs : Array Value} {t : TypeId} (h : Blk w g t old) : Blk (w.setRow g cs) g t cs ∧ w.grownBy (w.setRow g cs) (some g) := by
  refine ⟨setRow_heap w g old cs t (0, 0) h, rfl, rfl, rfl, ?_, fun i hi hne => ?_⟩
  · simp [World.setRow]
  · have hne' : g ≠ i := fun e => hne (by rw [e])
    simp [World.setRow, Array.getElem?_modify, hne']
theorem load_square (hb : Blk w g 82 (cellsX X)) (hl : X.length = 256) : (loadVar 82 ⟨g, 0, none⟩).run Tryd.prog w = .ok (.agg (cellsX X)) w :=
  run_loadVar_row w g _ _ (cellsX X) (0, 0) _ hb Tryd.underlying82 rfl (by rw [cellsX_size, hl]; exact square_info)
theorem store_square (hb : Blk w g 82 (cellsX X)) (hl : X.length = 256) (hm : Y.length = 256) : (storeVar 82 ⟨g, 0, none⟩ (.agg (cellsX Y))).run Tryd.prog w = .ok () (w.setRow g (cellsX Y)) :=
  run_storeVar_row w g _ _ (cellsX X) (cellsX Y) hb (by rw [cellsX_size, hm]; exact square_info) (by rw [cellsX_size, cellsX_size, hl, hm]) (cellsX_one Y)
end

theorem wpList_loadX {ops : Array Oper} {rest : List Oper} {op : Oper} {a : Act} {w : World} {Q : Exit → Act → World → Prop} (hgd : op.guard = none) (x : Operand) (ho : op.op = .load 82 x)
    (g : Nat) (hx : a.eval x = .pointer (some ⟨g, 0, none⟩)) (X : List Int) (hb : Blk w g 82 (cellsX X)) (hl : X.length = 256)
    (h : wpList Tryd.prog ops Q rest (a.put op.dst (.agg (cellsX X))) w) : wpList Tryd.prog ops Q (op :: rest) a w :=
  wpList_plain hgd fun _ hK => by
    unfold Oper.wp execOp
    simp only [ho, hx, Instr.loadAt, Instr.sureAddr, Sem.run_bind, Sem.run_pure, Result.andThen_ok, load_square hb hl]
    exact hK _ _ h
theorem wpList_storeX {ops : Array Oper} {rest : List Oper} {op : Oper} {a : Act} {w : World} {Q : Exit → Act → World → Prop} (hgd : op.guard = none) (x y : Operand) (ho : op.op = .store 82 x y)
    (g : Nat) (X Y : List Int) (hx : a.eval x = .pointer (some ⟨g, 0, none⟩)) (hy : a.eval y = .agg (cellsX Y)) (hb : Blk w g 82 (cellsX X)) (hl : X.length = 256) (hm : Y.length = 256)
    (h : ∀ w', Blk w' g 82 (cellsX Y) → w.grownBy w' (some g) → wpList Tryd.prog ops Q rest (a.put op.dst undef) w') : wpList Tryd.prog ops Q (op :: rest) a w :=
  wpList_plain hgd fun _ hK => by
    unfold Oper.wp execOp
    simp only [ho, hx, hy, Instr.storeAt, Instr.sureAddr, Sem.run_bind, Sem.run_pure, Result.andThen_ok, store_square hb hl hm]
    exact hK _ _ (h _ (gb_setRow hb).1 (gb_setRow hb).2)

/-- What is written lies in a block of the call's own. -/
theorem gb_new {a b c : World} {g : Nat} (h : a.grownBy b none) (k : b.grownBy c (some g)) (hg : a.heap.size ≤ g) : a.grownBy c none :=
  ⟨k.os.trans h.os, k.tape.trans h.tape, k.output.trans h.output, Nat.le_trans h.size k.size, fun i hi hne => (k.block i (Nat.lt_of_lt_of_le hi h.size) (fun e => by cases e; omega)).trans (h.block i hi hne)⟩

/-- A square and whether there is one. -/
def RetX (X : List Int) (b : Bool) (w : World) (e : Ending) (w' : World) : Prop := e = .returned (.tuple #[.agg (cellsX X), .bool b]) ∧ w.grownBy w' none
end Go.Proofs.YtcmlnokfjbglaaaDoor
end

section
namespace Go.Proofs.YtcmlnokfjbglaaaDoor
open Go.ChangeShapes Go.WideShapes Go.ChangeAt Go.RowKit
set_option linter.unusedVariables false

/-- A node's column and row. -/
theorem implPlace (W H n x y : Int) (hh : hasG W H n = true) (hx : n % W = x) (hy : n / W = y) (w : World) :
    Calls Tryd.prog 71 #[.agg #[.int .i64 W, .int .i64 H], .int .i64 n] w fun e w' => e = .returned (.tuple #[.int .i64 x, .int .i64 y]) ∧ w.grownBy w' none := by
  obtain ⟨hW, hH⟩ := okG_cases (hasG_ok hh).1
  obtain ⟨h0, h1⟩ := hasG_le hh
  have hq := row_wrap h0 h1 hW
  have da : n.tdiv W = y := by rw [Int.tdiv_eq_ediv_of_nonneg h0]; exact hy
  have ta : n.tmod W = x := by rw [Int.tmod_eq_emod_of_nonneg h0]; exact hx
  obtain ⟨a0, a1, a2, a3, a4⟩ := place_of hh
  rw [hx] at a0 a1
  rw [hy] at a2 a3
  have hWn : W ≠ 0 := by omega
  have hW1 : 1 ≤ W := by omega
  have hW2 : W ≤ 4 := by omega
  have hH2 : H ≤ 4 := by omega
  clear hW hH hx hy hq a4 h0
  go_enter Tryd.func71, Tryd.ntmps71
  go_wp2_with fail
  go_quiet (fail)
  go_wp2_with fail
  go_ret2
  exact ⟨rfl, gb_drewN (gb_alloc (gb_refl _ _) _) _⟩

theorem gb_undrew {a b : World} {row : Option Nat} (h : a.drew.grownBy b row) : a.grownBy b row := ⟨h.os, h.tape, h.output, h.size, h.block⟩
end Go.Proofs.YtcmlnokfjbglaaaDoor
end

section
namespace Go.Proofs.YtcmlnokfjbglaaaDoor
open Go.ChangeShapes Go.WideShapes Go.ChangeAt Go.RowKit
set_option linter.unusedVariables false

theorem implNodeAtV (W H x y n : Int) (h : atG W H x y = n) (w : World) :
    Calls Tryd.prog 72 #[.agg #[.int .i64 W, .int .i64 H], .int .i64 x, .int .i64 y] w (RetI n none w) := h ▸ implNodeAt W H x y w

theorem implNextNode (W H n p : Int) (w : World) :
    Calls Tryd.prog 64 #[.agg #[.int .i64 W, .int .i64 H], .int .i64 n, .int .i64 p] w (RetI (nextG W H n p) none w) := by
  cases hh : hasG W H n with
  | true =>
    obtain ⟨hW, hH⟩ := okG_cases (hasG_ok hh).1
    obtain ⟨a0, a1, a2, a3, a4⟩ := place_of hh
    have hN : nextG W H n p = (if p = 0 then atG W H (n % W) (n / W - 1) else if p = 1 then atG W H (n % W + 1) (n / W) else if p = 2 then atG W H (n % W) (n / W + 1) else if p = 3 then atG W H (n % W - 1) (n / W) else if p = 4 then n else -1) := by simp [nextG, hh]
    obtain ⟨x, hx⟩ : ∃ x, n % W = x := ⟨_, rfl⟩
    obtain ⟨y, hy⟩ : ∃ y, n / W = y := ⟨_, rfl⟩
    rw [hx, hy] at hN
    rw [hx] at a0 a1
    rw [hy] at a2 a3
    have x1 : x ≤ 4 := by omega
    have y1 : y ≤ 4 := by omega
    obtain ⟨r, hr⟩ : ∃ r, nextG W H n p = r := ⟨_, rfl⟩
    rw [hr] at hN ⊢
    have HP := Lib.hid (fun w => implPlace W H n x y hh hx hy w)
    clear a1 a3 a4 hW hH hr hx hy
    by_cases p0 : p = 0
    · subst p0
      simp at hN
      go_enter Tryd.func64, Tryd.ntmps64
      go_wp2_with fail
      refine (implHasNode W H n _).mono ?_
      rintro e w1 ⟨rfl, hg⟩
      have hb := boxi_blk hg
      have c0 := hb.cell 0
      have c1 := hb.cell 1
      have Hg := Lib.hid (boxi_gb hg)
      clear hg hb
      simp at c0 c1
      rw [hh]
      go_wp2_with fail
      refine (HP.out _).mono ?_
      rintro e w2 ⟨rfl, hg2⟩
      have d0 := hg2.cell c0 (by simp)
      have d1 := hg2.cell c1 (by simp)
      have Hg2 := Lib.hid (gb_trans Hg.out hg2)
      clear hg2 c0 c1
      go_wp2_with fail
      refine (implNodeAtV W H x (y - 1) r hN.symm _).mono ?_
      rintro e w3 ⟨rfl, hg3⟩
      have Hg3 := Lib.hid (gb_trans Hg2.out hg3)
      clear hg3
      go_wp2_with fail
      go_ret
      exact ⟨ret_int64 hN.symm, Hg3.out⟩
    by_cases p1 : p = 1
    · subst p1
      simp at hN
      go_enter Tryd.func64, Tryd.ntmps64
      go_wp2_with fail
      refine (implHasNode W H n _).mono ?_
      rintro e w1 ⟨rfl, hg⟩
      have hb := boxi_blk hg
      have c0 := hb.cell 0
      have c1 := hb.cell 1
      have Hg := Lib.hid (boxi_gb hg)
      clear hg hb
      simp at c0 c1
      rw [hh]
      go_wp2_with fail
      refine (HP.out _).mono ?_
      rintro e w2 ⟨rfl, hg2⟩
      have d0 := hg2.cell c0 (by simp)
      have d1 := hg2.cell c1 (by simp)
      have Hg2 := Lib.hid (gb_trans Hg.out hg2)
      clear hg2 c0 c1
      go_wp2_with fail
      refine (implNodeAtV W H (x + 1) y r hN.symm _).mono ?_
      rintro e w3 ⟨rfl, hg3⟩
      have Hg3 := Lib.hid (gb_trans Hg2.out hg3)
      clear hg3
      go_wp2_with fail
      go_ret
      exact ⟨ret_int64 hN.symm, Hg3.out⟩
    by_cases p2 : p = 2
    · subst p2
      simp at hN
      go_enter Tryd.func64, Tryd.ntmps64
      go_wp2_with fail
      refine (implHasNode W H n _).mono ?_
      rintro e w1 ⟨rfl, hg⟩
      have hb := boxi_blk hg
      have c0 := hb.cell 0
      have c1 := hb.cell 1
      have Hg := Lib.hid (boxi_gb hg)
      clear hg hb
      simp at c0 c1
      rw [hh]
      go_wp2_with fail
      refine (HP.out _).mono ?_
      rintro e w2 ⟨rfl, hg2⟩
      have d0 := hg2.cell c0 (by simp)
      have d1 := hg2.cell c1 (by simp)
      have Hg2 := Lib.hid (gb_trans Hg.out hg2)
      clear hg2 c0 c1
      go_wp2_with fail
      refine (implNodeAtV W H x (y + 1) r hN.symm _).mono ?_
      rintro e w3 ⟨rfl, hg3⟩
      have Hg3 := Lib.hid (gb_trans Hg2.out hg3)
      clear hg3
      go_wp2_with fail
      go_ret
      exact ⟨ret_int64 hN.symm, Hg3.out⟩
    by_cases p3 : p = 3
    · subst p3
      simp at hN
      go_enter Tryd.func64, Tryd.ntmps64
      go_wp2_with fail
      refine (implHasNode W H n _).mono ?_
      rintro e w1 ⟨rfl, hg⟩
      have hb := boxi_blk hg
      have c0 := hb.cell 0
      have c1 := hb.cell 1
      have Hg := Lib.hid (boxi_gb hg)
      clear hg hb
      simp at c0 c1
      rw [hh]
      go_wp2_with fail
      refine (HP.out _).mono ?_
      rintro e w2 ⟨rfl, hg2⟩
      have d0 := hg2.cell c0 (by simp)
      have d1 := hg2.cell c1 (by simp)
      have Hg2 := Lib.hid (gb_trans Hg.out hg2)
      clear hg2 c0 c1
      go_wp2_with fail
      refine (implNodeAtV W H (x - 1) y r hN.symm _).mono ?_
      rintro e w3 ⟨rfl, hg3⟩
      have Hg3 := Lib.hid (gb_trans Hg2.out hg3)
      clear hg3
      go_wp2_with fail
      go_ret
      exact ⟨ret_int64 hN.symm, Hg3.out⟩
    by_cases p4 : p = 4
    · subst p4
      simp at hN
      go_enter Tryd.func64, Tryd.ntmps64
      go_wp2_with fail
      refine (implHasNode W H n _).mono ?_
      rintro e w1 ⟨rfl, hg⟩
      have hb := boxi_blk hg
      have c0 := hb.cell 0
      have c1 := hb.cell 1
      have Hg := Lib.hid (boxi_gb hg)
      clear hg hb
      simp at c0 c1
      rw [hh]
      go_wp2_with fail
      refine (HP.out _).mono ?_
      rintro e w2 ⟨rfl, hg2⟩
      have d0 := hg2.cell c0 (by simp)
      have d1 := hg2.cell c1 (by simp)
      have Hg2 := Lib.hid (gb_trans Hg.out hg2)
      clear hg2 c0 c1
      go_wp2_with fail
      go_ret
      exact ⟨ret_int64 hN.symm, Hg2.out⟩
    simp [p0, p1, p2, p3, p4] at hN
    have q0 : (p == 0) = false := by simpa using p0
    have q1 : (p == 1) = false := by simpa using p1
    have q2 : (p == 2) = false := by simpa using p2
    have q3 : (p == 3) = false := by simpa using p3
    have q4 : (p == 4) = false := by simpa using p4
    clear p0 p1 p2 p3 p4
    go_enter Tryd.func64, Tryd.ntmps64
    go_wp2_with fail
    refine (implHasNode W H n _).mono ?_
    rintro e w1 ⟨rfl, hg⟩
    have hb := boxi_blk hg
    have c0 := hb.cell 0
    have c1 := hb.cell 1
    have Hg := Lib.hid (boxi_gb hg)
    clear hg hb
    simp at c0 c1
    rw [hh]
    go_wp2_with fail
    refine (HP.out _).mono ?_
    rintro e w2 ⟨rfl, hg2⟩
    have d0 := hg2.cell c0 (by simp)
    have d1 := hg2.cell c1 (by simp)
    have Hg2 := Lib.hid (gb_trans Hg.out hg2)
    clear hg2 c0 c1
    go_wp2_with fail
    go_ret
    exact ⟨ret_int64 hN.symm, Hg2.out⟩
  | false =>
    go_enter Tryd.func64, Tryd.ntmps64
    go_wp2_with fail
    refine (implHasNode W H n _).mono ?_
    rintro e w1 ⟨rfl, hg⟩
    rw [hh]
    go_wp2_with fail
    go_ret
    exact ⟨ret_int64 (by simp [nextG, hh]), boxi_gb hg⟩

theorem implNextNodeV (W H n p r : Int) (h : nextG W H n p = r) (w : World) :
    Calls Tryd.prog 64 #[.agg #[.int .i64 W, .int .i64 H], .int .i64 n, .int .i64 p] w (RetI r none w) := h ▸ implNextNode W H n p w

/-- Where a channel leads, by the rounding of the language. -/
def endG (W H c : Int) : Int := nextG W H (c.tdiv 4) (c.tmod 4)
theorem leads_end (W H c : Int) : leadsG W H c = decide (0 ≤ endG W H c) := by
  unfold leadsG endG
  by_cases h0 : 0 ≤ c
  · rw [Int.tdiv_eq_ediv_of_nonneg h0, Int.tmod_eq_emod_of_nonneg h0]
    refine decide_eq_decide.2 ⟨fun h => h.2.2, fun h => ⟨h0, ?_, h⟩⟩
    cases hh : hasG W H (c / 4) with
    | true => have := (hasG_iff.1 hh).2; omega
    | false => simp [nextG, hh] at h
  · refine decide_eq_decide.2 ⟨fun h => absurd h.1 h0, fun h => ?_⟩
    exfalso
    cases hh : hasG W H (c.tdiv 4) with
    | true =>
      have h1 := (hasG_iff.1 hh).1
      have h2 : c.tmod 4 < 0 := by
        have e := Int.mul_tdiv_add_tmod c 4
        omega
      rw [nextG_has (by omega)] at h
      omega
    | false => simp [nextG, hh] at h
theorem implEnd (W H c r : Int) (hc : (Lit.int .i64 c).wf = true) (hr : endG W H c = r) (w : World) :
    Calls Tryd.prog 53 #[.agg #[.int .i64 W, .int .i64 H], .int .i64 c] w (RetI r none w) := by
  have hb := bounds_i64 hc
  have hm : c.tmod 4 < 4 ∧ -4 < c.tmod 4 := ⟨Int.tmod_lt_of_pos _ (by omega), by have := Int.lt_tmod_of_pos c (b := 4) (by omega); omega⟩
  have hq : wrap64 (c.tdiv 4) = c.tdiv 4 := IntWalk.wrap64_in _ (by have := Int.mul_tdiv_add_tmod c 4; omega)
  clear hm
  have HC := Lib.hid (fun w => implNextNodeV W H (c.tdiv 4) (c.tmod 4) r hr w)
  clear hc hr hb
  go_enter Tryd.func53, Tryd.ntmps53
  go_wp2_with fail
  simp only [hq]
  refine (HC.out _).mono ?_
  rintro e w1 ⟨rfl, hg⟩
  have Hg := Lib.hid (boxi_gb hg)
  clear hg
  go_wp2_with fail
  go_ret
  exact ⟨rfl, Hg.out⟩
end Go.Proofs.YtcmlnokfjbglaaaDoor
end

section
namespace Go.Proofs.YtcmlnokfjbglaaaDoor
open Go.ChangeShapes Go.WideShapes Go.ChangeAt Go.RowKit
set_option linter.unusedVariables false

theorem implMeshOk (W H : Int) (A : Option Addr) (n cap : Nat) (L : List Int) (hL : WfL L) (w : World) (h : IntAt w w.heap.size A n L) (hn : n ≤ 1000000000) :
    Calls Tryd.prog 50 #[.agg #[.int .i64 W, .int .i64 H, .slice A n cap]] w (RetB (meshG W H L) w) := by
  have hl := h.1
  have HI := Lib.hid h
  have HW := Lib.hid hL
  clear h hL
  cases hok : okG W H with
  | false =>
    go_enter Tryd.func50, Tryd.ntmps50
    go_wp2_with fail
    refine (implGridOk W H _).mono ?_
    rintro e w1 ⟨rfl, hg⟩
    rw [hok]
    go_wp2_with fail
    go_ret
    exact ⟨ret_bool (meshG_bad hok).symm, boxi_gb hg⟩
  | true =>
    go_enter Tryd.func50, Tryd.ntmps50
    go_wp2_with fail
    refine (implGridOk W H _).mono ?_
    rintro e w1 ⟨rfl, hg⟩
    have HM := Lib.hid (show MeshAt W H L A n cap w 0 w1 from ⟨goodTo_zero W H L, hg⟩)
    have hbk := boxi_blk hg
    have a2 : w1.cell? ⟨w.heap.size, 2, none⟩ = some (.slice A n cap) := hbk.cell 2
    clear hg hbk
    rw [hok]
    go_wp2_with fail
    clear a2
    go_loopw [12] (fun i wr => ∃ k : Nat, i = .int .i64 (k : Int) ∧ k ≤ n ∧ MeshAt W H L A n cap w k wr) (fun i _ => n - (intOf i).toNat)
    case atStart => exact ⟨0, rfl, Nat.zero_le _, HM.out⟩
    case round =>
      obtain ⟨k, rfl, hk, hgood, hg⟩ := hrel
      have HGo := Lib.hid hgood
      have HG := Lib.hid hg
      have hbk := boxi_blk hg
      have HBK := Lib.hid hbk
      have a0 : wr.cell? ⟨w.heap.size, 0, none⟩ = some (.int .i64 W) := hbk.cell 0
      have a1 : wr.cell? ⟨w.heap.size, 1, none⟩ = some (.int .i64 H) := hbk.cell 1
      have a2 : wr.cell? ⟨w.heap.size, 2, none⟩ = some (.slice A n cap) := hbk.cell 2
      have hia := HI.out.none (Nat.le_refl _) (boxi_gb hg)
      have HIA := Lib.hid hia
      clear hg hgood hbk
      by_cases hlt : k < n
      · obtain ⟨b, off, rfl, hb, hc⟩ := hia.at k hlt
        obtain ⟨x, hx⟩ : ∃ x, L.getD k 0 = x := ⟨_, rfl⟩
        rw [hx] at hc
        obtain ⟨r, hr⟩ : ∃ r, endG W H x = r := ⟨_, rfl⟩
        have HE := Lib.hid (fun w => implEnd W H x r (HW.out.get (by omega) hx) hr w)
        have hld := leads_end W H x
        rw [hr] at hld
        clear hia hr
        by_cases h0 : r < 0
        · have hbad := meshG_no (L := L) (i := k) (by omega) (goodAt_lead hx (by rw [hld]; exact decide_eq_false (by omega)))
          have HBad := Lib.hid hbad
          clear hx hld hbad
          go_wp2_with fail
          refine (HE.out _).mono ?_
          rintro e w2 ⟨rfl, hg2⟩
          have HG2 := Lib.hid (gb_trans (boxi_gb HG.out) hg2)
          clear hg2
          go_wp2_with fail
          go_ret
          exact ⟨ret_bool HBad.out.symm, HG2.out⟩
        · have hldt : leadsG W H x = true := by rw [hld]; exact decide_eq_true (by omega)
          clear hld
          cases k with
          | zero =>
            have HNx := Lib.hid (goodTo_succ HGo.out (goodAt_first hx hldt))
            have hc' : wr.cell? ⟨b, off, none⟩ = some (.int .i64 x) := hc
            clear hx hldt hc
            go_wp2_with fail
            refine (HE.out _).mono ?_
            rintro e w2 ⟨rfl, hg2⟩
            have HG2 := Lib.hid (gb_trans HG.out hg2)
            clear hg2
            go_wp2_with fail
            go_roundw
            case rel => exact ⟨1, by go_num, by omega, HNx.out, HG2.out⟩
            case measure => simp [intOf] <;> omega
          | succ j =>
            obtain ⟨b', off', hbe, _, hc2⟩ := HIA.out.at j (by omega)
            obtain ⟨rfl, rfl⟩ : b = b' ∧ off = off' := by injection hbe with h1; injection h1 with h2 h3; exact ⟨h2, h3⟩
            obtain ⟨y, hy⟩ : ∃ y, L.getD j 0 = y := ⟨_, rfl⟩
            rw [hy] at hc2
            have hga := goodAt_next hx hy hldt
            have HGA := Lib.hid hga
            clear hx hy hldt hga hbe
            go_wp2_with fail
            refine (HE.out _).mono ?_
            rintro e w2 ⟨rfl, hg2⟩
            have dc := hg2.cell hc (by simp)
            have dc2 := hg2.cell hc2 (by simp)
            have d2 := hg2.cell a2 (by simp)
            have HG2 := Lib.hid (gb_trans HG.out hg2)
            clear hg2 hc hc2 a0 a1 a2
            by_cases hyx : y < x
            · have hge : decide (y ≥ x) = false := decide_eq_false (by omega)
              have HNx := Lib.hid (goodTo_succ HGo.out (HGA.out.trans (decide_eq_true hyx)))
              clear hyx
              go_wp2_with fail
              go_roundw
              case rel => exact ⟨j + 2, by go_num, by omega, HNx.out, HG2.out⟩
              case measure => simp [intOf] <;> omega
            · have hge : decide (y ≥ x) = true := decide_eq_true (by omega)
              have HBad := Lib.hid (meshG_no (i := j + 1) (by omega) (HGA.out.trans (decide_eq_false hyx)))
              clear hyx
              go_wp2_with fail
              go_ret
              exact ⟨ret_bool HBad.out.symm, boxi_gb HG2.out⟩
      · obtain rfl : k = n := by omega
        clear hia
        go_wp2_with fail
        go_ret
        exact ⟨ret_bool (meshG_yes hok (by rw [hl]; exact HGo.out)).symm, boxi_gb HG.out⟩

theorem implMeshOkV (W H : Int) (A : Option Addr) (n cap : Nat) (L : List Int) (b : Bool) (hb : meshG W H L = b) (hL : WfL L) (w : World) (h : IntAt w w.heap.size A n L) (hn : n ≤ 1000000000) :
    Calls Tryd.prog 50 #[.agg #[.int .i64 W, .int .i64 H, .slice A n cap]] w (RetB b w) := hb ▸ implMeshOk W H A n cap L hL w h hn
end Go.Proofs.YtcmlnokfjbglaaaDoor
end

section
namespace Go.Proofs.YtcmlnokfjbglaaaDoor
open Go.ChangeShapes Go.WideShapes Go.ChangeAt Go.RowKit
set_option linter.unusedVariables false

/-- A mesh, a table and a square as blocks. -/
def thrB (W H : Int) (A A2 : Option Addr) (n cap n2 c2 : Nat) (w : World) : World :=
  ((w.alloc (.cells (meshC W H A n cap) 28)).alloc (.cells #[.slice A2 n2 c2] 30)).alloc (.cells (cellsX zerosX) 82)
section
variable {W H : Int} {A A2 : Option Addr} {n cap n2 c2 : Nat} {w wr : World}
theorem thrB_size : (thrB W H A A2 n cap n2 c2 w).heap.size = w.heap.size + 3 := by unfold thrB; rw [alloc_size, alloc_size, alloc_size]
theorem thrB_gb : w.grownBy (thrB W H A A2 n cap n2 c2 w) none := gb_alloc (gb_alloc (gb_alloc (gb_refl _ _) _) _) _
theorem thrB_mesh : Blk (thrB W H A A2 n cap n2 c2 w) w.heap.size 28 (meshC W H A n cap) := ((Blk.new w 28 (meshC W H A n cap)).alloc _).alloc _
theorem thrB_table : Blk (thrB W H A A2 n cap n2 c2 w) (w.heap.size + 1) 30 #[.slice A2 n2 c2] := by
  have := Blk.new (w.alloc (.cells (meshC W H A n cap) 28)) 30 #[.slice A2 n2 c2]
  rw [alloc_size] at this
  exact this.alloc _
theorem thrB_square : Blk (thrB W H A A2 n cap n2 c2 w) (w.heap.size + 2) 82 (cellsX (zerosX)) := by
  have := Blk.new ((w.alloc (.cells (meshC W H A n cap) 28)).alloc (.cells #[.slice A2 n2 c2] 30)) 82 (cellsX zerosX)
  rw [alloc_size, alloc_size] at this
  exact this
end

theorem implPortsNo (W H : Int) (A A2 : Option Addr) (n cap n2 c2 : Nat) (L P : List Int) (hL : WfL L) (w : World) (h : IntAt w w.heap.size A n L) (h2 : IntAt w w.heap.size A2 n2 P) (hn : n ≤ 1000000000) (hn2 : n2 ≤ 1000000000)
    (hs : sizedG W H L P = false) :
    Calls Tryd.prog 33 #[.agg #[.int .i64 W, .int .i64 H, .slice A n cap], .agg #[.slice A2 n2 c2]] w (RetX (zerosX) false w) := by
  have hp := h2.1
  have HI := Lib.hid (h.none (Nat.le_refl _) (thrB_gb (W := W) (H := H) (A := A) (A2 := A2) (n := n) (cap := cap) (n2 := n2) (c2 := c2)))
  clear h h2
  obtain ⟨k, hk⟩ : ∃ k, countG W H = k := ⟨_, rfl⟩
  obtain ⟨hk0, hk1⟩ := countG_le W H
  rw [hk] at hk0 hk1
  have HN := Lib.hid (fun w => show Calls Tryd.prog 34 #[.agg #[.int .i64 W, .int .i64 H]] w (RetI k none w) from hk ▸ implNodeCount W H w)
  have TM := Lib.hid (thrB_mesh (W := W) (H := H) (A := A) (A2 := A2) (n := n) (cap := cap) (n2 := n2) (c2 := c2) (w := w))
  have TT := Lib.hid (thrB_table (W := W) (H := H) (A := A) (A2 := A2) (n := n) (cap := cap) (n2 := n2) (c2 := c2) (w := w))
  have TS := Lib.hid (thrB_square (W := W) (H := H) (A := A) (A2 := A2) (n := n) (cap := cap) (n2 := n2) (c2 := c2) (w := w))
  have TG := Lib.hid (thrB_gb (W := W) (H := H) (A := A) (A2 := A2) (n := n) (cap := cap) (n2 := n2) (c2 := c2) (w := w))
  have TZ := Lib.hid (thrB_size (W := W) (H := H) (A := A) (A2 := A2) (n := n) (cap := cap) (n2 := n2) (c2 := c2) (w := w))
  cases hm : meshG W H L with
  | false =>
    have HK := Lib.hid (fun w h => implMeshOkV W H A n cap L false hm hL w h hn)
    clear hm hL hs hk
    go_enter Tryd.func33, Tryd.ntmps33
    go_wp2_with fail
    refine (HN.out _).mono ?_
    rintro e w1 ⟨rfl, hg⟩
    rw [zero_cells] at hg
    have hg1 : (thrB W H A A2 n cap n2 c2 w).grownBy w1 none := hg
    have hbk := TM.out.grown hg1 (by simp)
    have a0 : w1.cell? ⟨w.heap.size, 0, none⟩ = some (.int .i64 W) := hbk.cell 0
    have a1 : w1.cell? ⟨w.heap.size, 1, none⟩ = some (.int .i64 H) := hbk.cell 1
    have a2 : w1.cell? ⟨w.heap.size, 2, none⟩ = some (.slice A n cap) := hbk.cell 2
    have hi := (HI.out.none (by rw [TZ.out]; omega) hg1).more (B' := w1.heap.size) (gb_trans TG.out hg1).size
    have HG := Lib.hid hg1
    clear hg hg1 hbk
    go_wp2_with fail
    refine (HK.out _ hi).mono ?_
    rintro e w2 ⟨rfl, hg2⟩
    have HG2 := Lib.hid (gb_trans HG.out hg2)
    have HSq := Lib.hid (TS.out.grown HG2.out (by simp))
    clear hg2 hi a0 a1 a2
    go_wp2_with (refine wpList_storeX rfl _ _ rfl (w.heap.size + 1 + 1) zerosX zerosX rfl (congrArg Value.agg zero_cells) HSq.out zerosX_length zerosX_length ?_; intro w3 hb3 hg3; have HB3 := Lib.hid hb3; have HG3 := Lib.hid hg3; clear hb3 hg3)
    refine bodyPost_ret (v := .tuple #[.agg (cellsX zerosX), .bool false]) ?_ rfl ⟨rfl, gb_new (gb_trans TG.out HG2.out) HG3.out (by omega)⟩
    rw [results_cell_tmp rfl]
    simp [asAddr, Result.andThen, load_square HB3.out zerosX_length]
  | true =>
    have hsq : ¬ (n2 : Int) = k * k := fun e => by
      have : sizedG W H L P = true := by simp [sizedG, hm, hk, hp, e]
      rw [hs] at this; cases this
    have hkk0 : 0 ≤ k * k := Int.mul_nonneg hk0 hk0
    have hkk1 : k * k ≤ 256 := Int.le_trans (Int.mul_le_mul hk1 hk1 hk0 (by omega)) (by omega)
    obtain ⟨q, hq⟩ : ∃ q, k * k = q := ⟨_, rfl⟩
    rw [hq] at hkk0 hkk1 hsq
    have e1 : wrap64 (k * k) = q := by rw [hq]; exact IntWalk.wrap64_in _ (by omega)
    have hb : ((n2 : Int) != q) = true := by simpa using hsq
    have HK := Lib.hid (fun w h => implMeshOkV W H A n cap L true hm hL w h hn)
    clear hm hL hs hk hq
    go_enter Tryd.func33, Tryd.ntmps33
    go_wp2_with fail
    refine (HN.out _).mono ?_
    rintro e w1 ⟨rfl, hg⟩
    rw [zero_cells] at hg
    have hg1 : (thrB W H A A2 n cap n2 c2 w).grownBy w1 none := hg
    have hbk := TM.out.grown hg1 (by simp)
    have a0 : w1.cell? ⟨w.heap.size, 0, none⟩ = some (.int .i64 W) := hbk.cell 0
    have a1 : w1.cell? ⟨w.heap.size, 1, none⟩ = some (.int .i64 H) := hbk.cell 1
    have a2 : w1.cell? ⟨w.heap.size, 2, none⟩ = some (.slice A n cap) := hbk.cell 2
    have hi := (HI.out.none (by rw [TZ.out]; omega) hg1).more (B' := w1.heap.size) (gb_trans TG.out hg1).size
    have HG := Lib.hid hg1
    clear hg hg1 hbk
    go_wp2_with fail
    refine (HK.out _ hi).mono ?_
    rintro e w2 ⟨rfl, hg2⟩
    have HG2 := Lib.hid (gb_trans HG.out hg2)
    have HSq := Lib.hid (TS.out.grown HG2.out (by simp))
    have b0 : w2.cell? ⟨w.heap.size + 1, 0, none⟩ = some (.slice A2 n2 c2) := (TT.out.grown HG2.out (by simp)).cell 0
    clear hg2 hi a0 a1 a2
    go_wp2_with (refine wpList_storeX rfl _ _ rfl (w.heap.size + 1 + 1) zerosX zerosX rfl (congrArg Value.agg zero_cells) HSq.out zerosX_length zerosX_length ?_; intro w3 hb3 hg3; have HB3 := Lib.hid hb3; have HG3 := Lib.hid hg3; clear hb3 hg3)
    refine bodyPost_ret (v := .tuple #[.agg (cellsX zerosX), .bool false]) ?_ rfl ⟨rfl, gb_new (gb_trans TG.out HG2.out) HG3.out (by omega)⟩
    rw [results_cell_tmp rfl]
    simp [asAddr, Result.andThen, load_square HB3.out zerosX_length]

/-- The square after j entries, in a block of the call's own. -/
def PortsAt (W H : Int) (A A2 : Option Addr) (n cap n2 c2 : Nat) (P : List Int) (w : World) (g j : Nat) (wr : World) : Prop :=
  Blk wr g 82 (cellsX (portsX W H P j)) ∧ (thrB W H A A2 n cap n2 c2 w).grownBy wr none

theorem implPortsYes (W H : Int) (A A2 : Option Addr) (n cap n2 c2 : Nat) (L P : List Int) (hL : WfL L) (w : World) (h : IntAt w w.heap.size A n L) (h2 : IntAt w w.heap.size A2 n2 P) (hn : n ≤ 1000000000) (hn2 : n2 ≤ 1000000000)
    (hs : sizedG W H L P = true) :
    Calls Tryd.prog 33 #[.agg #[.int .i64 W, .int .i64 H, .slice A n cap], .agg #[.slice A2 n2 c2]] w (RetX (portsX W H P P.length) true w) := by
  have hp := h2.1
  have HI := Lib.hid (h.none (Nat.le_refl _) (thrB_gb (W := W) (H := H) (A := A) (A2 := A2) (n := n) (cap := cap) (n2 := n2) (c2 := c2)))
  have HP := Lib.hid (h2.none (Nat.le_refl _) (thrB_gb (W := W) (H := H) (A := A) (A2 := A2) (n := n) (cap := cap) (n2 := n2) (c2 := c2)))
  clear h h2
  obtain ⟨k, hk⟩ : ∃ k, cntN W H = k := ⟨_, rfl⟩
  have hki := cntN_int W H
  have hk1 := cntN_le W H
  rw [hk] at hki hk1
  have hsz := (sizedG_mesh hs).2
  have hm := (sizedG_mesh hs).1
  rw [hp, ← hki] at hsz
  have HN := Lib.hid (fun w => show Calls Tryd.prog 34 #[.agg #[.int .i64 W, .int .i64 H]] w (RetI (k : Int) none w) from hki ▸ implNodeCount W H w)
  have HK := Lib.hid (fun w h => implMeshOkV W H A n cap L true hm hL w h hn)
  have TM := Lib.hid (thrB_mesh (W := W) (H := H) (A := A) (A2 := A2) (n := n) (cap := cap) (n2 := n2) (c2 := c2) (w := w))
  have TT := Lib.hid (thrB_table (W := W) (H := H) (A := A) (A2 := A2) (n := n) (cap := cap) (n2 := n2) (c2 := c2) (w := w))
  have TS := Lib.hid (thrB_square (W := W) (H := H) (A := A) (A2 := A2) (n := n) (cap := cap) (n2 := n2) (c2 := c2) (w := w))
  have TG := Lib.hid (thrB_gb (W := W) (H := H) (A := A) (A2 := A2) (n := n) (cap := cap) (n2 := n2) (c2 := c2) (w := w))
  have TZ := Lib.hid (thrB_size (W := W) (H := H) (A := A) (A2 := A2) (n := n) (cap := cap) (n2 := n2) (c2 := c2) (w := w))
  have hkk1 : (k : Int) * k ≤ 256 := Int.le_trans (Int.mul_le_mul (Int.ofNat_le.2 hk1) (Int.ofNat_le.2 hk1) (by omega) (by omega)) (by omega)
  have hn256 : n2 ≤ 256 := by omega
  have e1 : wrap64 ((k : Int) * k) = (n2 : Int) := by rw [← hsz]; exact IntWalk.wrap64_in _ (by omega)
  have hb : ((n2 : Int) != (n2 : Int)) = false := by simp
  have HSZ := Lib.hid (show n2 = k * k by exact_mod_cast hsz)
  have HKK := Lib.hid hk
  have HPL := Lib.hid hp
  clear hm hL hs hk hki hsz hkk1 hp
  go_enter Tryd.func33, Tryd.ntmps33
  go_wp2_with fail
  refine (HN.out _).mono ?_
  rintro e w1 ⟨rfl, hg⟩
  rw [zero_cells] at hg
  have hg1 : (thrB W H A A2 n cap n2 c2 w).grownBy w1 none := hg
  have hbk := TM.out.grown hg1 (by simp)
  have a0 : w1.cell? ⟨w.heap.size, 0, none⟩ = some (.int .i64 W) := hbk.cell 0
  have a1 : w1.cell? ⟨w.heap.size, 1, none⟩ = some (.int .i64 H) := hbk.cell 1
  have a2 : w1.cell? ⟨w.heap.size, 2, none⟩ = some (.slice A n cap) := hbk.cell 2
  have hi := (HI.out.none (by rw [TZ.out]; omega) hg1).more (B' := w1.heap.size) (gb_trans TG.out hg1).size
  have HG := Lib.hid hg1
  clear hg hg1 hbk
  go_wp2_with fail
  refine (HK.out _ hi).mono ?_
  rintro e w2 ⟨rfl, hg2⟩
  have HG2 := Lib.hid (gb_trans HG.out hg2)
  have HSq := Lib.hid (TS.out.grown HG2.out (by simp))
  have b0 : w2.cell? ⟨w.heap.size + 1, 0, none⟩ = some (.slice A2 n2 c2) := (TT.out.grown HG2.out (by simp)).cell 0
  have b1 : (w2.alloc (.cells Tryd.zeroCells82 82)).cell? ⟨w.heap.size + 1, 0, none⟩ = some (.slice A2 n2 c2) := ((TT.out.grown HG2.out (by simp)).alloc _).cell 0
  have HB2 := Lib.hid (show w.heap.size + 3 ≤ w2.heap.size by have := HG2.out.size; rw [TZ.out] at this; exact this)
  clear hg2 hi a0 a1 a2
  go_wp2_with fail
  obtain ⟨g, hg⟩ : ∃ g, w2.heap.size = g := ⟨_, rfl⟩
  rw [zero_cells]
  have HX := Lib.hid (show PortsAt W H A A2 n cap n2 c2 P w g 0 (w2.alloc (.cells (cellsX zerosX) 82)) from ⟨hg ▸ Blk.new w2 82 (cellsX zerosX), gb_alloc HG2.out _⟩)
  rw [hg, e1]
  have HGE := Lib.hid (show w.heap.size + 3 ≤ g by rw [← hg]; exact HB2.out)
  clear hg b0 b1 e1 hb
  go_loopw [29] (fun i wr => ∃ j : Nat, i = .int .i64 (j : Int) ∧ j ≤ n2 ∧ PortsAt W H A A2 n cap n2 c2 P w g j wr) (fun i _ => n2 - (intOf i).toNat)
  case atStart => exact ⟨0, rfl, Nat.zero_le _, HX.out⟩
  case round =>
    obtain ⟨j, rfl, hj, hblk, hgr⟩ := hrel
    have HBk := Lib.hid hblk
    have HGr := Lib.hid hgr
    clear hgr hblk
    by_cases hlt : j < n2
    · have hsz := HSZ.out
      have hk0 : 0 < k := Nat.pos_of_ne_zero fun e => by rw [e] at hsz; omega
      obtain ⟨b, off, rfl, hbB, hcell⟩ := (HP.out.none (by rw [TZ.out]; omega) HGr.out).at j hlt
      obtain ⟨p, hpp⟩ : ∃ p, P.getD j 0 = p := ⟨_, rfl⟩
      rw [hpp] at hcell
      obtain ⟨x, hx⟩ : ∃ x, j / k = x := ⟨_, rfl⟩
      obtain ⟨y, hy⟩ : ∃ y, j % k = y := ⟨_, rfl⟩
      have hx1 : x < k := by rw [← hx]; exact Nat.div_lt_of_lt_mul (by rw [← hsz]; exact hlt)
      have hy1 : y < k := by rw [← hy]; exact Nat.mod_lt _ hk0
      have d1 : Int.tdiv (j : Int) (k : Int) = (x : Int) := by rw [← hx]; rfl
      have d2 : Int.tmod (j : Int) (k : Int) = (y : Int) := by rw [← hy]; rfl
      have hx16 : (x : Int) < 16 := by omega
      have hy16 : (y : Int) < 16 := by omega
      obtain ⟨o, ho⟩ : ∃ o, (portsX W H P j).getD (16 * x + y) 0 = o := ⟨_, rfl⟩
      have c1 : wr.cell? ⟨g, x * 16 + y, none⟩ = some (.int .i64 o) := by rw [Nat.mul_comm x 16]; exact (HBk.out.cell (16 * x + y)).trans (cellsX_at (by rw [portsX, sqTo_length]; omega) ho)
      have f1 := HBk.out.frozen (x * 16 + y)
      have hb2 := HBk.out.set_ (x * 16 + y) (.int .i64 (portP p))
      rw [cellsX_set, show (portsX W H P j).set (x * 16 + y) (portP p) = portsX W H P (j + 1) by rw [portsX, portsX, sqTo, HKK.out, hx, hy, hpp, Nat.mul_comm x 16]] at hb2
      have HB2x := Lib.hid hb2
      have HG2x := Lib.hid (gb_setCell HGr.out (p := ⟨g, x * 16 + y, none⟩) (.inr (by rw [TZ.out]; exact HGE.out)) (.int .i64 (portP p)))
      clear hb2 hx hy hpp ho hsz
      by_cases hp0 : p < 0
      · rw [portP_out (.inl hp0)] at HB2x HG2x
        go_wp2_with fail
        go_region
        go_wp2_with fail
        go_roundw
        case rel => exact ⟨j + 1, by go_num, by omega, HB2x.out.drewN 1, gb_drew HG2x.out⟩
        case measure => simp [intOf]; omega
      · by_cases hp4 : 4 < p
        · rw [portP_out (.inr hp4)] at HB2x HG2x
          go_wp2_with fail
          go_region
          go_wp2_with fail
          go_roundw
          case rel => exact ⟨j + 1, by go_num, by omega, HB2x.out.drewN 1, gb_drew HG2x.out⟩
          case measure => simp [intOf]; omega
        · rw [portP_in (by omega) (by omega)] at HB2x HG2x
          go_wp2_with fail
          go_region
          go_wp2_with fail
          go_roundw
          case rel => exact ⟨j + 1, by go_num, by omega, HB2x.out.drewN 1, gb_drew HG2x.out⟩
          case measure => simp [intOf]; omega
    · obtain rfl : j = n2 := by omega
      go_wp2_with (first | (refine wpList_loadX rfl _ rfl g rfl (portsX W H P j) HBk.out (sqTo_length _ _ _) ?_) | (refine wpList_storeX rfl _ _ rfl (w.heap.size + 1 + 1) zerosX (portsX W H P j) rfl rfl ((TS.out.grown HGr.out (by simp))) zerosX_length (sqTo_length _ _ _) ?_; intro w3 hb3 hg3; have HB3 := Lib.hid hb3; have HG3 := Lib.hid hg3; clear hb3 hg3))
      refine bodyPost_ret (v := .tuple #[.agg (cellsX (portsX W H P j)), .bool true]) ?_ rfl ⟨by rw [HPL.out], gb_new (gb_trans TG.out HGr.out) HG3.out (by omega)⟩
      rw [results_cell_tmp rfl]
      simp [asAddr, Result.andThen, load_square HB3.out (sqTo_length _ _ _)]
end Go.Proofs.YtcmlnokfjbglaaaDoor
end

section
namespace Go.Proofs.YtcmlnokfjbglaaaDoor
open Go.ChangeShapes Go.WideShapes Go.ChangeAt Go.RowKit
set_option linter.unusedVariables false

/-- A mesh and a table as blocks. -/
def twoI (W H : Int) (A A2 : Option Addr) (n cap n2 c2 : Nat) (w : World) : World := (w.alloc (.cells (meshC W H A n cap) 28)).alloc (.cells #[.slice A2 n2 c2] 30)
section
variable {W H : Int} {A A2 : Option Addr} {n cap n2 c2 : Nat} {w wr : World}
theorem twoI_size : (twoI W H A A2 n cap n2 c2 w).heap.size = w.heap.size + 2 := by unfold twoI; rw [alloc_size, alloc_size]
theorem twoI_gb : w.grownBy (twoI W H A A2 n cap n2 c2 w) none := gb_alloc (gb_alloc (gb_refl _ _) _) _
theorem twoI_mesh (h : (twoI W H A A2 n cap n2 c2 w).grownBy wr none) : Blk wr w.heap.size 28 (meshC W H A n cap) := ((Blk.new w 28 (meshC W H A n cap)).alloc _).grown h (by simp)
theorem twoI_table (h : (twoI W H A A2 n cap n2 c2 w).grownBy wr none) : Blk wr (w.heap.size + 1) 30 #[.slice A2 n2 c2] := by
  have := Blk.new (w.alloc (.cells (meshC W H A n cap) 28)) 30 #[.slice A2 n2 c2]
  rw [alloc_size] at this
  exact this.grown h (by simp)
theorem twoI_le (h : (twoI W H A A2 n cap n2 c2 w).grownBy wr none) : w.heap.size + 2 ≤ wr.heap.size := by have := h.size; rw [twoI_size] at this; exact this
theorem twoI_old (h : (twoI W H A A2 n cap n2 c2 w).grownBy wr none) : w.grownBy wr none := gb_trans twoI_gb h
theorem IntAt.twoI {B : Option Addr} {m : Nat} {M : List Int} (h : IntAt w w.heap.size B m M) : IntAt (twoI W H A A2 n cap n2 c2 w) (twoI W H A A2 n cap n2 c2 w).heap.size B m M :=
  (h.none (Nat.le_refl _) twoI_gb).more (by rw [twoI_size]; omega)
theorem IntAt.oldI {B : Option Addr} {m : Nat} {M : List Int} (h : IntAt w w.heap.size B m M) (hg : w.grownBy wr Option.none) : IntAt wr wr.heap.size B m M :=
  (h.none (Nat.le_refl _) hg).more hg.size
end
/-- The new block of a square. -/
theorem new_square (w : World) : Blk (w.alloc (.cells Tryd.zeroCells82 82)) w.heap.size 82 (cellsX zerosX) := by
  rw [← zero_cells]; exact Blk.new w _ _
theorem gb_square {a b c : World} (h : a.grownBy b none) (k : (b.alloc (.cells Tryd.zeroCells82 82)).grownBy c (some b.heap.size)) : a.grownBy c none :=
  gb_new (gb_alloc h _) k h.size
end Go.Proofs.YtcmlnokfjbglaaaDoor
end

section
namespace Go.Proofs.YtcmlnokfjbglaaaDoor
open Go.ChangeShapes Go.WideShapes Go.ChangeAt Go.RowKit
set_option linter.unusedVariables false

/-- A new verdict: two new rows apart from each other. -/
def NewV (v : Verd) (w : World) (e : Ending) (w' : World) : Prop :=
  ∃ vr vc, e = .returned (.agg #[.int .i64 v.code, vr, vc]) ∧ VRow w' w.heap.size vr vc v.ranks.length v.cycle.length v.ranks v.cycle ∧ Below w.heap.size w w'
/-- The boxes: a mesh, a table, a verdict. -/
def vdB (W H : Int) (A A2 : Option Addr) (n cap n2 c2 : Nat) (cs : Array Value) (w : World) : World := (twoI W H A A2 n cap n2 c2 w).alloc (.cells cs 36)
section
variable {W H : Int} {A A2 : Option Addr} {n cap n2 c2 : Nat} {cs : Array Value} {w wr w' : World}
theorem vdB_size : (vdB W H A A2 n cap n2 c2 cs w).heap.size = w.heap.size + 3 := by unfold vdB; rw [alloc_size, twoI_size]
theorem vdB_gb : w.grownBy (vdB W H A A2 n cap n2 c2 cs w) none := gb_alloc twoI_gb _
/-- The boxes as they are. -/
structure VdAt (W H : Int) (A A2 : Option Addr) (n cap n2 c2 : Nat) (cs : Array Value) (w wr : World) : Prop where
  m : Blk wr w.heap.size 28 (meshC W H A n cap)
  t : Blk wr (w.heap.size + 1) 30 #[.slice A2 n2 c2]
  v : Blk wr (w.heap.size + 2) 36 cs
  g : w.grownBy wr none
theorem vdAt_start (cs : Array Value) (w : World) : VdAt W H A A2 n cap n2 c2 cs w (vdB W H A A2 n cap n2 c2 cs w) := by
  have hv := Blk.new (twoI W H A A2 n cap n2 c2 w) 36 cs
  rw [twoI_size] at hv
  exact ⟨(twoI_mesh (gb_refl _ _)).alloc _, (twoI_table (gb_refl _ _)).alloc _, hv, vdB_gb⟩
theorem VdAt.gb (h : VdAt W H A A2 n cap n2 c2 cs w wr) (hg : wr.grownBy w' none) : VdAt W H A A2 n cap n2 c2 cs w w' := ⟨h.m.grown hg (by simp), h.t.grown hg (by simp), h.v.grown hg (by simp), gb_trans h.g hg⟩
theorem VdAt.sz (h : VdAt W H A A2 n cap n2 c2 cs w wr) : w.heap.size + 3 ≤ wr.heap.size := by have := h.v.lt; omega
theorem vd_gb (wr : World) (g : Nat) (c : Int) (vr vc : Value) : wr.grownBy (((wr.setCell ⟨g, 0, none⟩ (.int .i64 c)).setCell ⟨g, 1, none⟩ vr).setCell ⟨g, 2, none⟩ vc) (some g) := by
  have g1 := gb_setCell (gb_refl wr (some g)) (p := ⟨g, 0, none⟩) (.inl rfl) (.int .i64 c)
  have g2 := gb_setCell g1 (p := ⟨g, 1, none⟩) (.inl rfl) vr
  exact gb_setCell g2 (p := ⟨g, 2, none⟩) (.inl rfl) vc
/-- The verdict is written. -/
theorem vd_put {c : Int} {vr vc : Value} (h : VdAt W H A A2 n cap n2 c2 cs w wr) : Below w.heap.size w (((wr.setCell ⟨w.heap.size + 2, 0, none⟩ (.int .i64 c)).setCell ⟨w.heap.size + 2, 1, none⟩ vr).setCell ⟨w.heap.size + 2, 2, none⟩ vc) := by
  have h0 : Below w.heap.size w wr := gb_below_none h.g (Nat.le_refl _)
  have hg : wr.grownBy (((wr.setCell ⟨w.heap.size + 2, 0, none⟩ (.int .i64 c)).setCell ⟨w.heap.size + 2, 1, none⟩ vr).setCell ⟨w.heap.size + 2, 2, none⟩ vc) (some (w.heap.size + 2)) := vd_gb wr (w.heap.size + 2) c vr vc
  exact h0.grown hg (by have := h.sz; omega) (fun j e => by cases e; omega)
theorem vd_row {c : Int} {vr vc v : Value} {k B : Nat} {xs : List Value} (h : VdAt W H A A2 n cap n2 c2 cs w wr) (ho : wr.ownsRow B 3 1 v k xs) : (((wr.setCell ⟨w.heap.size + 2, 0, none⟩ (.int .i64 c)).setCell ⟨w.heap.size + 2, 1, none⟩ vr).setCell ⟨w.heap.size + 2, 2, none⟩ vc).ownsRow B 3 1 v k xs := by
  have hg : wr.grownBy (((wr.setCell ⟨w.heap.size + 2, 0, none⟩ (.int .i64 c)).setCell ⟨w.heap.size + 2, 1, none⟩ vr).setCell ⟨w.heap.size + 2, 2, none⟩ vc) (some (w.heap.size + 2)) := vd_gb wr (w.heap.size + 2) c vr vc
  exact row_kept ho hg (fun j e => by cases e; exact own_ne ho h.v (by decide))
/-- The cells of the verdict that was written. -/
theorem vd_cells {c : Int} {vr vc a b d : Value} (h : VdAt W H A A2 n cap n2 c2 #[a, b, d] w wr) : Blk (((wr.setCell ⟨w.heap.size + 2, 0, none⟩ (.int .i64 c)).setCell ⟨w.heap.size + 2, 1, none⟩ vr).setCell ⟨w.heap.size + 2, 2, none⟩ vc) (w.heap.size + 2) 36 #[.int .i64 c, vr, vc] := by
  have := ((h.v.set_ 0 (.int .i64 c)).set_ 1 vr).set_ 2 vc
  simpa using this
end
end Go.Proofs.YtcmlnokfjbglaaaDoor
end

section
namespace Go.Proofs.YtcmlnokfjbglaaaDoor
open Go.ChangeShapes Go.WideShapes Go.ChangeAt Go.RowKit
set_option linter.unusedVariables false

/-- An index, or -1. -/
def Idx (L : List Int) (c : Int) (w : World) (e : Ending) (w' : World) : Prop := ∃ k : Int, e = .returned (.int .i64 k) ∧ decide (0 ≤ k) = inG L c ∧ w = w'
theorem implIndex (A : Option Addr) (n cap B : Nat) (L : List Int) (c : Int) (w : World) (h : IntAt w B A n L) (hn : n ≤ 1000000000) :
    Calls Tryd.prog 69 #[.slice A n cap, .int .i64 c] w (Idx L c w) := by
  have hl := h.1
  have HI := Lib.hid h
  clear h
  go_enter Tryd.func69, Tryd.ntmps69
  go_wp2_with fail
  go_loop [8] (fun i => ∃ k : Nat, i = .int .i64 (k : Int) ∧ k ≤ n ∧ ∀ j, j < k → L.getD j 0 ≠ c) (fun i => n - (intOf i).toNat)
  case atStart => exact ⟨0, rfl, Nat.zero_le _, fun j h => by omega⟩
  case round =>
    obtain ⟨k, rfl, hk, hne⟩ := hrel
    have HNE := Lib.hid hne
    clear hne
    by_cases hlt : k < n
    · obtain ⟨b, off, rfl, hb, hc⟩ := HI.out.at k hlt
      obtain ⟨x, hx⟩ : ∃ x, L.getD k 0 = x := ⟨_, rfl⟩
      rw [hx] at hc
      have HX := Lib.hid hx
      clear hx
      by_cases hxc : x = c
      · subst hxc
        go_wp2_with fail
        go_ret
        exact ⟨_, rfl, by rw [inG_yes (by omega) HX.out]; exact decide_eq_true (by omega), rfl⟩
      · have hxb : (c == x) = false := by simpa using fun e => hxc e.symm
        have HXC := Lib.hid hxc
        clear hxc
        go_wp2_with fail
        go_round
        case rel => exact ⟨k + 1, by go_num, by omega, fun j hj => by
          rcases Nat.lt_succ_iff_lt_or_eq.1 hj with h1 | rfl
          · exact HNE.out j h1
          · rw [HX.out]; exact HXC.out⟩
        case measure => simp [intOf]; omega
    · obtain rfl : k = n := by omega
      go_wp2_with fail
      go_ret
      exact ⟨-1, rfl, by rw [inG_no (fun j hj => HNE.out j (by omega))]; rfl, rfl⟩

theorem implContains (A : Option Addr) (n cap B : Nat) (L : List Int) (c : Int) (b : Bool) (hb : inG L c = b) (w : World) (h : IntAt w B A n L) (hn : n ≤ 1000000000) :
    Calls Tryd.prog 63 #[.slice A n cap, .int .i64 c] w fun e w' => e = .returned (.bool b) ∧ w = w' := by
  have HC := Lib.hid (fun w h => implIndex A n cap B L c w h hn)
  have HI := Lib.hid h
  clear h
  go_enter Tryd.func63, Tryd.ntmps63
  go_wp2_with fail
  refine (HC.out _ HI.out).mono ?_
  rintro e w1 ⟨k, rfl, hk, rfl⟩
  rw [hb] at hk
  have HK := Lib.hid hk
  clear hk hb
  go_wp2_with fail
  go_ret
  exact ⟨ret_bool (by rw [← HK.out]), rfl⟩

end Go.Proofs.YtcmlnokfjbglaaaDoor
end

section
namespace Go.Proofs.YtcmlnokfjbglaaaDoor
open Go.ChangeShapes Go.WideShapes Go.ChangeAt Go.RowKit
set_option linter.unusedVariables false

theorem implConnects (W H : Int) (A : Option Addr) (n cap : Nat) (L : List Int) (c : Int) (b : Bool) (hcw : (Lit.int .i64 c).wf = true) (hb : hasChG W H L c = b) (w : World) (h : IntAt w w.heap.size A n L) (hn : n ≤ 1000000000) :
    Calls Tryd.prog 52 #[.agg #[.int .i64 W, .int .i64 H, .slice A n cap], .int .i64 c] w (RetB b w) := by
  obtain ⟨r, hr⟩ : ∃ r, endG W H c = r := ⟨_, rfl⟩
  have HE := Lib.hid (fun w => implEnd W H c r hcw hr w)
  have HI := Lib.hid h
  have hld := leads_end W H c
  rw [hr] at hld
  clear h hcw hr
  by_cases h0 : 0 ≤ r
  · obtain ⟨q, hq⟩ : ∃ q, inG L c = q := ⟨_, rfl⟩
    have hv : b = !q := by rw [← hb, hasChG, hld, decide_eq_true h0, hq]; rfl
    have HV := Lib.hid hv
    have hd : decide (r ≥ 0) = true := decide_eq_true h0
    have HF := Lib.hid (fun w h => implContains A n cap (w.heap.size) L c q hq w h hn)
    clear hv hld hb hq
    go_enter Tryd.func52, Tryd.ntmps52
    go_wp2_with fail
    refine (HE.out _).mono ?_
    rintro e w1 ⟨rfl, hg⟩
    have hbk := boxi_blk hg
    have a2 : w1.cell? ⟨w.heap.size, 2, none⟩ = some (.slice A n cap) := hbk.cell 2
    have hi := (HI.out.none (Nat.le_refl _) (boxi_gb hg)).more (B' := w1.heap.size) (boxi_gb hg).size
    have Hg := Lib.hid (boxi_gb hg)
    clear hg hbk
    go_wp2_with fail
    refine (HF.out _ hi).mono ?_
    rintro e w2 ⟨rfl, rfl⟩
    clear hi
    go_wp2_with fail
    go_ret
    exact ⟨ret_bool (by rw [HV.out]), Hg.out⟩
  · have hv : b = false := by rw [← hb, hasChG, hld, decide_eq_false h0]; rfl
    have hd : decide (r ≥ 0) = false := decide_eq_false h0
    have HV := Lib.hid hv
    clear hv hld hb
    go_enter Tryd.func52, Tryd.ntmps52
    go_wp2_with fail
    refine (HE.out _).mono ?_
    rintro e w1 ⟨rfl, hg⟩
    have Hg := Lib.hid (boxi_gb hg)
    clear hg
    go_wp2_with fail
    go_ret
    exact ⟨ret_bool (by rw [HV.out]), Hg.out⟩
end Go.Proofs.YtcmlnokfjbglaaaDoor
end

section
namespace Go.Proofs.YtcmlnokfjbglaaaDoor
open Go.ChangeShapes Go.WideShapes Go.ChangeAt Go.RowKit
set_option linter.unusedVariables false
set_option maxRecDepth 20000

theorem end_step {W H p : Int} {x : Nat} (h0 : 0 ≤ p) (h3 : p ≤ 3) : endG W H (4 * (x : Int) + p) = nextG W H x p := by
  unfold endG
  rw [Int.tdiv_eq_ediv_of_nonneg (by omega), Int.tmod_eq_emod_of_nonneg (by omega)]
  rw [show (4 * (x : Int) + p) / 4 = x by omega, show (4 * (x : Int) + p) % 4 = p by omega]

theorem ret_two {v : Value} {a b : Bool} (h : a = b) : Ending.returned (.tuple #[v, .bool a]) = Ending.returned (.tuple #[v, .bool b]) := by rw [h]
/-- A new list of numbers, and whether there is one. -/
def NewW (L : List Int) (b : Bool) (w : World) (e : Ending) (w' : World) : Prop :=
  ∃ v, e = .returned (.tuple #[v, .bool b]) ∧ w'.ownsRow w.heap.size 3 1 v L.length (intsV L) ∧ Below w.heap.size w w'
def lenW : Value → Nat | .slice _ n _ => n | _ => 0
/-- The walk has come to x. -/
def WalkTo (W H : Int) (A : Option Addr) (n cap : Nat) (L P : List Int) (z : Nat) (res : List Int) (rb : Bool) (w : World) (acc : List Int) (x : Nat) (v : Value) (wr : World) : Prop :=
  (x : Int) < countG W H ∧ acc.length ≤ cntN W H ∧ res = restG W H L P z acc (cntN W H + 1 - acc.length) x ∧ rb = restE W H L P z (cntN W H + 1 - acc.length) x ∧
  wr.ownsRow (w.heap.size + 1) 3 1 v acc.length (intsV acc) ∧ Below (w.heap.size + 1) (w.alloc (.cells (meshC W H A n cap) 28)) wr

theorem app_to {W H : Int} {A : Option Addr} {n cap : Nat} {w w4 w5 : World} {acc : List Int} {c : Int} {v v' : Value} {o : Obj} (hb : Below (w.heap.size + 1) (w.alloc (.cells (meshC W H A n cap) 28)) w4) (ho : w4.ownsRow (w.heap.size + 1) 3 1 v acc.length (intsV acc))
    (hown5 : w5.ownsRow (w.heap.size + 1) 3 1 v' (acc.length + 1) (intsV acc ++ [.int .i64 c])) (hg : (w4.alloc o).grownBy w5 v.ownBlock) :
    w5.ownsRow (w.heap.size + 1) 3 1 v' (acc ++ [c]).length (intsV (acc ++ [c])) ∧ Below (w.heap.size + 1) (w.alloc (.cells (meshC W H A n cap) 28)) w5 ∧ lenW v' = acc.length + 1 ∧
    w5.cell? ⟨w.heap.size, 0, none⟩ = some (.int .i64 W) ∧ w5.cell? ⟨w.heap.size, 1, none⟩ = some (.int .i64 H) := by
  have hsz : w.heap.size + 1 ≤ w4.heap.size := by have h1 := hb.size; simp at h1; exact h1
  have h1 : w5.ownsRow (w.heap.size + 1) 3 1 v' (acc ++ [c]).length (intsV (acc ++ [c])) := by rw [List.length_append, intsV_append]; exact hown5
  have h2 : Below (w.heap.size + 1) (w.alloc (.cells (meshC W H A n cap) 28)) w5 := (hb.alloc hsz _).grown hg (by simp; omega) (fun j hj => (ho.lt j hj).1)
  have tm := (Blk.new w 28 (meshC W H A n cap)).below h2 (by omega)
  refine ⟨h1, h2, ?_, tm.cell 0, tm.cell 1⟩
  obtain ⟨A', c', rfl, _⟩ := own_form h1
  simp [lenW]

set_option maxHeartbeats 1600000 in
theorem implWalk (W H : Int) (A : Option Addr) (n cap : Nat) (L P X : List Int) (g a z : Nat) (hL : WfL L) (w : World) (h : IntAt w w.heap.size A n L) (hn : n ≤ 1000000000)
    (hX : isPorts W H P X) (hb : Blk w g 82 (cellsX X)) (ha : (a : Int) < countG W H) (hz : (z : Int) < countG W H) :
    Calls Tryd.prog 35 #[.pointer (some ⟨g, 0, none⟩), .agg #[.int .i64 W, .int .i64 H, .slice A n cap], .int .i64 a, .int .i64 z] w (NewW (walkOf W H L P a z) (endsG W H L P a z) w) := by
  obtain ⟨i0, hi, hz0, hz1, hz2⟩ := info_parts info_int
  have HI := Lib.hid h
  have hg := hb.lt
  have HSQ := Lib.hid (fun (wr : World) (h : Below w.heap.size w wr) (x y : Nat) (hx : (x : Int) < countG W H) (hy : (y : Int) < countG W H) => show wr.cell? ⟨g, x * 16 + y, none⟩ = some (.int .i64 (portP (tabG (countG W H) P x y))) by
    have hc := countG_le W H
    rw [Nat.mul_comm x 16]
    exact ((hb.below h hg).cell (16 * x + y)).trans (cellsX_at (by rw [hX.1]; omega) (hX.2 x y hx hy)))
  obtain ⟨res, hres⟩ : ∃ res, walkOf W H L P a z = res := ⟨_, rfl⟩
  obtain ⟨rb, hrb⟩ : ∃ rb, endsG W H L P a z = rb := ⟨_, rfl⟩
  rw [hres, hrb]
  have hsz1 : (w.alloc (.cells (meshC W H A n cap) 28)).heap.size = w.heap.size + 1 := by simp
  have HX := Lib.hid (show WalkTo W H A n cap L P z res rb w [] a (.slice none 0 0) (w.alloc (.cells (meshC W H A n cap) 28)) from
    ⟨ha, Nat.zero_le _, by rw [← hres]; exact (rest_start a z).symm, by rw [← hrb]; rfl, World.ownsRow_nil _ _ _ _, Below.refl _ _⟩)
  have HS1 := Lib.hid hsz1
  have hki := cntN_int W H
  obtain ⟨k, hk⟩ : ∃ k, cntN W H = k := ⟨_, rfl⟩
  have hk1 := cntN_le W H
  rw [hk] at hki hk1
  have HN := Lib.hid (fun w => show Calls Tryd.prog 34 #[.agg #[.int .i64 W, .int .i64 H]] w (RetI (k : Int) none w) from hki ▸ implNodeCount W H w)
  have HKI := Lib.hid hki
  have HKK := Lib.hid hk
  have HZ := Lib.hid hz
  have ha16 : (a : Int) < 16 := by omega
  have hz16 : (z : Int) < 16 := by omega
  have hgne : ¬ g = w.heap.size := by omega
  have c0 := HSQ.out (w.alloc (.cells (meshC W H A n cap) 28)) (((Below.refl _ _)).alloc (Nat.le_refl _) _) a z ha hz
  obtain ⟨q, hq⟩ : ∃ q, portP (tabG (countG W H) P a z) = q := ⟨_, rfl⟩
  rw [hq] at c0
  have HQ := Lib.hid hq
  clear h hX hb hres hrb hsz1 hki hk ha hz hq
  unfold meshC at c0
  go_enter Tryd.func35, Tryd.ntmps35
  go_wp2_with fail
  clear c0
  go_loopw [10, 11, 12] (fun v s11 s12 wr => ∃ (acc : List Int) (x : Nat), s11 = .int .i64 (x : Int) ∧ s12 = .int .i64 (portP (tabG (countG W H) P x z)) ∧ WalkTo W H A n cap L P z res rb w acc x v wr) (fun v _ _ _ => 17 - lenW v)
  case atStart => exact ⟨[], a, rfl, by rw [HQ.out], HX.out⟩
  case round =>
    obtain ⟨acc, x, rfl, rfl, hx, hl, hre, hrb, hown, hbel⟩ := hrel
    rw [HKK.out] at hl hre hrb
    obtain ⟨Aq, capq, rfl, hAq⟩ := own_form hown
    have HOwn := Lib.hid hown
    have HBel := Lib.hid hbel
    have HBo := Lib.hid (below_box hbel)
    obtain ⟨f, hf⟩ : ∃ f, k + 1 - acc.length = f + 1 := ⟨k - acc.length, by omega⟩
    rw [hf] at hre hrb
    have HF := Lib.hid hf
    have HRE := Lib.hid hre
    have HRB := Lib.hid hrb
    have HXC := Lib.hid hx
    have hx16 : (x : Int) < 16 := by have := HKI.out; omega
    obtain ⟨t, ht⟩ : ∃ t, tabG (countG W H) P x z = t := ⟨_, rfl⟩
    rw [ht]
    have HT := Lib.hid ht
    have tm := (Blk.new w 28 (meshC W H A n cap)).below hbel (by omega)
    have a0 : wr.cell? ⟨w.heap.size, 0, none⟩ = some (.int .i64 W) := tm.cell 0
    have a1 : wr.cell? ⟨w.heap.size, 1, none⟩ = some (.int .i64 H) := tm.cell 1
    have a2 : wr.cell? ⟨w.heap.size, 2, none⟩ = some (.slice A n cap) := tm.cell 2
    have hsw : w.heap.size + 1 ≤ wr.heap.size := by have h1 := hbel.size; rw [HS1.out] at h1; exact h1
    clear hown hbel hre hrb hx hf ht tm hAq
    by_cases h4 : t = 4
    · subst h4
      have hp4 : portP 4 = 4 := rfl
      rw [hp4]
      clear a0 a1 a2
      by_cases hxz : x = z
      · subst hxz
        have hxb : ((x : Int) != (x : Int)) = false := by simp
        have HF2 := Lib.hid (HRE.out.trans (rest_end HT.out rfl))
        have HF3 := Lib.hid (HRB.out.trans (restE_end HT.out rfl))
        go_wp2_with fail
        go_ret2
        refine ⟨_, ret_two HF3.out.symm, ?_, HBo.out⟩
        rw [HF2.out]
        exact own_less HOwn.out (by omega)
      · have hne : (x : Int) ≠ (z : Int) := fun e => hxz (by exact_mod_cast e)
        have hxb : ((x : Int) != (z : Int)) = true := bne_iff_ne.2 hne
        have HF2 := Lib.hid (HRE.out.trans (rest_lost HT.out hne))
        have HF3 := Lib.hid (HRB.out.trans (restE_lost HT.out hne))
        clear hxz hne
        go_wp2_with fail
        go_ret2
        refine ⟨_, ret_two HF3.out.symm, ?_, HBo.out⟩
        rw [HF2.out]
        exact World.ownsRow_nil _ _ _ _
    · have H4 := Lib.hid h4
      have h4b : (portP t != 4) = true := bne_iff_ne.2 fun e => h4 (portP_four.1 e)
      obtain ⟨q, hq⟩ : ∃ q, portP t = q := ⟨_, rfl⟩
      have hqb := portP_bounds t
      rw [hq] at h4b hqb ⊢
      by_cases h0 : q < 0
      · have hst : stepsG W H L x t = false := by
          have hs : ¬ (0 ≤ t ∧ t ≤ 3) := fun e => by rw [portP_in e.1 (by omega)] at hq; omega
          simp only [stepsG, Bool.and_eq_false_iff, decide_eq_false_iff_not]; exact .inl hs
        have HF2 := Lib.hid (HRE.out.trans (rest_bad HT.out H4.out hst))
        have HF3 := Lib.hid (HRB.out.trans (restE_bad HT.out H4.out hst))
        have e1 : wrap64 (4 * (x : Int)) = 4 * (x : Int) := IntWalk.wrap64_in _ (by omega)
        have e2 : wrap64 (4 * (x : Int) + q) = 4 * (x : Int) + q := IntWalk.wrap64_in _ (by omega)
        clear hst hq h4 a0 a1 a2
        go_wp2_with fail
        go_ret2
        refine ⟨_, ret_two HF3.out.symm, ?_, HBo.out⟩
        rw [HF2.out]
        exact World.ownsRow_nil _ _ _ _
      · have hqt : t = q := portP_in_of hq (by omega)
        subst hqt
        have ht3 : t ≤ 3 := by omega
        have e1 : wrap64 (4 * (x : Int)) = 4 * (x : Int) := IntWalk.wrap64_in _ (by omega)
        have e2 : wrap64 (4 * (x : Int) + t) = 4 * (x : Int) + t := IntWalk.wrap64_in _ (by omega)
        have hcw : (Lit.int .i64 (4 * (x : Int) + t)).wf = true := WalkArith.wf_i64 (by omega)
        have hi2 := (HI.out.below HBo.out).more (B' := wr.heap.size) (by omega)
        have TM := Lib.hid ((Blk.new w 28 (meshC W H A n cap)).below HBel.out (by omega))
        cases hc : hasChG W H L (4 * (x : Int) + t) with
        | false =>
          have hst : stepsG W H L x t = false := by simp [stepsG, hc]
          have HF2 := Lib.hid (HRE.out.trans (rest_bad HT.out H4.out hst))
          have HF3 := Lib.hid (HRB.out.trans (restE_bad HT.out H4.out hst))
          have HC := Lib.hid (fun w h => implConnects W H A n cap L (4 * (x : Int) + t) false hcw hc w h hn)
          clear hst hq h4 hc hcw
          go_wp2_with fail
          refine (HC.out _ hi2).mono ?_
          rintro e w3 ⟨rfl, hg3⟩
          have G3 := Lib.hid (below_gb HBo.out (Nat.le_refl _) hg3)
          clear hg3 hi2 a0 a1 a2
          go_wp2_with fail
          go_ret2
          refine ⟨_, ret_two HF3.out.symm, ?_, G3.out⟩
          rw [HF2.out]
          exact World.ownsRow_nil _ _ _ _
        | true =>
          have hst : stepsG W H L x t = true := by simp only [stepsG, hc, Bool.and_true, decide_eq_true_eq]; omega
          have HF2 := Lib.hid (HRE.out.trans (rest_go HT.out H4.out hst))
          have HF3 := Lib.hid (HRB.out.trans (restE_go HT.out H4.out hst))
          have HC := Lib.hid (fun w h => implConnects W H A n cap L (4 * (x : Int) + t) true hcw hc w h hn)
          obtain ⟨y, hy⟩ : ∃ y : Nat, nextG W H x t = (y : Int) := ⟨(nextG W H x t).toNat, (Int.toNat_of_nonneg (hasG_iff.1 (step_has hst)).1).symm⟩
          have hyk := (hasG_iff.1 (step_has hst)).2
          rw [hy] at hyk
          have HE := Lib.hid (fun w => implEnd W H (4 * (x : Int) + t) y hcw (by rw [end_step (by omega) ht3, hy]) w)
          have HY := Lib.hid hy
          have HYK := Lib.hid hyk
          clear hst hq h4 hc hcw hy hyk
          go_wp2_with fail
          refine (HC.out _ hi2).mono ?_
          rintro e w3 ⟨rfl, hg3⟩
          have G3 := Lib.hid hg3
          have tm3 := TM.out.grown hg3 (by simp)
          have d0 : w3.cell? ⟨w.heap.size, 0, none⟩ = some (.int .i64 W) := tm3.cell 0
          have d1 : w3.cell? ⟨w.heap.size, 1, none⟩ = some (.int .i64 H) := tm3.cell 1
          clear hg3 hi2 a0 a1 a2 tm3
          go_wp2_with fail
          refine (HN.out _).mono ?_
          rintro e w4 ⟨rfl, hg4⟩
          have G4 := Lib.hid (gb_trans G3.out hg4)
          have TM4 := Lib.hid (TM.out.grown G4.out (by simp))
          clear hg4 d0 d1
          by_cases hlk : acc.length = k
          · have hf0 : f = 0 := by have := HF.out; omega
            have hlb : ((acc.length : Int) == (k : Int)) = true := beq_iff_eq.2 (by omega)
            have G5 := Lib.hid (below_gb HBo.out (Nat.le_refl _) G4.out)
            have HG2 := Lib.hid (show res = [] by rw [HF2.out, hf0]; rfl)
            have HG3 := Lib.hid (show rb = false by rw [HF3.out, hf0]; rfl)
            clear hlk hf0
            go_wp2_with fail
            go_ret2
            refine ⟨_, ret_two HG3.out.symm, ?_, G5.out⟩
            rw [HG2.out]
            exact World.ownsRow_nil _ _ _ _
          · have hlb : ((acc.length : Int) == (k : Int)) = false := beq_false_of_ne (by omega)
            have hown1 := own_none HOwn.out G4.out
            have hsz4 : w.heap.size + 1 ≤ w4.heap.size := Nat.le_trans hsw G4.out.size
            have b3' := Lib.hid (show ∀ u ∈ [Value.int .i64 (4 * (x : Int) + t)], u.oneCell' = true by simp [Value.oneCell'])
            have b4' := Lib.hid (show acc.length + 1 ≤ maxLen by unfold maxLen; omega)
            have HLK := Lib.hid (show acc.length < k by omega)
            have HB4 := Lib.hid (below_gb HBel.out (by rw [HS1.out]; exact Nat.le_refl _) G4.out)
            clear hlk
            go_wp2_with (at_builtin; refine wpList_append_own _ rfl _ _ 26 rfl (w.heap.size + 1) 3 i0 (.int .i64 0) 1 8 Tryd.underlying26 hi hz0 hz1 hz2 rfl (by decide) _ acc.length _ rfl (hown1.alloc _) ⟨w4.heap.size, 0, none⟩ 1 1 [.int .i64 (4 * (x : Int) + t)] rfl rfl (World.news_of_block (cs := #[.int .i64 (4 * (x : Int) + t)]) (t := 3) (fr := (0, 0)) (heap_alloc_new w4 _)) b3'.out b4'.out (by omega) (by simp; omega) ?_; intro v' w5 hown5 hgrow5 _; obtain ⟨ho5, hb5, hlv, a0, a1⟩ := app_to HB4.out hown1 hown5 hgrow5; have HO5 := Lib.hid ho5; have HB5 := Lib.hid hb5; have HLV := Lib.hid hlv; clear ho5 hb5 hlv hown5 hgrow5 hown1)
            refine (HE.out _).mono ?_
            rintro e w6 ⟨rfl, hg6⟩
            have G6 := Lib.hid hg6
            have HB6 := Lib.hid (below_gb HB5.out (by rw [HS1.out]; exact Nat.le_refl _) hg6)
            have c6 := HSQ.out w6 (below_box HB6.out) y z HYK.out HZ.out
            have y16 : (y : Int) < 16 := by have := HYK.out; have := HKI.out; omega
            obtain ⟨q6, hq6⟩ : ∃ q, portP (tabG (countG W H) P y z) = q := ⟨_, rfl⟩
            rw [hq6] at c6
            have HQ6 := Lib.hid hq6
            clear hg6 a0 a1 hq6
            go_wp2_with fail
            go_roundw
            case rel => exact ⟨acc ++ [4 * (x : Int) + t], y, rfl, by rw [HQ6.out], HYK.out, by rw [HKK.out, List.length_append]; exact HLK.out, by rw [HF2.out, HY.out, HKK.out]; congr 1; have := HF.out; simp; omega, by rw [HF3.out, HY.out, HKK.out]; congr 1; have := HF.out; simp; omega, own_none HO5.out G6.out, HB6.out⟩
            case measure => rw [HLV.out]; simp [lenW]; omega
end Go.Proofs.YtcmlnokfjbglaaaDoor
end

section
namespace Go.Proofs.YtcmlnokfjbglaaaDoor
open Go.ChangeShapes Go.WideShapes Go.ChangeAt Go.RowKit
set_option linter.unusedVariables false
variable {W H : Int} {L P : List Int}

theorem pairW_at {k x y : Nat} (hk : cntN W H = k) (hy : y < k) : pairW W H L P (x * k + y) = walkOf W H L P x y := by
  have hki := cntN_int W H
  subst hk
  have e1 : ((x * cntN W H + y : Nat) : Int) / countG W H = x := by rw [← hki, ← Int.natCast_ediv, pair_div hy]
  have e2 : ((x * cntN W H + y : Nat) : Int) % countG W H = y := by rw [← hki, ← Int.natCast_emod, pair_mod hy]
  rw [pairW, e1, e2]
theorem walkG_valid {a b : Int} (h : tableG W H L P = true) (ha : hasG W H a = true) (hb : hasG W H b = true) : walkG W H L P a b = walkOf W H L P a b := by
  have hs := tableG_sized h
  unfold walkG
  by_cases e : a = b
  · subst e
    have he := tableG_entry h ha ha
    rw [entry_same, decide_eq_true_eq] at he
    rw [if_neg (by simp), walkOf, walkF_end he rfl]
    rfl
  · rw [if_pos ⟨by simp [askG, hs, ha, hb], e⟩]
theorem sqG_cnt {k : Nat} (hk : cntN W H = k) : sqG W H = k * k := by subst hk; rfl
end Go.Proofs.YtcmlnokfjbglaaaDoor
end

section
namespace Go.Proofs.YtcmlnokfjbglaaaDoor
open Go.ChangeShapes Go.WideShapes Go.ChangeAt Go.RowKit
set_option linter.unusedVariables false
set_option maxRecDepth 20000

theorem info_lists : (Tryd.prog.info? 26).map (fun i => (i.zero, i.size, i.bytes)) = some (some (.slice none 0 0), 1, 24) := by kernel_rfl
/-- A row of lists: element k is a row of the caller's own that holds the numbers of F k. -/
def ListsAt (w : World) (base : Nat) (v : Value) (N : Nat) (F : Nat → List Int) : Prop :=
  ∃ vs : List Value, w.ownsRow base 26 1 v N vs ∧ ∀ k, k < N → ∃ A c, vs[k]? = some (.slice A (F k).length c) ∧ w.ownsRow base 3 1 (.slice A (F k).length c) (F k).length (intsV (F k))
section
variable {w w' : World} {base : Nat} {v v' : Value} {N : Nat} {F : Nat → List Int}
theorem ListsAt.nil (w : World) (base : Nat) (F : Nat → List Int) : ListsAt w base (.slice none 0 0) 0 F := ⟨[], World.ownsRow_nil _ _ _ _, fun k h => by omega⟩
theorem ListsAt.gb (h : ListsAt w base v N F) (hg : w.grownBy w' none) : ListsAt w' base v N F := by
  obtain ⟨vs, ho, hi⟩ := h
  refine ⟨vs, own_none ho hg, fun k hk => ?_⟩
  obtain ⟨A, c, h1, h2⟩ := hi k hk
  exact ⟨A, c, h1, own_none h2 hg⟩
theorem ListsAt.below (h : ListsAt w base v N F) (hb : Below w.heap.size w w') : ListsAt w' base v N F := h.gb (gb_of_below hb none)
theorem ListsAt.less {b : Nat} (h : ListsAt w base v N F) (hb : b ≤ base) : ListsAt w b v N F := by
  obtain ⟨vs, ho, hi⟩ := h
  refine ⟨vs, own_less ho hb, fun k hk => ?_⟩
  obtain ⟨A, c, h1, h2⟩ := hi k hk
  exact ⟨A, c, h1, own_less h2 hb⟩
theorem ListsAt.form (h : ListsAt w base v N F) : ∃ A c, v = .slice A N c ∧ (0 < N → ∃ g, A = some ⟨g, 0, none⟩) := by obtain ⟨vs, ho, _⟩ := h; exact own_form ho
/-- A row of numbers does not lie where the row of lists lies. -/
theorem own_two {A : Option Addr} {n c k : Nat} {L : List Int} {vs : List Value} (h : w.ownsRow base 26 1 v N vs) (h2 : w.ownsRow base 3 1 (.slice A n c) k (intsV L)) : (Value.slice A n c).ownBlock = none ∨ (Value.slice A n c).ownBlock ≠ v.ownBlock := by
  rcases h2.2 with ⟨h3, _⟩ | ⟨g2, c2, cur2, h3, _, hg2, _⟩
  · rw [h3]; exact .inl rfl
  · right
    rw [h3]
    rcases h.2 with ⟨h4, _⟩ | ⟨g, c4, cur, h4, _, hg, _⟩
    · rw [h4]; intro e; cases e
    · rw [h4]
      intro e
      have e2 : g2 = g := Option.some.inj e
      subst e2
      rw [hg] at hg2
      have e3 := Option.some.inj hg2
      injection e3 with _ e4 _
      exact absurd e4 (by decide)
/-- One list more. -/
theorem ListsAt.app {A : Option Addr} {c : Nat} {o : Obj} {vs : List Value} {w4 : World} (ho : w.ownsRow base 26 1 v N vs) (hi : ∀ k, k < N → ∃ A c, vs[k]? = some (.slice A (F k).length c) ∧ w.ownsRow base 3 1 (.slice A (F k).length c) (F k).length (intsV (F k)))
    (h2 : w.ownsRow base 3 1 (.slice A (F N).length c) (F N).length (intsV (F N))) (ho4 : w4.ownsRow base 26 1 v' (N + 1) (vs ++ [.slice A (F N).length c])) (hg : (w.alloc o).grownBy w4 v.ownBlock) : ListsAt w4 base v' (N + 1) F := by
  have hvs : vs.length = N := by have := ho.1; omega
  have key : ∀ {A : Option Addr} {n c k : Nat} {L : List Int}, w.ownsRow base 3 1 (.slice A n c) k (intsV L) → w4.ownsRow base 3 1 (.slice A n c) k (intsV L) := fun h => (h.alloc o).kept hg (own_two ho h)
  refine ⟨_, ho4, fun k hk => ?_⟩
  rcases Nat.lt_succ_iff_lt_or_eq.1 hk with h | rfl
  · obtain ⟨A, c, h3, h4⟩ := hi k h
    exact ⟨A, c, by rw [List.getElem?_append_left (by omega)]; exact h3, key h4⟩
  · exact ⟨A, c, by rw [List.getElem?_append_right (by omega), hvs, Nat.sub_self]; rfl, key h2⟩
/-- One list of a row. -/
theorem ListsAt.at {A : Option Addr} {n c : Nat} (h : ListsAt w base (.slice A n c) N F) (k : Nat) (hk : k < N) : ∃ g B d, A = some ⟨g, 0, none⟩ ∧ w.cell? ⟨g, k, none⟩ = some (.slice B (F k).length d) ∧ w.ownsRow base 3 1 (.slice B (F k).length d) (F k).length (intsV (F k)) := by
  obtain ⟨vs, ho, hi⟩ := h
  obtain ⟨B, d, h1, h2⟩ := hi k hk
  obtain ⟨A', c', e, hA⟩ := own_form ho
  obtain ⟨g, hg⟩ := hA (by omega)
  simp only [Value.slice.injEq] at e
  obtain ⟨rfl, rfl, rfl⟩ := e
  subst hg
  exact ⟨g, B, d, rfl, by rw [ho.cellAt k (by omega)]; exact h1, h2⟩
theorem one_slice (A : Option Addr) (n c : Nat) : ∀ u ∈ [Value.slice A n c], u.oneCell' = true := by simp [Value.oneCell']
end
/-- A new row of lists. -/
def NewL (N : Nat) (F : Nat → List Int) (w : World) (e : Ending) (w' : World) : Prop :=
  ∃ v, e = .returned v ∧ ListsAt w' w.heap.size v N F ∧ Below w.heap.size w w'
/-- How many walks there are. -/
def wlkN (W H : Int) (L P : List Int) : Nat := if tableG W H L P then sqG W H else 0
theorem wlkN_no {W H : Int} {L P : List Int} (h : tableG W H L P = false) : wlkN W H L P = 0 := if_neg (by simp [h])
theorem wlkN_yes {W H : Int} {L P : List Int} (h : tableG W H L P = true) : wlkN W H L P = sqG W H := if_pos h
/-- The square of ports in its block, and the row of walks so far. -/
def WksAt (W H : Int) (A A2 : Option Addr) (n cap n2 c2 : Nat) (L P : List Int) (w : World) (g1 j : Nat) (v : Value) (wr : World) : Prop :=
  Blk wr g1 82 (cellsX (portsX W H P P.length)) ∧ ListsAt wr (w.heap.size + 2) v j (pairW W H L P) ∧ w.heap.size + 2 ≤ g1 ∧ Below (w.heap.size + 2) (twoI W H A A2 n cap n2 c2 w) wr
section
variable {W H : Int} {A A2 : Option Addr} {n cap n2 c2 : Nat} {L P : List Int} {w wr w' : World} {g1 j : Nat} {v : Value}
theorem WksAt.gb (h : WksAt W H A A2 n cap n2 c2 L P w g1 j v wr) (hg : wr.grownBy w' none) : WksAt W H A A2 n cap n2 c2 L P w g1 j v w' :=
  ⟨h.1.grown hg (by simp), h.2.1.gb hg, h.2.2.1, below_gb h.2.2.2 (by rw [twoI_size]; exact Nat.le_refl _) hg⟩
theorem twoI_bm (h : Below (w.heap.size + 2) (twoI W H A A2 n cap n2 c2 w) wr) : Blk wr w.heap.size 28 (meshC W H A n cap) :=
  ((Blk.new w 28 (meshC W H A n cap)).alloc _).below h (by omega)
theorem twoI_bo (h : Below (w.heap.size + 2) (twoI W H A A2 n cap n2 c2 w) wr) : Below w.heap.size w wr :=
  (gb_below_none twoI_gb (Nat.le_refl _)).trans (h.mono (by omega))
theorem twoI_bs (h : Below (w.heap.size + 2) (twoI W H A A2 n cap n2 c2 w) wr) : w.heap.size + 2 ≤ wr.heap.size := by have := h.size; rw [twoI_size] at this; exact this
theorem WksAt.cells (h : WksAt W H A A2 n cap n2 c2 L P w g1 j v wr) : wr.cell? ⟨w.heap.size, 0, none⟩ = some (.int .i64 W) ∧ wr.cell? ⟨w.heap.size, 1, none⟩ = some (.int .i64 H) ∧ wr.cell? ⟨w.heap.size, 2, none⟩ = some (.slice A n cap) :=
  ⟨(twoI_bm h.2.2.2).cell 0, (twoI_bm h.2.2.2).cell 1, (twoI_bm h.2.2.2).cell 2⟩
end
set_option maxHeartbeats 1600000 in
theorem implWalksOf (W H : Int) (A A2 : Option Addr) (n cap n2 c2 : Nat) (L P : List Int) (hL : WfL L) (w : World) (h : IntAt w w.heap.size A n L) (h2 : IntAt w w.heap.size A2 n2 P) (hn : n ≤ 1000000000) (hn2 : n2 ≤ 1000000000) :
    Calls Tryd.prog 21 #[.agg #[.int .i64 W, .int .i64 H, .slice A n cap], .agg #[.slice A2 n2 c2]] w (NewL (wlkN W H L P) (pairW W H L P) w) := by
  obtain ⟨i0, hi, hz0, hz1, hz2⟩ := info_parts info_lists
  have HI := Lib.hid h
  have HT1 := Lib.hid (h.twoI (W := W) (H := H) (A := A) (A2 := A2) (n := n) (cap := cap) (n2 := n2) (c2 := c2))
  have HT2 := Lib.hid (h2.twoI (W := W) (H := H) (A := A) (A2 := A2) (n := n) (cap := cap) (n2 := n2) (c2 := c2))
  have TZ := Lib.hid (twoI_size (W := W) (H := H) (A := A) (A2 := A2) (n := n) (cap := cap) (n2 := n2) (c2 := c2) (w := w))
  clear h h2
  obtain ⟨N, hN⟩ : ∃ N, wlkN W H L P = N := ⟨_, rfl⟩
  rw [hN]
  have HNN := Lib.hid hN
  clear hN
  cases hs : sizedG W H L P with
  | false =>
    have HPO := Lib.hid (fun w h h2 => implPortsNo W H A A2 n cap n2 c2 L P hL w h h2 hn hn2 hs)
    have HR := Lib.hid (HNN.out.symm.trans (wlkN_no (tableG_unsized hs)))
    clear hs hL
    go_enter Tryd.func21, Tryd.ntmps21
    go_wp2_with fail
    refine (HPO.out _ HT1.out HT2.out).mono ?_
    rintro e w1 ⟨rfl, hg⟩
    have HG1 := Lib.hid (show (twoI W H A A2 n cap n2 c2 w).grownBy w1 none from hg)
    clear hg
    go_wp2_with (refine wpList_storeX rfl (.tmp 5) _ rfl w1.heap.size zerosX zerosX rfl rfl (new_square w1) zerosX_length zerosX_length ?_; intro w2 hb2 hg2; have HG2 := Lib.hid (gb_square HG1.out hg2); clear hb2 hg2)
    go_ret
    exact ⟨_, rfl, by rw [HR.out]; exact ListsAt.nil _ _ _, gb_below_none (twoI_old HG2.out) (Nat.le_refl _)⟩
  | true =>
    have HPO := Lib.hid (fun w h h2 => implPortsYes W H A A2 n cap n2 c2 L P hL w h h2 hn hn2 hs)
    have HPX := Lib.hid (portsX_is hs)
    have hki := cntN_int W H
    obtain ⟨k, hk⟩ : ∃ k, cntN W H = k := ⟨_, rfl⟩
    have hk1 := cntN_le W H
    rw [hk] at hki hk1
    have HN := Lib.hid (fun w => show Calls Tryd.prog 34 #[.agg #[.int .i64 W, .int .i64 H]] w (RetI (k : Int) none w) from hki ▸ implNodeCount W H w)
    have HW := Lib.hid (fun (x y : Nat) (hx : x < k) (hy : y < k) w g h hb => implWalk W H A n cap L P (portsX W H P P.length) g x y hL w h hn HPX.out hb (by omega) (by omega))
    have HAT := Lib.hid (fun (x y : Nat) (hy : y < k) => pairW_at (L := L) (P := P) hk (x := x) hy)
    have HS := Lib.hid hs
    have HKI := Lib.hid hki
    have HKK := Lib.hid hk
    have HSQ := Lib.hid (sqG_cnt hk)
    clear hs hL hki hk
    go_enter Tryd.func21, Tryd.ntmps21
    go_wp2_with fail
    refine (HPO.out _ HT1.out HT2.out).mono ?_
    rintro e w1 ⟨rfl, hg⟩
    have HG1 := Lib.hid (show (twoI W H A A2 n cap n2 c2 w).grownBy w1 none from hg)
    clear hg
    go_wp2_with (refine wpList_storeX rfl (.tmp 5) _ rfl w1.heap.size zerosX (portsX W H P P.length) rfl rfl (new_square w1) zerosX_length (sqTo_length _ _ _) ?_; intro w2 hb2 hg2; have HX2 := Lib.hid (show WksAt W H A A2 n cap n2 c2 L P w w1.heap.size 0 (.slice none 0 0) w2 from ⟨hb2, ListsAt.nil _ _ _, twoI_le HG1.out, gb_below_none (gb_square HG1.out hg2) (by rw [TZ.out]; exact Nat.le_refl _)⟩); obtain ⟨a0, a1, _⟩ := HX2.out.cells; clear hb2 hg2)
    refine (HN.out _).mono ?_
    rintro e w3 ⟨rfl, hg3⟩
    have HX3 := Lib.hid (HX2.out.gb hg3)
    obtain ⟨g1, hg1⟩ : ∃ g, w1.heap.size = g := ⟨_, rfl⟩
    rw [hg1] at HX3
    clear a0 a1 hg3
    go_wp2_with fail
    (try rw [hg1])
    clear hg1
    go_loopw [7, 23] (fun v i wr => ∃ x : Nat, i = .int .i64 (x : Int) ∧ x ≤ k ∧ pairsTo W H L P x 0 ∧ WksAt W H A A2 n cap n2 c2 L P w g1 (x * k) v wr) (fun _ i _ => 17 - (intOf i).toNat)
    case atStart => exact ⟨0, rfl, Nat.zero_le _, pairs_zero, by rw [Nat.zero_mul]; exact HX3.out⟩
    case round =>
      obtain ⟨x, rfl, hxk, hpairs, hx⟩ := hrel
      have HP0 := Lib.hid hpairs
      have HX4 := Lib.hid hx
      obtain ⟨a0, a1, _⟩ := hx.cells
      clear hpairs hx
      by_cases hlt : x < k
      · have HXK := Lib.hid hlt
        have hx16 : (x : Int) < 16 := by omega
        go_wp2_with fail
        refine (HN.out _).mono ?_
        rintro e w4 ⟨rfl, hg4⟩
        have HX5 := Lib.hid (HX4.out.gb hg4)
        clear hg4 a0 a1
        go_wp2_with fail
        go_loopw [7, 29] (fun v i wr => ∃ y : Nat, i = .int .i64 (y : Int) ∧ y ≤ k ∧ pairsTo W H L P x y ∧ WksAt W H A A2 n cap n2 c2 L P w g1 (x * k + y) v wr) (fun _ i _ => 17 - (intOf i).toNat)
        case atStart => exact ⟨0, rfl, Nat.zero_le _, HP0.out, HX5.out⟩
        case round =>
          obtain ⟨y, rfl, hyk, hpairs, hy⟩ := hrel
          have HP1 := Lib.hid hpairs
          have HX6 := Lib.hid hy
          clear hpairs hy
          by_cases hlt2 : y < k
          · have hy16 : (y : Int) < 16 := by omega
            obtain ⟨a0, a1, a2⟩ := HX6.out.cells
            have hi2 := (HI.out.below (twoI_bo HX6.out.2.2.2)).more (B' := wr.heap.size) (twoI_bo HX6.out.2.2.2).size
            have HE := Lib.hid (ends_entry (W := W) (H := H) (L := L) (P := P) x y)
            obtain ⟨j, hj⟩ : ∃ j, x * k + y = j := ⟨_, rfl⟩
            have hj9 : j ≤ 256 := by
              have h1 : x * k ≤ 15 * 16 := Nat.mul_le_mul (by omega) (by omega)
              omega
            obtain ⟨R, hR⟩ : ∃ R, walkOf W H L P x y = R := ⟨_, rfl⟩
            have HF := Lib.hid (show pairW W H L P j = R by rw [← hj, ← hR]; exact HAT.out x y hlt2)
            have HW6 := Lib.hid (HW.out x y HXK.out hlt2 _ _ hi2 HX6.out.1)
            rw [hR] at HW6
            have HJ := Lib.hid hj
            rw [hj] at HX6
            clear hi2 hj hR
            go_wp2_with fail
            refine HW6.out.mono ?_
            rintro e w6 ⟨vq, rfl, ho6, hb6⟩
            have HX7 := Lib.hid (HX6.out.gb (gb_of_below hb6 none))
            obtain ⟨Aq, capq, rfl, _⟩ := own_form ho6
            have HO6 := Lib.hid (own_less ho6 (twoI_bs HX6.out.2.2.2))
            rw [HE.out]
            clear a0 a1 a2 ho6 hb6
            cases he : entryG W H L P x y with
            | false =>
              have hf := tableG_no (W := W) (H := H) (L := L) (P := P) (a := x) (b := y) (by rw [← HKI.out]; omega) (by rw [← HKI.out]; omega) he
              have HR := Lib.hid (HNN.out.symm.trans (wlkN_no hf))
              clear hf he
              go_wp2_with fail
              go_ret
              exact ⟨_, rfl, by rw [HR.out]; exact ListsAt.nil _ _ _, twoI_bo HX7.out.2.2.2⟩
            | true =>
              have HPn := Lib.hid (pairs_next HP1.out he)
              clear he
              obtain ⟨vs, hvo, hvi⟩ := HX7.out.2.1
              obtain ⟨Av, cv, rfl, _⟩ := own_form hvo
              have HVO := Lib.hid hvo
              have HVI := Lib.hid hvi
              have b3 := Lib.hid (one_slice Aq R.length capq)
              have b4 := Lib.hid (show j + 1 ≤ maxLen by unfold maxLen; omega)
              have b5 := Lib.hid (twoI_bs HX7.out.2.2.2)
              clear hvo hvi
              go_wp2_with (at_builtin; refine wpList_append_own _ rfl _ _ 58 rfl (w.heap.size + 2) 26 i0 (.slice none 0 0) 1 24 Tryd.underlying58 hi hz0 hz1 hz2 rfl (by decide) _ j _ rfl (HVO.out.alloc _) ⟨w6.heap.size, 0, none⟩ 1 1 [.slice Aq R.length capq] rfl rfl (World.news_of_block (cs := #[.slice Aq R.length capq]) (t := 26) (fr := (0, 0)) (heap_alloc_new w6 _)) b3.out b4.out (by omega) (by have := b5.out; simp; omega) ?_; intro v' w7 hown7 hgrow7 _)
              have HX8 := Lib.hid (show WksAt W H A A2 n cap n2 c2 L P w g1 (x * k + (y + 1)) v' w7 from by
                have h5 := HX7.out
                rw [← Nat.add_assoc, HJ.out]
                have hF := HF.out
                refine ⟨(h5.1.alloc _).grown hgrow7 (fun e => own_ne HVO.out h5.1 (by decide) e.symm), ?_, h5.2.2.1, (h5.2.2.2.alloc b5.out _).grown hgrow7 (by have := b5.out; simp; omega) (fun q hq => (HVO.out.lt q hq).1)⟩
                exact ListsAt.app (F := pairW W H L P) HVO.out HVI.out (by rw [hF]; exact HO6.out) (by rw [hF]; exact hown7) hgrow7)
              clear hown7 hgrow7
              go_wp2_with fail
              go_roundw
              case rel => exact ⟨y + 1, by go_num, by omega, HPn.out, HX8.out⟩
              case measure => simp [intOf]; omega
          · obtain rfl : y = k := by omega
            have HPr := Lib.hid (pairs_row HP1.out HKI.out)
            go_wp2_with fail
            go_roundw
            case rel => exact ⟨x + 1, by go_num, by omega, HPr.out, by rw [Nat.add_mul, Nat.one_mul]; exact HX6.out⟩
            case measure => simp [intOf]; omega
      · obtain rfl : x = k := by omega
        have hf := tableG_yes HS.out HP0.out HKI.out
        have HR := Lib.hid (show N = x * x by rw [← HNN.out, wlkN_yes hf, HSQ.out])
        clear a0 a1 hf
        go_wp2_with fail
        go_ret
        exact ⟨_, rfl, by rw [HR.out]; exact HX4.out.2.1.less (by omega), twoI_bo HX4.out.2.2.2⟩
end Go.Proofs.YtcmlnokfjbglaaaDoor
end

section
namespace Go.Proofs.YtcmlnokfjbglaaaDoor
open Go.ChangeShapes Go.WideShapes Go.ChangeAt Go.RowKit
set_option linter.unusedVariables false
set_option maxRecDepth 20000

theorem sqG_pos {W H : Int} {L P : List Int} (h : tableG W H L P = true) : 0 < sqG W H := by
  have hok := (meshG_ok (sizedG_mesh (tableG_sized h)).1).1
  obtain ⟨h1, _, h3, _⟩ := okG_iff.1 hok
  have hc : countG W H = W * H := by simp [countG, hok]
  have hp : 0 < W * H := Int.mul_pos (by omega) (by omega)
  have : 0 < (countG W H).toNat := by rw [hc]; omega
  exact Nat.mul_pos this this
theorem twoI_new {W H : Int} {A A2 : Option Addr} {n cap n2 c2 : Nat} {w w1 : World} (h : Below (twoI W H A A2 n cap n2 c2 w).heap.size (twoI W H A A2 n cap n2 c2 w) w1) : (twoI W H A A2 n cap n2 c2 w).grownBy w1 none := gb_of_below h none
theorem wlkN_small (W H : Int) (L P : List Int) : wlkN W H L P ≤ 256 := by
  unfold wlkN
  split
  · have h := cntN_le W H
    exact Nat.mul_le_mul h h
  · exact Nat.zero_le _

theorem implTableOk (W H : Int) (A A2 : Option Addr) (n cap n2 c2 : Nat) (L P : List Int) (hL : WfL L) (w : World) (h : IntAt w w.heap.size A n L) (h2 : IntAt w w.heap.size A2 n2 P) (hn : n ≤ 1000000000) (hn2 : n2 ≤ 1000000000) :
    Calls Tryd.prog 27 #[.agg #[.int .i64 W, .int .i64 H, .slice A n cap], .agg #[.slice A2 n2 c2]] w (RetB (tableG W H L P) w) := by
  have HT1 := Lib.hid (h.twoI (W := W) (H := H) (A := A) (A2 := A2) (n := n) (cap := cap) (n2 := n2) (c2 := c2))
  have HT2 := Lib.hid (h2.twoI (W := W) (H := H) (A := A) (A2 := A2) (n := n) (cap := cap) (n2 := n2) (c2 := c2))
  have HWK := Lib.hid (fun w h h2 => implWalksOf W H A A2 n cap n2 c2 L P hL w h h2 hn hn2)
  clear h h2 hL
  cases ht : tableG W H L P with
  | false =>
    rw [wlkN_no ht] at HWK
    clear ht
    go_enter Tryd.func27, Tryd.ntmps27
    go_wp2_with fail
    refine (HWK.out _ HT1.out HT2.out).mono ?_
    rintro e w1 ⟨va, rfl, hl1, hb1⟩
    obtain ⟨Aw, cw, rfl, _⟩ := hl1.form
    have G1 := Lib.hid (twoI_old (twoI_new hb1))
    clear hl1 hb1
    go_wp2_with fail
    go_ret
    exact ⟨ret_bool (by simp), G1.out⟩
  | true =>
    rw [wlkN_yes ht] at HWK
    have hp := sqG_pos ht
    obtain ⟨N, hN⟩ : ∃ N, sqG W H = N := ⟨_, rfl⟩
    rw [hN] at HWK hp
    clear ht hN
    go_enter Tryd.func27, Tryd.ntmps27
    go_wp2_with fail
    refine (HWK.out _ HT1.out HT2.out).mono ?_
    rintro e w1 ⟨va, rfl, hl1, hb1⟩
    obtain ⟨Aw, cw, rfl, _⟩ := hl1.form
    have G1 := Lib.hid (twoI_old (twoI_new hb1))
    clear hl1 hb1
    go_wp2_with fail
    go_ret
    exact ⟨ret_bool (by simp <;> omega), G1.out⟩
end Go.Proofs.YtcmlnokfjbglaaaDoor
end

section
namespace Go.Proofs.YtcmlnokfjbglaaaDoor
open Go.ChangeShapes Go.WideShapes Go.ChangeAt Go.RowKit
set_option linter.unusedVariables false

def depC (D : List Dep) : List Int := D.flatMap fun d => [d.1, d.2]
def depV (D : List Dep) : List Value := intsV (depC D)
theorem depC_nil : depC [] = [] := rfl
theorem depC_cons (d : Dep) (D : List Dep) : depC (d :: D) = d.1 :: d.2 :: depC D := rfl
theorem depC_append (D E : List Dep) : depC (D ++ E) = depC D ++ depC E := by simp [depC]
theorem depC_length (D : List Dep) : (depC D).length = D.length * 2 := by
  induction D with
  | nil => rfl
  | cons d D ih => rw [depC_cons, List.length_cons, List.length_cons, ih, List.length_cons]; omega
theorem depC_at : ∀ (D : List Dep) (k : Nat), k < D.length → (depC D)[k * 2]? = some (atD D k).1 ∧ (depC D)[k * 2 + 1]? = some (atD D k).2
  | [], k, h => by simp at h
  | d :: D, 0, h => ⟨rfl, rfl⟩
  | d :: D, k + 1, h => by
    have ih := depC_at D k (by simpa using h)
    have e1 : (k + 1) * 2 = k * 2 + 1 + 1 := by omega
    rw [depC_cons, e1]
    exact ih
theorem depC_take (D : List Dep) (i : Nat) : depC (D.take i) = (depC D).take (i * 2) := by
  induction D generalizing i with
  | nil => simp [depC_nil]
  | cons d D ih =>
    cases i with
    | zero => simp [depC_nil]
    | succ i =>
      have e1 : (i + 1) * 2 = i * 2 + 1 + 1 := by omega
      rw [List.take_succ_cons, depC_cons, depC_cons, e1, List.take_succ_cons, List.take_succ_cons, ih]
theorem depC_drop (D : List Dep) (i : Nat) : depC (D.drop i) = (depC D).drop (i * 2) := by
  induction D generalizing i with
  | nil => simp [depC_nil]
  | cons d D ih =>
    cases i with
    | zero => simp
    | succ i =>
      have e1 : (i + 1) * 2 = i * 2 + 1 + 1 := by omega
      rw [List.drop_succ_cons, depC_cons, e1, List.drop_succ_cons, List.drop_succ_cons, ih]
theorem depV_append (D E : List Dep) : depV (D ++ E) = depV D ++ depV E := by rw [depV, depC_append, intsV_append]; rfl
theorem depV_length (D : List Dep) : (depV D).length = D.length * 2 := by rw [depV, intsV_length, depC_length]
theorem depV_one (x y : Int) : depV [(x, y)] = [.int .i64 x, .int .i64 y] := rfl
theorem depV_take (D : List Dep) (i : Nat) : depV (D.take i) = (depV D).take (i * 2) := by rw [depV, depC_take, depV, intsV, intsV, List.map_take]
theorem depV_drop (D : List Dep) (i : Nat) : depV (D.drop i) = (depV D).drop (i * 2) := by rw [depV, depC_drop, depV, intsV, intsV, List.map_drop]
theorem depV_at (D : List Dep) (k : Nat) (h : k < D.length) : (depV D)[k * 2]? = some (.int .i64 (atD D k).1) ∧ (depV D)[k * 2 + 1]? = some (.int .i64 (atD D k).2) := by
  obtain ⟨h1, h2⟩ := depC_at D k h
  simp [depV, intsV, h1, h2]
theorem depV_one1 (D : List Dep) : ∀ v ∈ depV D, v.oneCell' = true := by
  intro v hv
  simp only [depV, intsV, List.mem_map] at hv
  obtain ⟨x, _, rfl⟩ := hv
  rfl

/-- The slice's n elements are those of D, in a block below B. -/
def DepAt (w : World) (B : Nat) (A : Option Addr) (n : Nat) (D : List Dep) : Prop :=
  D.length = n ∧ (0 < n → ∃ b off, A = some ⟨b, off, none⟩ ∧ b < B ∧ ∀ k, k < n → w.cell? ⟨b, off + k * 2, none⟩ = some (.int .i64 (atD D k).1) ∧ w.cell? ⟨b, off + k * 2 + 1, none⟩ = some (.int .i64 (atD D k).2))
section
variable {w w' : World} {B B' n : Nat} {A : Option Addr} {D : List Dep}
theorem DepAt.keep (h : DepAt w B A n D) (hk : ∀ p : Addr, p.block < B → w'.cell? p = w.cell? p) : DepAt w' B A n D := ⟨h.1, fun hn => by
  obtain ⟨b, off, hA, hb, hc⟩ := h.2 hn
  exact ⟨b, off, hA, hb, fun k hk' => ⟨(hk _ hb).trans (hc k hk').1, (hk _ hb).trans (hc k hk').2⟩⟩⟩
theorem DepAt.more (h : DepAt w B A n D) (hB : B ≤ B') : DepAt w B' A n D := ⟨h.1, fun hn => by
  obtain ⟨b, off, hA, hb, hc⟩ := h.2 hn
  exact ⟨b, off, hA, by omega, hc⟩⟩
theorem DepAt.grown {row : Option Nat} (h : DepAt w B A n D) (hB : B ≤ w.heap.size) (hg : w.grownBy w' row) (hr : ∀ k, row = some k → B ≤ k) : DepAt w' B A n D :=
  h.keep fun p hp => World.cell?_of_block (hg.block p.block (by omega) (fun e => by have := hr _ e.symm; omega))
theorem DepAt.none (h : DepAt w B A n D) (hB : B ≤ w.heap.size) (hg : w.grownBy w' none) : DepAt w' B A n D := h.grown hB hg (fun k e => by cases e)
theorem DepAt.below (h : DepAt w B A n D) (hb : Below B w w') : DepAt w' B A n D := h.keep fun p hp => World.cell?_of_block (hb.block p.block hp)
theorem DepAt.nil (w : World) (B : Nat) (A : Option Addr) : DepAt w B A 0 [] := ⟨rfl, fun h => by omega⟩
/-- One element. -/
theorem DepAt.at (h : DepAt w B A n D) (k : Nat) (hk : k < n) : ∃ b off, A = some ⟨b, off, Option.none⟩ ∧ b < B ∧ w.cell? ⟨b, off + k * 2, Option.none⟩ = some (.int .i64 (atD D k).1) ∧ w.cell? ⟨b, off + k * 2 + 1, Option.none⟩ = some (.int .i64 (atD D k).2) := by
  obtain ⟨b, off, hA, hb, hc⟩ := h.2 (by omega)
  exact ⟨b, off, hA, hb, hc k hk⟩
end
theorem dep_cell {w : World} {base n g cap : Nat} {D : List Dep} (h : w.ownsRow base 62 2 (.slice (some ⟨g, 0, none⟩) n cap) n (depV D)) (k : Nat) (hk : k < D.length) :
    w.cell? ⟨g, k * 2, none⟩ = some (.int .i64 (atD D k).1) ∧ w.cell? ⟨g, k * 2 + 1, none⟩ = some (.int .i64 (atD D k).2) := by
  have hl := h.1
  rw [depV_length] at hl
  obtain ⟨h1, h2⟩ := depV_at D k hk
  exact ⟨(h.cellAt (k * 2) (by omega)).trans h1, (h.cellAt (k * 2 + 1) (by omega)).trans h2⟩
theorem own_dep_length {w : World} {base n : Nat} {v : Value} {D : List Dep} (h : w.ownsRow base 62 2 v n (depV D)) : D.length = n := by
  have := h.1
  rw [depV_length] at this
  omega
theorem depAt_own {w : World} {base n B cap : Nat} {A : Option Addr} {D : List Dep} (h : w.ownsRow base 62 2 (.slice A n cap) n (depV D)) (hB : w.heap.size ≤ B) : DepAt w B A n D :=
  ⟨own_dep_length h, fun hn => by
    have hl := own_dep_length h
    obtain ⟨A', cap', hv, ha⟩ := own_form h
    obtain ⟨g, hg⟩ := ha hn
    obtain ⟨rfl, rfl⟩ : A = A' ∧ cap = cap' := by injection hv with h1 h2 h3; exact ⟨h1, h3⟩
    subst hg
    exact ⟨g, 0, rfl, by have := (h.lt g rfl).2; omega, fun k hk => by rw [Nat.zero_add]; exact dep_cell h k (by omega)⟩⟩
/-- A new list of dependencies. -/
def NewD (D : List Dep) (w : World) (e : Ending) (w' : World) : Prop :=
  ∃ v, e = .returned v ∧ w'.ownsRow w.heap.size 62 2 v D.length (depV D) ∧ Below w.heap.size w w'
theorem own_nilD {D : List Dep} (h : D = []) (w : World) (base : Nat) : w.ownsRow base 62 2 (.slice none 0 0) D.length (depV D) := by subst h; exact World.ownsRow_nil _ _ _ _
def depX (d : Dep) : Value := .agg #[.int .i64 d.1, .int .i64 d.2]
/-- A dependency in a box of the callee's own. -/
def boxD (d : Dep) (w : World) : World := w.alloc (.cells #[.int .i64 d.1, .int .i64 d.2] 62)
theorem boxD_gb (d : Dep) (w : World) : w.grownBy (boxD d w) none := gb_alloc (gb_refl _ _) _
theorem boxD_blk (d : Dep) (w : World) : Blk (boxD d w) w.heap.size 62 #[.int .i64 d.1, .int .i64 d.2] := Blk.new w 62 #[.int .i64 d.1, .int .i64 d.2]
theorem info_dep : (Tryd.prog.info? 62).map (fun i => (i.zero, i.size, i.bytes)) = some (some (.agg #[.int .i64 0, .int .i64 0]), 2, 16) := by kernel_rfl
end Go.Proofs.YtcmlnokfjbglaaaDoor
end

section
namespace Go.Proofs.YtcmlnokfjbglaaaDoor
open Go.ChangeShapes Go.WideShapes Go.ChangeAt Go.RowKit
set_option linter.unusedVariables false
set_option maxRecDepth 20000

theorem gb_dr {a b : World} {row : Option Nat} (h : a.drew.grownBy b row) : a.grownBy b row := ⟨h.os, h.tape, h.output, h.size, h.block⟩
theorem cell_more {w : World} {p : Addr} {v : Value} (h : w.cell? p = some v) (o : Obj) : (w.alloc o).cell? p = some v := (gb_alloc (gb_refl w none) o).cell h (by simp)
theorem libNaN (x : Int) (w : World) : Calls Tryd.prog 56 #[.int .i64 x] w (RetB false w) := by
  go_enter Tryd.func56, Tryd.ntmps56
  go_wp2_with fail
  go_ret
  exact ⟨by simp, gb_refl _ _⟩
theorem libCompare (x y : Int) (w : World) : Calls Tryd.prog 39 #[.int .i64 x, .int .i64 y] w (RetI (cmpI x y) none w) := by
  have N1 := Lib.hid (fun w => libNaN x w)
  have N2 := Lib.hid (fun w => libNaN y w)
  rcases Int.lt_trichotomy x y with h | h | h
  · have hr : cmpI x y = -1 := if_pos h
    have HR := Lib.hid hr
    clear hr
    go_enter Tryd.func39, Tryd.ntmps39
    go_wp2_with fail
    refine (N1.out _).mono ?_
    rintro e w1 ⟨rfl, hg1⟩
    have G1 := Lib.hid hg1
    clear hg1
    go_wp2_with fail
    refine (N2.out _).mono ?_
    rintro e w2 ⟨rfl, hg2⟩
    have G2 := Lib.hid (gb_trans G1.out hg2)
    clear hg2
    go_wp2_with fail
    go_ret
    exact ⟨by rw [HR.out]; rfl, G2.out⟩
  · have hr : cmpI x y = 0 := cmpI_zero.2 h
    have HR := Lib.hid hr
    subst h
    clear hr
    go_enter Tryd.func39, Tryd.ntmps39
    go_wp2_with fail
    refine (N1.out _).mono ?_
    rintro e w1 ⟨rfl, hg1⟩
    have G1 := Lib.hid hg1
    clear hg1
    go_wp2_with fail
    refine (N2.out _).mono ?_
    rintro e w2 ⟨rfl, hg2⟩
    have G2 := Lib.hid (gb_trans G1.out hg2)
    clear hg2
    go_wp2_with fail
    go_ret
    exact ⟨by rw [HR.out]; rfl, G2.out⟩
  · have hr : cmpI x y = 1 := by unfold cmpI; rw [if_neg (by omega), if_pos h]
    have HR := Lib.hid hr
    have hn : ¬ x < y := by omega
    clear hr
    go_enter Tryd.func39, Tryd.ntmps39
    go_wp2_with fail
    refine (N1.out _).mono ?_
    rintro e w1 ⟨rfl, hg1⟩
    have G1 := Lib.hid hg1
    clear hg1
    go_wp2_with fail
    refine (N2.out _).mono ?_
    rintro e w2 ⟨rfl, hg2⟩
    have G2 := Lib.hid (gb_trans G1.out hg2)
    clear hg2
    go_wp2_with fail
    go_ret
    exact ⟨by rw [HR.out]; rfl, G2.out⟩

/-- cmp.Or of two numbers. -/
theorem libOr (g : Nat) (x y : Int) (w : World) (h0 : w.cell? ⟨g, 0, none⟩ = some (.int .i64 x)) (h1 : w.cell? ⟨g, 1, none⟩ = some (.int .i64 y)) :
    Calls Tryd.prog 38 #[.slice (some ⟨g, 0, none⟩) 2 2] w (RetI (if x ≠ 0 then x else y) none w) := by
  by_cases hx : x = 0
  · subst hx
    by_cases hy : y = 0
    · subst hy
      have H0 := Lib.hid h0
      have H1 := Lib.hid h1
      clear h0 h1
      go_enter Tryd.func38, Tryd.ntmps38
      go_wp2_with fail
      go_loopw [8] (fun i wr => ∃ k m : Nat, i = .int .i64 (k : Int) ∧ k ≤ 2 ∧ wr = w.drewN m) (fun i _ => 2 - (intOf i).toNat)
      case atStart => exact ⟨0, 0, rfl, by omega, rfl⟩
      case round =>
        obtain ⟨k, m, rfl, hk, rfl⟩ := hrel
        have e0 : (w.drewN m).cell? ⟨g, 0, none⟩ = some (.int .i64 0) := H0.out
        have e1 : (w.drewN m).cell? ⟨g, 1, none⟩ = some (.int .i64 0) := H1.out
        rcases (show k = 0 ∨ k = 1 ∨ k = 2 by omega) with rfl | rfl | rfl
        · go_wp2_with fail
          go_roundw
          case rel => exact ⟨1, _, rfl, by omega, rfl⟩
          case measure => simp [intOf]
        · go_wp2_with fail
          go_roundw
          case rel => exact ⟨2, _, rfl, by omega, rfl⟩
          case measure => simp [intOf]
        · go_wp2_with fail
          go_ret
          exact ⟨by simp, gb_drewN (gb_refl _ _) _⟩
    · have H0 := Lib.hid h0
      have H1 := Lib.hid h1
      clear h0 h1
      go_enter Tryd.func38, Tryd.ntmps38
      go_wp2_with fail
      go_loopw [8] (fun i wr => ∃ k m : Nat, i = .int .i64 (k : Int) ∧ k ≤ 1 ∧ wr = w.drewN m) (fun i _ => 2 - (intOf i).toNat)
      case atStart => exact ⟨0, 0, rfl, by omega, rfl⟩
      case round =>
        obtain ⟨k, m, rfl, hk, rfl⟩ := hrel
        have e0 : (w.drewN m).cell? ⟨g, 0, none⟩ = some (.int .i64 0) := H0.out
        have e1 : (w.drewN m).cell? ⟨g, 1, none⟩ = some (.int .i64 y) := H1.out
        rcases (show k = 0 ∨ k = 1 by omega) with rfl | rfl
        · go_wp2_with fail
          go_roundw
          case rel => exact ⟨1, _, rfl, by omega, rfl⟩
          case measure => simp [intOf]
        · go_wp2_with fail
          go_ret
          exact ⟨by simp, gb_drewN (gb_refl _ _) _⟩
  · have H0 := Lib.hid h0
    have H1 := Lib.hid h1
    clear h0 h1
    go_enter Tryd.func38, Tryd.ntmps38
    go_wp2_with fail
    go_loopw [8] (fun i wr => ∃ m : Nat, i = .int .i64 0 ∧ wr = w.drewN m) (fun i _ => 2 - (intOf i).toNat)
    case atStart => exact ⟨0, rfl, rfl⟩
    case round =>
      obtain ⟨m, rfl, rfl⟩ := hrel
      have e0 : (w.drewN m).cell? ⟨g, 0, none⟩ = some (.int .i64 x) := H0.out
      go_wp2_with fail
      go_ret
      exact ⟨by simp, gb_drewN (gb_refl _ _) _⟩

abbrev twoD (a b : Dep) (w : World) : World := (w.alloc (.cells #[.int .i64 a.1, .int .i64 a.2] 62)).alloc (.cells #[.int .i64 b.1, .int .i64 b.2] 62)
theorem twoD_a (a b : Dep) (w : World) : Blk (twoD a b w) w.heap.size 62 #[.int .i64 a.1, .int .i64 a.2] := (Blk.new w 62 #[.int .i64 a.1, .int .i64 a.2]).alloc _
theorem twoD_b (a b : Dep) (w : World) : Blk (twoD a b w) (w.heap.size + 1) 62 #[.int .i64 b.1, .int .i64 b.2] := by
  have h := Blk.new (w.alloc (.cells #[.int .i64 a.1, .int .i64 a.2] 62)) 62 #[.int .i64 b.1, .int .i64 b.2]
  rw [alloc_size] at h
  exact h
theorem twoD_gb (a b : Dep) (w : World) : w.grownBy (twoD a b w) none := gb_alloc (gb_alloc (gb_refl _ _) _) _

theorem or_c0 (w : World) (x y : Value) (t : TypeId) : (w.alloc (.cells #[x, y] t)).cell? ⟨w.heap.size, 0, none⟩ = some x := by rw [World.cell?_alloc_at (w := w) #[x, y] t w.heap.size 0 rfl]; rfl
theorem or_c1 (w : World) (x y : Value) (t : TypeId) : (w.alloc (.cells #[x, y] t)).cell? ⟨w.heap.size, 1, none⟩ = some y := by rw [World.cell?_alloc_at (w := w) #[x, y] t w.heap.size 1 rfl]; rfl
theorem libOrD (a b : Dep) (r : Int) (hr : cmpD a b = r) (w : World) :
    Calls Tryd.prog 38 #[.slice (some ⟨w.heap.size, 0, none⟩) 2 2] (w.alloc (.cells #[.int .i64 (cmpI a.1 b.1), .int .i64 (cmpI a.2 b.2)] 3)) (RetI r none (w.alloc (.cells #[.int .i64 (cmpI a.1 b.1), .int .i64 (cmpI a.2 b.2)] 3))) := by
  subst hr
  exact libOr w.heap.size (cmpI a.1 b.1) (cmpI a.2 b.2) _ (or_c0 w _ _ _) (or_c1 w _ _ _)
theorem implCompare (a b : Dep) (w : World) : Calls Tryd.prog 23 #[.agg #[.int .i64 a.1, .int .i64 a.2], .agg #[.int .i64 b.1, .int .i64 b.2]] w (RetI (cmpD a b) none w) := by
  have C1 := Lib.hid (fun w => libCompare a.1 b.1 w)
  have C2 := Lib.hid (fun w => libCompare a.2 b.2 w)
  obtain ⟨r, hr⟩ : ∃ r, cmpD a b = r := ⟨_, rfl⟩
  have CO := Lib.hid (fun (w : World) => libOrD a b r hr w)
  rw [hr]
  clear hr
  have TA := Lib.hid (twoD_a a b w)
  have TB := Lib.hid (twoD_b a b w)
  have TG := Lib.hid (twoD_gb a b w)
  obtain ⟨a1, a2⟩ := a
  obtain ⟨b1, b2⟩ := b
  have a0 : (twoD (a1, a2) (b1, b2) w).cell? ⟨w.heap.size, 0, none⟩ = some (.int .i64 a1) := TA.out.cell 0
  have a3 : (twoD (a1, a2) (b1, b2) w).cell? ⟨w.heap.size, 1, none⟩ = some (.int .i64 a2) := TA.out.cell 1
  have b0 : (twoD (a1, a2) (b1, b2) w).cell? ⟨w.heap.size + 1, 0, none⟩ = some (.int .i64 b1) := TB.out.cell 0
  have b3 : (twoD (a1, a2) (b1, b2) w).cell? ⟨w.heap.size + 1, 1, none⟩ = some (.int .i64 b2) := TB.out.cell 1
  have G0 := Lib.hid (gb_refl (twoD (a1, a2) (b1, b2) w) none)
  obtain ⟨B, hB⟩ : ∃ B, w.heap.size = B := ⟨_, rfl⟩
  rw [hB] at a0 a3 b0 b3
  go_enter Tryd.func23, Tryd.ntmps23
  go_wp2_with fail
  go_region_held3 (fun w' => w'.cell? ⟨B, 0, none⟩ = some (.int .i64 a1) ∧ w'.cell? ⟨B, 1, none⟩ = some (.int .i64 a2) ∧ w'.cell? ⟨B + 1, 0, none⟩ = some (.int .i64 b1) ∧ w'.cell? ⟨B + 1, 1, none⟩ = some (.int .i64 b2))
    (first | exact ⟨a0, a3, b0, b3⟩ | exact ⟨d0, d1, d2, d3⟩ | exact ⟨k0, k1, k2, k3⟩ | exact ⟨f0, f1, f2, f3⟩ | exact ⟨cell_more f0 _, cell_more f1 _, cell_more f2 _, cell_more f3 _⟩ | fail)
    (first
      | (go_at_call 39; (with_reducible refine (C1.out _).mono ?_); rintro e w4 ⟨rfl, hg4⟩; have h4 := gb_dr hg4; have d0 := h4.cell a0 (by simp); have d1 := h4.cell a3 (by simp); have d2 := h4.cell b0 (by simp); have d3 := h4.cell b3 (by simp); have G4 := Lib.hid h4; clear h4 hg4)
      | (go_at_call 39; (with_reducible refine (C2.out _).mono ?_); rintro e w5 ⟨rfl, hg5⟩; have h5 := hg5; have f0 := h5.cell d0 (by simp); have f1 := h5.cell d1 (by simp); have f2 := h5.cell d2 (by simp); have f3 := h5.cell d3 (by simp); have G5 := Lib.hid h5; clear h5 hg5)
      | (go_at_call 38; (with_reducible refine (CO.out _).mono ?_); rintro e w6 ⟨rfl, hg6⟩; have k0 := hg6.cell (cell_more f0 _) (by simp); have k1 := hg6.cell (cell_more f1 _) (by simp); have k2 := hg6.cell (cell_more f2 _) (by simp); have k3 := hg6.cell (cell_more f3 _) (by simp); have G6 := Lib.hid hg6; clear hg6)
      | fail)
  all_goals
    have G7 := Lib.hid (gb_trans TG.out (gb_trans G4.out (gb_trans G5.out (gb_trans (gb_alloc (gb_refl _ _) _) G6.out))))
    clear k0 k1 k2 k3 f0 f1 f2 f3 d0 d1 d2 d3 a0 a3 b0 b3 G4 G5 G6
    go_wp2_with fail
    go_ret
    exact ⟨rfl, G7.out⟩
end Go.Proofs.YtcmlnokfjbglaaaDoor
end
