/- What is proved here: sets of turns as mathematics, and which turns the ways of a table take; nothing of the program; the ways of a valid table between the nodes of a pair; nothing of the program; the program's list of the walks between all pairs of nodes: empty for a table that is not valid, else the walk of each pair in its order; only new blocks are written; the dependencies of a table as mathematics: the pairs of channels that follow each other on the ways between all pairs of nodes; nothing of the program; what the library's binary search finds in an ascending list of dependencies, with the program's comparison; only new blocks are written; the library's insertion of one dependency into a list of the caller's own: the list with the element at its place, in the same memory or in a new block; what the program's insert makes of an ascending list of the caller's own and one dependency: the same list if it is there, else the list with it at its place; what the program's DependsOf returns, for all arguments; only new blocks are written; what the program's SuccessorsOf and ShiftDepends return; only new blocks are written; what the program's ShiftDepends returns; only new blocks are written; the second channel of a dependency of a table begins where the first one ends; what merging with a table's dependencies and shifting back yield; nothing of the program; DrawDepends returns an ascending list of dependencies between small channels; only new blocks are written; the law on merged and shifted dependencies answers true, for every draw; only new blocks are written; small facts on four rows of numbers of a call's own that lie in different blocks; nothing of the program; small facts on two rows of numbers that lie apart from each other; nothing of the program; what stays where only an interval of blocks and new blocks are written, and facts that hang on an interval of blocks alone; nothing of the program; what the laws' copy of a list and their comparison of two lists return; only new blocks are written; what the laws' count of a slice of integers returns; nothing is written; the laws' copy of a grid is the same grid, for all grids; only new blocks are written; the laws' helpers for meshes (size, copy, compare, mark); only the marked row and new blocks are written; the laws' helpers for tables (size, copy, compare, mark); only the marked row and new blocks are written; the laws' helpers for pairs of tables (count, copy, compare); only new blocks are written; a mesh and a pair of tables in boxes of a call's own; nothing of the program; orders of channels as mathematics: the next channel without a rank and without predecessors that lack one, the order that ranking them one by one yields, and that it is one; nothing of the program; walks along dependencies as mathematics: numbers of steps, least numbers of steps, that they are at most 128, that either an order or a cycle exists; nothing of the program. -/
import Derived.Test.YtcmlnokfjbglaaaMB
import Derived.Shelf.Abstract
import Derived.Shelf.Spec.SlicesInsertGrow
import Derived.Laws.StructEq
section
namespace Go.Proofs.Ytcmlnokfjbglaaa
open Go.ChangeShapes Go.WideShapes Go.ChangeAt Go.RowKit
set_option linter.unusedVariables false

/-- The numbers below k that a set has, ascending. -/
def setL (f : Nat → Bool) (k : Nat) : List Int := ((List.range k).filter f).map fun j : Nat => (j : Int)
theorem setL_zero (f : Nat → Bool) : setL f 0 = [] := rfl
theorem setL_yes {f : Nat → Bool} {k : Nat} (h : f k = true) : setL f (k + 1) = setL f k ++ [(k : Int)] := by
  simp [setL, List.range_succ, List.filter_append, h]
theorem setL_no {f : Nat → Bool} {k : Nat} (h : f k = false) : setL f (k + 1) = setL f k := by
  simp [setL, List.range_succ, List.filter_append, h]
theorem setL_len (f : Nat → Bool) (k : Nat) : (setL f k).length ≤ k := by
  unfold setL
  rw [List.length_map]
  exact Nat.le_trans (List.length_filter_le _ _) (by simp)
theorem setL_congr {f g : Nat → Bool} {k : Nat} (h : ∀ x, x < k → f x = g x) : setL f k = setL g k := by
  unfold setL
  congr 1
  exact List.filter_congr fun x hx => h x (List.mem_range.1 hx)
theorem setL_mem {f : Nat → Bool} {k : Nat} {x : Int} : x ∈ setL f k ↔ ∃ j : Nat, j < k ∧ x = (j : Int) ∧ f j = true := by
  unfold setL
  simp only [List.mem_map, List.mem_filter, List.mem_range]
  exact ⟨fun ⟨j, ⟨h1, h2⟩, h3⟩ => ⟨j, h1, h3.symm, h2⟩, fun ⟨j, h1, h2, h3⟩ => ⟨j, ⟨h1, h3⟩, h2.symm⟩⟩
theorem setL_sorted (f : Nat → Bool) (k : Nat) : (setL f k).Pairwise (fun a b => a < b) := by
  induction k with
  | zero => exact List.Pairwise.nil
  | succ k ih =>
    cases h : f k with
    | false => rw [setL_no h]; exact ih
    | true =>
      rw [setL_yes h]
      refine List.pairwise_append.2 ⟨ih, List.pairwise_singleton _ _, fun a ha b hb => ?_⟩
      obtain ⟨j, hj, rfl, _⟩ := setL_mem.1 ha
      simp at hb
      omega

/-- A set with one more turn. -/
def withT (f : Nat → Bool) (p q : Int) (x : Nat) : Bool := f x || decide (p ≠ q ∧ 4 * p + q = (x : Int))
theorem withT_same {f : Nat → Bool} {p q : Int} (h : p = q) : withT f p q = f := by
  funext x; simp [withT, h]
/-- The turns from one port to the first k of some ports. -/
def rowT (p : Int) (T : List Int) (k : Nat) (x : Nat) : Bool := (List.range k).any fun j => decide (p ≠ T.getD j 0 ∧ 4 * p + T.getD j 0 = (x : Int))
/-- The turns from the first k of some ports to others. -/
def crossT (F T : List Int) (k : Nat) (x : Nat) : Bool := (List.range k).any fun i => rowT (F.getD i 0) T T.length x
def orT (f g : Nat → Bool) (x : Nat) : Bool := f x || g x
theorem orT_none (f : Nat → Bool) {g : Nat → Bool} (h : ∀ x, g x = false) : orT f g = f := by funext x; simp [orT, h]
theorem row_zero (p : Int) (T : List Int) (x : Nat) : rowT p T 0 x = false := rfl
theorem cross_zero (F T : List Int) (x : Nat) : crossT F T 0 x = false := rfl
theorem row_next (f : Nat → Bool) (p q : Int) (T : List Int) (k : Nat) (h : T.getD k 0 = q) : withT (orT f (rowT p T k)) p q = orT f (rowT p T (k + 1)) := by
  funext x
  simp only [withT, orT, rowT, List.range_succ, List.any_append, List.any_cons, List.any_nil, Bool.or_false, h, Bool.or_assoc]
theorem cross_next (f : Nat → Bool) (p : Int) (F T : List Int) (k : Nat) (h : F.getD k 0 = p) : orT (orT f (crossT F T k)) (rowT p T T.length) = orT f (crossT F T (k + 1)) := by
  funext x
  simp only [orT, crossT, List.range_succ, List.any_append, List.any_cons, List.any_nil, Bool.or_false, h, Bool.or_assoc]

/-- The turn that a way takes behind its channel j. -/
def hitT (R : List Int) (j : Nat) (x : Nat) : Bool := decide (R.getD j 0 % 4 ≠ R.getD (j + 1) 0 % 4 ∧ 4 * (R.getD j 0 % 4) + R.getD (j + 1) 0 % 4 = (x : Int))
def wayT (R : List Int) (k : Nat) (x : Nat) : Bool := (List.range k).any fun j => hitT R j x
theorem way_zero (R : List Int) (x : Nat) : wayT R 0 x = false := rfl
theorem way_next (f : Nat → Bool) (R : List Int) (k : Nat) (p q : Int) (hp : R.getD k 0 % 4 = p) (hq : R.getD (k + 1) 0 % 4 = q) : withT (orT f (wayT R k)) p q = orT f (wayT R (k + 1)) := by
  funext x
  simp only [withT, orT, wayT, hitT, List.range_succ, List.any_append, List.any_cons, List.any_nil, Bool.or_false, hp, hq, Bool.or_assoc]
variable {W H : Int} {L P : List Int}
/-- The way of the pair of nodes number i. -/
def pairW (W H : Int) (L P : List Int) (i : Nat) : List Int := walkOf W H L P ((i : Int) / countG W H) ((i : Int) % countG W H)
def allT (W H : Int) (L P : List Int) (k : Nat) (x : Nat) : Bool := (List.range k).any fun i => wayT (pairW W H L P i) ((pairW W H L P i).length - 1) x
theorem all_zero (x : Nat) : allT W H L P 0 x = false := rfl
theorem all_next {k : Nat} {R : List Int} (h : pairW W H L P k = R) : orT (allT W H L P k) (wayT R (R.length - 1)) = allT W H L P (k + 1) := by
  funext x
  simp only [orT, allT, List.range_succ, List.any_append, List.any_cons, List.any_nil, Bool.or_false, h]
def turnsG (W H : Int) (L P : List Int) : List Int := if tableG W H L P then setL (allT W H L P (sqG W H)) 16 else []
theorem turnsG_yes (h : tableG W H L P = true) : turnsG W H L P = setL (allT W H L P (sqG W H)) 16 := if_pos h
theorem turnsG_no (h : tableG W H L P = false) : turnsG W H L P = [] := if_neg (by simp [h])
theorem turnsG_len : (turnsG W H L P).length ≤ 16 := by
  unfold turnsG; split
  · exact setL_len _ _
  · simp

/-- The channels of a way are numbers below 64. -/
theorem walkF_range {z : Int} : ∀ (f : Nat) (a : Int) (l : List Int), walkF W H L P z f a = some l → ∀ c ∈ l, 0 ≤ c ∧ c < 64
  | 0, a, l, h => by simp [walkF] at h
  | f + 1, a, l, h => by
    have hcl := countG_le W H
    rcases walk_cases h with ⟨rfl, _⟩ | ⟨c, t, rfl, _, hc, _, _, ht⟩
    · simp
    · intro d hd
      rcases List.mem_cons.1 hd with rfl | hd
      · simp only [hasChG, leadsG, Bool.and_eq_true, decide_eq_true_eq] at hc
        omega
      · exact walkF_range f _ t ht d hd
theorem pairW_range {i j : Nat} (h : j < (pairW W H L P i).length) : 0 ≤ (pairW W H L P i).getD j 0 ∧ (pairW W H L P i).getD j 0 < 64 := by
  unfold pairW walkOf at h ⊢
  cases hw : walkF W H L P ((i : Int) % countG W H) ((countG W H).toNat + 1) ((i : Int) / countG W H) with
  | none => simp [hw] at h
  | some l =>
    simp only [hw, Option.getD_some] at h ⊢
    have he : l.getD j 0 = l[j] := by simp [List.getD, List.getElem?_eq_getElem h]
    rw [he]
    exact walkF_range _ _ _ hw _ (List.getElem_mem h)
theorem pairW_len (i : Nat) : (pairW W H L P i).length ≤ 16 := walkOf_len _ _

/-- The turns of a rule. -/
def ruleL (r : Int) : List Int := if r = 1 then [4, 6, 12, 14] else if r = 2 then [1, 3, 9, 11] else if r = 3 then [1, 9, 12, 13, 14] else if r = 4 then [1, 3, 4, 6, 9, 11, 12, 14] else []
theorem ruleL_len (r : Int) : (ruleL r).length ≤ 16 := by
  unfold ruleL
  (repeat' split) <;> simp
/-- The turns of a rule as the model marks them. -/
def ruleF (r : Int) (x : Nat) : Bool :=
  if r = 1 then decide (x / 4 % 2 ≠ x % 4 % 2) && decide (x / 4 % 2 = 1) else if r = 2 then decide (x / 4 % 2 ≠ x % 4 % 2) && !decide (x / 4 % 2 = 1)
  else if r = 3 then decide (x / 4 = 3) && decide (x % 4 ≠ 3) || !decide (x / 4 % 2 = 1) && decide (x % 4 = 1) else if r = 4 then decide (x / 4 % 2 ≠ x % 4 % 2) else false
theorem rule_set (r : Int) : setL (ruleF r) 16 = ruleL r := by
  by_cases h1 : r = 1
  · subst h1; decide
  by_cases h2 : r = 2
  · subst h2; decide
  by_cases h3 : r = 3
  · subst h3; decide
  by_cases h4 : r = 4
  · subst h4; decide
  have e : ∀ x, ruleF r x = false := fun x => by simp [ruleF, h1, h2, h3, h4]
  have e2 : ruleL r = [] := by simp [ruleL, h1, h2, h3, h4]
  rw [e2, setL, List.filter_eq_nil_iff.2 (fun x _ => by simp [e x])]
  rfl

/-- Is it a turn back? -/
def backT (x : Int) : Bool := decide (0 ≤ x ∧ x ≤ 15) && decide (x % 4 = oppG (x / 4))
/-- A turn's name. -/
def nameT (x : Int) : ByteArray := if decide (0 ≤ x ∧ x ≤ 15) && decide (x / 4 ≠ x % 4) then portB (x / 4) ++ ⟨#[45]⟩ ++ portB (x % 4) else ⟨#[]⟩
theorem portB_size (p : Int) : (portB p).size ≤ 5 := by
  unfold portB
  (repeat' split) <;> decide
def allowsG (W H : Int) (L P T : List Int) : Bool := tableG W H L P && (turnsG W H L P).all fun x => inG T x
end Go.Proofs.Ytcmlnokfjbglaaa
end

section
namespace Go.Proofs.Ytcmlnokfjbglaaa
open Go.ChangeShapes Go.WideShapes Go.ChangeAt Go.RowKit
set_option linter.unusedVariables false
variable {W H : Int} {L P : List Int}

theorem pairW_at {k x y : Nat} (hk : cntN W H = k) (hy : y < k) : pairW W H L P (x * k + y) = walkOf W H L P x y := by
  have hki := cntN_int W H
  subst hk
  have e1 : ((x * cntN W H + y : Nat) : Int) / countG W H = x := by rw [← hki, ← Int.natCast_ediv, pair_div hy]
  have e2 : ((x * cntN W H + y : Nat) : Int) % countG W H = y := by rw [← hki, ← Int.natCast_emod, pair_mod hy]
  rw [pairW, e1, e2]
theorem walkG_valid {a b : Int} (h : tableG W H L P = true) (ha : hasG W H a = true) (hb : hasG W H b = true) : walkG W H L P a b = walkOf W H L P a b := by
  have hs := tableG_sized h
  unfold walkG
  by_cases e : a = b
  · subst e
    have he := tableG_entry h ha ha
    rw [entry_same, decide_eq_true_eq] at he
    rw [if_neg (by simp), walkOf, walkF_end he rfl]
    rfl
  · rw [if_pos ⟨by simp [askG, hs, ha, hb], e⟩]
theorem sqG_cnt {k : Nat} (hk : cntN W H = k) : sqG W H = k * k := by subst hk; rfl
end Go.Proofs.Ytcmlnokfjbglaaa
end

section
namespace Go.Proofs.Ytcmlnokfjbglaaa
open Go.ChangeShapes Go.WideShapes Go.ChangeAt Go.RowKit
set_option linter.unusedVariables false
set_option maxRecDepth 20000

theorem info_lists : (Try.prog.info? 28).map (fun i => (i.zero, i.size, i.bytes)) = some (some (.slice none 0 0), 1, 24) := by kernel_rfl
/-- A row of lists: element k is a row of the caller's own that holds the numbers of F k. -/
def ListsAt (w : World) (base : Nat) (v : Value) (N : Nat) (F : Nat → List Int) : Prop :=
  ∃ vs : List Value, w.ownsRow base 28 1 v N vs ∧ ∀ k, k < N → ∃ A c, vs[k]? = some (.slice A (F k).length c) ∧ w.ownsRow base 3 1 (.slice A (F k).length c) (F k).length (intsV (F k))
section
variable {w w' : World} {base : Nat} {v v' : Value} {N : Nat} {F : Nat → List Int}
theorem ListsAt.nil (w : World) (base : Nat) (F : Nat → List Int) : ListsAt w base (.slice none 0 0) 0 F := ⟨[], World.ownsRow_nil _ _ _ _, fun k h => by omega⟩
theorem ListsAt.gb (h : ListsAt w base v N F) (hg : w.grownBy w' none) : ListsAt w' base v N F := by
  obtain ⟨vs, ho, hi⟩ := h
  refine ⟨vs, own_none ho hg, fun k hk => ?_⟩
  obtain ⟨A, c, h1, h2⟩ := hi k hk
  exact ⟨A, c, h1, own_none h2 hg⟩
theorem ListsAt.below (h : ListsAt w base v N F) (hb : Below w.heap.size w w') : ListsAt w' base v N F := h.gb (gb_of_below hb none)
theorem ListsAt.less {b : Nat} (h : ListsAt w base v N F) (hb : b ≤ base) : ListsAt w b v N F := by
  obtain ⟨vs, ho, hi⟩ := h
  refine ⟨vs, own_less ho hb, fun k hk => ?_⟩
  obtain ⟨A, c, h1, h2⟩ := hi k hk
  exact ⟨A, c, h1, own_less h2 hb⟩
theorem ListsAt.form (h : ListsAt w base v N F) : ∃ A c, v = .slice A N c ∧ (0 < N → ∃ g, A = some ⟨g, 0, none⟩) := by obtain ⟨vs, ho, _⟩ := h; exact own_form ho
/-- A row of numbers does not lie where the row of lists lies. -/
theorem own_two {A : Option Addr} {n c k : Nat} {L : List Int} {vs : List Value} (h : w.ownsRow base 28 1 v N vs) (h2 : w.ownsRow base 3 1 (.slice A n c) k (intsV L)) : (Value.slice A n c).ownBlock = none ∨ (Value.slice A n c).ownBlock ≠ v.ownBlock := by
  rcases h2.2 with ⟨h3, _⟩ | ⟨g2, c2, cur2, h3, _, hg2, _⟩
  · rw [h3]; exact .inl rfl
  · right
    rw [h3]
    rcases h.2 with ⟨h4, _⟩ | ⟨g, c4, cur, h4, _, hg, _⟩
    · rw [h4]; intro e; cases e
    · rw [h4]
      intro e
      have e2 : g2 = g := Option.some.inj e
      subst e2
      rw [hg] at hg2
      have e3 := Option.some.inj hg2
      injection e3 with _ e4 _
      exact absurd e4 (by decide)
/-- One list more. -/
theorem ListsAt.app {A : Option Addr} {c : Nat} {o : Obj} {vs : List Value} {w4 : World} (ho : w.ownsRow base 28 1 v N vs) (hi : ∀ k, k < N → ∃ A c, vs[k]? = some (.slice A (F k).length c) ∧ w.ownsRow base 3 1 (.slice A (F k).length c) (F k).length (intsV (F k)))
    (h2 : w.ownsRow base 3 1 (.slice A (F N).length c) (F N).length (intsV (F N))) (ho4 : w4.ownsRow base 28 1 v' (N + 1) (vs ++ [.slice A (F N).length c])) (hg : (w.alloc o).grownBy w4 v.ownBlock) : ListsAt w4 base v' (N + 1) F := by
  have hvs : vs.length = N := by have := ho.1; omega
  have key : ∀ {A : Option Addr} {n c k : Nat} {L : List Int}, w.ownsRow base 3 1 (.slice A n c) k (intsV L) → w4.ownsRow base 3 1 (.slice A n c) k (intsV L) := fun h => (h.alloc o).kept hg (own_two ho h)
  refine ⟨_, ho4, fun k hk => ?_⟩
  rcases Nat.lt_succ_iff_lt_or_eq.1 hk with h | rfl
  · obtain ⟨A, c, h3, h4⟩ := hi k h
    exact ⟨A, c, by rw [List.getElem?_append_left (by omega)]; exact h3, key h4⟩
  · exact ⟨A, c, by rw [List.getElem?_append_right (by omega), hvs, Nat.sub_self]; rfl, key h2⟩
/-- One list of a row. -/
theorem ListsAt.at {A : Option Addr} {n c : Nat} (h : ListsAt w base (.slice A n c) N F) (k : Nat) (hk : k < N) : ∃ g B d, A = some ⟨g, 0, none⟩ ∧ w.cell? ⟨g, k, none⟩ = some (.slice B (F k).length d) ∧ w.ownsRow base 3 1 (.slice B (F k).length d) (F k).length (intsV (F k)) := by
  obtain ⟨vs, ho, hi⟩ := h
  obtain ⟨B, d, h1, h2⟩ := hi k hk
  obtain ⟨A', c', e, hA⟩ := own_form ho
  obtain ⟨g, hg⟩ := hA (by omega)
  simp only [Value.slice.injEq] at e
  obtain ⟨rfl, rfl, rfl⟩ := e
  subst hg
  exact ⟨g, B, d, rfl, by rw [ho.cellAt k (by omega)]; exact h1, h2⟩
theorem one_slice (A : Option Addr) (n c : Nat) : ∀ u ∈ [Value.slice A n c], u.oneCell' = true := by simp [Value.oneCell']
end
/-- A new row of lists. -/
def NewL (N : Nat) (F : Nat → List Int) (w : World) (e : Ending) (w' : World) : Prop :=
  ∃ v, e = .returned v ∧ ListsAt w' w.heap.size v N F ∧ Below w.heap.size w w'
/-- How many walks there are. -/
def wlkN (W H : Int) (L P : List Int) : Nat := if tableG W H L P then sqG W H else 0
theorem wlkN_no {W H : Int} {L P : List Int} (h : tableG W H L P = false) : wlkN W H L P = 0 := if_neg (by simp [h])
theorem wlkN_yes {W H : Int} {L P : List Int} (h : tableG W H L P = true) : wlkN W H L P = sqG W H := if_pos h
/-- The square of ports in its block, and the row of walks so far. -/
def WksAt (W H : Int) (A A2 : Option Addr) (n cap n2 c2 : Nat) (L P : List Int) (w : World) (g1 j : Nat) (v : Value) (wr : World) : Prop :=
  Blk wr g1 116 (cellsX (portsX W H P P.length)) ∧ ListsAt wr (w.heap.size + 2) v j (pairW W H L P) ∧ w.heap.size + 2 ≤ g1 ∧ Below (w.heap.size + 2) (twoI W H A A2 n cap n2 c2 w) wr
section
variable {W H : Int} {A A2 : Option Addr} {n cap n2 c2 : Nat} {L P : List Int} {w wr w' : World} {g1 j : Nat} {v : Value}
theorem WksAt.gb (h : WksAt W H A A2 n cap n2 c2 L P w g1 j v wr) (hg : wr.grownBy w' none) : WksAt W H A A2 n cap n2 c2 L P w g1 j v w' :=
  ⟨h.1.grown hg (by simp), h.2.1.gb hg, h.2.2.1, below_gb h.2.2.2 (by rw [twoI_size]; exact Nat.le_refl _) hg⟩
theorem twoI_bm (h : Below (w.heap.size + 2) (twoI W H A A2 n cap n2 c2 w) wr) : Blk wr w.heap.size 30 (meshC W H A n cap) :=
  ((Blk.new w 30 (meshC W H A n cap)).alloc _).below h (by omega)
theorem twoI_bo (h : Below (w.heap.size + 2) (twoI W H A A2 n cap n2 c2 w) wr) : Below w.heap.size w wr :=
  (gb_below_none twoI_gb (Nat.le_refl _)).trans (h.mono (by omega))
theorem twoI_bs (h : Below (w.heap.size + 2) (twoI W H A A2 n cap n2 c2 w) wr) : w.heap.size + 2 ≤ wr.heap.size := by have := h.size; rw [twoI_size] at this; exact this
theorem WksAt.cells (h : WksAt W H A A2 n cap n2 c2 L P w g1 j v wr) : wr.cell? ⟨w.heap.size, 0, none⟩ = some (.int .i64 W) ∧ wr.cell? ⟨w.heap.size, 1, none⟩ = some (.int .i64 H) ∧ wr.cell? ⟨w.heap.size, 2, none⟩ = some (.slice A n cap) :=
  ⟨(twoI_bm h.2.2.2).cell 0, (twoI_bm h.2.2.2).cell 1, (twoI_bm h.2.2.2).cell 2⟩
end
set_option maxHeartbeats 1600000 in
theorem implWalksOf (W H : Int) (A A2 : Option Addr) (n cap n2 c2 : Nat) (L P : List Int) (hL : WfL L) (w : World) (h : IntAt w w.heap.size A n L) (h2 : IntAt w w.heap.size A2 n2 P) (hn : n ≤ 1000000000) (hn2 : n2 ≤ 1000000000) :
    Calls Try.prog 54 #[.agg #[.int .i64 W, .int .i64 H, .slice A n cap], .agg #[.slice A2 n2 c2]] w (NewL (wlkN W H L P) (pairW W H L P) w) := by
  obtain ⟨i0, hi, hz0, hz1, hz2⟩ := info_parts info_lists
  have HI := Lib.hid h
  have HT1 := Lib.hid (h.twoI (W := W) (H := H) (A := A) (A2 := A2) (n := n) (cap := cap) (n2 := n2) (c2 := c2))
  have HT2 := Lib.hid (h2.twoI (W := W) (H := H) (A := A) (A2 := A2) (n := n) (cap := cap) (n2 := n2) (c2 := c2))
  have TZ := Lib.hid (twoI_size (W := W) (H := H) (A := A) (A2 := A2) (n := n) (cap := cap) (n2 := n2) (c2 := c2) (w := w))
  clear h h2
  obtain ⟨N, hN⟩ : ∃ N, wlkN W H L P = N := ⟨_, rfl⟩
  rw [hN]
  have HNN := Lib.hid hN
  clear hN
  cases hs : sizedG W H L P with
  | false =>
    have HPO := Lib.hid (fun w h h2 => implPortsNo W H A A2 n cap n2 c2 L P hL w h h2 hn hn2 hs)
    have HR := Lib.hid (HNN.out.symm.trans (wlkN_no (tableG_unsized hs)))
    clear hs hL
    go_enter Try.func54, Try.ntmps54
    go_wp2_with fail
    refine (HPO.out _ HT1.out HT2.out).mono ?_
    rintro e w1 ⟨rfl, hg⟩
    have HG1 := Lib.hid (show (twoI W H A A2 n cap n2 c2 w).grownBy w1 none from hg)
    clear hg
    go_wp2_with (refine wpList_storeX rfl (.tmp 5) _ rfl w1.heap.size zerosX zerosX rfl rfl (new_square w1) zerosX_length zerosX_length ?_; intro w2 hb2 hg2; have HG2 := Lib.hid (gb_square HG1.out hg2); clear hb2 hg2)
    go_ret
    exact ⟨_, rfl, by rw [HR.out]; exact ListsAt.nil _ _ _, gb_below_none (twoI_old HG2.out) (Nat.le_refl _)⟩
  | true =>
    have HPO := Lib.hid (fun w h h2 => implPortsYes W H A A2 n cap n2 c2 L P hL w h h2 hn hn2 hs)
    have HPX := Lib.hid (portsX_is hs)
    have hki := cntN_int W H
    obtain ⟨k, hk⟩ : ∃ k, cntN W H = k := ⟨_, rfl⟩
    have hk1 := cntN_le W H
    rw [hk] at hki hk1
    have HN := Lib.hid (fun w => show Calls Try.prog 85 #[.agg #[.int .i64 W, .int .i64 H]] w (RetI (k : Int) none w) from hki ▸ implNodeCount W H w)
    have HW := Lib.hid (fun (x y : Nat) (hx : x < k) (hy : y < k) w g h hb => implWalk W H A n cap L P (portsX W H P P.length) g x y hL w h hn HPX.out hb (by omega) (by omega))
    have HAT := Lib.hid (fun (x y : Nat) (hy : y < k) => pairW_at (L := L) (P := P) hk (x := x) hy)
    have HS := Lib.hid hs
    have HKI := Lib.hid hki
    have HKK := Lib.hid hk
    have HSQ := Lib.hid (sqG_cnt hk)
    clear hs hL hki hk
    go_enter Try.func54, Try.ntmps54
    go_wp2_with fail
    refine (HPO.out _ HT1.out HT2.out).mono ?_
    rintro e w1 ⟨rfl, hg⟩
    have HG1 := Lib.hid (show (twoI W H A A2 n cap n2 c2 w).grownBy w1 none from hg)
    clear hg
    go_wp2_with (refine wpList_storeX rfl (.tmp 5) _ rfl w1.heap.size zerosX (portsX W H P P.length) rfl rfl (new_square w1) zerosX_length (sqTo_length _ _ _) ?_; intro w2 hb2 hg2; have HX2 := Lib.hid (show WksAt W H A A2 n cap n2 c2 L P w w1.heap.size 0 (.slice none 0 0) w2 from ⟨hb2, ListsAt.nil _ _ _, twoI_le HG1.out, gb_below_none (gb_square HG1.out hg2) (by rw [TZ.out]; exact Nat.le_refl _)⟩); obtain ⟨a0, a1, _⟩ := HX2.out.cells; clear hb2 hg2)
    refine (HN.out _).mono ?_
    rintro e w3 ⟨rfl, hg3⟩
    have HX3 := Lib.hid (HX2.out.gb hg3)
    obtain ⟨g1, hg1⟩ : ∃ g, w1.heap.size = g := ⟨_, rfl⟩
    rw [hg1] at HX3
    clear a0 a1 hg3
    go_wp2_with fail
    (try rw [hg1])
    clear hg1
    go_loopw [7, 23] (fun v i wr => ∃ x : Nat, i = .int .i64 (x : Int) ∧ x ≤ k ∧ pairsTo W H L P x 0 ∧ WksAt W H A A2 n cap n2 c2 L P w g1 (x * k) v wr) (fun _ i _ => 17 - (intOf i).toNat)
    case atStart => exact ⟨0, rfl, Nat.zero_le _, pairs_zero, by rw [Nat.zero_mul]; exact HX3.out⟩
    case round =>
      obtain ⟨x, rfl, hxk, hpairs, hx⟩ := hrel
      have HP0 := Lib.hid hpairs
      have HX4 := Lib.hid hx
      obtain ⟨a0, a1, _⟩ := hx.cells
      clear hpairs hx
      by_cases hlt : x < k
      · have HXK := Lib.hid hlt
        have hx16 : (x : Int) < 16 := by omega
        go_wp2_with fail
        refine (HN.out _).mono ?_
        rintro e w4 ⟨rfl, hg4⟩
        have HX5 := Lib.hid (HX4.out.gb hg4)
        clear hg4 a0 a1
        go_wp2_with fail
        go_loopw [7, 29] (fun v i wr => ∃ y : Nat, i = .int .i64 (y : Int) ∧ y ≤ k ∧ pairsTo W H L P x y ∧ WksAt W H A A2 n cap n2 c2 L P w g1 (x * k + y) v wr) (fun _ i _ => 17 - (intOf i).toNat)
        case atStart => exact ⟨0, rfl, Nat.zero_le _, HP0.out, HX5.out⟩
        case round =>
          obtain ⟨y, rfl, hyk, hpairs, hy⟩ := hrel
          have HP1 := Lib.hid hpairs
          have HX6 := Lib.hid hy
          clear hpairs hy
          by_cases hlt2 : y < k
          · have hy16 : (y : Int) < 16 := by omega
            obtain ⟨a0, a1, a2⟩ := HX6.out.cells
            have hi2 := (HI.out.below (twoI_bo HX6.out.2.2.2)).more (B' := wr.heap.size) (twoI_bo HX6.out.2.2.2).size
            have HE := Lib.hid (ends_entry (W := W) (H := H) (L := L) (P := P) x y)
            obtain ⟨j, hj⟩ : ∃ j, x * k + y = j := ⟨_, rfl⟩
            have hj9 : j ≤ 256 := by
              have h1 : x * k ≤ 15 * 16 := Nat.mul_le_mul (by omega) (by omega)
              omega
            obtain ⟨R, hR⟩ : ∃ R, walkOf W H L P x y = R := ⟨_, rfl⟩
            have HF := Lib.hid (show pairW W H L P j = R by rw [← hj, ← hR]; exact HAT.out x y hlt2)
            have HW6 := Lib.hid (HW.out x y HXK.out hlt2 _ _ hi2 HX6.out.1)
            rw [hR] at HW6
            have HJ := Lib.hid hj
            rw [hj] at HX6
            clear hi2 hj hR
            go_wp2_with fail
            refine HW6.out.mono ?_
            rintro e w6 ⟨vq, rfl, ho6, hb6⟩
            have HX7 := Lib.hid (HX6.out.gb (gb_of_below hb6 none))
            obtain ⟨Aq, capq, rfl, _⟩ := own_form ho6
            have HO6 := Lib.hid (own_less ho6 (twoI_bs HX6.out.2.2.2))
            rw [HE.out]
            clear a0 a1 a2 ho6 hb6
            cases he : entryG W H L P x y with
            | false =>
              have hf := tableG_no (W := W) (H := H) (L := L) (P := P) (a := x) (b := y) (by rw [← HKI.out]; omega) (by rw [← HKI.out]; omega) he
              have HR := Lib.hid (HNN.out.symm.trans (wlkN_no hf))
              clear hf he
              go_wp2_with fail
              go_ret
              exact ⟨_, rfl, by rw [HR.out]; exact ListsAt.nil _ _ _, twoI_bo HX7.out.2.2.2⟩
            | true =>
              have HPn := Lib.hid (pairs_next HP1.out he)
              clear he
              obtain ⟨vs, hvo, hvi⟩ := HX7.out.2.1
              obtain ⟨Av, cv, rfl, _⟩ := own_form hvo
              have HVO := Lib.hid hvo
              have HVI := Lib.hid hvi
              have b3 := Lib.hid (one_slice Aq R.length capq)
              have b4 := Lib.hid (show j + 1 ≤ maxLen by unfold maxLen; omega)
              have b5 := Lib.hid (twoI_bs HX7.out.2.2.2)
              clear hvo hvi
              go_wp2_with (at_builtin; refine wpList_append_own _ rfl _ _ 85 rfl (w.heap.size + 2) 28 i0 (.slice none 0 0) 1 24 Try.underlying85 hi hz0 hz1 hz2 rfl (by decide) _ j _ rfl (HVO.out.alloc _) ⟨w6.heap.size, 0, none⟩ 1 1 [.slice Aq R.length capq] rfl rfl (World.news_of_block (cs := #[.slice Aq R.length capq]) (t := 28) (fr := (0, 0)) (heap_alloc_new w6 _)) b3.out b4.out (by omega) (by have := b5.out; simp; omega) ?_; intro v' w7 hown7 hgrow7 _)
              have HX8 := Lib.hid (show WksAt W H A A2 n cap n2 c2 L P w g1 (x * k + (y + 1)) v' w7 from by
                have h5 := HX7.out
                rw [← Nat.add_assoc, HJ.out]
                have hF := HF.out
                refine ⟨(h5.1.alloc _).grown hgrow7 (fun e => own_ne HVO.out h5.1 (by decide) e.symm), ?_, h5.2.2.1, (h5.2.2.2.alloc b5.out _).grown hgrow7 (by have := b5.out; simp; omega) (fun q hq => (HVO.out.lt q hq).1)⟩
                exact ListsAt.app (F := pairW W H L P) HVO.out HVI.out (by rw [hF]; exact HO6.out) (by rw [hF]; exact hown7) hgrow7)
              clear hown7 hgrow7
              go_wp2_with fail
              go_roundw
              case rel => exact ⟨y + 1, by go_num, by omega, HPn.out, HX8.out⟩
              case measure => simp [intOf]; omega
          · obtain rfl : y = k := by omega
            have HPr := Lib.hid (pairs_row HP1.out HKI.out)
            go_wp2_with fail
            go_roundw
            case rel => exact ⟨x + 1, by go_num, by omega, HPr.out, by rw [Nat.add_mul, Nat.one_mul]; exact HX6.out⟩
            case measure => simp [intOf]; omega
      · obtain rfl : x = k := by omega
        have hf := tableG_yes HS.out HP0.out HKI.out
        have HR := Lib.hid (show N = x * x by rw [← HNN.out, wlkN_yes hf, HSQ.out])
        clear a0 a1 hf
        go_wp2_with fail
        go_ret
        exact ⟨_, rfl, by rw [HR.out]; exact HX4.out.2.1.less (by omega), twoI_bo HX4.out.2.2.2⟩
end Go.Proofs.Ytcmlnokfjbglaaa
end

section
namespace Go.Proofs.Ytcmlnokfjbglaaa
open Go.ChangeShapes Go.WideShapes Go.ChangeAt Go.RowKit
set_option linter.unusedVariables false

/-- The first j pairs of a way. -/
def wayD (R : List Int) (j : Nat) : List Dep := (List.range j).map fun t => (R.getD t 0, R.getD (t + 1) 0)
theorem wayD_zero (R : List Int) : wayD R 0 = [] := rfl
theorem wayD_length (R : List Int) (j : Nat) : (wayD R j).length = j := by simp [wayD]
theorem wayD_next (R : List Int) (j : Nat) : wayD R (j + 1) = wayD R j ++ [(R.getD j 0, R.getD (j + 1) 0)] := by
  unfold wayD
  rw [List.range_succ, List.map_append]
  rfl
theorem ins_way {D : List Dep} {R : List Int} {j : Nat} {x y : Int} (hx : R.getD j 0 = x) (hy : R.getD (j + 1) 0 = y) : insD (insAll D (wayD R j)) (x, y) = insAll D (wayD R (j + 1)) := by
  rw [wayD_next, insAll_append, hx, hy]
  rfl
section
variable {W H : Int} {L P : List Int}
/-- The pairs of the first k ways. -/
def allD (W H : Int) (L P : List Int) : Nat → List Dep
  | 0 => []
  | k + 1 => insAll (allD W H L P k) (wayD (pairW W H L P k) ((pairW W H L P k).length - 1))
theorem allD_asc : ∀ k, ascD (allD W H L P k)
  | 0 => asc_nil
  | k + 1 => insAll_asc (allD_asc k) _
theorem allD_next {k : Nat} {R : List Int} (h : pairW W H L P k = R) : insAll (allD W H L P k) (wayD R (R.length - 1)) = allD W H L P (k + 1) := by subst h; rfl
theorem allD_len : ∀ k, (allD W H L P k).length ≤ k * 16
  | 0 => Nat.le_refl _
  | k + 1 => by
    have h1 := (insAll_length (allD W H L P k) (wayD (pairW W H L P k) ((pairW W H L P k).length - 1))).1
    have h2 := allD_len k
    have h3 := pairW_len (W := W) (H := H) (L := L) (P := P) k
    rw [wayD_length] at h1
    show (insAll _ _).length ≤ _
    omega
theorem ins_len {k j : Nat} {R : List Int} (hk : k ≤ 256) (hj : j ≤ 16) : (insAll (allD W H L P k) (wayD R j)).length ≤ 5000 := by
  have h1 := (insAll_length (allD W H L P k) (wayD R j)).1
  have h2 := allD_len (W := W) (H := H) (L := L) (P := P) k
  rw [wayD_length] at h1
  omega
theorem mem_allD : ∀ {k : Nat} {d : Dep}, d ∈ allD W H L P k → ∃ i j, i < k ∧ j + 1 < (pairW W H L P i).length ∧ d = ((pairW W H L P i).getD j 0, (pairW W H L P i).getD (j + 1) 0)
  | 0, d, h => by cases h
  | k + 1, d, h => by
    rcases mem_insAll.1 h with h | h
    · obtain ⟨i, j, h1, h2, h3⟩ := mem_allD h
      exact ⟨i, j, by omega, h2, h3⟩
    · unfold wayD at h
      obtain ⟨j, h1, rfl⟩ := List.mem_map.1 h
      have := List.mem_range.1 h1
      exact ⟨k, j, Nat.lt_succ_self k, by omega, rfl⟩
def depG (W H : Int) (L P : List Int) : List Dep := if tableG W H L P then allD W H L P (sqG W H) else []
theorem depG_yes (h : tableG W H L P = true) : depG W H L P = allD W H L P (sqG W H) := if_pos h
theorem depG_no (h : tableG W H L P = false) : depG W H L P = [] := if_neg (by simp [h])
theorem sqG_le : sqG W H ≤ 256 := by
  have h := cntN_le W H
  exact Nat.mul_le_mul h h
theorem depG_asc : ascD (depG W H L P) := by
  unfold depG
  split
  · exact allD_asc _
  · exact asc_nil
theorem depG_len : (depG W H L P).length ≤ 4096 := by
  unfold depG
  split
  · have h1 := allD_len (W := W) (H := H) (L := L) (P := P) (sqG W H)
    have h2 := sqG_le (W := W) (H := H)
    omega
  · simp
theorem depG_in {d : Dep} (h : d ∈ depG W H L P) : 0 ≤ d.1 ∧ d.1 < 64 ∧ 0 ≤ d.2 ∧ d.2 < 64 := by
  unfold depG at h
  split at h
  · obtain ⟨i, j, _, h2, rfl⟩ := mem_allD h
    have h3 := pairW_range (W := W) (H := H) (L := L) (P := P) (i := i) (j := j) (by omega)
    have h4 := pairW_range (W := W) (H := H) (L := L) (P := P) (i := i) (j := j + 1) h2
    exact ⟨h3.1, h3.2, h4.1, h4.2⟩
  · cases h
theorem depG_ok : okD (depG W H L P) = true := okD_of depG_asc fun d hd => by
  have := depG_in hd
  exact inD_iff.2 (by omega)
end
end Go.Proofs.Ytcmlnokfjbglaaa
end

section
namespace Go.Proofs.Ytcmlnokfjbglaaa
open Go.ChangeShapes Go.WideShapes Go.ChangeAt Go.RowKit
set_option linter.unusedVariables false
set_option maxRecDepth 20000

/-- Where d belongs, and whether it is there. -/
def RetBs (D : List Dep) (d : Dep) (w : World) (e : Ending) (w' : World) : Prop :=
  e = .returned (.tuple #[.int .i64 (lowN D d : Nat), .bool (decide (d ∈ D))]) ∧ w.grownBy w' none
/-- The search has come to lo and hi. -/
def srchD (D : List Dep) (d : Dep) (lo hi : Nat) : Prop := lo ≤ hi ∧ hi ≤ D.length ∧ (∀ t, t < lo → ltD (atD D t) d = true) ∧ (∀ t, hi ≤ t → t < D.length → ltD (atD D t) d = false)
theorem srch_up {D : List Dep} (hD : ascD D) {d : Dep} {lo hi i : Nat} (h : srchD D d lo hi) (hi1 : i < hi) (hlt : ltD (atD D i) d = true) : srchD D d (i + 1) hi :=
  ⟨hi1, h.2.1, fun t ht => by
    rcases Nat.lt_or_eq_of_le (Nat.le_of_lt_succ ht) with h1 | h1
    · exact ltD_trans (asc_at hD h1 (by have := h.2.1; omega)) hlt
    · rw [h1]; exact hlt, h.2.2.2⟩
theorem srch_down {D : List Dep} (hD : ascD D) {d : Dep} {lo hi i : Nat} (h : srchD D d lo hi) (h1 : lo ≤ i) (h2 : i < hi) (hlt : ltD (atD D i) d = false) : srchD D d lo i :=
  ⟨h1, by have := h.2.1; omega, h.2.2.1, fun t ht htn => by
    rcases Nat.lt_or_eq_of_le ht with h3 | h3
    · cases h4 : ltD (atD D t) d with
      | false => rfl
      | true => rw [ltD_trans (asc_at hD h3 htn) h4] at hlt; cases hlt
    · rw [← h3]; exact hlt⟩
theorem srch_end {D : List Dep} {d : Dep} {lo : Nat} (h : srchD D d lo lo) : lowN D d = lo := lowN_of h.2.1 h.2.2.1 (fun hlt => h.2.2.2 lo (Nat.le_refl _) hlt)

theorem ret_bs {D : List Dep} {d : Dep} {k : Nat} {b : Bool} (h : lowN D d = k) (hb : b = decide (d ∈ D)) : Ending.returned (.tuple #[.int .i64 (k : Int), .bool b]) = .returned (.tuple #[.int .i64 (lowN D d : Nat), .bool (decide (d ∈ D))]) := by rw [h, hb]
theorem libSearch (A : Option Addr) (n cap : Nat) (D : List Dep) (d : Dep) (hD : ascD D) (w : World) (h : DepAt w w.heap.size A n D) (hn : n ≤ 4000000000) :
    Calls Try.prog 87 #[.slice A n cap, .agg #[.int .i64 d.1, .int .i64 d.2], .func (.func 56) #[] #[]] w (RetBs D d w) := by
  have HI := Lib.hid h
  have hl := h.1
  have HC := Lib.hid (fun (a : Dep) w => implCompare a d w)
  have BG := Lib.hid (boxD_gb d w)
  have BB := Lib.hid (boxD_blk d w)
  have HASC := Lib.hid hD
  have HTI := Lib.hid (there_iff hD (d := d))
  have eg : ∀ args w, (callFunc 56 args).run Try.prog w = .ok (.enter 56 args) w := fun args w => Try.call56 args w
  clear h hD
  go_enter Try.func87, Try.ntmps87
  go_wp2_with fail
  go_loopw [9, 10] (fun i j wr => ∃ lo hi : Nat, i = .int .i64 (lo : Int) ∧ j = .int .i64 (hi : Int) ∧ srchD D d lo hi ∧ (boxD d w).grownBy wr none) (fun i j _ => (intOf j).toNat - (intOf i).toNat)
  case atStart => exact ⟨0, n, rfl, rfl, ⟨Nat.zero_le _, by omega, fun t ht => by omega, fun t h1 h2 => by omega⟩, gb_refl _ _⟩
  case round =>
    obtain ⟨lo, hi, rfl, rfl, hs, hg⟩ := hrel
    have HS := Lib.hid hs
    have HG := Lib.hid hg
    have bb := BB.out.grown hg (by simp)
    have t0 : wr.cell? ⟨w.heap.size, 0, none⟩ = some (.int .i64 d.1) := bb.cell 0
    have t1 : wr.cell? ⟨w.heap.size, 1, none⟩ = some (.int .i64 d.2) := bb.cell 1
    have hlh := hs.1
    have hhn := hs.2.1
    have hai := HI.out.none (Nat.le_refl _) (gb_trans BG.out hg)
    clear bb hs hg
    by_cases hlt : lo < hi
    · obtain ⟨m, hm⟩ : ∃ m, (lo + hi) / 2 = m := ⟨_, rfl⟩
      have hmi : ((lo : Int) + (hi : Int)) / 2 = (m : Int) := by omega
      obtain ⟨b, off, rfl, hb, c0, c1⟩ := hai.at m (by omega)
      obtain ⟨x, hx⟩ : ∃ x, atD D m = x := ⟨_, rfl⟩
      rw [hx] at c0 c1
      have m0 : (0 : Int) ≤ (m : Int) := by omega
      have m1 : (m : Int) < (n : Int) := by omega
      have HX := Lib.hid hx
      have HM := Lib.hid (show lo ≤ m ∧ m < hi by omega)
      clear hx hm hai
      obtain ⟨r, hr⟩ : ∃ r, cmpD x d = r := ⟨_, rfl⟩
      have HX2 := Lib.hid (fun w => show Calls _ _ _ w (RetI r none w) from hr ▸ HC.out x w)
      by_cases hc : r < 0
      · have HL := Lib.hid (cmpD_neg.1 (show cmpD x d < 0 by omega))
        clear hr
        go_wp2_with fail
        go_region_held3 (fun w' => w'.cell? ⟨w.heap.size, 0, none⟩ = some (.int .i64 d.1) ∧ w'.cell? ⟨w.heap.size, 1, none⟩ = some (.int .i64 d.2) ∧ w'.cell? ⟨b, off + m * 2, none⟩ = some (.int .i64 x.1) ∧ w'.cell? ⟨b, off + m * 2 + 1, none⟩ = some (.int .i64 x.2))
          (first | exact ⟨t0, t1, c0, c1⟩ | exact ⟨d0, d1, d2, d3⟩ | fail)
          (first
            | (go_at_fn 56; (with_reducible refine (HX2.out _).mono ?_); rintro e w4 ⟨rfl, hg4⟩; have h4 := gb_dr hg4; have d0 := h4.cell t0 (by simp); have d1 := h4.cell t1 (by simp); have d2 := h4.cell c0 (by simp); have d3 := h4.cell c1 (by simp); have G4 := Lib.hid (gb_trans HG.out h4); clear h4 hg4)
            | fail)
        all_goals
          clear d0 d1 d2 d3 t0 t1 c0 c1
          go_wp2_with fail
          go_roundw
          case rel => exact ⟨m + 1, hi, by go_num, rfl, srch_up HASC.out HS.out HM.out.2 (by rw [HX.out]; exact HL.out), G4.out⟩
          case measure => have := HM.out; simp [intOf]; omega
      · have HL := Lib.hid (show ltD x d = false by
          cases h : ltD x d with
          | false => rfl
          | true => have := cmpD_neg.2 h; omega)
        clear hr
        go_wp2_with fail
        go_region_held3 (fun w' => w'.cell? ⟨w.heap.size, 0, none⟩ = some (.int .i64 d.1) ∧ w'.cell? ⟨w.heap.size, 1, none⟩ = some (.int .i64 d.2) ∧ w'.cell? ⟨b, off + m * 2, none⟩ = some (.int .i64 x.1) ∧ w'.cell? ⟨b, off + m * 2 + 1, none⟩ = some (.int .i64 x.2))
          (first | exact ⟨t0, t1, c0, c1⟩ | exact ⟨d0, d1, d2, d3⟩ | fail)
          (first
            | (go_at_fn 56; (with_reducible refine (HX2.out _).mono ?_); rintro e w4 ⟨rfl, hg4⟩; have h4 := gb_dr hg4; have d0 := h4.cell t0 (by simp); have d1 := h4.cell t1 (by simp); have d2 := h4.cell c0 (by simp); have d3 := h4.cell c1 (by simp); have G4 := Lib.hid (gb_trans HG.out h4); clear h4 hg4)
            | fail)
        all_goals
          clear d0 d1 d2 d3 t0 t1 c0 c1
          go_wp2_with fail
          go_roundw
          case rel => exact ⟨lo, m, rfl, rfl, srch_down HASC.out HS.out HM.out.1 HM.out.2 (by rw [HX.out]; exact HL.out), G4.out⟩
          case measure => have := HM.out; simp [intOf]; omega
    · obtain rfl : hi = lo := by omega
      have hlow := srch_end HS.out
      by_cases hin : hi < n
      · obtain ⟨b, off, rfl, hb, c0, c1⟩ := hai.at hi hin
        obtain ⟨x, hx⟩ : ∃ x, atD D hi = x := ⟨_, rfl⟩
        rw [hx] at c0 c1
        obtain ⟨r, hr⟩ : ∃ r, cmpD x d = r := ⟨_, rfl⟩
        have HX2 := Lib.hid (fun w => show Calls _ _ _ w (RetI r none w) from hr ▸ HC.out x w)
        have hrd : decide (r = 0) = decide (d ∈ D) := decide_eq_decide.2 (by
          rw [← hr, cmpD_zero, HTI.out, hlow, hx]
          exact ⟨fun e => ⟨by omega, e⟩, fun e => e.2⟩)
        have HRD := Lib.hid hrd
        have HLOW := Lib.hid hlow
        have m0 : (0 : Int) ≤ (hi : Int) := by omega
        have m1 : (hi : Int) < (n : Int) := by omega
        have hd : decide ((hi : Int) < (n : Int)) = true := decide_eq_true m1
        clear hx hr hlow hrd hai hlt hin
        go_wp2_with fail
        go_region_held3 (fun w' => w'.cell? ⟨w.heap.size, 0, none⟩ = some (.int .i64 d.1) ∧ w'.cell? ⟨w.heap.size, 1, none⟩ = some (.int .i64 d.2) ∧ w'.cell? ⟨b, off + hi * 2, none⟩ = some (.int .i64 x.1) ∧ w'.cell? ⟨b, off + hi * 2 + 1, none⟩ = some (.int .i64 x.2))
          (first | exact ⟨t0, t1, c0, c1⟩ | exact ⟨d0, d1, d2, d3⟩ | fail)
          (first
            | (go_at_fn 56; (with_reducible refine (HX2.out _).mono ?_); rintro e w4 ⟨rfl, hg4⟩; have h4 := gb_dr hg4; have d0 := h4.cell t0 (by simp); have d1 := h4.cell t1 (by simp); have d2 := h4.cell c0 (by simp); have d3 := h4.cell c1 (by simp); have G4 := Lib.hid (gb_trans HG.out h4); clear h4 hg4)
            | fail)
        all_goals
          clear d0 d1 d2 d3 t0 t1 c0 c1
          go_wp2_with fail
          go_ret2
          exact ⟨ret_bs HLOW.out HRD.out, gb_trans BG.out G4.out⟩
      · have hd : decide ((hi : Int) < (n : Int)) = false := decide_eq_false (by omega)
        have hno : ¬ d ∈ D := fun h => by have := (HTI.out.1 h).1; omega
        have HN := Lib.hid hno
        have HLOW := Lib.hid hlow
        clear hno hlow hai
        go_wp2_with fail
        go_quiet (fail)
        all_goals
          go_wp2_with fail
          go_ret2
          exact ⟨ret_bs HLOW.out (decide_eq_false HN.out).symm, gb_trans BG.out (gb_drewN HG.out _)⟩
end Go.Proofs.Ytcmlnokfjbglaaa
end

section
namespace Go.Proofs.Ytcmlnokfjbglaaa
open Go.ChangeShapes Go.WideShapes Go.ChangeAt Go.RowKit
set_option linter.unusedVariables false
set_option maxRecDepth 100000

/-- copy, where an element has two cells. -/
theorem run_copy_row2 {P : Program} (w : World) (dT sT ty elem : TypeId) (g o dLen dCap : Nat) (a : Addr) (sLen sCap : Nat) (cur : Array Value) (t : TypeId) (cs : List Value)
    (hu : P.underlying dT = some (.slice elem)) (hs : (P.info? elem).map (·.size) = some 2)
    (hg : w.heap[g]? = some (.cells cur t (0, 0))) (hn : cs.length = Nat.min sLen dLen * 2)
    (hsrc : ∀ j v, cs[j]? = some v → w.cell? (a.add j) = some v) (hfit : o + cs.length ≤ cur.size) (h1 : ∀ v ∈ cs, v.oneCell' = true) :
    (Builtin.copy_ #[dT, sT] ty #[.slice (some ⟨g, o, none⟩) dLen dCap, .slice (some a) sLen sCap]).run P w =
      .ok (goInt (Nat.min sLen dLen)) (w.setRow g (cur.toList.take o ++ cs ++ cur.toList.drop (o + cs.length)).toArray) := by
  have hl := run_loadCells_list (P := P) w a cs hsrc
  have hst := run_storeCells_at P g o t cs 0 cur w hg (by simpa using hfit) h1
  cases hq : P.info? elem with
  | none => simp [hq] at hs
  | some i =>
    have hi : i.size = 2 := by simpa [hq] using hs
    simp [Builtin.copy_, run_underlying hu, Builtin.lenOf, Builtin.firstCells, sizeOf, typeInfo, hq, hi, ← hn, hl, hst]

theorem shift_list {α : Type} {c V X : List α} {p n : Nat} (hV : c.take n = V) (hp : p ≤ n) (hc : n + X.length ≤ c.length) :
    let c1 := c.take (p + X.length) ++ V.drop p ++ c.drop (p + X.length + (V.drop p).length)
    ((c1.take p ++ X ++ c1.drop (p + X.length)).take (n + X.length) = V.take p ++ X ++ V.drop p) ∧ (c1.take p ++ X ++ c1.drop (p + X.length)).length = c.length ∧ c1.length = c.length := by
  intro c1
  have hVl : V.length = n := by rw [← hV, List.length_take]; omega
  have hd : (V.drop p).length = n - p := by rw [List.length_drop, hVl]
  have e1 : c1.take p = V.take p := by
    show (c.take (p + X.length) ++ V.drop p ++ c.drop (p + X.length + (V.drop p).length)).take p = V.take p
    rw [List.append_assoc, List.take_append_of_le_length (by rw [List.length_take]; omega), List.take_take, ← hV, List.take_take]
    congr 1
    omega
  have hl1 : (c.take (p + X.length)).length = p + X.length := by rw [List.length_take]; omega
  have e2 : c1.drop (p + X.length) = V.drop p ++ c.drop (p + X.length + (V.drop p).length) := by
    show (c.take (p + X.length) ++ V.drop p ++ c.drop (p + X.length + (V.drop p).length)).drop (p + X.length) = _
    rw [List.append_assoc, List.drop_left' hl1]
  rw [e1, e2]
  have hl2 : (V.take p).length = p := by rw [List.length_take]; omega
  refine ⟨?_, ?_, ?_⟩
  · rw [← List.append_assoc, List.take_append_of_le_length (by simp only [List.length_append, hl2, hd]; omega), List.take_of_length_le (by simp only [List.length_append, hl2, hd]; omega)]
  · simp only [List.length_append, hl2, hd, List.length_drop]; omega
  · show (c.take (p + X.length) ++ V.drop p ++ c.drop (p + X.length + (V.drop p).length)).length = c.length
    simp only [List.length_append, hl1, hd, List.length_drop]; omega

theorem put_cells (D : List Dep) (x : Dep) (i : Nat) : depV (D.take i ++ x :: D.drop i) = (depV D).take (i * 2) ++ [.int .i64 x.1, .int .i64 x.2] ++ (depV D).drop (i * 2) := by
  have e : D.take i ++ x :: D.drop i = D.take i ++ [x] ++ D.drop i := by simp
  rw [e, depV_append, depV_append, depV_take, depV_drop]
  rfl
theorem fn_overlaps : Try.prog.funcs[109]? = some Try.f109 := by kernel_rfl

def PutAt (base : Nat) (v : Value) (D : List Dep) (w : World) (e : Ending) (w' : World) : Prop :=
  ∃ v', e = .returned v' ∧ w'.ownsRow base 39 2 v' D.length (depV D) ∧ w.grownBy w' v.ownBlock
theorem put_own {w : World} {base : Nat} {v : Value} {D : List Dep} {k : Nat} {xs : List Value} (h : w.ownsRow base 39 2 v k xs) (hk : k = D.length) (hx : xs = depV D) : w.ownsRow base 39 2 v D.length (depV D) := by subst hk; subst hx; exact h

/-- At the end. -/
theorem libInsEnd (base n vb : Nat) (v : Value) (D : List Dep) (x : Dep) (w : World) (h : w.ownsRow base 39 2 v n (depV D)) (hb : Blk w vb 39 #[.int .i64 x.1, .int .i64 x.2]) (hbase : base ≤ w.heap.size) (hn : n ≤ 4000000000) :
    Calls Try.prog 88 #[v, .int .i64 n, .slice (some ⟨vb, 0, none⟩) 1 1] w (PutAt base v (D ++ [x]) w) := by
  obtain ⟨i0, hi, hz0, hz1, hz2⟩ := info_parts info_dep
  have hl := own_dep_length h
  have e1 := Lib.hid (show n + 1 = (D ++ [x]).length by simp [hl])
  have e2 := Lib.hid (show depV D ++ [.int .i64 x.1, .int .i64 x.2] = depV (D ++ [x]) by rw [depV_append]; rfl)
  have b2 := Lib.hid (show ∀ u ∈ [Value.int .i64 x.1, .int .i64 x.2], u.oneCell' = true by simp [Value.oneCell'])
  have b3 := Lib.hid (show n + 1 ≤ maxLen by unfold maxLen; omega)
  have b4 := Lib.hid (show (n + 1) * 16 ≤ 140737488355328 by omega)
  have HO := Lib.hid h
  have HB := Lib.hid hb
  have HBA := Lib.hid hbase
  rcases h.2 with ⟨rfl, rfl⟩ | ⟨g, cap, cur, rfl, _⟩
  · clear h hb hbase hl
    go_enter Try.func88, Try.ntmps88
    go_wp2_with (at_builtin; refine wpList_append_own _ rfl _ _ 24 rfl base 39 i0 (.agg #[.int .i64 0, .int .i64 0]) 2 16 Try.underlying24 hi hz0 hz1 hz2 rfl (by decide) _ _ _ rfl HO.out ⟨vb, 0, none⟩ 1 1 [.int .i64 x.1, .int .i64 x.2] rfl rfl (World.news_of_block HB.out) b2.out b3.out b4.out HBA.out ?_; intro v' w' hown' hgrow' _)
    go_ret
    exact ⟨v', rfl, put_own hown' e1.out e2.out, hgrow'⟩
  · clear h hb hbase hl
    go_enter Try.func88, Try.ntmps88
    go_wp2_with (at_builtin; refine wpList_append_own _ rfl _ _ 24 rfl base 39 i0 (.agg #[.int .i64 0, .int .i64 0]) 2 16 Try.underlying24 hi hz0 hz1 hz2 rfl (by decide) _ _ _ rfl HO.out ⟨vb, 0, none⟩ 1 1 [.int .i64 x.1, .int .i64 x.2] rfl rfl (World.news_of_block HB.out) b2.out b3.out b4.out HBA.out ?_; intro v' w' hown' hgrow' _)
    all_goals (go_ret; exact ⟨v', rfl, put_own hown' e1.out e2.out, hgrow'⟩)

/-- Ahead of the end, where there is room: in place. -/
theorem libInsShift (base n vb g cap i : Nat) (D : List Dep) (x : Dep) (w : World) (h : w.ownsRow base 39 2 (.slice (some ⟨g, 0, none⟩) n cap) n (depV D)) (hb : Blk w vb 39 #[.int .i64 x.1, .int .i64 x.2]) (hbase : base ≤ w.heap.size) (hn : n ≤ 4000000000) (hi : i < n) (hroom : n + 1 ≤ cap) (hne : vb ≠ g) :
    Calls Try.prog 88 #[.slice (some ⟨g, 0, none⟩) n cap, .int .i64 i, .slice (some ⟨vb, 0, none⟩) 1 1] w (PutAt base (.slice (some ⟨g, 0, none⟩) n cap) (D.take i ++ x :: D.drop i) w) := by
  obtain ⟨i0, hi0, hz0, hz1, hz2⟩ := info_parts info_dep
  have hl := own_dep_length h
  obtain ⟨cur, hgc, hcm, hcs, htk⟩ : ∃ cur, w.heap[g]? = some (.cells cur 39 (0, 0)) ∧ cap ≤ maxLen ∧ cur.size = cap * 2 ∧ cur.toList.take (n * 2) = depV D := by
    rcases h.2 with ⟨h1, _⟩ | ⟨g', cap', cur, h1, _, h2, _, h3, h4, h5⟩
    · cases h1
    · obtain ⟨rfl, rfl⟩ : g = g' ∧ cap = cap' := by
        injection h1 with e1 e2 e3
        injection e1 with e1
        injection e1 with e1
        exact ⟨e1, e3⟩
      exact ⟨cur, h2, h3, h4, h5⟩
  have hsz : (Try.prog.info? 39).map (·.size) = some 2 := by rw [hi0]; simp [hz1]
  have hst := Try.underlying24
  have hzd : ∀ w, (Go.sizeOf 39).run Try.prog w = .ok 2 w := fun w => by simp [Go.sizeOf, typeInfo, hi0, hz1]
  have hsa : w.shape? vb = some (39, 2) := by
    have hb' : w.heap[vb]? = some (.cells #[.int .i64 x.1, .int .i64 x.2] 39 (0, 0)) := hb
    simp [World.shape?, hb']
  have hsb : w.shape? g = some (39, cap * 2) := by simp [World.shape?, hgc, hcs]
  have hfa : w.frozen? ⟨vb, 0, none⟩ = false := by
    have hb' : w.heap[vb]? = some (.cells #[.int .i64 x.1, .int .i64 x.2] 39 (0, 0)) := hb
    simp [World.frozen?, hb']
  have hfe : w.frozen? ⟨vb, 2, none⟩ = false := by
    have hb' : w.heap[vb]? = some (.cells #[.int .i64 x.1, .int .i64 x.2] 39 (0, 0)) := hb
    simp [World.frozen?, hb']
  have hov : ∀ o lb cb, (callFunc 109 #[.slice (some ⟨vb, 0, none⟩) 1 1, .slice (some ⟨g, o, none⟩) lb cb]).run Try.prog w = .ok (.value (.bool false)) w := fun o lb cb => by
    rw [run_callFunc_extern fn_overlaps (by kernel_rfl) (by kernel_rfl) (by kernel_rfl) (e := Extern.SlicesOverlaps.overlaps #[24, 24] #[4]) (by kernel_rfl),
      Lib.run_overlaps_apart w 24 4 39 hst 2 hzd ⟨vb, 0, none⟩ ⟨g, o, none⟩ 1 1 lb cb hne 39 39 2 (cap * 2) hsa hsb (by omega) hfa hfe]
    rfl
  have hVl : (depV D).length = n * 2 := by rw [depV_length, hl]
  have hdl : ((depV D).drop (i * 2)).length = (n - i) * 2 := by rw [List.length_drop, hVl]; omega
  have e2 : (i + 1) * 2 = i * 2 + 2 := by omega
  have hcl : cur.toList.length = cap * 2 := by rw [Array.length_toList]; exact hcs
  obtain ⟨hs1, hs2, hs3⟩ := shift_list (X := [Value.int .i64 x.1, Value.int .i64 x.2]) (p := i * 2) htk (by omega) (by rw [hcl]; simp; omega)
  obtain ⟨c1, hc1⟩ : ∃ c1 : Array Value, c1 = (cur.toList.take ((i + 1) * 2) ++ (depV D).drop (i * 2) ++ cur.toList.drop ((i + 1) * 2 + ((depV D).drop (i * 2)).length)).toArray := ⟨_, rfl⟩
  have hc1l : c1.toList = cur.toList.take (i * 2 + 2) ++ (depV D).drop (i * 2) ++ cur.toList.drop (i * 2 + 2 + ((depV D).drop (i * 2)).length) := by rw [hc1, e2]
  have hs4 : c1.toList.length = cap * 2 := by rw [hc1l, ← hcl]; exact hs3
  obtain ⟨c2, hc2⟩ : ∃ c2 : Array Value, c2 = (c1.toList.take (i * 2) ++ [Value.int .i64 x.1, Value.int .i64 x.2] ++ c1.toList.drop (i * 2 + [Value.int .i64 x.1, Value.int .i64 x.2].length)).toArray := ⟨_, rfl⟩
  have hown2 : c2.toList.take ((n + 1) * 2) = depV (D.take i ++ x :: D.drop i) ∧ c2.size = cap * 2 := by
    have hc2l : c2.toList = c1.toList.take (i * 2) ++ [Value.int .i64 x.1, Value.int .i64 x.2] ++ c1.toList.drop (i * 2 + [Value.int .i64 x.1, Value.int .i64 x.2].length) := by rw [hc2]
    rw [hc1l] at hc2l
    refine ⟨?_, ?_⟩
    · rw [put_cells, ← hs1, hc2l, show (n + 1) * 2 = n * 2 + [Value.int IntKind.i64 x.1, Value.int IntKind.i64 x.2].length by simp; omega]
      rfl
    · rw [← Array.length_toList, hc2l, ← hcl]; exact hs2
  have hcp1 : ∀ ty dc sc, (Builtin.copy_ #[24, 24] ty #[.slice (some ⟨g, (i + 1) * 2, none⟩) (n - i) dc, .slice (some ⟨g, i * 2, none⟩) (n + 1 - i) sc]).run Try.prog w.drew = .ok (goInt ((n - i : Nat) : Int)) (w.drew.setRow g c1) := fun ty dc sc => by
    have h := run_copy_row2 (P := Try.prog) w.drew 24 24 ty 39 g ((i + 1) * 2) (n - i) dc ⟨g, i * 2, none⟩ (n + 1 - i) sc cur 39 ((depV D).drop (i * 2)) hst hsz hgc (by rw [hdl, show Nat.min (n + 1 - i) (n - i) = n - i from by show min (n + 1 - i) (n - i) = n - i; omega])
      (fun j v hj => by
        have hj2 := (List.getElem?_eq_some_iff.1 hj).1
        rw [Addr.add_lit]
        rw [List.getElem?_drop] at hj
        exact (h.cellAt (i * 2 + j) (by omega)).trans hj)
      (by rw [hdl]; omega) (fun v hv => depV_one1 D v (List.mem_of_mem_drop hv))
    rw [show Nat.min (n + 1 - i) (n - i) = n - i from by show min (n + 1 - i) (n - i) = n - i; omega, ← hc1] at h
    exact h
  have hW1 : (w.drew.setRow g c1).heap[g]? = some (.cells c1 39 (0, 0)) := setRow_heap w.drew g cur c1 39 (0, 0) hgc
  have hcp2 : ∀ (W : World), W.heap = (w.drew.setRow g c1).heap → ∀ ty dc, (Builtin.copy_ #[24, 24] ty #[.slice (some ⟨g, i * 2, none⟩) (n + 1 - i) dc, .slice (some ⟨vb, 0, none⟩) 1 1]).run Try.prog W = .ok (goInt 1) (W.setRow g c2) := fun W hW ty dc => by
    have h := run_copy_row2 (P := Try.prog) W 24 24 ty 39 g (i * 2) (n + 1 - i) dc ⟨vb, 0, none⟩ 1 1 c1 39 [Value.int .i64 x.1, Value.int .i64 x.2] hst hsz (by rw [hW]; exact hW1) (by rw [show Nat.min 1 (n + 1 - i) = 1 from by show min 1 (n + 1 - i) = 1; omega]; rfl)
      (World.news_of_block (cs := #[.int .i64 x.1, .int .i64 x.2]) (t := 39) (fr := (0, 0)) (by rw [hW]; exact (setRow_other w.drew g vb c1 hne).trans hb)) (by rw [← Array.length_toList, hs4]; simp; omega) (by simp [Value.oneCell'])
    rw [show Nat.min 1 (n + 1 - i) = 1 from by show min 1 (n + 1 - i) = 1; omega, ← hc2] at h
    exact h
  have hfin : PutAt base (.slice (some ⟨g, 0, none⟩) n cap) (D.take i ++ x :: D.drop i) w (.returned (.slice (some ⟨g, 0, none⟩) (n + 1) cap)) ((w.drew.setRow g c1).setRow g c2) := by
    have hlen : (D.take i ++ x :: D.drop i).length = n + 1 := by simp [hl]; omega
    refine ⟨_, rfl, ?_, ?_⟩
    · rw [hlen]
      exact ⟨by rw [depV_length, hlen], .inr ⟨g, cap, c2, rfl, (h.lt g rfl).1, setRow_heap _ g c1 c2 _ _ hW1, by omega, hcm, hown2.2, hown2.1⟩⟩
    · exact ⟨rfl, rfl, rfl, by simp [World.setRow], fun k _ hk => by
        have hk' : k ≠ g := fun e => hk (by rw [e]; rfl)
        rw [setRow_other _ g k c2 hk', setRow_other _ g k c1 hk']; rfl⟩
  have HF := Lib.hid hfin
  have c63 : cap ≤ 9223372036854775807 := by unfold maxLen at hcm; omega
  have f2 : ¬ ((i : Int) = (n : Int)) := by omega
  have f1 : (0 : Int) ≤ (i : Int) + 1 := by omega
  have mixed : Try.prog.follows .mixedOrders = true := by kernel_rfl
  have f0 : IntKind.i64.wrap ((i : Int) + 1) = (i : Int) + 1 := by rw [IntKind.wrap_i64]; omega
  have f5 : i ≤ n := by omega
  have f6 : ((i : Int) + 1).toNat = i + 1 := by omega
  have f7 : (i : Int) ≤ (n : Int) + 1 := by omega
  have f10 : ¬ cap = i := by omega
  have f11 : ¬ cap = i + 1 := by omega
  clear h hb hgc hcs htk hst hzd hsa hsb hfa hfe hVl hdl e2 hcl hs1 hs2 hs3 hc1 hc1l hs4 hc2 hown2 hW1 hfin
  go_enter Try.func88, Try.ntmps88
  go_wp2_with (simp only [hov])
  go_region_law_o (refine step_copy_runI rfl _ _ 24 24 rfl _ _ (by simp [Act.eval, Act.put]) (by simp [Act.eval, Act.put]) (hcp1 _ _ _) ?_)
  go_wp2_with (at_builtin; refine wpList_copy_runI _ rfl _ _ 24 24 rfl _ _ rfl rfl (hcp2 _ rfl _ _) ?_)
  go_ret
  exact HF.out

theorem grow_list {α : Type} {R V X : List α} {p : Nat} (hR : R.take p = V.take p) (hp : p ≤ V.length) (hc : V.length + X.length ≤ R.length) :
    let c1 := R.take p ++ X ++ R.drop (p + X.length)
    ((c1.take (p + X.length) ++ V.drop p ++ c1.drop (p + X.length + (V.drop p).length)).take (V.length + X.length) = V.take p ++ X ++ V.drop p) ∧ (c1.take (p + X.length) ++ V.drop p ++ c1.drop (p + X.length + (V.drop p).length)).length = R.length ∧ c1.length = R.length := by
  intro c1
  have hl : (R.take p).length = p := by rw [List.length_take]; omega
  have hd : (V.drop p).length = V.length - p := by rw [List.length_drop]
  have e1 : c1.take (p + X.length) = R.take p ++ X := by
    show (R.take p ++ X ++ R.drop (p + X.length)).take (p + X.length) = _
    rw [List.take_left' (by rw [List.length_append, hl])]
  have h1 : c1.length = R.length := by
    show (R.take p ++ X ++ R.drop (p + X.length)).length = R.length
    simp only [List.length_append, hl, List.length_drop]; omega
  have hl2 : (V.take p).length = p := by rw [List.length_take]; omega
  rw [e1, hR]
  refine ⟨?_, ?_, h1⟩
  · rw [List.take_append_of_le_length (by simp only [List.length_append, hl2, hd]; omega), List.take_of_length_le (by simp only [List.length_append, hl2, hd]; omega)]
  · simp only [List.length_append, hl2, hd, List.length_drop, h1]; omega

/-- Ahead of the end, where there is no room: in a new block. -/
theorem libInsGrow (base n vb g cap i : Nat) (D : List Dep) (x : Dep) (w : World) (h : w.ownsRow base 39 2 (.slice (some ⟨g, 0, none⟩) n cap) n (depV D)) (hb : Blk w vb 39 #[.int .i64 x.1, .int .i64 x.2]) (hbase : base ≤ w.heap.size) (hn : n ≤ 4000000000) (hi : i < n) (hroom : cap < n + 1) :
    Calls Try.prog 88 #[.slice (some ⟨g, 0, none⟩) n cap, .int .i64 i, .slice (some ⟨vb, 0, none⟩) 1 1] w (PutAt base (.slice (some ⟨g, 0, none⟩) n cap) (D.take i ++ x :: D.drop i) w) := by
  obtain ⟨i0, hi0, hz0, hz1, hz2⟩ := info_parts info_dep
  have hl := own_dep_length h
  have hnc : n ≤ cap := by
    rcases h.2 with ⟨h1, _⟩ | ⟨g', cap', cur, h1, _, h2, h3, _⟩
    · cases h1
    · injection h1 with e1 e2 e3
      omega
  have hgw := (h.lt g rfl).2
  have hvw := hb.lt
  have hsz : (Try.prog.info? 39).map (·.size) = some 2 := by rw [hi0]; simp [hz1]
  have hst := Try.underlying24
  have hVl : (depV D).length = n * 2 := by rw [depV_length, hl]
  have hdl : ((depV D).drop (i * 2)).length = (n - i) * 2 := by rw [List.length_drop, hVl]; omega
  have hkk : (n : Int) + 1 - (i : Int) = ((n + 1 - i : Nat) : Int) := by omega
  have hik : i + (n + 1 - i) = n + 1 := by omega
  have hold : (Builtin.firstCells i0.size i (.slice (some ⟨g, 0, none⟩) i cap)).run Try.prog w.drew = .ok ((depV D).take (i * 2)).toArray w.drew := by
    rw [hz1]
    exact run_firstCells_some w.drew 2 i ⟨g, 0, none⟩ i cap ((depV D).take (i * 2)) (by rw [List.length_take, hVl]; omega) (fun j v hj => by
      rw [Addr.add_lit]
      rw [List.getElem?_take] at hj
      split at hj
      · rw [Nat.zero_add]; exact (h.cellAt j (by omega)).trans hj
      · cases hj)
  obtain ⟨G, hG⟩ : ∃ G, G = grownCap w (n + 1) cap 39 := ⟨_, rfl⟩
  obtain ⟨ROW, hROW⟩ : ∃ ROW : Array Value, ROW = ((depV D).take (i * 2)).toArray ++ Builtin.zeroCells (Value.agg #[.int .i64 0, .int .i64 0]).cells (n + 1 - i) ++ Builtin.zeroCells (Value.agg #[.int .i64 0, .int .i64 0]).cells (G - (n + 1)) := ⟨_, rfl⟩
  have hrz : ∀ ty, (Builtin.append_ #[24, 3] ty #[.slice (some ⟨g, 0, none⟩) i cap, .int .i64 ((n : Int) + 1 - (i : Int))]).run Try.prog w =
      .ok (.slice (some ⟨w.heap.size, 0, none⟩) (n + 1) G) (w.drew.alloc (.cells ROW 39)) := fun ty => by
    have h := Lib.run_append_grow_zeros w 24 3 ty 39 i0 _ .i64 .i64 hst Try.underlying3 hi0 hz0 (some ⟨g, 0, none⟩) i cap ((depV D).take (i * 2)) hold (n + 1 - i) (by omega) (by omega) (by omega) (by omega) (by rw [hz2]; omega) (by rw [hz2, hik]; exact growslice_fits (by omega) (by omega))
    rw [hik] at h
    rw [hkk, hROW, hG]
    exact h
  have hGn : n + 1 ≤ G := by rw [hG]; exact grownCap_ge w _ _ _
  have hGm : G ≤ maxLen := by rw [hG]; exact grownCap_le_maxLen w (n + 1) cap _ (by unfold maxLen; omega)
  have hRs : ROW.size = G * 2 := by
    rw [hROW]
    simp only [Array.size_append, List.size_toArray, size_zeroCells, List.length_take, hVl]
    simp [Value.cells]
    omega
  have hRt : ROW.toList.take (i * 2) = (depV D).take (i * 2) := by
    rw [hROW]
    simp only [Array.toList_append, List.append_assoc]
    exact List.take_left' (by rw [List.length_take, hVl]; omega)
  obtain ⟨N, hN⟩ : ∃ N, w.heap.size = N := ⟨_, rfl⟩
  rw [hN] at hrz hgw hvw
  have hRl : ROW.toList.length = G * 2 := by rw [Array.length_toList]; exact hRs
  obtain ⟨W1, hW1⟩ : ∃ W1, W1 = w.drew.alloc (.cells ROW 39) := ⟨_, rfl⟩
  have hW1N : W1.heap[N]? = some (.cells ROW 39 (0, 0)) := by rw [hW1, ← hN]; exact heap_alloc_new w.drew _
  have hW1o : ∀ k, k < N → W1.heap[k]? = w.heap[k]? := fun k hk => by rw [hW1]; exact heap_alloc_old w.drew _ (by rw [← hN] at hk; exact hk)
  obtain ⟨hs1, hs2, hs3⟩ := grow_list (X := [Value.int .i64 x.1, Value.int .i64 x.2]) (p := i * 2) hRt (by rw [hVl]; omega) (by rw [hRl, hVl]; simp; omega)
  have e2 : (i + 1) * 2 = i * 2 + 2 := by omega
  obtain ⟨c1, hc1⟩ : ∃ c1 : Array Value, c1 = (ROW.toList.take (i * 2) ++ [Value.int .i64 x.1, Value.int .i64 x.2] ++ ROW.toList.drop (i * 2 + [Value.int .i64 x.1, Value.int .i64 x.2].length)).toArray := ⟨_, rfl⟩
  have hc1l : c1.toList = ROW.toList.take (i * 2) ++ [Value.int .i64 x.1, Value.int .i64 x.2] ++ ROW.toList.drop (i * 2 + [Value.int .i64 x.1, Value.int .i64 x.2].length) := by rw [hc1]
  have hs4 : c1.toList.length = G * 2 := by rw [hc1l, ← hRl]; exact hs3
  obtain ⟨c2, hc2⟩ : ∃ c2 : Array Value, c2 = (c1.toList.take ((i + 1) * 2) ++ (depV D).drop (i * 2) ++ c1.toList.drop ((i + 1) * 2 + ((depV D).drop (i * 2)).length)).toArray := ⟨_, rfl⟩
  have hown2 : c2.toList.take ((n + 1) * 2) = depV (D.take i ++ x :: D.drop i) ∧ c2.size = G * 2 := by
    have hc2l : c2.toList = c1.toList.take (i * 2 + 2) ++ (depV D).drop (i * 2) ++ c1.toList.drop (i * 2 + 2 + ((depV D).drop (i * 2)).length) := by rw [hc2, e2]
    rw [hc1l] at hc2l
    refine ⟨?_, ?_⟩
    · rw [put_cells, ← hs1, hc2l, show (n + 1) * 2 = (depV D).length + [Value.int IntKind.i64 x.1, Value.int IntKind.i64 x.2].length by rw [hVl]; simp; omega]
      rfl
    · rw [← Array.length_toList, hc2l, ← hRl]; exact hs2
  have hcpA : ∀ (W : World), W.heap = W1.heap → ∀ ty dc, (Builtin.copy_ #[24, 24] ty #[.slice (some ⟨N, i * 2, none⟩) (n + 1 - i) dc, .slice (some ⟨vb, 0, none⟩) 1 1]).run Try.prog W = .ok (goInt 1) (W.setRow N c1) := fun W hW ty dc => by
    have h := run_copy_row2 (P := Try.prog) W 24 24 ty 39 N (i * 2) (n + 1 - i) dc ⟨vb, 0, none⟩ 1 1 ROW 39 [Value.int .i64 x.1, Value.int .i64 x.2] hst hsz (by rw [hW]; exact hW1N) (by rw [show Nat.min 1 (n + 1 - i) = 1 from by show min 1 (n + 1 - i) = 1; omega]; rfl)
      (World.news_of_block (cs := #[.int .i64 x.1, .int .i64 x.2]) (t := 39) (fr := (0, 0)) (by rw [hW]; exact (hW1o vb hvw).trans hb)) (by rw [hRs]; simp; omega) (by simp [Value.oneCell'])
    rw [show Nat.min 1 (n + 1 - i) = 1 from by show min 1 (n + 1 - i) = 1; omega, ← hc1] at h
    exact h
  have hNg : g ≠ N := by omega
  have hcpB : ∀ (W : World), W.heap = (W1.setRow N c1).heap → ∀ ty dc sc, (Builtin.copy_ #[24, 24] ty #[.slice (some ⟨N, (i + 1) * 2, none⟩) (n - i) dc, .slice (some ⟨g, i * 2, none⟩) (n - i) sc]).run Try.prog W = .ok (goInt ((n - i : Nat) : Int)) (W.setRow N c2) := fun W hW ty dc sc => by
    have hWg : W.heap[g]? = w.heap[g]? := by rw [hW, setRow_other W1 N g c1 hNg]; exact hW1o g hgw
    have h := run_copy_row2 (P := Try.prog) W 24 24 ty 39 N ((i + 1) * 2) (n - i) dc ⟨g, i * 2, none⟩ (n - i) sc c1 39 ((depV D).drop (i * 2)) hst hsz (by rw [hW]; exact setRow_heap W1 N ROW c1 _ _ hW1N) (by rw [hdl, show Nat.min (n - i) (n - i) = n - i from by show min (n - i) (n - i) = n - i; omega])
      (fun j v hj => by
        have hj2 := (List.getElem?_eq_some_iff.1 hj).1
        rw [Addr.add_lit]
        rw [List.getElem?_drop] at hj
        exact (World.cell?_of_block hWg).trans ((h.cellAt (i * 2 + j) (by omega)).trans hj))
      (by rw [hdl, ← Array.length_toList, hs4]; omega) (fun v hv => depV_one1 D v (List.mem_of_mem_drop hv))
    rw [show Nat.min (n - i) (n - i) = n - i from by show min (n - i) (n - i) = n - i; omega, ← hc2] at h
    exact h
  have hfin : ∀ (W : World), W.heap = ((W1.setRow N c1).setRow N c2).heap → W.os = w.os → W.tape = w.tape → W.output = w.output → PutAt base (.slice (some ⟨g, 0, none⟩) n cap) (D.take i ++ x :: D.drop i) w (.returned (.slice (some ⟨N, 0, none⟩) (n + 1) G)) W := fun W hW h1 h2 h3 => by
    have hlen : (D.take i ++ x :: D.drop i).length = n + 1 := by simp [hl]; omega
    refine ⟨_, rfl, ?_, ?_⟩
    · rw [hlen]
      exact ⟨by rw [depV_length, hlen], .inr ⟨N, G, c2, rfl, by omega, by rw [hW]; exact setRow_heap _ N c1 c2 _ _ (setRow_heap W1 N ROW c1 _ _ hW1N), by omega, hGm, hown2.2, hown2.1⟩⟩
    · exact ⟨h1, h2, h3, by rw [hW]; simp [World.setRow, hW1], fun k hk _ => by
        have hk' : k ≠ N := by omega
        rw [hW, setRow_other _ N k c2 hk', setRow_other _ N k c1 hk']; exact hW1o k (by omega)⟩
  have HF := Lib.hid hfin
  have c63 : cap ≤ 9223372036854775807 := by omega
  have G63 : G ≤ 9223372036854775807 := by unfold maxLen at hGm; omega
  have f2 : ¬ ((i : Int) = (n : Int)) := by omega
  have f1 : (0 : Int) ≤ (i : Int) + 1 := by omega
  have mixed : Try.prog.follows .mixedOrders = true := by kernel_rfl
  have f0 : IntKind.i64.wrap ((i : Int) + 1) = (i : Int) + 1 := by rw [IntKind.wrap_i64]; omega
  have f5 : i ≤ n := by omega
  have f6 : ((i : Int) + 1).toNat = i + 1 := by omega
  have f7 : (i : Int) ≤ (n : Int) := by omega
  have f8 : (cap : Int) < (n : Int) + 1 := by omega
  have f10 : ¬ cap = i := by omega
  have f11 : ¬ G = i := by omega
  have f12 : ¬ G = i + 1 := by omega
  have f13 : i ≤ cap := by omega
  have HN := Lib.hid hN
  have HW1 := Lib.hid hW1
  clear h hb hst hVl hdl hkk hik hold hG hROW hRs hRt hRl hW1N hW1o hs1 hs2 hs3 e2 hc1 hc1l hs4 hc2 hown2 hfin hN hsz hnc hGm
  rw [← hW1] at hrz
  clear hW1
  go_enter Try.func88, Try.ntmps88
  go_wp2_with (first
    | (at_builtin; refine Lib.wpList_append_run _ rfl _ _ _ _ rfl _ _ rfl rfl _ _ (hrz _) ?_)
    | (at_builtin; refine wpList_copy_runI _ rfl _ _ 24 24 rfl _ _ rfl rfl (hcpA _ rfl _ _) ?_))
  go_region_law_o (refine step_copy_runI rfl _ _ 24 24 rfl (.slice (some ⟨N, (i + 1) * 2, none⟩) (n - i) (G - (i + 1))) (.slice (some ⟨g, i * 2, none⟩) (n - i) (cap - i)) (by simp [Act.eval, Act.put]) (by simp [Act.eval, Act.put]) (hcpB (W1.setRow N c1).drew rfl 3 (G - (i + 1)) (cap - i)) ?_)
  go_wp2
  go_ret
  exact HF.out _ rfl (by rw [HW1.out]; rfl) (by rw [HW1.out]; rfl) (by rw [HW1.out]; rfl)
end Go.Proofs.Ytcmlnokfjbglaaa
end

section
namespace Go.Proofs.Ytcmlnokfjbglaaa
open Go.ChangeShapes Go.WideShapes Go.ChangeAt Go.RowKit
set_option linter.unusedVariables false
set_option maxRecDepth 20000

theorem libInsert (base n vb i : Nat) (v : Value) (D : List Dep) (x : Dep) (w : World) (h : w.ownsRow base 39 2 v n (depV D)) (hb : Blk w vb 39 #[.int .i64 x.1, .int .i64 x.2]) (hbase : base ≤ w.heap.size) (hn : n ≤ 4000000000) (hi : i ≤ n) (hne : v.ownBlock ≠ some vb) :
    Calls Try.prog 88 #[v, .int .i64 i, .slice (some ⟨vb, 0, none⟩) 1 1] w (PutAt base v (D.take i ++ x :: D.drop i) w) := by
  have hl := own_dep_length h
  rcases Nat.lt_or_eq_of_le hi with h1 | h1
  · obtain ⟨A, cap, rfl, ha⟩ := own_form h
    obtain ⟨g, rfl⟩ := ha (by omega)
    have hne' : vb ≠ g := fun e => hne (by rw [e]; rfl)
    by_cases hr : n + 1 ≤ cap
    · exact libInsShift base n vb g cap i D x w h hb hbase hn h1 hr hne'
    · exact libInsGrow base n vb g cap i D x w h hb hbase hn h1 (by omega)
  · subst h1
    have e : D.take i ++ x :: D.drop i = D ++ [x] := by rw [← hl, List.take_length, List.drop_length]
    rw [e]
    exact libInsEnd base i vb v D x w h hb hbase hn

theorem implInsert (base n : Nat) (v : Value) (D : List Dep) (d : Dep) (hD : ascD D) (w : World) (h : w.ownsRow base 39 2 v n (depV D)) (hbase : base ≤ w.heap.size) (hn : n ≤ 4000000000) :
    Calls Try.prog 55 #[v, .agg #[.int .i64 d.1, .int .i64 d.2], .func (.func 56) #[] #[]] w (PutAt base v (insD D d) w) := by
  have hl := own_dep_length h
  have hlow := lowN_le D d
  obtain ⟨A, cap, rfl, ha⟩ := own_form h
  have HO := Lib.hid h
  have BG := Lib.hid (boxD_gb d w)
  have BB := Lib.hid (boxD_blk d w)
  have h1 : (boxD d w).ownsRow base 39 2 (.slice A n cap) n (depV D) := own_none h (boxD_gb d w)
  have H1 := Lib.hid h1
  have HBS := Lib.hid (libSearch A n cap D d hD (boxD d w) (depAt_own h1 (Nat.le_refl _)) hn)
  have HIN := Lib.hid (fun (vb : Nat) (w' : World) (h' : w'.ownsRow base 39 2 (.slice A n cap) n (depV D)) (hb : Blk w' vb 39 #[.int .i64 d.1, .int .i64 d.2]) (hbase' : base ≤ w'.heap.size) (hne : (Value.slice A n cap).ownBlock ≠ some vb) =>
    libInsert base n vb (lowN D d) (.slice A n cap) D d w' h' hb hbase' hn (by omega) hne)
  clear h h1 ha
  by_cases hd : d ∈ D
  · have hr := ins_there hd
    rw [hr]
    have HD := Lib.hid (decide_eq_true hd)
    clear hd hr
    have HBS2 := Lib.hid (show Calls _ _ _ (boxD d w) fun e w' => e = .returned (.tuple #[.int .i64 (lowN D d : Nat), .bool true]) ∧ (boxD d w).grownBy w' none from (HBS.out.mono fun e w' h => ⟨by rw [h.1, HD.out], h.2⟩))
    clear HBS
    go_enter Try.func55, Try.ntmps55
    go_wp2_with fail
    refine HBS2.out.mono ?_
    rintro e w2 ⟨rfl, hg2⟩
    have G2 := Lib.hid (gb_trans BG.out hg2)
    clear hg2
    go_wp2_with fail
    go_ret
    exact ⟨_, rfl, put_own (own_none HO.out G2.out) hl.symm rfl, gb_of_none G2.out _⟩
  · have hr : insD D d = D.take (lowN D d) ++ d :: D.drop (lowN D d) := ins_new hd
    rw [hr]
    have HD := Lib.hid (decide_eq_false hd)
    clear hd hr
    have HBS2 := Lib.hid (show Calls _ _ _ (boxD d w) fun e w' => e = .returned (.tuple #[.int .i64 (lowN D d : Nat), .bool false]) ∧ (boxD d w).grownBy w' none from (HBS.out.mono fun e w' h => ⟨by rw [h.1, HD.out], h.2⟩))
    clear HBS
    obtain ⟨k, hk⟩ : ∃ k, lowN D d = k := ⟨_, rfl⟩
    rw [hk] at HBS2 HIN hlow
    rw [hk]
    obtain ⟨R, hR⟩ : ∃ R, D.take k ++ d :: D.drop k = R := ⟨_, rfl⟩
    rw [hR] at HIN
    rw [hR]
    clear hk hR
    go_enter Try.func55, Try.ntmps55
    go_wp2_with fail
    refine HBS2.out.mono ?_
    rintro e w2 ⟨rfl, hg2⟩
    have bb := BB.out.grown hg2 (by simp)
    have t0 : w2.cell? ⟨w.heap.size, 0, none⟩ = some (.int .i64 d.1) := bb.cell 0
    have t1 : w2.cell? ⟨w.heap.size, 1, none⟩ = some (.int .i64 d.2) := bb.cell 1
    have O2 := Lib.hid (own_none H1.out hg2)
    have G2 := Lib.hid (gb_trans BG.out hg2)
    clear hg2 bb
    go_wp2_with fail
    refine (HIN.out w2.heap.size _ (O2.out.alloc _) (Blk.new w2 _ _) (by have := G2.out.size; rw [alloc_size]; omega) (fun e => by have := (O2.out.lt _ e).2; omega)).mono ?_
    rintro e w3 ⟨v', rfl, ho3, hg3⟩
    have X3 := Lib.hid (show PutAt base (.slice A n cap) R w (.returned v') w3 from ⟨v', rfl, ho3, gb_trans (gb_of_none (gb_trans G2.out (gb_alloc (gb_refl _ _) _)) _) hg3⟩)
    clear t0 t1 ho3 hg3
    go_wp2_with fail
    go_ret
    exact X3.out
end Go.Proofs.Ytcmlnokfjbglaaa
end

section
namespace Go.Proofs.Ytcmlnokfjbglaaa
open Go.ChangeShapes Go.WideShapes Go.ChangeAt Go.RowKit
set_option linter.unusedVariables false
set_option maxRecDepth 20000

/-- Rows of different types lie in different blocks. -/
theorem own_types {w : World} {b1 b2 s1 s2 n1 n2 : Nat} {e1 e2 : TypeId} {v1 v2 : Value} {x1 x2 : List Value} (h1 : w.ownsRow b1 e1 s1 v1 n1 x1) (h2 : w.ownsRow b2 e2 s2 v2 n2 x2) (hne : e1 ≠ e2) : v1.ownBlock = none ∨ v1.ownBlock ≠ v2.ownBlock := by
  rcases h1.2 with ⟨h3, _⟩ | ⟨g1, c1, cur1, h3, _, hg1, _⟩
  · rw [h3]; exact .inl rfl
  · right
    rw [h3]
    rcases h2.2 with ⟨h4, _⟩ | ⟨g, c4, cur, h4, _, hg, _⟩
    · rw [h4]; intro e; cases e
    · rw [h4]
      intro e
      have e2 : g1 = g := Option.some.inj e
      subst e2
      rw [hg] at hg1
      have e3 := Option.some.inj hg1
      injection e3 with _ e4 _
      exact hne e4.symm
theorem ListsAt.kept {w w' : World} {base b2 n : Nat} {v v2 : Value} {N : Nat} {F : Nat → List Int} {xs : List Value} (h : ListsAt w base v N F) (h2 : w.ownsRow b2 39 2 v2 n xs) (hg : w.grownBy w' v2.ownBlock) : ListsAt w' base v N F := by
  obtain ⟨vs, ho, hi⟩ := h
  refine ⟨vs, ho.kept hg (own_types ho h2 (by decide)), fun k hk => ?_⟩
  obtain ⟨A, c, h3, h4⟩ := hi k hk
  exact ⟨A, c, h3, h4.kept hg (own_types h4 h2 (by decide))⟩

/-- The row of walks and the list of dependencies so far. -/
def DsAt (W H : Int) (A A2 : Option Addr) (n cap n2 c2 : Nat) (L P : List Int) (w : World) (Aw : Option Addr) (N cw : Nat) (D : List Dep) (v : Value) (wr : World) : Prop :=
  ListsAt wr (w.heap.size + 2) (.slice Aw N cw) N (pairW W H L P) ∧ wr.ownsRow (w.heap.size + 2) 39 2 v D.length (depV D) ∧ Below (w.heap.size + 2) (twoI W H A A2 n cap n2 c2 w) wr
section
variable {W H : Int} {A A2 : Option Addr} {n cap n2 c2 : Nat} {L P : List Int} {w wr w' : World} {Aw : Option Addr} {N cw : Nat} {D D' : List Dep} {v v' : Value}
theorem DsAt.put (h : DsAt W H A A2 n cap n2 c2 L P w Aw N cw D v wr) (ho : w'.ownsRow (w.heap.size + 2) 39 2 v' D'.length (depV D')) (hg : wr.grownBy w' v.ownBlock) : DsAt W H A A2 n cap n2 c2 L P w Aw N cw D' v' w' :=
  ⟨h.1.kept h.2.1 hg, ho, h.2.2.grown hg (by have := twoI_bs h.2.2; omega) (fun q hq => (h.2.1.lt q hq).1)⟩
theorem DsAt.len (h : DsAt W H A A2 n cap n2 c2 L P w Aw N cw D v wr) : w.heap.size + 2 ≤ wr.heap.size := twoI_bs h.2.2
end
theorem wlkN_le {W H : Int} {L P : List Int} : wlkN W H L P ≤ 256 := by
  unfold wlkN
  split
  · exact sqG_le
  · exact Nat.zero_le _
theorem allD_wlk {W H : Int} {L P : List Int} : allD W H L P (wlkN W H L P) = depG W H L P := by
  cases h : tableG W H L P with
  | false => rw [wlkN_no h, depG_no h]; rfl
  | true => rw [wlkN_yes h, depG_yes h]

set_option maxHeartbeats 1600000 in
theorem implDependsOf (W H : Int) (A A2 : Option Addr) (n cap n2 c2 : Nat) (L P : List Int) (hL : WfL L) (w : World) (h : IntAt w w.heap.size A n L) (h2 : IntAt w w.heap.size A2 n2 P) (hn : n ≤ 1000000000) (hn2 : n2 ≤ 1000000000) :
    Calls Try.prog 14 #[.agg #[.int .i64 W, .int .i64 H, .slice A n cap], .agg #[.slice A2 n2 c2]] w (NewD (depG W H L P) w) := by
  have HT1 := Lib.hid (h.twoI (W := W) (H := H) (A := A) (A2 := A2) (n := n) (cap := cap) (n2 := n2) (c2 := c2))
  have HT2 := Lib.hid (h2.twoI (W := W) (H := H) (A := A) (A2 := A2) (n := n) (cap := cap) (n2 := n2) (c2 := c2))
  have TZ := Lib.hid (twoI_size (W := W) (H := H) (A := A) (A2 := A2) (n := n) (cap := cap) (n2 := n2) (c2 := c2) (w := w))
  have HWK := Lib.hid (fun w h h2 => implWalksOf W H A A2 n cap n2 c2 L P hL w h h2 hn hn2)
  have HRES := Lib.hid (allD_wlk (W := W) (H := H) (L := L) (P := P))
  have hN256 := wlkN_le (W := W) (H := H) (L := L) (P := P)
  obtain ⟨N, hN⟩ : ∃ N, wlkN W H L P = N := ⟨_, rfl⟩
  rw [hN] at HWK HRES hN256
  clear h h2 hL hN
  go_enter Try.func14, Try.ntmps14
  go_wp2_with fail
  refine (HWK.out _ HT1.out HT2.out).mono ?_
  rintro e w1 ⟨va, rfl, hl1, hb1⟩
  rw [TZ.out] at hl1 hb1
  obtain ⟨Aw, cw, rfl, _⟩ := hl1.form
  have X1 := Lib.hid (show DsAt W H A A2 n cap n2 c2 L P w Aw N cw [] (.slice none 0 0) w1 from ⟨hl1, World.ownsRow_nil _ _ _ _, hb1⟩)
  clear hl1 hb1
  go_wp2_with fail
  go_loopw [5, 13] (fun v i wr => ∃ k : Nat, i = .int .i64 (k : Int) ∧ k ≤ N ∧ DsAt W H A A2 n cap n2 c2 L P w Aw N cw (allD W H L P k) v wr) (fun _ i _ => 257 - (intOf i).toNat)
  case atStart => exact ⟨0, rfl, Nat.zero_le _, X1.out⟩
  case round =>
    obtain ⟨k, rfl, hk, hx⟩ := hrel
    have X2 := Lib.hid hx
    by_cases hlt : k < N
    · obtain ⟨gw, B, d, hA, hc, ho⟩ := hx.1.at k hlt
      subst hA
      have hRN := pairW_len (W := W) (H := H) (L := L) (P := P) k
      obtain ⟨R, hR⟩ : ∃ R, pairW W H L P k = R := ⟨_, rfl⟩
      rw [hR] at hc ho hRN
      obtain ⟨M, hM⟩ : ∃ M, R.length = M := ⟨_, rfl⟩
      have HAN := Lib.hid (allD_next hR)
      have HASC := Lib.hid (fun j => insAll_asc (allD_asc (W := W) (H := H) (L := L) (P := P) k) (wayD R j))
      have HLEN := Lib.hid (fun j hj => ins_len (W := W) (H := H) (L := L) (P := P) (k := k) (j := j) (R := R) (by omega) hj)
      have HM := Lib.hid hM
      rw [hM] at hc ho hRN
      obtain ⟨D, hD⟩ : ∃ D, allD W H L P k = D := ⟨_, rfl⟩
      rw [hD] at X2 HAN HASC HLEN
      obtain ⟨_, _, e1, hgv⟩ := own_form ho
      simp only [Value.slice.injEq] at e1
      obtain ⟨rfl, _, rfl⟩ := e1
      have HGV := Lib.hid hgv
      have O2 := Lib.hid ho
      have X3 := Lib.hid (show DsAt W H A A2 n cap n2 c2 L P w (some ⟨gw, 0, none⟩) N cw (insAll D (wayD R 0)) _ wr from X2.out)
      have k0 : (0 : Int) ≤ (k : Int) := by omega
      have k1 : (k : Int) < (N : Int) := by omega
      clear hx hR hM ho hgv X2 hD
      go_wp2_with fail
      clear hc
      go_loopw [5, 8] (fun v i ws => ∃ j : Nat, i = .int .i64 ((j : Int) + 1) ∧ j ≤ M - 1 ∧ DsAt W H A A2 n cap n2 c2 L P w (some ⟨gw, 0, none⟩) N cw (insAll D (wayD R j)) v ws ∧ ws.ownsRow (w.heap.size + 2) 3 1 (.slice B M d) M (intsV R)) (fun _ i _ => 17 - (intOf i).toNat)
      case atStart => exact ⟨0, rfl, Nat.zero_le _, X3.out, O2.out⟩
      case round =>
        obtain ⟨j, rfl, hj, hx, ho⟩ := hrel
        have X7 := Lib.hid hx
        have O7 := Lib.hid ho
        obtain ⟨Av, cv, rfl, _⟩ := own_form hx.2.1
        clear hx ho
        by_cases hlt3 : j + 1 < M
        · have hl3 : (j : Int) + 1 < (M : Int) := by omega
          obtain ⟨gv, hgv⟩ := HGV.out (by omega)
          subst hgv
          obtain ⟨x1, hx1⟩ : ∃ z, R.getD j 0 = z := ⟨_, rfl⟩
          obtain ⟨x2, hx2⟩ : ∃ z, R.getD (j + 1) 0 = z := ⟨_, rfl⟩
          have c1 := ints_cell O7.out j x1 (by rw [← hx1, List.getD, List.getElem?_eq_getElem (by rw [HM.out]; omega)]; rfl) HM.out
          have c2' := ints_cell O7.out (j + 1) x2 (by rw [← hx2, List.getD, List.getElem?_eq_getElem (by rw [HM.out]; omega)]; rfl) HM.out
          have hwn := Lib.hid (ins_way (D := D) hx1 hx2)
          obtain ⟨E, hE⟩ : ∃ E, insAll D (wayD R j) = E := ⟨_, rfl⟩
          have hEA := HASC.out j
          have hEL := HLEN.out j (by omega)
          rw [hE] at X7 hwn hEA hEL
          rw [hE]
          have HA := Lib.hid (fun (w' : World) (h : w'.ownsRow (w.heap.size + 2) 39 2 (.slice Av E.length cv) E.length (depV E)) (hb : w.heap.size + 2 ≤ w'.heap.size) => implInsert (w.heap.size + 2) E.length (.slice Av E.length cv) E (x1, x2) hEA w' h hb (by omega))
          have hgvn := own_types O7.out X7.out.2.1 (by decide)
          have hgv : some gv ≠ (Value.slice Av E.length cv).ownBlock := by rcases hgvn with h | h; cases h; exact h
          have HNE := Lib.hid hgv
          obtain ⟨m, hm⟩ : ∃ m : Nat, j + 1 = m := ⟨_, rfl⟩
          have hmi : (j : Int) + 1 = (m : Int) := by omega
          rw [hm] at c2'
          have j0 : (0 : Int) ≤ (j : Int) := by omega
          have j1 : (j : Int) < (M : Int) := by omega
          have j2 : (0 : Int) ≤ (m : Int) := by omega
          have j3 : (m : Int) < (M : Int) := by omega
          have e2 : IntKind.i64.wrap ((m : Int) - 1) = (j : Int) := by rw [IntWalk.i64_in _ (by omega)]; omega
          have HMM := Lib.hid (And.intro hm hlt3)
          rw [hmi]
          clear hx1 hx2 hl3 hlt3 hmi hm hgvn hgv hE hEA hEL
          go_wp2_with fail
          go_region_held3 (fun w' => w'.cell? ⟨gv, j, none⟩ = some (.int .i64 x1) ∧ w'.cell? ⟨gv, m, none⟩ = some (.int .i64 x2))
            (first | exact ⟨c1, c2'⟩ | exact ⟨d1, d2⟩ | fail)
            (first
              | (go_at_call 55; (with_reducible refine (HA.out _ ?_ ?_).mono ?_); exact own_none X7.out.2.1 (gb_drew (gb_refl _ _)); exact X7.out.len; rintro e w7 ⟨v7, rfl, ho7, hg7⟩; have d1 := (gb_dr hg7).cell c1 HNE.out; have d2 := (gb_dr hg7).cell c2' HNE.out)
              | fail)
          all_goals
            rw [hwn.out] at ho7
            have X8 := Lib.hid (X7.out.put ho7 (gb_dr hg7))
            have O8 := Lib.hid (O7.out.kept (gb_dr hg7) (.inr HNE.out))
            clear ho7 hg7 d1 d2 c1 c2'
            go_wp2_with fail
            go_roundw
            case rel => exact ⟨j + 1, by have hm := HMM.out.1; go_num, by have := HMM.out.2; omega, X8.out, O8.out⟩
            case measure => have hm := HMM.out; simp [intOf]; omega
        · obtain rfl : j = M - 1 := by omega
          have hl3 : ¬ ((M - 1 : Nat) : Int) + 1 < (M : Int) := by omega
          have X8 := Lib.hid (show DsAt W H A A2 n cap n2 c2 L P w (some ⟨gw, 0, none⟩) N cw (allD W H L P (k + 1)) _ _ from by
            rw [← HAN.out, HM.out]
            exact X7.out)
          clear X7 O7
          go_wp2_with fail
          go_roundw
          case rel => exact ⟨k + 1, by go_num, by omega, X8.out⟩
          case measure => simp [intOf]; omega
    · obtain rfl : k = N := by omega
      clear hx
      go_wp2_with fail
      go_ret
      have h3 := X2.out.2.1
      rw [HRES.out] at h3
      exact ⟨_, rfl, own_less h3 (by omega), twoI_bo X2.out.2.2⟩
end Go.Proofs.Ytcmlnokfjbglaaa
end

section
namespace Go.Proofs.Ytcmlnokfjbglaaa
open Go.ChangeShapes Go.WideShapes Go.ChangeAt Go.RowKit
set_option linter.unusedVariables false
set_option maxRecDepth 20000

theorem boxD_size (d : Dep) (w : World) : (boxD d w).heap.size = w.heap.size + 1 := alloc_size _ _
theorem boxD_below {w wr : World} (h : Below w.heap.size w wr) (d : Dep) : Below w.heap.size w (boxD d wr) := h.alloc h.size _
theorem new_at1 (w : World) (o o2 : Obj) : ((w.alloc o).alloc o2).heap[w.heap.size + 1]? = some o2 := by
  have h := heap_alloc_new (w.alloc o) o2
  rw [alloc_size] at h
  exact h
theorem own_eqI {w : World} {base : Nat} {v : Value} {L L' : List Int} (h : L = L') (ho : w.ownsRow base 3 1 v L.length (intsV L)) : w.ownsRow base 3 1 v L'.length (intsV L') := by subst h; exact ho
theorem implSuccessors (A : Option Addr) (n cap : Nat) (D : List Dep) (c : Int) (w : World) (h : DepAt w w.heap.size A n D) (hn : n ≤ 4000000000) :
    Calls Try.prog 132 #[.slice A n cap, .int .i64 c] w (NewI (succD D c) w) := by
  obtain ⟨i0, hi, hz0, hz1, hz2⟩ := info_parts info_int
  have HI := Lib.hid h
  have hl := h.1
  have HALL := Lib.hid (show succD (D.take n) c = succD D c by rw [← hl]; exact succ_all D c)
  clear h
  go_enter Try.func132, Try.ntmps132
  go_wp2_with fail
  go_loopw [5, 10] (fun v i wr => ∃ k : Nat, i = .int .i64 (k : Int) ∧ k ≤ n ∧ wr.ownsRow w.heap.size 3 1 v (succD (D.take k) c).length (intsV (succD (D.take k) c)) ∧ Below w.heap.size w wr) (fun _ i _ => n - (intOf i).toNat)
  case atStart => exact ⟨0, rfl, Nat.zero_le _, World.ownsRow_nil _ _ _ _, Below.refl _ _⟩
  case round =>
    obtain ⟨k, rfl, hk, ho, hb⟩ := hrel
    have HB := Lib.hid hb
    have HO := Lib.hid ho
    have hai := HI.out.below hb
    obtain ⟨Ao, co, rfl, _⟩ := own_form ho
    clear ho hb
    by_cases hlt : k < n
    · obtain ⟨b1, off, rfl, hb1, c0, c1⟩ := hai.at k hlt
      obtain ⟨x, hx⟩ : ∃ x, atD D k = x := ⟨_, rfl⟩
      rw [hx] at c0 c1
      have k0 : (0 : Int) ≤ (k : Int) := by omega
      have k1 : (k : Int) < (n : Int) := by omega
      have hkl : k < D.length := by omega
      have hlen : (succD (D.take k) c).length ≤ k := Nat.le_trans (succ_length _ _) (by simp; omega)
      clear hai
      by_cases hc : x.1 = c
      · have HE := Lib.hid (succ_yes (c := c) hkl (by rw [hx]; exact hc))
        rw [hx] at HE
        subst hc
        have hsz1 : w.heap.size ≤ wr.heap.size := HB.out.size
        have b3' := Lib.hid (show ∀ u ∈ [Value.int .i64 x.2], u.oneCell' = true by simp [Value.oneCell'])
        have b4' := Lib.hid (show (succD (D.take k) x.1).length + 1 ≤ maxLen by unfold maxLen; omega)
        go_wp2_with (at_builtin; refine wpList_append_own _ rfl _ _ 28 rfl w.heap.size 3 i0 (.int .i64 0) 1 8 Try.underlying28 hi hz0 hz1 hz2 rfl (by decide) _ (succD (D.take k) x.1).length _ rfl ((HO.out.alloc _).alloc _) ⟨wr.heap.size + 1, 0, none⟩ 1 1 [.int .i64 x.2] rfl rfl (World.news_of_block (cs := #[.int .i64 x.2]) (t := 3) (fr := (0, 0)) (new_at1 wr _ _)) b3'.out b4'.out (by omega) (by simp; omega) ?_; intro v' w4 hown4 hgrow4 _)
        have X4 := Lib.hid (show w4.ownsRow w.heap.size 3 1 v' (succD (D.take (k + 1)) x.1).length (intsV (succD (D.take (k + 1)) x.1)) ∧ Below w.heap.size w w4 from by
          refine ⟨by rw [HE.out, List.length_append, intsV_append]; exact hown4, ?_⟩
          exact ((boxD_below HB.out x).alloc (by have := HB.out.size; rw [boxD_size]; omega) _).grown hgrow4 (by have := HB.out.size; have := boxD_size x wr; simp; omega) (fun j hj => (HO.out.lt j hj).1))
        clear hown4 hgrow4 c0 c1 hx
        go_wp2_with fail
        go_roundw
        case rel => exact ⟨k + 1, by go_num, by omega, X4.out.1, X4.out.2⟩
        case measure => simp [intOf]; omega
      · have HE := Lib.hid (succ_no (c := c) hkl (by rw [hx]; exact hc))
        clear hx
        go_wp2_with fail
        go_roundw
        case rel => exact ⟨k + 1, by go_num, by omega, by rw [HE.out]; exact HO.out.alloc _, boxD_below HB.out x⟩
        case measure => simp [intOf]; omega
    · obtain rfl : k = n := by omega
      clear hai
      go_wp2_with fail
      go_ret
      exact ⟨_, rfl, own_eqI HALL.out HO.out, HB.out⟩

end Go.Proofs.Ytcmlnokfjbglaaa
end

section
namespace Go.Proofs.Ytcmlnokfjbglaaa
open Go.ChangeShapes Go.WideShapes Go.ChangeAt Go.RowKit
set_option linter.unusedVariables false
set_option maxRecDepth 20000

theorem okD_take_in {D : List Dep} (h : okD D = true) {k : Nat} (hk : k < D.length) : 0 ≤ (atD D k).1 ∧ (atD D k).1 ≤ 127 ∧ 0 ≤ (atD D k).2 ∧ (atD D k).2 ≤ 127 := inD_iff.1 (okD_in h (atD_mem hk))
theorem implShift (A : Option Addr) (n cap : Nat) (D : List Dep) (z : Int) (w : World) (h : DepAt w w.heap.size A n D) (hn : n ≤ 4000000000) :
    Calls Try.prog 16 #[.slice A n cap, .int .i64 z] w (NewD (shiftD D z) w) := by
  obtain ⟨i0, hi, hz0, hz1, hz2⟩ := info_parts info_dep
  have HI := Lib.hid h
  have hl := h.1
  have HOK := Lib.hid (implDependsOk A n cap D w h hn)
  have HOKS := Lib.hid (fun (A' : Option Addr) (c' : Nat) (E : List Dep) (w' : World) (h' : DepAt w' w'.heap.size A' n E) => implDependsOk A' n c' E w' h' hn)
  clear h
  cases hok : okD D with
  | false =>
    rw [shift_no1 hok]
    rw [hok] at HOK
    clear hok
    go_enter Try.func16, Try.ntmps16
    go_wp2_with fail
    refine HOK.out.mono ?_
    rintro e w1 ⟨rfl, hg1⟩
    have G1 := Lib.hid hg1
    clear hg1
    go_wp2_with fail
    go_ret
    exact ⟨_, rfl, own_nilD rfl _ _, gb_below_none G1.out (Nat.le_refl _)⟩
  | true =>
    rw [hok] at HOK
    cases hz : inS z with
    | false =>
      rw [shift_no2 hz]
      unfold inS at hz
      have hz' := of_decide_eq_false hz
      clear hok hz
      by_cases h1 : z < -1000
      · clear hz'
        go_enter Try.func16, Try.ntmps16
        go_wp2_with fail
        refine HOK.out.mono ?_
        rintro e w1 ⟨rfl, hg1⟩
        have G1 := Lib.hid hg1
        clear hg1
        go_wp2_with fail
        go_ret
        exact ⟨_, rfl, own_nilD rfl _ _, gb_below_none G1.out (Nat.le_refl _)⟩
      · have h2 : 1000 < z := by omega
        clear hz'
        go_enter Try.func16, Try.ntmps16
        go_wp2_with fail
        refine HOK.out.mono ?_
        rintro e w1 ⟨rfl, hg1⟩
        have G1 := Lib.hid hg1
        clear hg1
        go_wp2_with fail
        go_ret
        exact ⟨_, rfl, own_nilD rfl _ _, gb_below_none G1.out (Nat.le_refl _)⟩
    | true =>
      have HIN := Lib.hid (fun k (hk : k < D.length) => okD_take_in hok hk)
      have HS := Lib.hid (shift_no3 (D := D) (z := z))
      have HY := Lib.hid (shift_yes (D := D) (z := z) hok hz)
      unfold inS at hz
      obtain ⟨z1, z2⟩ := of_decide_eq_true hz
      have hz3 : ¬ z < -1000 := by omega
      have hz4 : ¬ 1000 < z := by omega
      obtain ⟨S, hS⟩ : ∃ S, shiftD D z = S := ⟨_, rfl⟩
      rw [hS] at HS HY
      rw [hS]
      clear hok hz hS
      go_enter Try.func16, Try.ntmps16
      go_wp2_with fail
      refine HOK.out.mono ?_
      rintro e w1 ⟨rfl, hg1⟩
      have X1 := Lib.hid (gb_below_none hg1 (Nat.le_refl _))
      clear hg1
      go_wp2_with fail
      go_loopw [5, 21] (fun v i wr => ∃ k : Nat, i = .int .i64 (k : Int) ∧ k ≤ n ∧ wr.ownsRow w.heap.size 39 2 v k (depV (moveD (D.take k) z)) ∧ Below w.heap.size w wr) (fun _ i _ => n - (intOf i).toNat)
      case atStart => exact ⟨0, rfl, Nat.zero_le _, World.ownsRow_nil _ _ _ _, X1.out⟩
      case round =>
        obtain ⟨k, rfl, hk, ho, hb⟩ := hrel
        have HB := Lib.hid hb
        have HO := Lib.hid ho
        have hai := HI.out.below hb
        obtain ⟨Ao, co, rfl, _⟩ := own_form ho
        clear ho hb
        by_cases hlt : k < n
        · obtain ⟨b1, off, rfl, hb1, c0, c1⟩ := hai.at k hlt
          obtain ⟨x, hx⟩ : ∃ x, atD D k = x := ⟨_, rfl⟩
          have hin := HIN.out k (by omega)
          have HE := Lib.hid (move_next (D := D) z (k := k) (by omega))
          rw [hx] at c0 c1 hin HE
          have k0 : (0 : Int) ≤ (k : Int) := by omega
          have k1 : (k : Int) < (n : Int) := by omega
          obtain ⟨x1, x2, x3, x4⟩ := hin
          have hsz1 : w.heap.size ≤ wr.heap.size := HB.out.size
          have b3' := Lib.hid (show ∀ u ∈ [Value.int .i64 (x.1 + z), Value.int .i64 (x.2 + z)], u.oneCell' = true by simp [Value.oneCell'])
          have b4' := Lib.hid (show k + 1 ≤ maxLen by unfold maxLen; omega)
          clear hai hx
          go_wp2_with (at_builtin; refine wpList_append_own _ rfl _ _ 24 rfl w.heap.size 39 i0 (.agg #[.int .i64 0, .int .i64 0]) 2 16 Try.underlying24 hi hz0 hz1 hz2 rfl (by decide) _ k _ rfl ((HO.out.alloc _).alloc _) ⟨wr.heap.size + 1, 0, none⟩ 1 1 [.int .i64 (x.1 + z), .int .i64 (x.2 + z)] rfl rfl (World.news_of_block (cs := #[.int .i64 (x.1 + z), .int .i64 (x.2 + z)]) (t := 39) (fr := (0, 0)) (new_at1 wr _ _)) b3'.out b4'.out (by omega) (by simp; omega) ?_; intro v' w4 hown4 hgrow4 _)
          have X4 := Lib.hid (show w4.ownsRow w.heap.size 39 2 v' (k + 1) (depV (moveD (D.take (k + 1)) z)) ∧ Below w.heap.size w w4 from by
            refine ⟨by rw [HE.out, depV_append]; exact hown4, ?_⟩
            exact ((boxD_below HB.out x).alloc (by have := HB.out.size; rw [boxD_size]; omega) _).grown hgrow4 (by have := HB.out.size; have := boxD_size x wr; simp; omega) (fun j hj => (HO.out.lt j hj).1))
          clear hown4 hgrow4 c0 c1
          go_wp2_with fail
          go_roundw
          case rel => exact ⟨k + 1, by go_num, by omega, X4.out.1, X4.out.2⟩
          case measure => simp [intOf]; omega
        · obtain rfl : k = n := by omega
          rw [show D.take k = D from by rw [← hl]; exact List.take_length] at HO
          have HOM := HOKS.out Ao co (moveD D z) wr (depAt_own HO.out (Nat.le_refl _))
          cases hm : okD (moveD D z) with
          | false =>
            have hr := HS.out hm
            subst hr
            rw [hm] at HOM
            have HOM2 := Lib.hid HOM
            clear HOM hm hai
            go_wp2_with fail
            refine HOM2.out.mono ?_
            rintro e w2 ⟨rfl, hg2⟩
            have X2 := Lib.hid (below_gb HB.out (Nat.le_refl _) hg2)
            clear hg2
            go_wp2_with fail
            go_ret
            exact ⟨_, rfl, own_nilD rfl _ _, X2.out⟩
          | true =>
            have hr := HY.out hm
            rw [hm] at HOM
            have HOM2 := Lib.hid HOM
            have HR := Lib.hid hr
            clear HOM hm hai hr
            go_wp2_with fail
            refine HOM2.out.mono ?_
            rintro e w2 ⟨rfl, hg2⟩
            have X2 := Lib.hid (below_gb HB.out (Nat.le_refl _) hg2)
            have O2 := Lib.hid (own_none HO.out hg2)
            clear hg2
            go_wp2_with fail
            go_ret
            exact ⟨_, rfl, by rw [HR.out, move_length, hl]; exact O2.out, X2.out⟩
end Go.Proofs.Ytcmlnokfjbglaaa
end

section
namespace Go.Proofs.Ytcmlnokfjbglaaa
open Go.ChangeShapes Go.WideShapes Go.ChangeAt Go.RowKit
set_option linter.unusedVariables false

theorem wfl_nilD : WfL [] := fun x h => by cases h
section
variable {W H : Int} {L P : List Int}
theorem pair_step {i j : Nat} (h : j + 1 < (pairW W H L P i).length) : (pairW W H L P i).getD (j + 1) 0 / 4 = nextG W H ((pairW W H L P i).getD j 0 / 4) ((pairW W H L P i).getD j 0 % 4) := by
  unfold pairW walkOf at h ⊢
  cases hw : walkF W H L P ((i : Int) % countG W H) ((countG W H).toNat + 1) ((i : Int) / countG W H) with
  | none => simp [hw] at h
  | some l =>
    simp only [hw, Option.getD_some] at h ⊢
    have hl := (walk_links _ _ _ hw).1 (j + 1) h
    have hh := link_has hl
    have he := link_next (W := W) (H := H) (L := L) (r := l) (i := j) rfl rfl hh
    rw [hl] at he
    exact of_decide_eq_true he.symm
theorem depG_step {d : Dep} (h : d ∈ depG W H L P) : d.2 / 4 = nextG W H (d.1 / 4) (d.1 % 4) := by
  unfold depG at h
  split at h
  · obtain ⟨i, j, _, h2, rfl⟩ := mem_allD h
    exact pair_step h2
  · cases h
theorem succ_has {D : List Dep} {d : Dep} (h : d ∈ D) : inG (succD D d.1) d.2 = true := by
  obtain ⟨k, hk, e⟩ := List.getElem_of_mem (mem_succ h)
  exact inG_yes hk (by rw [List.getD_eq_getElem?_getD, List.getElem?_eq_getElem hk]; exact e)
end
theorem insAll_comm {D E : List Dep} (hD : ascD D) (hE : ascD E) : insAll D E = insAll E D :=
  asc_ext _ _ (insAll_asc hD E) (insAll_asc hE D) (fun x => by rw [mem_insAll, mem_insAll]; exact or_comm)
theorem insAll_ok {D E : List Dep} (hD : okD D = true) (hE : okD E = true) : okD (insAll D E) = true :=
  okD_of (insAll_asc (okD_asc hD) E) (fun d hd => by rcases mem_insAll.1 hd with h | h; exact okD_in hD h; exact okD_in hE h)
theorem move_ok {D : List Dep} {z : Int} (hD : ascD D) (h : ∀ d ∈ D, 0 ≤ d.1 + z ∧ d.1 + z ≤ 127 ∧ 0 ≤ d.2 + z ∧ d.2 + z ≤ 127) : okD (moveD D z) = true := by
  refine okD_of ?_ ?_
  · refine List.pairwise_map.2 (hD.imp fun {a b} hab => ?_)
    rw [ltD_iff] at hab ⊢
    simp only
    omega
  · intro d hd
    obtain ⟨x, hx, rfl⟩ := List.mem_map.1 hd
    exact inD_iff.2 (h x hx)
theorem move_back (D : List Dep) (z : Int) : moveD (moveD D z) (-z) = D := by
  unfold moveD
  rw [List.map_map]
  refine (List.map_congr_left (fun d _ => ?_)).trans (List.map_id D)
  exact Prod.ext (by simp; omega) (by simp; omega)
/-- Small lists: their shift by 64, and back. -/
theorem shift64 {D : List Dep} (hD : ascD D) (h : ∀ d ∈ D, 0 ≤ d.1 ∧ d.1 ≤ 5 ∧ 0 ≤ d.2 ∧ d.2 ≤ 5) : okD D = true ∧ shiftD D 64 = moveD D 64 ∧ shiftD (moveD D 64) (-64) = D := by
  have h1 : okD D = true := okD_of hD fun d hd => by have := h d hd; exact inD_iff.2 (by omega)
  have h2 : okD (moveD D 64) = true := move_ok hD fun d hd => by have := h d hd; omega
  have h3 : moveD (moveD D 64) (-64) = D := move_back D 64
  exact ⟨h1, shift_yes h1 (by decide) h2, by rw [shift_yes h2 (by decide) (by rw [h3]; exact h1), h3]⟩
end Go.Proofs.Ytcmlnokfjbglaaa
end

section
namespace Go.Proofs.Ytcmlnokfjbglaaa
open Go.ChangeShapes Go.WideShapes Go.ChangeAt Go.RowKit
set_option linter.unusedVariables false
set_option maxRecDepth 20000

def smallD (D : List Dep) : Prop := ∀ d ∈ D, 0 ≤ d.1 ∧ d.1 ≤ 5 ∧ 0 ≤ d.2 ∧ d.2 ≤ 5
/-- The list so far, and the cursor. -/
def LsB (w : World) (g k : Nat) (D : List Dep) (q c : Nat) (wr : World) : Prop :=
  ascD D ∧ smallD D ∧ D.length ≤ k ∧ wr.ownsRow w.heap.size 39 2 (.slice (some ⟨q, 0, none⟩) D.length c) D.length (depV D) ∧ Cur wr g ∧ w.grownBy wr (some g)
theorem own_cur {w wr w' : World} {g n : Nat} {v : Value} {xs : List Value} (h : wr.ownsRow w.heap.size 39 2 v n xs) (hg : g < w.heap.size) (hb : wr.grownBy w' (some g)) : w'.ownsRow w.heap.size 39 2 v n xs :=
  h.kept hb (by
    cases hv : v.ownBlock with
    | none => exact .inl rfl
    | some k => exact .inr (fun e => by have := (h.lt k hv).1; have := Option.some.inj e; omega))
theorem LsB.cur {w wr w' : World} {g k q c : Nat} {D : List Dep} (h : LsB w g k D q c wr) (hg : g < w.heap.size) (hc : Cur w' g) (hb : wr.grownBy w' (some g)) : LsB w g k D q c w' := by
  obtain ⟨h2, h3, h4, h5, h6, h7⟩ := h
  exact ⟨h2, h3, h4, own_cur h5 hg hb, hc, gb_trans h7 hb⟩
theorem small_ins {D : List Dep} (h : smallD D) {x y : Int} (hx : 0 ≤ x ∧ x ≤ 5) (hy : 0 ≤ y ∧ y ≤ 5) : smallD (insD D (x, y)) := fun d hd => by
  rcases mem_ins.1 hd with rfl | hd
  · exact ⟨hx.1, hx.2, hy.1, hy.2⟩
  · exact h d hd
def DrawnL (g : Nat) (w : World) (e : Ending) (w' : World) : Prop :=
  ∃ (v : Value) (D : List Dep), e = .returned v ∧ ascD D ∧ smallD D ∧ D.length ≤ 9 ∧ w'.ownsRow w.heap.size 39 2 v D.length (depV D) ∧ Cur w' g ∧ w.grownBy w' (some g)

theorem l08List (g : Nat) (w : World) (hcur : Cur w g) :
    Calls Try.prog 51 #[.pointer (some ⟨g, 0, none⟩)] w (DrawnL g w) := by
  have hgw := hcur.lt
  have X0 := Lib.hid (show LsB w g 0 [] w.heap.size 0 (w.alloc (.cells #[] 39)) from
    ⟨asc_nil, (fun d h => by cases h), Nat.le_refl _, own_madeD w (Nat.le_refl _), hcur.grown (gb_alloc (gb_refl w none) _) (fun k h => by cases h), gb_alloc (gb_refl _ _) _⟩)
  clear hcur
  go_enter Try.func51, Try.ntmps51
  go_wp2_with fail
  go_loopw [3, 4] (fun v i wr => ∃ (k : Nat) (D : List Dep) (q c : Nat), i = .int .i64 (k : Int) ∧ k ≤ 9 ∧ v = .slice (some ⟨q, 0, none⟩) D.length c ∧ LsB w g k D q c wr) (fun _ i _ => 10 - (intOf i).toNat)
  case atStart => exact ⟨0, [], _, _, rfl, Nat.zero_le _, rfl, X0.out⟩
  case round =>
    obtain ⟨k, D, q, c, rfl, hk, rfl, hx⟩ := hrel
    have X1 := Lib.hid hx
    have hc1 := hx.2.2.2.2.1
    clear hx
    go_wp2_with fail
    refine (l01Below 9 _ _ hc1).mono ?_
    rintro e w2 ⟨r, rfl, hr0, hr1, _, hc2, hg2⟩
    have hr9 := hr1 (by omega)
    have X2 := Lib.hid (X1.out.cur hgw hc2 hg2)
    clear hr1 hc1 hg2 X1
    by_cases hlt : (k : Int) < r
    · have hk9 : k < 9 := by omega
      clear hr9
      go_wp2_with fail
      refine (l01Below 6 _ _ hc2).mono ?_
      rintro e w3 ⟨x, rfl, hx0, hx1, _, hc3, hg3⟩
      have HX := Lib.hid (show 0 ≤ x ∧ x ≤ 5 by have := hx1 (by omega); omega)
      have X3 := Lib.hid (X2.out.cur hgw hc3 hg3)
      clear hx0 hx1 hc2 hg3 X2
      go_wp2_with fail
      refine (l01Below 6 _ _ hc3).mono ?_
      rintro e w4 ⟨y, rfl, hy0, hy1, _, hc4, hg4⟩
      have HY := Lib.hid (show 0 ≤ y ∧ y ≤ 5 by have := hy1 (by omega); omega)
      have X4 := Lib.hid (X3.out.cur hgw hc4 hg4)
      have hl := X4.out.2.2.1
      have HP := Lib.hid (show Calls Try.prog 63 #[.slice (some ⟨q, 0, none⟩) D.length c, .agg #[.int .i64 x, .int .i64 y]] w4 (PutN w.heap.size (insD D (x, y)) w4) from specPut w.heap.size D.length q c D (x, y) X4.out.1 w4 X4.out.2.2.2.1 X4.out.2.2.2.2.2.size (by omega))
      clear hy0 hy1 hc3 hg4 hc4 X3
      go_wp2_with fail
      refine HP.out.mono ?_
      rintro e w5 ⟨q5, c5, rfl, ho5, hg5⟩
      have X5 := Lib.hid (show LsB w g (k + 1) (insD D (x, y)) q5 c5 w5 from
        ⟨ins_asc X4.out.1 _, small_ins X4.out.2.1 HX.out HY.out, by have := (ins_length D (x, y)).1; omega, ho5, X4.out.2.2.2.2.1.grown hg5 (fun k h => by cases h), gb_trans X4.out.2.2.2.2.2 (gb_of_none hg5 _)⟩)
      clear ho5 hg5
      go_wp2_with fail
      go_roundw
      case rel => exact ⟨k + 1, _, _, _, by go_num, by omega, rfl, X5.out⟩
      case measure => simp [intOf]; omega
    · clear hc2
      go_wp2_with fail
      go_ret
      exact ⟨_, D, rfl, X2.out.1, X2.out.2.1, Nat.le_trans X2.out.2.2.1 hk, X2.out.2.2.2.1, X2.out.2.2.2.2.1, X2.out.2.2.2.2.2⟩

/-- A list of small dependencies. -/
def DrawnDep (w : World) (e : Ending) (w' : World) : Prop :=
  ∃ (v : Value) (D : List Dep), e = .returned v ∧ ascD D ∧ smallD D ∧ D.length ≤ 9 ∧ w'.ownsRow w.heap.size 39 2 v D.length (depV D) ∧ Below w.heap.size w w'
theorem drawDepends (A : Option Addr) (n cap : Nat) (w : World) (hr : ByteRow w w.heap.size A n) (hn : n ≤ 1048576) :
    Calls Try.prog 12 #[.slice A n cap] w (DrawnDep w) := by
  have HR := Lib.hid hr
  clear hr
  go_enter Try.func12, Try.ntmps12
  go_wp2_with fail
  refine (l01New _ _ _ _ HR.out hn).mono ?_
  rintro e w1 ⟨g, rfl, hg, hc1, hbel⟩
  have HB := Lib.hid hbel
  have HG := Lib.hid hg
  clear hbel hg
  go_wp2_with fail
  refine (l08List g _ hc1).mono ?_
  rintro e w2 ⟨v, D, rfl, h2, h3, h4, h5, h6, h7⟩
  have X2 := Lib.hid (show DrawnDep w (.returned v) w2 from ⟨v, D, rfl, h2, h3, h4, own_less h5 HB.out.size, HB.out.trans (gb_below h7 HB.out.size HG.out)⟩)
  clear h2 h3 h4 h5 h6 h7 hc1
  go_wp2_with fail
  go_ret
  exact X2.out
end Go.Proofs.Ytcmlnokfjbglaaa
end

section
namespace Go.Proofs.Ytcmlnokfjbglaaa
open Go.ChangeShapes Go.WideShapes Go.ChangeAt Go.RowKit
set_option linter.unusedVariables false
set_option maxRecDepth 20000

/-- One list of the call's own. -/
def Own1 (w : World) (D : List Dep) (N : Nat) (v : Value) (wr : World) : Prop := wr.ownsRow w.heap.size 39 2 v N (depV D)
/-- The six lists: drawn, of the table, merged in both orders, shifted, shifted back. -/
structure SixD (w : World) (D E X S : List Dep) (N M K : Nat) (va vb vx vy vs vu : Value) (wr : World) : Prop where
  ra : Own1 w D N va wr
  rb : Own1 w E M vb wr
  rx : Own1 w X K vx wr
  ry : Own1 w X K vy wr
  rs : Own1 w S N vs wr
  ru : Own1 w D N vu wr
  lb : Below w.heap.size w wr
section
variable {w wr w' : World} {D E X S : List Dep} {N M K : Nat} {va vb vx vy vs vu : Value}
theorem SixD.gb (h : SixD w D E X S N M K va vb vx vy vs vu wr) (hg : wr.grownBy w' none) : SixD w D E X S N M K va vb vx vy vs vu w' :=
  ⟨own_none h.ra hg, own_none h.rb hg, own_none h.rx hg, own_none h.ry hg, own_none h.rs hg, own_none h.ru hg, below_gb h.lb (Nat.le_refl _) hg⟩
theorem Own1.cells {A : Option Addr} {c : Nat} (h : Own1 w D N (.slice A N c) wr) {j : Nat} {x : Dep} (hj : j < N) (hx : atD D j = x) : ∃ g, A = some ⟨g, 0, none⟩ ∧ wr.cell? ⟨g, j * 2, none⟩ = some (.int .i64 x.1) ∧ wr.cell? ⟨g, j * 2 + 1, none⟩ = some (.int .i64 x.2) := by
  obtain ⟨A', c', e, hA⟩ := own_form h
  obtain ⟨g, hg⟩ := hA (by omega)
  simp only [Value.slice.injEq] at e
  obtain ⟨rfl, _, rfl⟩ := e
  subst hg
  obtain ⟨h1, h2⟩ := dep_cell h j (by have := own_dep_length h; omega)
  rw [hx] at h1 h2
  exact ⟨g, rfl, h1, h2⟩
end
theorem new_own1 {w wr w' : World} {D : List Dep} {N : Nat} {v : Value} (hb : Below w.heap.size w wr) (hN : D.length = N) (ho : w'.ownsRow wr.heap.size 39 2 v D.length (depV D)) : Own1 w D N v w' := by
  subst hN
  exact own_less ho hb.size

set_option maxHeartbeats 1600000 in
theorem walk_FnMerged (A : Option Addr) (n cap : Nat) (w : World) (hr : ByteRow w w.heap.size A n) :
    Calls Try.prog 3 #[.slice A n cap] w fun e w' => e = .returned (.bool true) ∧ Below w.heap.size w w' := by
  by_cases hbig : 1048576 < n
  · go_enter Try.func3, Try.ntmps3
    go_wp2_with fail
    refine (lawsBig A n cap _).mono ?_
    rintro e w1 ⟨rfl, rfl⟩
    rw [decide_eq_true hbig]
    go_wp2_with fail
    go_ret
    exact ⟨rfl, Below.refl _ _⟩
  · have HR := Lib.hid hr
    have hn : n ≤ 1048576 := by omega
    clear hr
    go_enter Try.func3, Try.ntmps3
    go_wp2_with fail
    refine (lawsBig A n cap _).mono ?_
    rintro e w1 ⟨rfl, rfl⟩
    rw [decide_eq_false hbig]
    go_wp2_with fail
    refine (drawDepends A n cap _ HR.out hn).mono ?_
    rintro e w0 ⟨va, D, rfl, hDa, hDs, hDl, ho0, hb0⟩
    have HB0 := Lib.hid hb0
    have HO0 := Lib.hid ho0
    have HR0 := Lib.hid ((HR.out.keep fun p hp => World.cell?_of_block (hb0.block p.block hp)).more hb0.size)
    obtain ⟨hDok, hS1, hS2⟩ := shift64 hDa hDs
    have HDA := Lib.hid hDa
    have HDS := Lib.hid hDs
    have HDOK := Lib.hid hDok
    obtain ⟨Aa, ca, rfl, _⟩ := own_form ho0
    clear ho0 hb0 hDa hDs hDok
    go_wp2_with fail
    refine (drawTable A n cap _ HR0.out hn).mono ?_
    rintro e w1 ⟨W, H, r, v, rfl, hok, hr1, hr4, ho, hb⟩
    have hpl : (stdTab W H r).length ≤ 256 := by rw [stdTab, stdTo_len]; exact sq_le W H
    obtain ⟨P, hP⟩ : ∃ P, stdTab W H r = P := ⟨_, rfl⟩
    rw [hP] at hpl ho
    obtain ⟨A2, c2, rfl, _⟩ := own_form ho
    obtain ⟨W2, hW2⟩ : ∃ W2, W2 = (w1.alloc (.cells #[.int .i64 W, .int .i64 H, .slice none 0 0] 30)).alloc (.cells #[.slice A2 P.length c2] 32) := ⟨_, rfl⟩
    have hg2 : w1.grownBy W2 none := by rw [hW2]; exact gb_alloc (gb_alloc (gb_refl w1 none) _) _
    have hbm : Blk W2 w1.heap.size 30 #[.int .i64 W, .int .i64 H, .slice none 0 0] := by rw [hW2]; exact (Blk.new w1 _ _).alloc _
    have hbt : Blk W2 (w1.heap.size + 1) 32 #[.slice A2 P.length c2] := by
      have := Blk.new (w1.alloc (.cells #[.int .i64 W, .int .i64 H, .slice none 0 0] 30)) 32 #[.slice A2 P.length c2]
      rw [alloc_size] at this
      rw [hW2]
      exact this
    have HIA := Lib.hid (show IntAt W2 W2.heap.size A2 P.length P from ((intAt_own ho rfl (Nat.le_refl _)).none (Nat.le_refl _) hg2).more hg2.size)
    have HLB := Lib.hid (below_gb (HB0.out.trans (hb.mono HB0.out.size)) (Nat.le_refl _) hg2)
    have RA := Lib.hid (show Own1 w D D.length (.slice Aa D.length ca) W2 from own_none (own_below HO0.out hb) hg2)
    have HCD := Lib.hid (fun w h2 => show Calls Try.prog 14 #[.agg #[.int .i64 W, .int .i64 H, .slice none 0 0], .agg #[.slice A2 P.length c2]] w (NewD (depG W H [] P) w) from implDependsOf W H none A2 0 0 P.length c2 [] P wfl_nilD w (IntAt.nil _ _ _) h2 (by omega) (by omega))
    have hdl := depG_len (W := W) (H := H) (L := []) (P := P)
    have hEok := depG_ok (W := W) (H := H) (L := []) (P := P)
    obtain ⟨E, hE⟩ : ∃ E, depG W H [] P = E := ⟨_, rfl⟩
    rw [hE] at HCD hdl hEok
    have hm1 : mergeD D E = insAll D E := merge_yes HDOK.out hEok
    have hm2 : mergeD E D = insAll D E := by rw [merge_yes hEok HDOK.out]; exact (insAll_comm HDA.out (okD_asc hEok)).symm
    have hXok : okD (insAll D E) = true := insAll_ok HDOK.out hEok
    have hl1 := insAll_length D E
    have hl2 := (insAll_length E D).2
    rw [← insAll_comm HDA.out (okD_asc hEok)] at hl2
    obtain ⟨X, hX⟩ : ∃ X, insAll D E = X := ⟨_, rfl⟩
    rw [hX] at hm1 hm2 hXok hl1 hl2
    obtain ⟨S, hS⟩ : ∃ S, moveD D 64 = S := ⟨_, rfl⟩
    have hSl : S.length = D.length := by rw [← hS]; exact move_length D 64
    have hSat := fun j (hj : j < D.length) => move_at (D := D) 64 hj
    rw [hS] at hS1 hS2 hSat
    have CM1 := Lib.hid (fun A c A2 c2 w h h2 k k2 => show Calls Try.prog 15 #[.slice A D.length c, .slice A2 E.length c2] w (NewD X w) from hm1 ▸ implMerge A A2 D.length c E.length c2 D E w h h2 (by omega) (by omega) k k2)
    have CM2 := Lib.hid (fun A c A2 c2 w h h2 k k2 => show Calls Try.prog 15 #[.slice A E.length c, .slice A2 D.length c2] w (NewD X w) from hm2 ▸ implMerge A A2 E.length c D.length c2 E D w h h2 (by omega) (by omega) k k2)
    have CS1 := Lib.hid (fun A c w h => show Calls Try.prog 16 #[.slice A D.length c, .int .i64 64] w (NewD S w) from hS1 ▸ implShift A D.length c D 64 w h (by omega))
    have CS2 := Lib.hid (fun A c w h => show Calls Try.prog 16 #[.slice A S.length c, .int .i64 (-64)] w (NewD D w) from hS2 ▸ implShift A S.length c S (-64) w h (by omega))
    have CO := Lib.hid (fun A c w h => show Calls Try.prog 17 #[.slice A X.length c] w (RetB true w) from hXok ▸ implDependsOk A X.length c X w h (by omega))
    have HSAT := Lib.hid hSat
    have HSL := Lib.hid hSl
    have HL1 := Lib.hid (And.intro hl1 hl2)
    have a0 : W2.cell? ⟨w1.heap.size, 0, none⟩ = some (.int .i64 W) := hbm.cell 0
    have a1 : W2.cell? ⟨w1.heap.size, 1, none⟩ = some (.int .i64 H) := hbm.cell 1
    have a2 : W2.cell? ⟨w1.heap.size, 2, none⟩ = some (.slice none 0 0) := hbm.cell 2
    have a3 : W2.cell? ⟨w1.heap.size + 1, 0, none⟩ = some (.slice A2 P.length c2) := hbt.cell 0
    rw [hW2] at a0 a1 a2 a3
    have HW2 := Lib.hid hW2
    clear hok hr1 hr4 ho hb hg2 hbm hbt hE hW2 hP hEok hm1 hm2 hXok hl1 hl2 hX hS hSl hSat hS1 hS2
    go_wp2_with fail
    rw [← HW2.out]
    refine (HCD.out _ HIA.out).mono ?_
    rintro e w3 ⟨vb, rfl, o3, b3⟩
    have RB3 := Lib.hid (new_own1 HLB.out rfl o3)
    have RA3 := Lib.hid (show Own1 w D D.length (.slice Aa D.length ca) w3 from own_below RA.out b3)
    have LB3 := Lib.hid (HLB.out.trans (b3.mono HLB.out.size))
    obtain ⟨Ab, cb, rfl, _⟩ := own_form o3
    clear o3 b3 a0 a1 a2 a3
    go_wp2_with fail
    refine (CM1.out _ _ _ _ _ (depAt_own RA3.out (Nat.le_refl _)) (depAt_own RB3.out (Nat.le_refl _)) (own_cap RA3.out).1 (own_cap RB3.out).1).mono ?_
    rintro e w4 ⟨vx, rfl, o4, b4⟩
    have RX4 := Lib.hid (new_own1 LB3.out rfl o4)
    have RA4 := Lib.hid (show Own1 w D D.length _ w4 from own_below RA3.out b4)
    have RB4 := Lib.hid (show Own1 w E E.length _ w4 from own_below RB3.out b4)
    have LB4 := Lib.hid (LB3.out.trans (b4.mono LB3.out.size))
    obtain ⟨Ax, cx, rfl, _⟩ := own_form o4
    clear o4 b4
    go_wp2_with fail
    refine (CM2.out _ _ _ _ _ (depAt_own RB4.out (Nat.le_refl _)) (depAt_own RA4.out (Nat.le_refl _)) (own_cap RB4.out).1 (own_cap RA4.out).1).mono ?_
    rintro e w5 ⟨vy, rfl, o5, b5⟩
    have RY5 := Lib.hid (new_own1 LB4.out rfl o5)
    have RA5 := Lib.hid (show Own1 w D D.length _ w5 from own_below RA4.out b5)
    have RB5 := Lib.hid (show Own1 w E E.length _ w5 from own_below RB4.out b5)
    have RX5 := Lib.hid (show Own1 w X X.length _ w5 from own_below RX4.out b5)
    have LB5 := Lib.hid (LB4.out.trans (b5.mono LB4.out.size))
    obtain ⟨Ay, cy, rfl, _⟩ := own_form o5
    clear o5 b5
    go_wp2_with fail
    refine (CS1.out _ _ _ (depAt_own RA5.out (Nat.le_refl _))).mono ?_
    rintro e w6 ⟨vs, rfl, o6, b6⟩
    have RS6 := Lib.hid (new_own1 LB5.out rfl o6)
    have RA6 := Lib.hid (show Own1 w D D.length _ w6 from own_below RA5.out b6)
    have RB6 := Lib.hid (show Own1 w E E.length _ w6 from own_below RB5.out b6)
    have RX6 := Lib.hid (show Own1 w X X.length _ w6 from own_below RX5.out b6)
    have RY6 := Lib.hid (show Own1 w X X.length _ w6 from own_below RY5.out b6)
    have LB6 := Lib.hid (LB5.out.trans (b6.mono LB5.out.size))
    obtain ⟨As, cs, rfl, _⟩ := own_form o6
    clear o6 b6
    go_wp2_with fail
    refine (CS2.out _ _ _ (depAt_own RS6.out (Nat.le_refl _))).mono ?_
    rintro e w7 ⟨vu, rfl, o7, b7⟩
    obtain ⟨Au, cu, rfl, _⟩ := own_form o7
    have rs7 := own_below RS6.out b7
    rw [HSL.out] at rs7
    have X7 := Lib.hid (show SixD w D E X S D.length E.length X.length (.slice Aa D.length ca) (.slice Ab E.length cb) (.slice Ax X.length cx) (.slice Ay X.length cy) (.slice As D.length cs) (.slice Au D.length cu) w7 from
      ⟨own_below RA6.out b7, own_below RB6.out b7, own_below RX6.out b7, own_below RY6.out b7, rs7, new_own1 LB6.out rfl o7, LB6.out.trans (b7.mono LB6.out.size)⟩)
    obtain ⟨N, hN⟩ : ∃ N, D.length = N := ⟨_, rfl⟩
    obtain ⟨M, hM⟩ : ∃ M, E.length = M := ⟨_, rfl⟩
    obtain ⟨K, hK⟩ : ∃ K, X.length = K := ⟨_, rfl⟩
    rw [hN, hM, hK] at X7
    obtain ⟨⟨hl1, hl2⟩, hl3⟩ := HL1.out
    rw [hN, hM, hK] at hl1
    rw [hN, hK] at hl2
    rw [hM, hK] at hl3
    rw [hN] at hDl HSAT
    rw [hM] at hdl
    rw [hK] at CO
    have f1 : (N : Int) ≤ (K : Int) := by omega
    have f2 : (M : Int) ≤ (K : Int) := by omega
    have f3 : (K : Int) ≤ (N : Int) + (M : Int) := by omega
    have HSN := Lib.hid (HSL.out.trans hN)
    clear o7 b7 rs7
    rw [HSN.out]
    go_wp2_with fail
    go_loopw [11] (fun i wr => ∃ j : Nat, i = .int .i64 (j : Int) ∧ j ≤ K ∧ SixD w D E X S N M K (.slice Aa N ca) (.slice Ab M cb) (.slice Ax K cx) (.slice Ay K cy) (.slice As N cs) (.slice Au N cu) wr) (fun i _ => 1000000 - (Go.RowKit.intOf i).toNat)
    case atStart => exact ⟨0, rfl, Nat.zero_le _, X7.out⟩
    case round =>
      obtain ⟨j, rfl, hj, hx⟩ := hrel
      have X8 := Lib.hid hx
      clear hx
      by_cases hlt : j < K
      · obtain ⟨x, hx⟩ : ∃ x, atD X j = x := ⟨_, rfl⟩
        obtain ⟨g1, h1, c0, c1⟩ := X8.out.rx.cells hlt hx
        obtain ⟨g2, h2, e0, e1⟩ := X8.out.ry.cells hlt hx
        subst h1
        subst h2
        have j0 : (0 : Int) ≤ (j : Int) := by omega
        have j1 : (j : Int) < (K : Int) := by omega
        clear hx
        go_wp2_with fail
        go_quiet (fail)
        go_wp2_with fail
        go_roundw
        case rel => exact ⟨j + 1, by go_num, by omega, X8.out.gb (gb_drewN (gb_refl _ _) _)⟩
        case measure => simp [Go.RowKit.intOf]; omega
      · obtain rfl : j = K := by omega
        go_wp2_with fail
        go_loopw [12] (fun i wr => ∃ k : Nat, i = .int .i64 (k : Int) ∧ k ≤ N ∧ SixD w D E X S N M j (.slice Aa N ca) (.slice Ab M cb) (.slice Ax j cx) (.slice Ay j cy) (.slice As N cs) (.slice Au N cu) wr) (fun i _ => 1000000 - (Go.RowKit.intOf i).toNat)
        case atStart => exact ⟨0, rfl, Nat.zero_le _, X8.out⟩
        case round =>
          obtain ⟨k, rfl, hk, hx⟩ := hrel
          have X9 := Lib.hid hx
          clear hx
          by_cases hlt2 : k < N
          · obtain ⟨x, hx⟩ : ∃ x, atD D k = x := ⟨_, rfl⟩
            have hs := HSAT.out k hlt2
            rw [hx] at hs
            obtain ⟨g1, h1, c0, c1⟩ := X9.out.ra.cells hlt2 hx
            obtain ⟨g2, h2, e0, e1⟩ := X9.out.ru.cells hlt2 hx
            obtain ⟨g3, h3, s0, s1⟩ := X9.out.rs.cells hlt2 hs
            obtain ⟨x0, x1, x2, x3⟩ := HDS.out x (hx ▸ atD_mem (by rw [hN]; exact hlt2))
            have s2 : wr.cell? ⟨g3, k * 2, none⟩ = some (.int .i64 (x.1 + 64)) := s0
            have s3 : wr.cell? ⟨g3, k * 2 + 1, none⟩ = some (.int .i64 (x.2 + 64)) := s1
            have q1 : IntKind.i64.wrap (x.1 + 64) = x.1 + 64 := IntWalk.i64_in _ (by omega)
            have j0 : (0 : Int) ≤ (k : Int) := by omega
            have j1 : (k : Int) < (N : Int) := by omega
            subst h1
            subst h2
            subst h3
            clear hx hs s0 s1
            go_wp2_with fail
            go_quiet (fail)
            go_wp2_with fail
            go_roundw
            case rel => exact ⟨k + 1, by go_num, by omega, X9.out.gb (gb_drewN (gb_refl _ _) _)⟩
            case measure => simp [Go.RowKit.intOf]; omega
          · obtain rfl : k = N := by omega
            go_wp2_with fail
            refine (CO.out _ _ _ (depAt_own X9.out.rx (Nat.le_refl _))).mono ?_
            rintro e w9 ⟨rfl, hg9⟩
            have B9 := Lib.hid (X9.out.gb hg9).lb
            clear hg9
            go_wp2_with fail
            go_ret
            exact ⟨rfl, B9.out⟩
end Go.Proofs.Ytcmlnokfjbglaaa
end

section
namespace Go.Proofs.Ytcmlnokfjbglaaa
open Go.ChangeShapes Go.WideShapes Go.ChangeAt Go.RowKit
set_option linter.unusedVariables false

/-- The first one's block is not the second one's. -/
def Apart (v v' : Value) : Prop := ∀ g, v.ownBlock = some g → v'.ownBlock ≠ some g
theorem apart_none (v : Value) : Apart v (.slice none 0 0) := fun g _ e => by cases e
theorem none_apart (v : Value) : Apart (.slice none 0 0) v := fun g e => by cases e
theorem row_kept {w w' : World} {base : Nat} {v : Value} {n : Nat} {xs : List Value} {row : Option Nat} (h : w.ownsRow base 3 1 v n xs) (hg : w.grownBy w' row) (hne : ∀ g, row = some g → v.ownBlock ≠ some g) : w'.ownsRow base 3 1 v n xs :=
  h.kept hg (by
    cases hv : v.ownBlock with
    | none => exact .inl rfl
    | some k => exact .inr (fun e => hne k e.symm hv))
/-- The numbers of steps, the front, the next front, the successors. -/
structure Dp (w : World) (vd : Value) (X : List Int) (vf : Value) (F : List Int) (vn : Value) (N : List Int) (vs : Value) (S : List Int) (wr : World) : Prop where
  rd : wr.ownsRow w.heap.size 3 1 vd 128 (intsV X)
  rf : wr.ownsRow w.heap.size 3 1 vf F.length (intsV F)
  rn : wr.ownsRow w.heap.size 3 1 vn N.length (intsV N)
  rs : wr.ownsRow w.heap.size 3 1 vs S.length (intsV S)
  lb : Below w.heap.size w wr
  df : Apart vd vf
  dn : Apart vd vn
  ds : Apart vd vs
  nf : Apart vn vf
  ns : Apart vn vs
section
variable {w wr w' : World} {vd vf vn vs v : Value} {X F N S L : List Int}
theorem Dp.gb (h : Dp w vd X vf F vn N vs S wr) (hg : wr.grownBy w' none) : Dp w vd X vf F vn N vs S w' :=
  ⟨own_none h.rd hg, own_none h.rf hg, own_none h.rn hg, own_none h.rs hg, below_gb h.lb (Nat.le_refl _) hg, h.df, h.dn, h.ds, h.nf, h.ns⟩
theorem Dp.al (h : Dp w vd X vf F vn N vs S wr) (o : Obj) : Dp w vd X vf F vn N vs S (wr.alloc o) := h.gb (gb_alloc (gb_refl wr none) o)
/-- The successors of another channel. -/
theorem Dp.succ (h : Dp w vd X vf F vn N vs S wr) (ho : w'.ownsRow wr.heap.size 3 1 v L.length (intsV L)) (hb : Below wr.heap.size wr w') : Dp w vd X vf F vn N v L w' := by
  have k := h.gb (gb_of_below hb none)
  exact ⟨k.rd, k.rf, k.rn, own_less ho h.lb.size, k.lb, h.df, h.dn, fun g hg e => by have h1 := (h.rd.lt g hg).2; have h2 := (ho.lt g e).1; omega, h.nf, fun g hg e => by have h1 := (h.rn.lt g hg).2; have h2 := (ho.lt g e).1; omega⟩
theorem Dp.drop (h : Dp w vd X vf F vn N vs S wr) : Dp w vd X vf F vn N (.slice none 0 0) [] wr :=
  ⟨h.rd, h.rf, h.rn, World.ownsRow_nil _ _ _ _, h.lb, h.df, h.dn, apart_none _, h.nf, apart_none _⟩
/-- A new list behind the front. -/
theorem Dp.begin (h : Dp w vd X vf F vn N vs S wr) : Dp w vd X vf F (.slice (some ⟨wr.heap.size, 0, none⟩) 0 0) [] (.slice none 0 0) [] (wr.alloc (.cells #[] 3)) := by
  have k := h.al (.cells #[] 3)
  refine ⟨k.rd, k.rf, World.ownsRow_made (base := w.heap.size) (e := 3) (size := 1) wr #[] 0 h.lb.size (by decide) rfl, World.ownsRow_nil _ _ _ _, k.lb, h.df, fun g hg e => ?_, apart_none _, fun g hg e => ?_, apart_none _⟩
  · have h1 := (h.rd.lt g hg).2
    have h2 : wr.heap.size = g := Option.some.inj e
    omega
  · have h1 := (h.rf.lt g e).2
    have h2 : wr.heap.size = g := Option.some.inj hg
    omega
/-- The new list is the front. -/
theorem Dp.shift (h : Dp w vd X vf F vn N vs S wr) : Dp w vd X vn N (.slice none 0 0) [] (.slice none 0 0) [] wr :=
  ⟨h.rd, h.rn, World.ownsRow_nil _ _ _ _, World.ownsRow_nil _ _ _ _, h.lb, h.dn, apart_none _, apart_none _, none_apart _, none_apart _⟩
theorem Dp.store {g cap : Nat} (h : Dp w (.slice (some ⟨g, 0, none⟩) 128 cap) X vf F vn N vs S wr) (t : Nat) (x : Int) : Dp w (.slice (some ⟨g, 0, none⟩) 128 cap) (X.set t x) vf F vn N vs S (wr.setCell ⟨g, t, none⟩ (.int .i64 x)) := by
  obtain ⟨h1, h2⟩ := h.rd.stored t (.int .i64 x)
  rw [intsV_set] at h1
  refine ⟨h1, row_kept h.rf h2 ?_, row_kept h.rn h2 ?_, row_kept h.rs h2 ?_, h.lb.grown h2 h.lb.size (fun j e => by cases e; exact (h.rd.lt g rfl).1), h.df, h.dn, h.ds, h.nf, h.ns⟩
  · exact fun j e => by cases e; exact h.df g rfl
  · exact fun j e => by cases e; exact h.dn g rfl
  · exact fun j e => by cases e; exact h.ds g rfl
theorem Dp.app {g cap : Nat} {o : Obj} {x : Int} (h : Dp w vd X vf F vn N vs S wr) (ho : w'.ownsRow w.heap.size 3 1 (.slice (some ⟨g, 0, none⟩) (N.length + 1) cap) (N.length + 1) (intsV N ++ [.int .i64 x]))
    (hg : (wr.alloc o).grownBy w' vn.ownBlock) (hat : vn.ownBlock = some g ∨ g = (wr.alloc o).heap.size) : Dp w vd X vf F (.slice (some ⟨g, 0, none⟩) (N.length + 1) cap) (N ++ [x]) vs S w' := by
  have k := h.al o
  have hH : wr.heap.size < (wr.alloc o).heap.size := by rw [alloc_size]; omega
  refine ⟨row_kept k.rd hg (fun j e e2 => h.dn j e2 e), row_kept k.rf hg (fun j e => h.nf j e), by rw [List.length_append, intsV_append]; exact ho, row_kept k.rs hg (fun j e => h.ns j e), k.lb.grown hg k.lb.size (fun j e => (h.rn.lt j e).1), h.df, ?_, h.ds, ?_, ?_⟩
  · intro j e e2
    have e3 : g = j := Option.some.inj e2
    subst e3
    rcases hat with h1 | h1
    · exact h.dn g e h1
    · have := (h.rd.lt g e).2
      omega
  · intro j e e2
    have e3 : g = j := Option.some.inj e
    subst e3
    rcases hat with h1 | h1
    · exact h.nf g h1 e2
    · have := (h.rf.lt g e2).2
      omega
  · intro j e e2
    have e3 : g = j := Option.some.inj e
    subst e3
    rcases hat with h1 | h1
    · exact h.ns g h1 e2
    · have := (h.rs.lt g e2).2
      omega
end
end Go.Proofs.Ytcmlnokfjbglaaa
end

section
namespace Go.Proofs.Ytcmlnokfjbglaaa
open Go.ChangeShapes Go.WideShapes Go.ChangeAt Go.RowKit
set_option linter.unusedVariables false

/-- Two rows of numbers, apart from each other. -/
structure VRow (w : World) (base : Nat) (vr vc : Value) (a b : Nat) (R C : List Int) : Prop where
  r : w.ownsRow base 3 1 vr a (intsV R)
  c : w.ownsRow base 3 1 vc b (intsV C)
  ap : Apart vr vc
section
variable {w w' w1 : World} {base base2 a b a2 b2 : Nat} {vr vc ur uc : Value} {R C R2 C2 : List Int} {row row2 : Option Nat}
theorem VRow.gb (h : VRow w base vr vc a b R C) (hg : w.grownBy w' none) : VRow w' base vr vc a b R C := ⟨own_none h.r hg, own_none h.c hg, h.ap⟩
theorem VRow.bl (h : VRow w base vr vc a b R C) (hb : Below w.heap.size w w') : VRow w' base vr vc a b R C := h.gb (gb_of_below hb none)
theorem VRow.alloc (h : VRow w base vr vc a b R C) (o : Obj) : VRow (w.alloc o) base vr vc a b R C := h.gb (gb_alloc (gb_refl w none) o)
theorem VRow.drew (h : VRow w base vr vc a b R C) : VRow w.drew base vr vc a b R C := h.gb (gb_drew (gb_refl w none))
theorem VRow.less (h : VRow w base vr vc a b R C) (hb : base2 ≤ base) : VRow w base2 vr vc a b R C := ⟨own_less h.r hb, own_less h.c hb, h.ap⟩
theorem VRow.lt (h : VRow w base vr vc a b R C) (k : Nat) (hk : vr.ownBlock = some k ∨ vc.ownBlock = some k) : base ≤ k ∧ k < w.heap.size := by
  rcases hk with hk | hk
  · exact h.r.lt k hk
  · exact h.c.lt k hk
theorem VRow.kept (h : VRow w base vr vc a b R C) (hg : w.grownBy w' row) (hne : ∀ k, (vr.ownBlock = some k ∨ vc.ownBlock = some k) → row ≠ some k) : VRow w' base vr vc a b R C :=
  ⟨row_kept h.r hg (fun j e e2 => hne j (.inl e2) e), row_kept h.c hg (fun j e e2 => hne j (.inr e2) e), h.ap⟩
theorem VRow.kept2 (h : VRow w base vr vc a b R C) (hg : w.grownBy w1 ur.ownBlock) (hg2 : w1.grownBy w' uc.ownBlock) (hne : ∀ k j, (vr.ownBlock = some k ∨ vc.ownBlock = some k) → (ur.ownBlock = some j ∨ uc.ownBlock = some j) → k ≠ j) : VRow w' base vr vc a b R C :=
  (h.kept hg (fun k hk e => hne k k hk (.inl e) rfl)).kept hg2 (fun k hk e => hne k k hk (.inr e) rfl)
end
end Go.Proofs.Ytcmlnokfjbglaaa
end

section
namespace Go.Proofs.Ytcmlnokfjbglaaa
open Go.ChangeShapes Go.WideShapes Go.ChangeAt Go.RowKit
set_option linter.unusedVariables false

/-- Blocks in the interval and new ones alone are written. -/
structure Chg (lo hi : Nat) (w w' : World) : Prop where
  os : w'.os = w.os
  tape : w'.tape = w.tape
  output : w'.output = w.output
  size : w.heap.size ≤ w'.heap.size
  block : ∀ k, k < w.heap.size → ¬ (lo ≤ k ∧ k < hi) → w'.heap[k]? = w.heap[k]?
section
variable {lo hi lo' hi' : Nat} {a b c : World}
theorem Chg.refl (lo hi : Nat) (a : World) : Chg lo hi a a := ⟨rfl, rfl, rfl, Nat.le_refl _, fun _ _ _ => rfl⟩
theorem Chg.trans (h : Chg lo hi a b) (k : Chg lo hi b c) : Chg lo hi a c :=
  ⟨k.os.trans h.os, k.tape.trans h.tape, k.output.trans h.output, Nat.le_trans h.size k.size, fun i hi hn => (k.block i (Nat.lt_of_lt_of_le hi h.size) hn).trans (h.block i hi hn)⟩
theorem chg_gb (lo hi : Nat) (h : a.grownBy b none) : Chg lo hi a b := ⟨h.os, h.tape, h.output, h.size, fun i hi _ => h.block i hi (by simp)⟩
theorem Chg.gb (h : Chg lo hi a b) (k : b.grownBy c none) : Chg lo hi a c := h.trans (chg_gb lo hi k)
theorem Chg.bl (h : Chg lo hi a b) (k : Below b.heap.size b c) : Chg lo hi a c := h.gb (gb_of_below k none)
theorem Chg.dr (h : Chg lo hi a b) : Chg lo hi a b.drew := ⟨h.os, h.tape, h.output, h.size, h.block⟩
theorem Chg.al (h : Chg lo hi a b) (o : Obj) : Chg lo hi a (b.alloc o) := h.gb (gb_alloc (gb_refl _ _) o)
theorem Chg.st (h : Chg lo hi a b) {p : Addr} (hp : a.heap.size ≤ p.block ∨ lo ≤ p.block ∧ p.block < hi) (u : Value) : Chg lo hi a (b.setCell p u) :=
  ⟨h.os, h.tape, h.output, by simpa [World.setCell] using h.size, fun i hi hn => (Below.heap_setCell b p u i (by
    rintro rfl
    rcases hp with hp | hp
    · omega
    · exact hn hp)).trans (h.block i hi hn)⟩
theorem Chg.sb (h : Chg lo hi a b) {g : Nat} (hg : a.heap.size ≤ g) (i : Nat) (u : Value) : Chg lo hi a (b.setCell ⟨g, i, Option.none⟩ u) := h.st (.inl hg) u
theorem Chg.row (h : Chg lo hi a b) {row : Option Nat} (k : b.grownBy c row) (hr : ∀ j, row = some j → lo ≤ j ∧ j < hi) : Chg lo hi a c :=
  ⟨k.os.trans h.os, k.tape.trans h.tape, k.output.trans h.output, Nat.le_trans h.size k.size, fun i hi hn => (k.block i (Nat.lt_of_lt_of_le hi h.size) (fun e => hn (hr i e.symm))).trans (h.block i hi hn)⟩
theorem Chg.mono (h : Chg lo hi a b) (h1 : lo' ≤ lo) (h2 : hi ≤ hi') : Chg lo' hi' a b := ⟨h.os, h.tape, h.output, h.size, fun i hi hn => h.block i hi (by omega)⟩
theorem Chg.below (h : Chg lo hi a b) {B : Nat} (h1 : B ≤ lo ∨ hi ≤ lo) (h2 : B ≤ a.heap.size) : Below B a b := ⟨h.os, h.tape, h.output, h.size, fun i hi => h.block i (by omega) (by omega)⟩
theorem Chg.still (h : Chg lo lo a b) : a.grownBy b none := ⟨h.os, h.tape, h.output, h.size, fun i hi _ => h.block i hi (by omega)⟩
theorem Blk.chg {g : Nat} {t : TypeId} {cs : Array Value} (h : Blk a g t cs) (hc : Chg lo hi a b) (hg : g < lo ∨ hi ≤ g ∨ hi ≤ lo) : Blk b g t cs := (hc.block g h.lt (by omega)).trans h
theorem IntAt.chg {w : World} {n : Nat} {A : Option Addr} {L : List Int} (h : IntAt w w.heap.size A n L) (hb : Below w.heap.size w a) (hc : Chg lo hi a b) (hg : w.heap.size ≤ lo ∨ hi ≤ lo) : IntAt b b.heap.size A n L :=
  ((h.below hb).below (hc.below hg hb.size)).more (Nat.le_trans hb.size hc.size)
end
/-- P holds, and hangs on the blocks from B to E alone. -/
def Fix (B E : Nat) (P : World → Prop) (w : World) : Prop := E ≤ w.heap.size ∧ ∀ w', w.heap.size ≤ w'.heap.size → (∀ k, B ≤ k → k < E → w'.heap[k]? = w.heap[k]?) → P w'
section
variable {B E lo hi : Nat} {P Q : World → Prop} {a b w : World}
theorem Fix.here (h : Fix B E P w) : P w := h.2 w (Nat.le_refl _) (fun _ _ _ => rfl)
theorem Fix.chg (h : Fix B E P a) (hc : Chg lo hi a b) (hd : E ≤ lo ∨ hi ≤ B ∨ hi ≤ lo) : Fix B E P b :=
  ⟨Nat.le_trans h.1 hc.size, fun w' hs hk => h.2 w' (Nat.le_trans hc.size hs) (fun k h1 h2 => (hk k h1 h2).trans (hc.block k (Nat.lt_of_lt_of_le h2 h.1) (by omega)))⟩
theorem Fix.gb (h : Fix B E P a) (hc : a.grownBy b Option.none) : Fix B E P b := h.chg (chg_gb 0 0 hc) (.inr (.inr (Nat.le_refl _)))
theorem Fix.wide (h : Fix B E P w) {B' E' : Nat} (h1 : B' ≤ B) (h2 : E ≤ E') (h3 : E' ≤ w.heap.size) : Fix B' E' P w := ⟨h3, fun w' hs hk => h.2 w' hs (fun k k1 k2 => hk k (by omega) (by omega))⟩
theorem Fix.and (h : Fix B E P w) (k : Fix B E Q w) : Fix B E (fun w => P w ∧ Q w) w := ⟨h.1, fun w' hs hk => ⟨h.2 w' hs hk, k.2 w' hs hk⟩⟩
theorem fix_row {e : TypeId} {size n : Nat} {v : Value} {xs : List Value} (h : w.ownsRow B e size v n xs) : Fix B w.heap.size (fun w => w.ownsRow B e size v n xs) w := by
  refine ⟨Nat.le_refl _, fun w' hs hk => ?_⟩
  have hl := h.lt
  refine ⟨h.1, ?_⟩
  rcases h.2 with h1 | ⟨g, cap, cur, h1, h2, h3, h4⟩
  · exact .inl h1
  · refine .inr ⟨g, cap, cur, h1, h2, ?_, h4⟩
    subst h1
    rw [hk g h2 (hl g rfl).2]
    exact h3
theorem fix_vrow {vr vc : Value} {m n : Nat} {R C : List Int} (h : VRow w B vr vc m n R C) : Fix B w.heap.size (fun w => VRow w B vr vc m n R C) w :=
  ⟨Nat.le_refl _, fun w' hs hk => ⟨(fix_row h.r).2 w' hs hk, (fix_row h.c).2 w' hs hk, h.ap⟩⟩
theorem Fix.al (h : Fix B E P w) (o : Obj) : Fix B E P (w.alloc o) := h.gb (gb_alloc (gb_refl _ _) o)
theorem Fix.nx (h : Fix B E P a) (q : Chg 0 0 a b) : Fix B E P b := h.chg q (.inr (.inr (Nat.le_refl _)))
theorem Chg.far {g g' : Nat} {c : World} (h : Chg lo hi a b) (k : Chg g g' b c) (hg : a.heap.size ≤ g) : Chg lo hi a c :=
  ⟨k.os.trans h.os, k.tape.trans h.tape, k.output.trans h.output, Nat.le_trans h.size k.size, fun i hi hn => (k.block i (Nat.lt_of_lt_of_le hi h.size) (by omega)).trans (h.block i hi hn)⟩
theorem Blk.nx {g : Nat} {t : TypeId} {cs : Array Value} (h : Blk a g t cs) (q : Chg 0 0 a b) : Blk b g t cs := h.chg q (.inr (.inr (Nat.le_refl _)))
theorem st_in (w : World) (g i : Nat) (u : Value) : Chg g (g + 1) w (w.setCell ⟨g, i, none⟩ u) := (Chg.refl g (g + 1) w).st (.inr ⟨Nat.le_refl _, Nat.lt_succ_self _⟩) u
theorem Chg.si {g i : Nat} (h : Chg g (g + 1) a b) (u : Value) : Chg g (g + 1) a (b.setCell ⟨g, i, Option.none⟩ u) := h.st (.inr ⟨Nat.le_refl _, Nat.lt_succ_self _⟩) u
theorem Chg.sx {g : Nat} (h : Chg g (g + 1) a b) (i : Nat) (u : Value) : Chg g (g + 1) a (b.setCell ⟨g, i, Option.none⟩ u) := h.si u
theorem gb_drD0 (h : a.drew.grownBy b Option.none) : a.grownBy b Option.none := ⟨h.os, h.tape, h.output, h.size, h.block⟩
theorem chg_one {g : Nat} (h : a.grownBy b (some g)) : Chg g (g + 1) a b := (Chg.refl g (g + 1) a).row h (fun j e => by cases e; omega)
theorem Chg.cursor {g : Nat} (h : Chg g (g + 1) a b) : a.grownBy b (some g) := ⟨h.os, h.tape, h.output, h.size, fun i hi hn => h.block i hi (fun hk => hn (by rw [show i = g by omega]))⟩
theorem chg_none_to (h : Chg 0 0 a b) : Chg lo hi a b := chg_gb lo hi h.still
theorem drew_heap (w : World) : w.drew.heap = w.heap := rfl
theorem chg_drew (w : World) : Chg 0 0 w w.drew := (Chg.refl 0 0 w).dr
end
end Go.Proofs.Ytcmlnokfjbglaaa
end

section
namespace Go.Proofs.Ytcmlnokfjbglaaa
open Go.ChangeShapes Go.WideShapes Go.ChangeAt Go.RowKit
set_option linter.unusedVariables false

/-- The first k numbers of L, then zeros. -/
def copied (L : List Int) (n k : Nat) : List Int := (List.range n).map fun t => if t < k then L.getD t 0 else 0
theorem copied_zero (L : List Int) (n : Nat) : copied L n 0 = List.replicate n 0 := by
  refine List.ext_getElem (by simp [copied]) fun i h1 h2 => ?_
  simp [copied]
theorem copied_succ (L : List Int) (n k : Nat) : (copied L n k).set k (L.getD k 0) = copied L n (k + 1) := by
  refine List.ext_getElem (by simp [copied]) fun i h1 h2 => ?_
  rw [List.getElem_set]
  by_cases e : k = i
  · subst e; simp [copied]
  · simp only [e, if_false, copied, List.getElem_map, List.getElem_range]
    by_cases hi : i < k
    · rw [if_pos hi, if_pos (by omega)]
    · rw [if_neg hi, if_neg (by omega)]
theorem copied_next (L : List Int) (n k : Nat) (x : Int) (h : L.getD k 0 = x) : (copied L n k).set k x = copied L n (k + 1) := by rw [← h]; exact copied_succ L n k
theorem copied_all (L : List Int) (n : Nat) (h : L.length = n) : copied L n n = L := by
  refine List.ext_getElem (by simp [copied, h]) fun i h1 h2 => ?_
  have : i < n := by omega
  simp [copied, this, List.getElem?_eq_getElem h2]
theorem copied_length (L : List Int) (n k : Nat) : (copied L n k).length = n := by simp [copied]

/-- A new row that holds the numbers of L. -/
def NewInts (L : List Int) (w : World) (e : Ending) (w' : World) : Prop :=
  ∃ g, e = .returned (.slice (some ⟨g, 0, none⟩) L.length L.length) ∧ w'.ownsRow w.heap.size 3 1 (.slice (some ⟨g, 0, none⟩) L.length L.length) L.length (intsV L) ∧ Below w.heap.size w w'
def CopyAt (w : World) (n : Nat) (L : List Int) (k : Nat) (v : Value) (wr : World) : Prop := wr.ownsRow w.heap.size 3 1 v n (intsV (copied L n k)) ∧ Below w.heap.size w wr

theorem lawsToIntS (A : Option Addr) (n cap : Nat) (L : List Int) (w : World) (h : IntAt w w.heap.size A n L) (hn : n ≤ 1048576) :
    Calls Try.prog 69 #[.slice A n cap] w (NewInts L w) := by
  obtain ⟨i0, hi, hz0, hz1, hz2⟩ := info_parts info_int
  have hl := h.1
  have HI := Lib.hid h
  clear h
  go_enter Try.func69, Try.ntmps69
  go_wp2_with (at_make; refine wpList_make_full _ rfl _ _ 28 rfl w.heap.size 3 i0 (.int .i64 0) 1 Try.underlying28 hi hz0 hz1 .i64 .i64 _ _ n rfl rfl (by omega) (by omega) (by rw [hz2]; omega) (by unfold maxLen; omega) (Nat.le_refl _) ?_; intro w0 hown0 hgrow0)
  have hz : (madeCells (Value.int .i64 0).cells (n * 1)).toList = intsV (copied L n 0) := by rw [Nat.mul_one, copied_zero]; exact madeInts n
  have X : CopyAt w n L 0 (.slice (some ⟨w.heap.size, 0, none⟩) n n) w0 := ⟨by rw [← hz]; exact hown0, gb_below_none hgrow0 (Nat.le_refl _)⟩
  have HX := Lib.hid X
  clear X hz hown0 hgrow0
  go_loopw [4] (fun i wr => ∃ k : Nat, k ≤ n ∧ i = .int .i64 (k : Int) ∧ CopyAt w n L k (.slice (some ⟨w.heap.size, 0, none⟩) n n) wr) (fun i _ => n - (intOf i).toNat)
  case atStart => exact ⟨0, Nat.zero_le _, rfl, HX.out⟩
  case round =>
    obtain ⟨k, hk, rfl, hown, hbel⟩ := hrel
    have HB := Lib.hid hbel
    by_cases hlt : k < n
    · have hc := hown.cellAt k (by omega)
      obtain ⟨u0, hu0⟩ : ∃ u, (intsV (copied L n k))[k]? = some u := ⟨_, List.getElem?_eq_getElem (by rw [intsV_length, copied_length]; exact hlt)⟩
      rw [hu0] at hc
      obtain ⟨b, off, rfl, hbB, hcell⟩ := (HI.out.below hbel).at k hlt
      obtain ⟨x, hx⟩ : ∃ x, L.getD k 0 = x := ⟨_, rfl⟩
      rw [hx] at hcell
      have hf := hown.frozenAt k
      obtain ⟨hown2, hg2⟩ := hown.stored k (.int .i64 x)
      rw [intsV_set, copied_next L n k x hx] at hown2
      have hne : ¬ w.heap.size = b := by omega
      have HO := Lib.hid hown2
      have HG := Lib.hid hg2
      clear hown hown2 hg2 hbel hu0 hx
      go_wp2_with fail
      go_roundw
      case rel => exact ⟨k + 1, by omega, by go_num, HO.out, HB.out.grown HG.out HB.out.size (fun j e => by cases e; exact Nat.le_refl _)⟩
      case measure => simp [intOf]; omega
    · obtain rfl : k = n := by omega
      have HO := Lib.hid hown
      clear hown hbel
      go_wp2_with fail
      go_ret
      refine ⟨w.heap.size, by rw [hl]; rfl, ?_, HB.out⟩
      have h3 := HO.out
      rw [copied_all L k hl] at h3
      rw [hl]
      exact h3

/-- eqIntS of two rows that hold the same numbers. -/
theorem lawsEqI (A1 A2 : Option Addr) (n c1 c2 B1 B2 : Nat) (L : List Int) (w : World) (h1 : IntAt w B1 A1 n L) (h2 : IntAt w B2 A2 n L) (hn : n ≤ 1000000000) :
    Calls Try.prog 72 #[.slice A1 n c1, .slice A2 n c2] w (RetB true w) := by
  have H1 := Lib.hid h1
  have H2 := Lib.hid h2
  clear h1 h2
  go_enter Try.func72, Try.ntmps72
  go_wp2_with fail
  go_loopw [5] (fun i wr => ∃ k m : Nat, i = .int .i64 k ∧ k ≤ n ∧ wr = w.drewN m) (fun i _ => n - (intOf i).toNat)
  case atStart => exact ⟨0, 0, rfl, Nat.zero_le _, rfl⟩
  case round =>
    obtain ⟨k, m, rfl, hk, rfl⟩ := hrel
    by_cases hlt : k < n
    · obtain ⟨g1, o1, rfl, _, e1⟩ := H1.out.at k hlt
      obtain ⟨g2, o2, rfl, _, e2⟩ := H2.out.at k hlt
      go_wp2_with fail
      go_quiet (fail)
      go_wp2_with fail
      go_roundw
      case rel => exact ⟨k + 1, _, by go_num, by omega, rfl⟩
      case measure => simp [intOf]; omega
    · go_wp2_with fail
      go_ret
      exact ⟨rfl, gb_drewN (gb_refl _ _) _⟩

/-- The same two for rows of the call's own. -/
theorem lawsEqOwn (v1 v2 : Value) (b1 b2 : Nat) (L : List Int) (w : World) (h1 : w.ownsRow b1 3 1 v1 L.length (intsV L)) (h2 : w.ownsRow b2 3 1 v2 L.length (intsV L)) (hn : L.length ≤ 1000000000) :
    Calls Try.prog 72 #[v1, v2] w (RetB true w) := by
  obtain ⟨A1, c1, rfl, _⟩ := own_form h1
  obtain ⟨A2, c2, rfl, _⟩ := own_form h2
  exact lawsEqI A1 A2 L.length c1 c2 _ _ L w (intAt_own h1 rfl (Nat.le_refl _)) (intAt_own h2 rfl (Nat.le_refl _)) hn
end Go.Proofs.Ytcmlnokfjbglaaa
end

section
namespace Go.Proofs.Ytcmlnokfjbglaaa
open Go.ChangeShapes Go.WideShapes Go.ChangeAt Go.RowKit
set_option linter.unusedVariables false

theorem lawsSzI (A : Option Addr) (n cap : Nat) (m : Int) (w : World) (hn : n ≤ 9223372036854775807) (hm0 : 0 ≤ m) (hm1 : m ≤ 1048576) :
    Calls Try.prog 66 #[.slice A n cap, .int .i64 m] w fun e w' => e = .returned (.int .i64 (if m < (n : Int) then -1 else m - n)) ∧ w = w' := by
  by_cases hlt : m < (n : Int)
  · go_enter Try.func66, Try.ntmps66
    go_wp2_with fail
    go_ret
    exact ⟨ret_int64 (by (repeat' split) <;> first | rfl | omega), rfl⟩
  · go_enter Try.func66, Try.ntmps66
    go_wp2_with fail
    go_ret
    exact ⟨ret_int64 (by (repeat' split) <;> first | rfl | omega), rfl⟩
end Go.Proofs.Ytcmlnokfjbglaaa
end

section
namespace Go.Proofs.Ytcmlnokfjbglaaa
open Go.ChangeShapes Go.WideShapes Go.ChangeAt Go.RowKit
set_option linter.unusedVariables false

theorem lawsToGrid (W H : Int) (w : World) :
    Calls Try.prog 49 #[.agg #[.int .i64 W, .int .i64 H]] w fun e w' => e = .returned (.agg #[.int .i64 W, .int .i64 H]) ∧ w.grownBy w' none := by
  go_enter Try.func49, Try.ntmps49
  go_wp2_with fail
  refine bodyPost_ret (v := .agg #[.int .i64 W, .int .i64 H]) (by simp [results, Try.results49, go_sem]) rfl ⟨rfl, ?_⟩

  exact gb_alloc (gb_alloc (gb_alloc (gb_refl _ _) _) _) _
end Go.Proofs.Ytcmlnokfjbglaaa
end

section
namespace Go.Proofs.Ytcmlnokfjbglaaa
open Go.ChangeShapes Go.WideShapes Go.ChangeAt Go.RowKit
set_option linter.unusedVariables false

theorem gb_two {a w : World} {row : Option Nat} {b i j : Nat} (h : a.grownBy w row) (hb : a.heap.size ≤ b) (x y : Value) : a.grownBy ((w.setCell ⟨b, i, none⟩ x).setCell ⟨b, j, none⟩ y) row :=
  gb_setCell (gb_setCell h (.inr hb) x) (.inr hb) y
theorem gb_three {a w : World} {row : Option Nat} {b i j k : Nat} (h : a.grownBy w row) (hb : a.heap.size ≤ b) (x y z : Value) : a.grownBy (((w.setCell ⟨b, i, none⟩ x).setCell ⟨b, j, none⟩ y).setCell ⟨b, k, none⟩ z) row :=
  gb_setCell (gb_two h hb x y) (.inr hb) z

/-- A new mesh with the same fields. -/
def NewMesh (W H : Int) (L : List Int) (w : World) (e : Ending) (w' : World) : Prop :=
  ∃ g, e = .returned (.agg #[.int .i64 W, .int .i64 H, .slice (some ⟨g, 0, none⟩) L.length L.length]) ∧ w'.ownsRow w.heap.size 3 1 (.slice (some ⟨g, 0, none⟩) L.length L.length) L.length (intsV L) ∧ Below w.heap.size w w'

theorem lawsSzMesh (W H : Int) (A : Option Addr) (n cap : Nat) (m : Int) (w : World) (hn : n ≤ 9223372036854775807) (hm0 : 0 ≤ m) (hm1 : m ≤ 1048576) :
    Calls Try.prog 28 #[.agg #[.int .i64 W, .int .i64 H, .slice A n cap], .int .i64 m] w fun e w' => e = .returned (.int .i64 (if m < (n : Int) then -1 else m - n)) ∧ w.grownBy w' none := by
  by_cases hlt : m < (n : Int)
  · go_enter Try.func28, Try.ntmps28
    go_wp2_with fail
    refine (lawsSzI A n cap m _ hn hm0 hm1).mono ?_
    rintro e w1 ⟨rfl, rfl⟩
    rw [if_pos hlt]
    go_wp2_with fail
    go_ret
    exact ⟨rfl, gb_alloc (gb_refl _ _) _⟩
  · go_enter Try.func28, Try.ntmps28
    go_wp2_with fail
    refine (lawsSzI A n cap m _ hn hm0 hm1).mono ?_
    rintro e w1 ⟨rfl, rfl⟩
    rw [if_neg (by omega)]
    go_wp2_with fail
    go_ret
    exact ⟨rfl, gb_alloc (gb_refl _ _) _⟩

theorem lawsEqGrid (W H : Int) (w : World) :
    Calls Try.prog 71 #[.agg #[.int .i64 W, .int .i64 H], .agg #[.int .i64 W, .int .i64 H]] w (RetB true w) := by
  go_enter Try.func71, Try.ntmps71
  go_wp2_with fail
  go_ret
  exact ⟨rfl, gb_alloc (gb_alloc (gb_refl _ _) _) _⟩

theorem lawsToMesh (W H : Int) (A : Option Addr) (n cap : Nat) (L : List Int) (w : World) (h : IntAt w w.heap.size A n L) (hn : n ≤ 1048576) :
    Calls Try.prog 31 #[.agg #[.int .i64 W, .int .i64 H, .slice A n cap]] w (NewMesh W H L w) := by
  have HI := Lib.hid h
  clear h
  go_enter Try.func31, Try.ntmps31
  go_wp2_with fail
  refine (lawsToGrid W H _).mono ?_
  rintro e w1 ⟨rfl, hg1⟩
  have k1 := (((Blk.new w 58 _).alloc _).alloc _).grown hg1 (by simp)
  have k2 := ((Blk.new _ 30 _).alloc _).grown hg1 (by simp)
  have k3 := (Blk.new _ 30 _).grown hg1 (by simp)
  simp only [alloc_size] at k2 k3
  have hs1 : w.heap.size + 3 ≤ w1.heap.size := by have := hg1.size; simp only [alloc_size] at this; omega
  have HB1 := Lib.hid (gb_below_none (gb_trans (gb_alloc (gb_alloc (gb_alloc (gb_refl w none) _) _) _) hg1) (Nat.le_refl _))
  have K2 := Lib.hid k2
  have K3 := Lib.hid k3
  have a2 : w1.cell? ⟨w.heap.size, 2, none⟩ = some (.slice A n cap) := k1.cell 2
  have a30 : w1.cell? ⟨w.heap.size + 1 + 1, 0, none⟩ = some (.int .i64 0) := k3.cell 0
  have a31 : w1.cell? ⟨w.heap.size + 1 + 1, 1, none⟩ = some (.int .i64 0) := k3.cell 1
  have f30 := k3.frozen 0
  have f31 := k3.frozen 1
  clear hg1 k1 k2 k3
  go_wp2_with fail
  have K3x := (K3.out.set_ 0 (.int .i64 W)).set_ 1 (.int .i64 H)
  have K2x := (K2.out.far (p := ⟨w.heap.size + 1 + 1, 0, none⟩) (by simp) (.int .i64 W)).far (p := ⟨w.heap.size + 1 + 1, 1, none⟩) (by simp) (.int .i64 H)
  have hbx := gb_below_none (gb_two (i := 0) (j := 1) (b := w.heap.size + 1 + 1) (gb_of_below HB1.out none) (by omega) (.int .i64 W) (.int .i64 H)) (Nat.le_refl _)
  have hsx : ((w1.setCell ⟨w.heap.size + 1 + 1, 0, none⟩ (.int .i64 W)).setCell ⟨w.heap.size + 1 + 1, 1, none⟩ (.int .i64 H)).heap.size = w1.heap.size := by simp [World.setCell]
  simp at K3x
  clear K2 K3 HB1 a2 a30 a31 f30 f31
  generalize (w1.setCell ⟨w.heap.size + 1 + 1, 0, none⟩ (.int .i64 W)).setCell ⟨w.heap.size + 1 + 1, 1, none⟩ (.int .i64 H) = wx at *
  have hix : IntAt wx wx.heap.size A n L := (HI.out.below hbx).more (by omega)
  refine (lawsToIntS A n cap L wx hix hn).mono ?_
  rintro e w2 ⟨g, rfl, o2, b2⟩
  have k3 := K3x.below b2 (by omega)
  have k2 := K2x.below b2 (by omega)
  have HB2 := Lib.hid (hbx.trans (b2.mono hbx.size))
  have HK2 := Lib.hid k2
  have HS := Lib.hid (show w.heap.size + 1 + 1 < wx.heap.size by omega)
  have hgl := o2.lt g rfl
  have HO := Lib.hid o2
  have a30 : w2.cell? ⟨w.heap.size + 1 + 1, 0, none⟩ = some (.int .i64 W) := k3.cell 0
  have a31 : w2.cell? ⟨w.heap.size + 1 + 1, 1, none⟩ = some (.int .i64 H) := k3.cell 1
  have a32 : w2.cell? ⟨w.heap.size + 1 + 1, 2, none⟩ = some (.slice none 0 0) := k3.cell 2
  have f32 := k3.frozen 2
  have a20 : w2.cell? ⟨w.heap.size + 1, 0, none⟩ = some (.int .i64 0) := k2.cell 0
  have a21 : w2.cell? ⟨w.heap.size + 1, 1, none⟩ = some (.int .i64 0) := k2.cell 1
  have a22 : w2.cell? ⟨w.heap.size + 1, 2, none⟩ = some (.slice none 0 0) := k2.cell 2
  have f20 := k2.frozen 0
  have f21 := k2.frozen 1
  have f22 := k2.frozen 2
  clear K3x K2x hbx hix b2 o2 k3 k2 hs1
  go_wp2_with fail
  have kk := (((HK2.out.far (p := ⟨w.heap.size + 1 + 1, 2, none⟩) (by simp) (.slice (some ⟨g, 0, none⟩) L.length L.length)).set_ 0 (.int .i64 W)).set_ 1 (.int .i64 H)).set_ 2 (.slice (some ⟨g, 0, none⟩) L.length L.length)
  have d0 := kk.cell 0
  have d1 := kk.cell 1
  have d2 := kk.cell 2
  simp at d0 d1 d2
  refine bodyPost_ret (v := .agg #[.int .i64 W, .int .i64 H, .slice (some ⟨g, 0, none⟩) L.length L.length]) (by simp [results, Try.results31, go_sem, d0, d1, d2]) rfl ⟨g, rfl, ?_, ?_⟩
  · exact own_less (ownsRow_setCell_below (ownsRow_setCell_below (ownsRow_setCell_below (ownsRow_setCell_below HO.out HS.out _) (by show w.heap.size + 1 < _; have := HS.out; omega) _) (by show w.heap.size + 1 < _; have := HS.out; omega) _) (by show w.heap.size + 1 < _; have := HS.out; omega) _) (by have := HS.out; omega)
  · exact gb_below_none (gb_three (gb_setCell (gb_of_below HB2.out none) (.inr (by show w.heap.size ≤ w.heap.size + 1 + 1; omega)) _) (by omega) _ _ _) (Nat.le_refl _)

/-- eqMesh of two meshes with the same fields. -/
theorem lawsEqMesh (W H : Int) (A1 A2 : Option Addr) (n c1 c2 B1 B2 : Nat) (L : List Int) (w : World) (h1 : IntAt w B1 A1 n L) (h2 : IntAt w B2 A2 n L) (hB1 : B1 ≤ w.heap.size) (hB2 : B2 ≤ w.heap.size) (hn : n ≤ 1000000000) :
    Calls Try.prog 33 #[.agg #[.int .i64 W, .int .i64 H, .slice A1 n c1], .agg #[.int .i64 W, .int .i64 H, .slice A2 n c2]] w (RetB true w) := by
  have H1 := Lib.hid h1
  have H2 := Lib.hid h2
  clear h1 h2
  go_enter Try.func33, Try.ntmps33
  go_wp2_with fail
  refine (lawsEqGrid W H _).mono ?_
  rintro e w1 ⟨rfl, hg1⟩
  have k1 := ((Blk.new w 30 _).alloc _).grown hg1 (by simp)
  have k2 := (Blk.new _ 30 _).grown hg1 (by simp)
  simp only [alloc_size] at k2
  have a12 : w1.cell? ⟨w.heap.size, 2, none⟩ = some (.slice A1 n c1) := k1.cell 2
  have a22 : w1.cell? ⟨w.heap.size + 1, 2, none⟩ = some (.slice A2 n c2) := k2.cell 2
  have hg := gb_trans (gb_alloc (gb_alloc (gb_refl w none) _) _) hg1
  have HG := Lib.hid hg
  have i1 := H1.out.none hB1 hg
  have i2 := H2.out.none hB2 hg
  clear hg1 k1 k2 hg
  go_wp2_with fail
  refine (lawsEqI A1 A2 n c1 c2 B1 B2 L _ i1 i2 hn).mono ?_
  rintro e w2 ⟨rfl, hg2⟩
  have HG2 := Lib.hid (gb_trans HG.out hg2)
  clear hg2 i1 i2
  go_wp2_with fail
  go_ret
  exact ⟨rfl, HG2.out⟩
end Go.Proofs.Ytcmlnokfjbglaaa
end

section
namespace Go.Proofs.Ytcmlnokfjbglaaa
open Go.ChangeShapes Go.WideShapes Go.ChangeAt Go.RowKit
set_option linter.unusedVariables false

/-- A new table with the same ports. -/
def NewTab (P : List Int) (w : World) (e : Ending) (w' : World) : Prop :=
  ∃ g, e = .returned (.agg #[.slice (some ⟨g, 0, none⟩) P.length P.length]) ∧ w'.ownsRow w.heap.size 3 1 (.slice (some ⟨g, 0, none⟩) P.length P.length) P.length (intsV P) ∧ Below w.heap.size w w'

theorem lawsSzTable (A : Option Addr) (n cap : Nat) (m : Int) (w : World) (hn : n ≤ 9223372036854775807) (hm0 : 0 ≤ m) (hm1 : m ≤ 1048576) :
    Calls Try.prog 67 #[.agg #[.slice A n cap], .int .i64 m] w fun e w' => e = .returned (.int .i64 (if m < (n : Int) then -1 else m - n)) ∧ w.grownBy w' none := by
  by_cases hlt : m < (n : Int)
  · go_enter Try.func67, Try.ntmps67
    go_wp2_with fail
    refine (lawsSzI A n cap m _ hn hm0 hm1).mono ?_
    rintro e w1 ⟨rfl, rfl⟩
    rw [if_pos hlt]
    go_wp2_with fail
    go_ret
    exact ⟨rfl, gb_alloc (gb_refl _ _) _⟩
  · go_enter Try.func67, Try.ntmps67
    go_wp2_with fail
    refine (lawsSzI A n cap m _ hn hm0 hm1).mono ?_
    rintro e w1 ⟨rfl, rfl⟩
    rw [if_neg (by omega)]
    go_wp2_with fail
    go_ret
    exact ⟨rfl, gb_alloc (gb_refl _ _) _⟩

theorem lawsToTable (A : Option Addr) (n cap : Nat) (P : List Int) (w : World) (h : IntAt w w.heap.size A n P) (hn : n ≤ 1048576) :
    Calls Try.prog 70 #[.agg #[.slice A n cap]] w (NewTab P w) := by
  have hg := gb_alloc (gb_alloc (gb_alloc (gb_refl w none) (.cells #[.slice A n cap] 59)) (.cells #[.slice none 0 0] 32)) (.cells #[.slice none 0 0] 32)
  have H3 := Lib.hid ((h.none (Nat.le_refl _) hg).more hg.size)
  have HG := Lib.hid hg
  have k2 := ((Blk.new (w.alloc (.cells #[.slice A n cap] 59)) 32 #[.slice none 0 0]).alloc (.cells #[.slice none 0 0] 32))
  have k3 := Blk.new ((w.alloc (.cells #[.slice A n cap] 59)).alloc (.cells #[.slice none 0 0] 32)) 32 #[.slice none 0 0]
  simp only [alloc_size] at k2 k3
  have K2 := Lib.hid k2
  have K3 := Lib.hid k3
  have hs3 : (((w.alloc (.cells #[.slice A n cap] 59)).alloc (.cells #[.slice none 0 0] 32)).alloc (.cells #[.slice none 0 0] 32)).heap.size = w.heap.size + 3 := by simp only [alloc_size]
  have HS3 := Lib.hid hs3
  clear h hg k2 k3 hs3
  go_enter Try.func70, Try.ntmps70
  go_wp2_with fail
  refine (lawsToIntS A n cap P _ H3.out hn).mono ?_
  rintro e w2 ⟨g, rfl, o2, b2⟩
  have k3 := K3.out.below b2 (by rw [HS3.out]; omega)
  have k2 := K2.out.below b2 (by rw [HS3.out]; omega)
  have HK2 := Lib.hid k2
  have HB2 := Lib.hid ((gb_below_none HG.out (Nat.le_refl _)).trans (b2.mono HG.out.size))
  have HO := Lib.hid o2
  have a30 : w2.cell? ⟨w.heap.size + 1 + 1, 0, none⟩ = some (.slice none 0 0) := k3.cell 0
  have f30 := k3.frozen 0
  have a20 : w2.cell? ⟨w.heap.size + 1, 0, none⟩ = some (.slice none 0 0) := k2.cell 0
  have f20 := k2.frozen 0
  clear o2 b2 k2 k3
  go_wp2_with fail
  have kk := ((HK2.out.far (p := ⟨w.heap.size + 1 + 1, 0, none⟩) (by simp) (.slice (some ⟨g, 0, none⟩) P.length P.length)).set_ 0 (.slice (some ⟨g, 0, none⟩) P.length P.length))
  have d0 := kk.cell 0
  simp at d0
  have hgl := HO.out.lt g rfl
  rw [HS3.out] at hgl
  refine bodyPost_ret (v := .agg #[.slice (some ⟨g, 0, none⟩) P.length P.length]) (by simp [results, Try.results70, go_sem, d0]) rfl ⟨g, rfl, ?_, ?_⟩
  · exact own_less (ownsRow_setCell_below (ownsRow_setCell_below HO.out (by rw [HS3.out]; show w.heap.size + 1 + 1 < _; omega) _) (by rw [HS3.out]; show w.heap.size + 1 < _; omega) _) (by rw [HS3.out]; omega)
  · exact gb_below_none (gb_setCell (gb_setCell (gb_of_below HB2.out none) (.inr (by show w.heap.size ≤ w.heap.size + 1 + 1; omega)) _) (.inr (by show w.heap.size ≤ w.heap.size + 1; omega)) _) (Nat.le_refl _)

/-- eqTable of two tables with the same ports. -/
theorem lawsEqTable (A1 A2 : Option Addr) (n c1 c2 B1 B2 : Nat) (P : List Int) (w : World) (h1 : IntAt w B1 A1 n P) (h2 : IntAt w B2 A2 n P) (hB1 : B1 ≤ w.heap.size) (hB2 : B2 ≤ w.heap.size) (hn : n ≤ 1000000000) :
    Calls Try.prog 37 #[.agg #[.slice A1 n c1], .agg #[.slice A2 n c2]] w (RetB true w) := by
  have hg := gb_alloc (gb_alloc (gb_refl w none) (.cells #[.slice A1 n c1] 32)) (.cells #[.slice A2 n c2] 32)
  have H1 := Lib.hid (h1.none hB1 hg)
  have H2 := Lib.hid (h2.none hB2 hg)
  have HG := Lib.hid hg
  clear h1 h2 hg
  go_enter Try.func37, Try.ntmps37
  go_wp2_with fail
  refine (lawsEqI A1 A2 n c1 c2 B1 B2 P _ H1.out H2.out hn).mono ?_
  rintro e w2 ⟨rfl, hg2⟩
  have HG2 := Lib.hid (gb_trans HG.out hg2)
  clear hg2
  go_wp2_with fail
  go_ret
  exact ⟨rfl, HG2.out⟩
end Go.Proofs.Ytcmlnokfjbglaaa
end

section
namespace Go.Proofs.Ytcmlnokfjbglaaa
open Go.ChangeShapes Go.WideShapes Go.ChangeAt Go.RowKit
set_option linter.unusedVariables false
set_option maxRecDepth 20000

/-- A new pair of tables: two new rows apart from each other. -/
def NewC (P Q : List Int) (w : World) (e : Ending) (w' : World) : Prop :=
  ∃ vp vq, e = .returned (.agg #[vp, vq]) ∧ VRow w' w.heap.size vp vq P.length Q.length P Q ∧ Below w.heap.size w w'
theorem lawsSzClasses (AP AQ : Option Addr) (nP cP nQ cQ : Nat) (m : Int) (w : World) (hP : nP ≤ 9223372036854775807) (hQ : nQ ≤ 9223372036854775807) (hm0 : 0 ≤ m) (hm1 : m ≤ 1048576) :
    Calls Try.prog 29 #[.agg #[.slice AP nP cP, .slice AQ nQ cQ], .int .i64 m] w fun e w' => e = .returned (.int .i64 (if m < (nP : Int) + (nQ : Int) then -1 else m - nP - nQ)) ∧ w.grownBy w' none := by
  have HB := Lib.hid (Blk.new w 61 #[.slice AP nP cP, .slice AQ nQ cQ])
  have HG := Lib.hid (gb_alloc (gb_refl w none) (.cells #[.slice AP nP cP, .slice AQ nQ cQ] 61))
  by_cases hlt : m < (nP : Int)
  · go_enter Try.func29, Try.ntmps29
    go_wp2_with fail
    refine (lawsSzTable AP nP cP m _ hP hm0 hm1).mono ?_
    rintro e w1 ⟨rfl, hg⟩
    have HG1 := Lib.hid (gb_trans HG.out hg)
    rw [if_pos hlt]
    clear hg
    go_wp2_with fail
    go_ret
    exact ⟨rfl, HG1.out⟩
  · by_cases hlt2 : m - nP < (nQ : Int)
    · go_enter Try.func29, Try.ntmps29
      go_wp2_with fail
      refine (lawsSzTable AP nP cP m _ hP hm0 hm1).mono ?_
      rintro e w1 ⟨rfl, hg⟩
      have HG1 := Lib.hid (gb_trans HG.out hg)
      have e0 : w1.cell? ⟨w.heap.size, 1, none⟩ = some (.slice AQ nQ cQ) := (HB.out.grown hg (by simp)).cell 1
      rw [if_neg (by omega)]
      clear hg
      go_wp2_with fail
      refine (lawsSzTable AQ nQ cQ (m - nP) _ hQ (by omega) (by omega)).mono ?_
      rintro e w2 ⟨rfl, hg⟩
      have HG2 := Lib.hid (gb_trans HG1.out hg)
      rw [if_pos (by omega)]
      clear hg e0
      go_wp2_with fail
      go_ret
      exact ⟨rfl, HG2.out⟩
    · go_enter Try.func29, Try.ntmps29
      go_wp2_with fail
      refine (lawsSzTable AP nP cP m _ hP hm0 hm1).mono ?_
      rintro e w1 ⟨rfl, hg⟩
      have HG1 := Lib.hid (gb_trans HG.out hg)
      have e0 : w1.cell? ⟨w.heap.size, 1, none⟩ = some (.slice AQ nQ cQ) := (HB.out.grown hg (by simp)).cell 1
      rw [if_neg (by omega)]
      clear hg
      go_wp2_with fail
      refine (lawsSzTable AQ nQ cQ (m - nP) _ hQ (by omega) (by omega)).mono ?_
      rintro e w2 ⟨rfl, hg⟩
      have HG2 := Lib.hid (gb_trans HG1.out hg)
      rw [if_neg (by omega)]
      clear hg e0
      go_wp2_with fail
      go_ret
      exact ⟨rfl, HG2.out⟩

theorem lawsToClasses (AP AQ : Option Addr) (nP cP nQ cQ : Nat) (P Q : List Int) (w : World) (hp : IntAt w w.heap.size AP nP P) (hq : IntAt w w.heap.size AQ nQ Q) (hnP : nP ≤ 1048576) (hnQ : nQ ≤ 1048576) :
    Calls Try.prog 32 #[.agg #[.slice AP nP cP, .slice AQ nQ cQ]] w (NewC P Q w) := by
  have HR := Lib.hid hp
  have HC := Lib.hid hq
  clear hp hq
  go_enter Try.func32, Try.ntmps32
  go_wp2_with fail
  have k1 := ((Blk.new w 61 #[.slice AP nP cP, .slice AQ nQ cQ]).alloc (.cells #[.slice none 0 0, .slice none 0 0] 43)).alloc (.cells #[.slice none 0 0, .slice none 0 0] 43)
  have k2 := (Blk.new (w.alloc (.cells #[.slice AP nP cP, .slice AQ nQ cQ] 61)) 43 #[.slice none 0 0, .slice none 0 0]).alloc (.cells #[.slice none 0 0, .slice none 0 0] 43)
  have k3 := Blk.new ((w.alloc (.cells #[.slice AP nP cP, .slice AQ nQ cQ] 61)).alloc (.cells #[.slice none 0 0, .slice none 0 0] 43)) 43 #[.slice none 0 0, .slice none 0 0]
  have hg := gb_alloc (gb_alloc (gb_alloc (gb_refl w none) (.cells #[.slice AP nP cP, .slice AQ nQ cQ] 61)) (.cells #[.slice none 0 0, .slice none 0 0] 43)) (.cells #[.slice none 0 0, .slice none 0 0] 43)
  have hsx : (((w.alloc (.cells #[.slice AP nP cP, .slice AQ nQ cQ] 61)).alloc (.cells #[.slice none 0 0, .slice none 0 0] 43)).alloc (.cells #[.slice none 0 0, .slice none 0 0] 43)).heap.size = w.heap.size + 3 := by simp only [alloc_size]
  simp only [alloc_size] at k2 k3
  generalize (((w.alloc (.cells #[.slice AP nP cP, .slice AQ nQ cQ] 61)).alloc (.cells #[.slice none 0 0, .slice none 0 0] 43)).alloc (.cells #[.slice none 0 0, .slice none 0 0] 43)) = wx at *
  have hbx := gb_below_none hg (Nat.le_refl _)
  have ir : IntAt wx wx.heap.size AP nP P := (HR.out.none (Nat.le_refl _) hg).more hg.size
  refine (lawsToTable AP nP cP P wx ir hnP).mono ?_
  rintro e w2 ⟨g, rfl, o2, b2⟩
  have j1 := k1.below b2 (by omega)
  have j2 := k2.below b2 (by omega)
  have j3 := k3.below b2 (by omega)
  have J2 := Lib.hid j2
  have J3 := Lib.hid j3
  have O2 := Lib.hid o2
  have HS := Lib.hid hsx
  have HB2 := Lib.hid (hbx.trans (b2.mono hbx.size))
  have a12 : w2.cell? ⟨w.heap.size, 1, none⟩ = some (.slice AQ nQ cQ) := j1.cell 1
  have a31 : w2.cell? ⟨w.heap.size + 1 + 1, 0, none⟩ = some (.slice none 0 0) := j3.cell 0
  have f31 := j3.frozen 0
  clear k1 k2 k3 hg hsx hbx ir o2 b2 j1 j2 j3
  go_wp2_with fail
  have y2 := J2.out.far (p := ⟨w.heap.size + 1 + 1, 0, none⟩) (by simp) (.slice (some ⟨g, 0, none⟩) P.length P.length)
  have y3 := J3.out.set_ 0 (.slice (some ⟨g, 0, none⟩) P.length P.length)
  have hs2x := HS.out
  have oy := ownsRow_setCell_below (a := ⟨w.heap.size + 1 + 1, 0, none⟩) O2.out (by show w.heap.size + 1 + 1 < _; omega) (.slice (some ⟨g, 0, none⟩) P.length P.length)
  have hby := gb_below_none (gb_setCell (gb_of_below HB2.out none) (p := ⟨w.heap.size + 1 + 1, 0, none⟩) (.inr (by show w.heap.size ≤ w.heap.size + 1 + 1; omega)) (.slice (some ⟨g, 0, none⟩) P.length P.length)) (Nat.le_refl _)
  have hsy : (w2.setCell ⟨w.heap.size + 1 + 1, 0, none⟩ (.slice (some ⟨g, 0, none⟩) P.length P.length)).heap.size = w2.heap.size := by simp [World.setCell]
  have hgy := O2.out.lt g rfl
  simp at y3
  clear J2 J3 O2 HB2 a12 a31 f31
  generalize w2.setCell ⟨w.heap.size + 1 + 1, 0, none⟩ (.slice (some ⟨g, 0, none⟩) P.length P.length) = wy at *
  have iy : IntAt wy wy.heap.size AQ nQ Q := (HC.out.below hby).more (by have := hby.size; omega)
  refine (lawsToTable AQ nQ cQ Q wy iy hnQ).mono ?_
  rintro e w3 ⟨g2, rfl, o3, b3⟩
  have z2 := y2.below b3 (by omega)
  have z3 := y3.below b3 (by omega)
  have hg2 := o3.lt g2 rfl
  have Z2 := Lib.hid z2
  have OR := Lib.hid (own_below oy b3)
  have OC := Lib.hid o3
  have HB3 := Lib.hid (hby.trans (b3.mono hby.size))
  have HN := Lib.hid (show g < g2 ∧ w.heap.size + 1 + 1 < wx.heap.size ∧ w.heap.size + 1 + 1 < wy.heap.size by omega)
  have a31 : w3.cell? ⟨w.heap.size + 1 + 1, 0, none⟩ = some (.slice (some ⟨g, 0, none⟩) P.length P.length) := z3.cell 0
  have a32 : w3.cell? ⟨w.heap.size + 1 + 1, 1, none⟩ = some (.slice none 0 0) := z3.cell 1
  have f32 := z3.frozen 1
  have a20 : w3.cell? ⟨w.heap.size + 1, 0, none⟩ = some (.slice none 0 0) := z2.cell 0
  have a21 : w3.cell? ⟨w.heap.size + 1, 1, none⟩ = some (.slice none 0 0) := z2.cell 1
  have f20 := z2.frozen 0
  have f21 := z2.frozen 1
  clear y2 y3 oy hby hsy hgy iy o3 b3 z2 z3 hg2 hs2x
  go_wp2_with fail
  have kk := ((Z2.out.far (p := ⟨w.heap.size + 1 + 1, 1, none⟩) (by simp) (.slice (some ⟨g2, 0, none⟩) Q.length Q.length)).set_ 0 (.slice (some ⟨g, 0, none⟩) P.length P.length)).set_ 1 (.slice (some ⟨g2, 0, none⟩) Q.length Q.length)
  have d0 := kk.cell 0
  have d1 := kk.cell 1
  simp at d0 d1
  have hn := HN.out
  refine bodyPost_ret (v := .agg #[.slice (some ⟨g, 0, none⟩) P.length P.length, .slice (some ⟨g2, 0, none⟩) Q.length Q.length]) (by simp [results, Try.results32, go_sem, d0, d1]) rfl ⟨_, _, rfl, ⟨?_, ?_, ?_⟩, ?_⟩
  · exact own_less (ownsRow_setCell_below (ownsRow_setCell_below (ownsRow_setCell_below OR.out hn.2.1 _) (by show w.heap.size + 1 < _; omega) _) (by show w.heap.size + 1 < _; omega) _) (by omega)
  · exact own_less (ownsRow_setCell_below (ownsRow_setCell_below (ownsRow_setCell_below OC.out hn.2.2 _) (by show w.heap.size + 1 < _; omega) _) (by show w.heap.size + 1 < _; omega) _) (by omega)
  · intro j e e2
    have h1 : g = j := Option.some.inj e
    have h2 : g2 = j := Option.some.inj e2
    omega
  · exact gb_below_none (gb_setCell (gb_setCell (gb_setCell (gb_of_below HB3.out none) (.inr (by show w.heap.size ≤ w.heap.size + 1 + 1; omega)) _) (.inr (by show w.heap.size ≤ w.heap.size + 1; omega)) _) (.inr (by show w.heap.size ≤ w.heap.size + 1; omega)) _) (Nat.le_refl _)

theorem lawsEqClasses (vp1 vq1 vp2 vq2 : Value) (b1 b2 : Nat) (P Q : List Int) (w : World) (h1 : VRow w b1 vp1 vq1 P.length Q.length P Q) (h2 : VRow w b2 vp2 vq2 P.length Q.length P Q) (hP : P.length ≤ 1000000000) (hQ : Q.length ≤ 1000000000) :
    Calls Try.prog 34 #[.agg #[vp1, vq1], .agg #[vp2, vq2]] w (RetB true w) := by
  obtain ⟨A1, c1, rfl, _⟩ := own_form h1.r
  obtain ⟨A2, c2, rfl, _⟩ := own_form h1.c
  obtain ⟨A3, c3, rfl, _⟩ := own_form h2.r
  obtain ⟨A4, c4, rfl, _⟩ := own_form h2.c
  have hg := gb_alloc (gb_alloc (gb_refl w none) (.cells #[.slice A1 P.length c1, .slice A2 Q.length c2] 43)) (.cells #[.slice A3 P.length c3, .slice A4 Q.length c4] 43)
  have H1 := Lib.hid (h1.gb hg)
  have H2 := Lib.hid (h2.gb hg)
  have HB1 := Lib.hid ((Blk.new w 43 #[.slice A1 P.length c1, .slice A2 Q.length c2]).alloc (.cells #[.slice A3 P.length c3, .slice A4 Q.length c4] 43))
  have hb2 := Blk.new (w.alloc (.cells #[.slice A1 P.length c1, .slice A2 Q.length c2] 43)) 43 #[.slice A3 P.length c3, .slice A4 Q.length c4]
  rw [alloc_size] at hb2
  have HB2 := Lib.hid hb2
  have HG := Lib.hid hg
  clear h1 h2 hg hb2
  go_enter Try.func34, Try.ntmps34
  go_wp2_with fail
  refine (lawsEqTable _ _ P.length _ _ _ _ P _ (intAt_own H1.out.r rfl (Nat.le_refl _)) (intAt_own H2.out.r rfl (Nat.le_refl _)) (Nat.le_refl _) (Nat.le_refl _) hP).mono ?_
  rintro e w2 ⟨rfl, hg2⟩
  have HG2 := Lib.hid (gb_trans HG.out hg2)
  have H12 := Lib.hid (H1.out.gb hg2)
  have H22 := Lib.hid (H2.out.gb hg2)
  have e0 : w2.cell? ⟨w.heap.size, 1, none⟩ = some (.slice A2 Q.length c2) := (HB1.out.grown hg2 (by simp)).cell 1
  have e1 : w2.cell? ⟨w.heap.size + 1, 1, none⟩ = some (.slice A4 Q.length c4) := (HB2.out.grown hg2 (by simp)).cell 1
  clear hg2
  go_wp2_with fail
  refine (lawsEqTable _ _ Q.length _ _ _ _ Q _ (intAt_own H12.out.c rfl (Nat.le_refl _)) (intAt_own H22.out.c rfl (Nat.le_refl _)) (Nat.le_refl _) (Nat.le_refl _) hQ).mono ?_
  rintro e w3 ⟨rfl, hg3⟩
  have HG3 := Lib.hid (gb_trans HG2.out hg3)
  clear hg3 e0 e1
  go_wp2_with fail
  go_ret
  exact ⟨rfl, HG3.out⟩
end Go.Proofs.Ytcmlnokfjbglaaa
end

section
namespace Go.Proofs.Ytcmlnokfjbglaaa
open Go.ChangeShapes Go.WideShapes Go.ChangeAt Go.RowKit
set_option linter.unusedVariables false

def clB (W H : Int) (A AP AQ : Option Addr) (n cap nP cP nQ cQ : Nat) (w : World) : World := (w.alloc (.cells (meshC W H A n cap) 30)).alloc (.cells #[.slice AP nP cP, .slice AQ nQ cQ] 43)
/-- The boxes as they are. -/
structure ClAt (W H : Int) (A AP AQ : Option Addr) (n cap nP cP nQ cQ : Nat) (w wr : World) : Prop where
  m : Blk wr w.heap.size 30 (meshC W H A n cap)
  t : Blk wr (w.heap.size + 1) 43 #[.slice AP nP cP, .slice AQ nQ cQ]
  g : w.grownBy wr none
section
variable {W H : Int} {A AP AQ : Option Addr} {n cap nP cP nQ cQ : Nat} {w wr w' : World}
theorem clAt_start : ClAt W H A AP AQ n cap nP cP nQ cQ w (clB W H A AP AQ n cap nP cP nQ cQ w) := by
  have ht := Blk.new (w.alloc (.cells (meshC W H A n cap) 30)) 43 #[.slice AP nP cP, .slice AQ nQ cQ]
  rw [alloc_size] at ht
  exact ⟨(Blk.new w 30 _).alloc _, ht, gb_alloc (gb_alloc (gb_refl w none) _) _⟩
theorem ClAt.gb (h : ClAt W H A AP AQ n cap nP cP nQ cQ w wr) (hg : wr.grownBy w' none) : ClAt W H A AP AQ n cap nP cP nQ cQ w w' := ⟨h.m.grown hg (by simp), h.t.grown hg (by simp), gb_trans h.g hg⟩
theorem ClAt.bl (h : ClAt W H A AP AQ n cap nP cP nQ cQ w wr) (hb : Below wr.heap.size wr w') : ClAt W H A AP AQ n cap nP cP nQ cQ w w' := h.gb (gb_of_below hb none)
theorem ClAt.at (h : ClAt W H A AP AQ n cap nP cP nQ cQ w wr) {B : Option Addr} {k : Nat} {M : List Int} (hi : IntAt w w.heap.size B k M) : IntAt wr wr.heap.size B k M := (hi.none (Nat.le_refl _) h.g).more h.g.size
theorem ClAt.sz (h : ClAt W H A AP AQ n cap nP cP nQ cQ w wr) : w.heap.size + 2 ≤ wr.heap.size := by have := h.t.lt; omega
end
end Go.Proofs.Ytcmlnokfjbglaaa
end

section
namespace Go.Proofs.Ytcmlnokfjbglaaa
open Go.ChangeShapes Go.WideShapes Go.ChangeAt Go.RowKit
set_option linter.unusedVariables false

/-- The element leads from a channel without a rank to c. -/
def holdO (R : List Int) (d : Dep) (c : Nat) : Bool := decide (d.2 = (c : Int)) && decide (R.getD d.1.toNat 0 < 0)
def freeO (D : List Dep) (R : List Int) (c : Nat) : Bool := (List.range D.length).all fun i => !holdO R (atD D i) c
theorem freeO_iff {D : List Dep} {R : List Int} {c : Nat} : freeO D R c = true ↔ ∀ i, i < D.length → holdO R (atD D i) c = false := by
  unfold freeO
  rw [List.all_eq_true]
  exact ⟨fun h i hi => by simpa using h i (List.mem_range.2 hi), fun h i hi => by simpa using h i (List.mem_range.1 hi)⟩
theorem freeO_no {D : List Dep} {R : List Int} {c i : Nat} (hi : i < D.length) (h : holdO R (atD D i) c = true) : freeO D R c = false := by
  cases hf : freeO D R c with
  | false => rfl
  | true => rw [freeO_iff.1 hf i hi] at h; cases h
/-- c can be ranked next. -/
def candO (D : List Dep) (R : List Int) (c : Nat) : Bool := decide (R.getD c 0 < 0) && freeO D R c
/-- The least such channel. -/
def bestO (D : List Dep) (R : List Int) : Option Nat := (List.range 128).find? (candO D R)
theorem find_range {p : Nat → Bool} {n c : Nat} (hc : c < n) (h : p c = true) (h0 : ∀ j, j < c → p j = false) : (List.range n).find? p = some c := by
  induction n with
  | zero => omega
  | succ n ih =>
    rw [List.range_succ, List.find?_append]
    rcases Nat.lt_succ_iff_lt_or_eq.1 hc with h1 | h1
    · rw [ih h1]; rfl
    · subst h1
      have : (List.range c).find? p = none := List.find?_eq_none.2 fun x hx => by
        rw [h0 x (List.mem_range.1 hx)]; simp
      rw [this]
      simp [h]
theorem bestO_some {D : List Dep} {R : List Int} {c : Nat} (hc : c < 128) (h : candO D R c = true) (h0 : ∀ j, j < c → candO D R j = false) : bestO D R = some c := find_range hc h h0
theorem bestO_none {D : List Dep} {R : List Int} (h0 : ∀ j, j < 128 → candO D R j = false) : bestO D R = none := List.find?_eq_none.2 fun x hx => by rw [h0 x (List.mem_range.1 hx)]; simp
theorem bestO_is {D : List Dep} {R : List Int} {c : Nat} (h : bestO D R = some c) : c < 128 ∧ candO D R c = true := ⟨List.mem_range.1 (List.mem_of_find?_eq_some h), List.find?_some h⟩
theorem bestO_least {D : List Dep} {R : List Int} {c : Nat} (h : bestO D R = some c) {j : Nat} (hj : j < c) : candO D R j = false := by
  cases hp : candO D R j with
  | false => rfl
  | true =>
    have key : ∀ n : Nat, j < n → ∃ k, (List.range n).find? (candO D R) = some k ∧ k ≤ j := fun n => by
      induction n with
      | zero => intro h; omega
      | succ n ih =>
        intro hn
        rw [List.range_succ, List.find?_append]
        rcases Nat.lt_succ_iff_lt_or_eq.1 hn with h1 | h1
        · obtain ⟨k, hk, hl⟩ := ih h1
          exact ⟨k, by rw [hk]; rfl, hl⟩
        · subst h1
          cases hf : (List.range j).find? (candO D R) with
          | some k => exact ⟨k, rfl, Nat.le_of_lt (List.mem_range.1 (List.mem_of_find?_eq_some hf))⟩
          | none => exact ⟨j, by simp [hp], Nat.le_refl _⟩
    obtain ⟨k, hk, hl⟩ := key 128 (by have := (bestO_is h).1; omega)
    unfold bestO at h
    rw [h] at hk
    cases hk
    omega
/-- The ranks behind r steps. -/
def ordTo (D : List Dep) : Nat → Option (List Int)
  | 0 => some (List.replicate 128 (-1))
  | r + 1 => (ordTo D r).bind fun R => (bestO D R).map fun c => R.set c (r : Int)
theorem ordTo_next {D : List Dep} {r c : Nat} {R : List Int} (h : ordTo D r = some R) (hc : bestO D R = some c) : ordTo D (r + 1) = some (R.set c (r : Int)) := by simp [ordTo, h, hc]
theorem ordTo_stop {D : List Dep} {r : Nat} {R : List Int} (h : ordTo D r = some R) (hc : bestO D R = none) : ordTo D (r + 1) = none := by simp [ordTo, h, hc]
theorem ordTo_none {D : List Dep} {r : Nat} (h : ordTo D r = none) : ∀ k, ordTo D (r + k) = none
  | 0 => h
  | k + 1 => by rw [← Nat.add_assoc, ordTo, ordTo_none h k]; rfl
theorem ordTo_dead {D : List Dep} {r : Nat} (h : ordTo D r = none) (hr : r ≤ 128) : ordTo D 128 = none := by
  have := ordTo_none h (128 - r)
  rwa [show r + (128 - r) = 128 by omega] at this
def orderO (D : List Dep) : Option (List Int) := if okD D then ordTo D 128 else none
theorem orderO_bad {D : List Dep} (h : okD D = false) : orderO D = none := by simp [orderO, h]
theorem orderO_ok {D : List Dep} (h : okD D = true) : orderO D = ordTo D 128 := by simp [orderO, h]
/-- What holds behind r steps. -/
structure OrdInv (D : List Dep) (r : Nat) (R : List Int) : Prop where
  len : R.length = 128
  rng : ∀ c, c < 128 → R.getD c 0 = -1 ∨ (0 ≤ R.getD c 0 ∧ R.getD c 0 < (r : Int))
  cnt : R.countP (fun x => decide (x < 0)) = 128 - r
  all : ∀ s : Nat, s < r → ∃ c, c < 128 ∧ R.getD c 0 = (s : Int)
  dep : ∀ d ∈ D, 0 ≤ R.getD d.2.toNat 0 → 0 ≤ R.getD d.1.toNat 0 ∧ R.getD d.1.toNat 0 < R.getD d.2.toNat 0
theorem set_getD {R : List Int} {c i : Nat} {x : Int} (hc : c < R.length) : (R.set c x).getD i 0 = if c = i then x else R.getD i 0 := by
  rw [List.getD_eq_getElem?_getD, List.getElem?_set]
  split
  · rename_i h
    subst h
    first | rfl | (rw [if_pos hc]; rfl) | simp [hc]
  · rw [List.getD_eq_getElem?_getD]
theorem ord_start (D : List Dep) (hD : okD D = true) : OrdInv D 0 (List.replicate 128 (-1)) := by
  have hg : ∀ c, c < 128 → (List.replicate 128 (-1 : Int)).getD c 0 = -1 := fun c hc => by
    rw [List.getD_eq_getElem?_getD, List.getElem?_replicate, if_pos hc]; rfl
  refine ⟨List.length_replicate, fun c hc => .inl (hg c hc), ?_, fun s hs => by omega, fun d hd h => ?_⟩
  · rw [List.countP_replicate]; rfl
  · have := inD_iff.1 (okD_in hD hd)
    rw [hg d.2.toNat (by omega)] at h
    omega
theorem ord_next {D : List Dep} (hD : okD D = true) {r c : Nat} {R : List Int} (h : OrdInv D r R) (hr : r < 128) (hc : bestO D R = some c) : OrdInv D (r + 1) (R.set c (r : Int)) := by
  obtain ⟨hc1, hc2⟩ := bestO_is hc
  simp only [candO, Bool.and_eq_true, decide_eq_true_eq] at hc2
  obtain ⟨hn, hf⟩ := hc2
  have hcl : c < R.length := by rw [h.len]; exact hc1
  refine ⟨by rw [List.length_set]; exact h.len, fun i hi => ?_, ?_, fun s hs => ?_, fun d hd h2 => ?_⟩
  · rw [set_getD hcl]
    split
    · right; omega
    · rcases h.rng i hi with h1 | h1
      · exact .inl h1
      · right; omega
  · have e : R.getD c 0 = R[c] := by rw [List.getD_eq_getElem?_getD, List.getElem?_eq_getElem hcl]; rfl
    rw [e] at hn
    have hr0 : ¬ ((r : Int) < 0) := by omega
    rw [List.countP_set hcl, h.cnt]
    simp [hn, hr0]
    omega
  · rcases Nat.lt_succ_iff_lt_or_eq.1 hs with h1 | h1
    · obtain ⟨i, hi, he⟩ := h.all s h1
      refine ⟨i, hi, ?_⟩
      rw [set_getD hcl, if_neg (fun e => by subst e; omega)]
      exact he
    · exact ⟨c, hc1, by rw [set_getD hcl, if_pos rfl, h1]⟩
  · have hin := inD_iff.1 (okD_in hD hd)
    obtain ⟨i, hi, rfl⟩ := atD_ex hd
    have hh := freeO_iff.1 hf i hi
    simp only [holdO, Bool.and_eq_false_iff, decide_eq_false_iff_not] at hh
    rw [set_getD hcl] at h2
    rw [set_getD hcl, set_getD hcl]
    by_cases e2 : c = (atD D i).2.toNat
    · rw [if_pos e2]
      have h3 : ¬ (R.getD (atD D i).1.toNat 0 < 0) := by
        rcases hh with h4 | h4
        · exact absurd (by omega) h4
        · exact h4
      have e1 : c ≠ (atD D i).1.toNat := fun e => by rw [← e] at h3; omega
      rw [if_neg e1]
      rcases h.rng (atD D i).1.toNat (by omega) with h5 | h5
      · omega
      · omega
    · rw [if_neg e2] at h2 ⊢
      obtain ⟨h5, h6⟩ := h.dep _ hd h2
      have e1 : c ≠ (atD D i).1.toNat := fun e => by rw [← e] at h5; omega
      rw [if_neg e1]
      exact ⟨h5, h6⟩
theorem ord_inv {D : List Dep} (hD : okD D = true) : ∀ {r : Nat} {R : List Int}, r ≤ 128 → ordTo D r = some R → OrdInv D r R
  | 0, R, _, h => by
    have : R = List.replicate 128 (-1) := (Option.some.inj h).symm
    rw [this]
    exact ord_start D hD
  | r + 1, R, hr, h => by
    cases h1 : ordTo D r with
    | none => rw [ordTo, h1] at h; cases h
    | some R0 =>
      cases h2 : bestO D R0 with
      | none => rw [ordTo_stop h1 h2] at h; cases h
      | some c =>
        rw [ordTo_next h1 h2] at h
        have : R = R0.set c (r : Int) := (Option.some.inj h).symm
        rw [this]
        exact ord_next hD (ord_inv hD (by omega) h1) (by omega) h2
theorem ordTo_len {D : List Dep} : ∀ {r : Nat} {R : List Int}, ordTo D r = some R → R.length = 128
  | 0, R, h => by rw [← Option.some.inj h]; exact List.length_replicate
  | r + 1, R, h => by
    cases h1 : ordTo D r with
    | none => rw [ordTo, h1] at h; cases h
    | some R0 =>
      cases h2 : bestO D R0 with
      | none => rw [ordTo_stop h1 h2] at h; cases h
      | some c =>
        rw [ordTo_next h1 h2] at h
        rw [← Option.some.inj h, List.length_set]
        exact ordTo_len h1
/-- An order: its ranks are all the numbers, and they rise along each element. -/
def riseO (D : List Dep) (R : List Int) (i : Nat) : Bool := decide (R.getD (atD D i).1.toNat 0 < R.getD (atD D i).2.toNat 0)
def isOrdO (D : List Dep) (R : List Int) : Bool := okD D && decide (R.length = 128) && ((List.range 128).all fun r => inG R (r : Int)) && (List.range D.length).all (riseO D R)
theorem isOrdO_of {D : List Dep} {R : List Int} (h1 : okD D = true) (h2 : R.length = 128) (h3 : ∀ r : Nat, r < 128 → inG R (r : Int) = true) (h4 : ∀ i, i < D.length → riseO D R i = true) : isOrdO D R = true := by
  simp only [isOrdO, h1, h2, decide_true, Bool.true_and, Bool.and_eq_true, List.all_eq_true, List.mem_range]
  exact ⟨h3, h4⟩
theorem isOrdO_bad {D : List Dep} {R : List Int} (h : okD D = false) : isOrdO D R = false := by simp [isOrdO, h]
theorem isOrdO_len {D : List Dep} {R : List Int} (h : R.length ≠ 128) : isOrdO D R = false := by simp [isOrdO, h]
theorem isOrdO_lack {D : List Dep} {R : List Int} {r : Nat} (hr : r < 128) (h : inG R (r : Int) = false) : isOrdO D R = false := by
  cases ho : isOrdO D R with
  | false => rfl
  | true =>
    simp only [isOrdO, Bool.and_eq_true, List.all_eq_true, List.mem_range] at ho
    rw [ho.1.2 r hr] at h
    cases h
theorem isOrdO_fall {D : List Dep} {R : List Int} {i : Nat} (hi : i < D.length) (h : riseO D R i = false) : isOrdO D R = false := by
  cases ho : isOrdO D R with
  | false => rfl
  | true =>
    simp only [isOrdO, Bool.and_eq_true, List.all_eq_true, List.mem_range] at ho
    rw [ho.2 i hi] at h
    cases h
/-- What is found is an order. -/
theorem order_is {D : List Dep} {R : List Int} (h : orderO D = some R) : okD D = true ∧ R.length = 128 ∧ isOrdO D R = true := by
  cases hD : okD D with
  | false => rw [orderO_bad hD] at h; cases h
  | true =>
    rw [orderO_ok hD] at h
    have hi := ord_inv hD (Nat.le_refl _) h
    refine ⟨rfl, hi.len, isOrdO_of hD hi.len (fun r hr => ?_) (fun i hj => ?_)⟩
    · obtain ⟨c, hc, he⟩ := hi.all r hr
      exact inG_yes (by rw [hi.len]; exact hc) he
    · have hn : ∀ x ∈ R, ¬ x < 0 := fun x hx => by
        have := List.countP_eq_zero.1 hi.cnt x hx
        simpa using this
      have hin := inD_iff.1 (okD_in hD (atD_mem hj))
      have hm : R.getD (atD D i).2.toNat 0 ∈ R := by
        rw [List.getD_eq_getElem?_getD, List.getElem?_eq_getElem (by rw [hi.len]; omega)]
        exact List.getElem_mem _
      have := hi.dep _ (atD_mem hj) (by have := hn _ hm; omega)
      exact decide_eq_true this.2
/-- The least channel to which no element leads has the rank 0. -/
def noPre (D : List Dep) (c : Nat) : Bool := (List.range D.length).all fun i => decide ((atD D i).2 ≠ (c : Int))
theorem cand_start {D : List Dep} (hD : okD D = true) {c : Nat} (hc : c < 128) : candO D (List.replicate 128 (-1)) c = noPre D c := by
  have hg : ∀ c, c < 128 → (List.replicate 128 (-1 : Int)).getD c 0 = -1 := fun c hc => by
    rw [List.getD_eq_getElem?_getD, List.getElem?_replicate, if_pos hc]; rfl
  unfold candO freeO noPre
  rw [hg c hc]
  rw [show decide ((-1 : Int) < 0) = true from rfl, Bool.true_and]
  apply Bool.eq_iff_iff.2
  rw [List.all_eq_true, List.all_eq_true]
  have key : ∀ i, i < D.length → (!holdO (List.replicate 128 (-1)) (atD D i) c) = decide ((atD D i).2 ≠ (c : Int)) := fun i hi => by
    have hin := inD_iff.1 (okD_in hD (atD_mem hi))
    unfold holdO
    rw [hg _ (by omega), show decide ((-1 : Int) < 0) = true from rfl, Bool.and_true]
    by_cases h : (atD D i).2 = (c : Int) <;> simp [h]
  exact ⟨fun h i hi => by rw [← key i (List.mem_range.1 hi)]; exact h i hi, fun h i hi => by rw [key i (List.mem_range.1 hi)]; exact h i hi⟩
theorem ord_first {D : List Dep} (hD : okD D = true) {R : List Int} (h : ordTo D 128 = some R) : ∃ c, c < 128 ∧ noPre D c = true ∧ (∀ j, j < c → noPre D j = false) ∧ R.getD c 0 = 0 := by
  have key : ∀ r, ∀ R, r + 1 ≤ 128 → ordTo D (r + 1) = some R → ∃ c, bestO D (List.replicate 128 (-1)) = some c ∧ R.getD c 0 = 0 := fun r => by
    induction r with
    | zero =>
      intro R _ h
      cases h2 : bestO D (List.replicate 128 (-1)) with
      | none => rw [ordTo_stop (r := 0) rfl h2] at h; cases h
      | some c =>
        rw [ordTo_next (r := 0) rfl h2] at h
        refine ⟨c, rfl, ?_⟩
        rw [← Option.some.inj h, set_getD (by rw [List.length_replicate]; exact (bestO_is h2).1), if_pos rfl]
        rfl
    | succ r ih =>
      intro R hr h
      cases h1 : ordTo D (r + 1) with
      | none => rw [ordTo, h1] at h; cases h
      | some R0 =>
        cases h2 : bestO D R0 with
        | none => rw [ordTo_stop h1 h2] at h; cases h
        | some c =>
          rw [ordTo_next h1 h2] at h
          obtain ⟨c0, hc0, he⟩ := ih R0 (by omega) h1
          obtain ⟨hc1, hc2⟩ := bestO_is h2
          simp only [candO, Bool.and_eq_true, decide_eq_true_eq] at hc2
          refine ⟨c0, hc0, ?_⟩
          rw [← Option.some.inj h, set_getD (by rw [ordTo_len h1]; exact hc1), if_neg (fun e => by subst e; omega)]
          exact he
  obtain ⟨c, hc, he⟩ := key 127 R (by omega) h
  obtain ⟨h1, h2⟩ := bestO_is hc
  exact ⟨c, h1, by rw [← cand_start hD h1]; exact h2, fun j hj => by rw [← cand_start hD (by omega)]; exact bestO_least hc hj, he⟩

/-- The rank of a channel under the rule xy. -/
def rankG (W H rule c : Int) : Int :=
  if rule = 1 ∧ leadsG W H c = true then
    (if c % 4 = 1 then c / 4 % W else if c % 4 = 3 then W - 1 - c / 4 % W else if c % 4 = 2 then 10 + c / 4 / W else 10 + H - 1 - c / 4 / W)
  else -1
/-- Each channel of the route is an index, and its rank is above that of the one ahead. -/
def upO (R T : List Int) (i : Nat) : Bool :=
  decide (0 ≤ T.getD i 0 ∧ T.getD i 0 ≤ (R.length : Int) - 1) && (decide (i = 0) || decide (R.getD (T.getD (i - 1) 0).toNat 0 < R.getD (T.getD i 0).toNat 0))
def risesO (R T : List Int) : Bool := (List.range T.length).all (upO R T)
theorem risesO_of {R T : List Int} (h : ∀ i, i < T.length → upO R T i = true) : risesO R T = true := by
  simp only [risesO, List.all_eq_true, List.mem_range]; exact h
theorem risesO_not {R T : List Int} {i : Nat} (hi : i < T.length) (h : upO R T i = false) : risesO R T = false := by
  cases ho : risesO R T with
  | false => rfl
  | true =>
    simp only [risesO, List.all_eq_true, List.mem_range] at ho
    rw [ho i hi] at h
    cases h
end Go.Proofs.Ytcmlnokfjbglaaa
end

section
namespace Go.Proofs.Ytcmlnokfjbglaaa
open Go.ChangeShapes Go.WideShapes Go.ChangeAt Go.RowKit
set_option linter.unusedVariables false

/-- An element leads from a to b. -/
def edgeB (D : List Dep) (a b : Nat) : Bool := D.any fun d => decide (d.1 = (a : Int)) && decide (d.2 = (b : Int))
theorem edge_iff {D : List Dep} {a b : Nat} : edgeB D a b = true ↔ ((a : Int), (b : Int)) ∈ D := by
  unfold edgeB
  rw [List.any_eq_true]
  constructor
  · rintro ⟨d, hd, h⟩
    simp only [Bool.and_eq_true, decide_eq_true_eq] at h
    have : d = ((a : Int), (b : Int)) := Prod.ext h.1 h.2
    rwa [this] at hd
  · exact fun h => ⟨_, h, by simp⟩
theorem edge_lt {D : List Dep} (hD : okD D = true) {a b : Nat} (h : edgeB D a b = true) : a < 128 ∧ b < 128 := by
  have h1 := inD_iff.1 (okD_in hD (edge_iff.1 h))
  exact ⟨by have := h1.2.1; simp only at this; omega, by have := h1.2.2.2; simp only at this; omega⟩
theorem edge_succ {D : List Dep} {a b : Nat} : edgeB D a b = true ↔ (b : Int) ∈ succD D (a : Int) := by
  rw [edge_iff]
  unfold succD
  rw [List.mem_map]
  constructor
  · exact fun h => ⟨_, List.mem_filter.2 ⟨h, by simp⟩, rfl⟩
  · rintro ⟨d, hd, he⟩
    obtain ⟨h1, h2⟩ := List.mem_filter.1 hd
    have h3 : d.1 = (a : Int) := by simpa using h2
    have : d = ((a : Int), (b : Int)) := Prod.ext h3 he
    rwa [this] at h1
theorem succ_in {D : List Dep} (hD : okD D = true) {c x : Int} (h : x ∈ succD D c) : 0 ≤ x ∧ x < 128 := by
  unfold succD at h
  obtain ⟨d, hd, rfl⟩ := List.mem_map.1 h
  have h1 := inD_iff.1 (okD_in hD (List.mem_filter.1 hd).1)
  omega

/-- n elements, one behind the other, lead from a to b. -/
def wayB (D : List Dep) (a : Nat) : Nat → Nat → Bool
  | 0, b => decide (b = a)
  | n + 1, b => (List.range 128).any fun u => wayB D a n u && edgeB D u b
theorem wayB_zero {D : List Dep} {a b : Nat} : wayB D a 0 b = true ↔ b = a := by simp [wayB]
theorem wayB_next {D : List Dep} (hD : okD D = true) {a n b : Nat} : wayB D a (n + 1) b = true ↔ ∃ u, wayB D a n u = true ∧ edgeB D u b = true := by
  rw [wayB, List.any_eq_true]
  constructor
  · rintro ⟨u, hu, h⟩
    rw [Bool.and_eq_true] at h
    exact ⟨u, h⟩
  · rintro ⟨u, h1, h2⟩
    exact ⟨u, List.mem_range.2 (edge_lt hD h2).1, by rw [h1, h2]; rfl⟩
theorem way_one {D : List Dep} (hD : okD D = true) {a b : Nat} : wayB D a 1 b = true ↔ edgeB D a b = true := by
  rw [wayB_next hD]
  exact ⟨fun ⟨u, h1, h2⟩ => by rw [wayB_zero.1 h1] at h2; exact h2, fun h => ⟨a, wayB_zero.2 rfl, h⟩⟩
theorem way_lt {D : List Dep} (hD : okD D = true) {a n b : Nat} (hn : 1 ≤ n) (h : wayB D a n b = true) : b < 128 := by
  obtain ⟨m, rfl⟩ : ∃ m, n = m + 1 := ⟨n - 1, by omega⟩
  obtain ⟨u, _, h2⟩ := (wayB_next hD).1 h
  exact (edge_lt hD h2).2
theorem way_from {D : List Dep} (hD : okD D = true) {a : Nat} : ∀ {n b : Nat}, 1 ≤ n → wayB D a n b = true → a < 128
  | 0, b, hn, h => by omega
  | 1, b, _, h => (edge_lt hD ((way_one hD).1 h)).1
  | n + 2, b, _, h => by
    obtain ⟨u, h1, _⟩ := (wayB_next hD).1 h
    exact way_from hD (n := n + 1) (by omega) h1
theorem way_add {D : List Dep} (hD : okD D = true) {a b : Nat} {n : Nat} (h : wayB D a n b = true) : ∀ {m c : Nat}, wayB D b m c = true → wayB D a (n + m) c = true
  | 0, c, k => by rw [wayB_zero.1 k]; exact h
  | m + 1, c, k => by
    obtain ⟨u, h1, h2⟩ := (wayB_next hD).1 k
    exact (wayB_next hD).2 ⟨u, way_add hD h h1, h2⟩
theorem way_split {D : List Dep} (hD : okD D = true) {a n : Nat} : ∀ {m c : Nat}, wayB D a (n + m) c = true → ∃ b, wayB D a n b = true ∧ wayB D b m c = true
  | 0, c, h => ⟨c, h, wayB_zero.2 rfl⟩
  | m + 1, c, h => by
    obtain ⟨u, h1, h2⟩ := (wayB_next hD).1 (show wayB D a ((n + m) + 1) c = true from h)
    obtain ⟨b, h3, h4⟩ := way_split hD h1
    exact ⟨b, h3, (wayB_next hD).2 ⟨u, h4, h2⟩⟩
theorem way_head {D : List Dep} (hD : okD D = true) {a n c : Nat} (h : wayB D a (n + 1) c = true) : ∃ s, edgeB D a s = true ∧ wayB D s n c = true := by
  rw [Nat.add_comm] at h
  obtain ⟨b, h1, h2⟩ := way_split hD h
  exact ⟨b, (way_one hD).1 h1, h2⟩
theorem way_cons {D : List Dep} (hD : okD D = true) {a s n c : Nat} (h : edgeB D a s = true) (k : wayB D s n c = true) : wayB D a (n + 1) c = true := by
  rw [Nat.add_comm]
  exact way_add hD ((way_one hD).2 h) k

/-- The first level, from 1 on, at which b is reached. -/
def fstB (D : List Dep) (a n b : Nat) : Prop := wayB D a n b = true ∧ ∀ m, 1 ≤ m → m < n → wayB D a m b = false
/-- The least number of elements, at least 1, that lead from a to b; 0 if there are none. -/
def isDist (D : List Dep) (a b n : Nat) : Prop := (n = 0 ∧ ∀ m, 1 ≤ m → wayB D a m b = false) ∨ (1 ≤ n ∧ fstB D a n b)
theorem dist_uniq {D : List Dep} {a b n m : Nat} (h : isDist D a b n) (k : isDist D a b m) : n = m := by
  rcases h with ⟨h1, h2⟩ | ⟨h1, h2, h3⟩
  · rcases k with ⟨k1, k2⟩ | ⟨k1, k2, k3⟩
    · omega
    · rw [h2 m k1] at k2; cases k2
  · rcases k with ⟨k1, k2⟩ | ⟨k1, k2, k3⟩
    · rw [k2 n h1] at h2; cases h2
    · rcases Nat.lt_trichotomy n m with h4 | h4 | h4
      · rw [k3 n h1 h4] at h2; cases h2
      · exact h4
      · rw [h3 m k1 h4] at k2; cases k2
theorem fst_ex {D : List Dep} {a b : Nat} : ∀ {n : Nat}, 1 ≤ n → wayB D a n b = true → ∃ m, 1 ≤ m ∧ m ≤ n ∧ fstB D a m b := by
  intro n
  induction n using Nat.strongRecOn with
  | ind n ih =>
    intro hn h
    by_cases hx : ∃ m, 1 ≤ m ∧ m < n ∧ wayB D a m b = true
    · obtain ⟨m, h1, h2, h3⟩ := hx
      obtain ⟨k, k1, k2, k3⟩ := ih m h2 h1 h3
      exact ⟨k, k1, by omega, k3⟩
    · exact ⟨n, hn, Nat.le_refl _, h, fun m h1 h2 => by
        cases hw : wayB D a m b with
        | false => rfl
        | true => exact absurd ⟨m, h1, h2, hw⟩ hx⟩
/-- A channel at a level has one ahead of it at the level before. -/
def levB (D : List Dep) (a n b : Nat) : Prop := if n = 0 then b = a else fstB D a n b
theorem fst_back {D : List Dep} (hD : okD D = true) {a n b : Nat} (h : fstB D a (n + 1) b) : ∃ u, levB D a n u ∧ edgeB D u b = true := by
  obtain ⟨u, h1, h2⟩ := (wayB_next hD).1 h.1
  refine ⟨u, ?_, h2⟩
  unfold levB
  split
  · rename_i h0
    subst h0
    exact wayB_zero.1 h1
  · rename_i h0
    refine ⟨h1, fun m hm hmn => ?_⟩
    cases hw : wayB D a m u with
    | false => rfl
    | true =>
      have := h.2 (m + 1) (by omega) (by omega)
      rw [(wayB_next hD).2 ⟨u, hw, h2⟩] at this
      cases this
theorem pigeon : ∀ (n : Nat) (l : List Nat), l.Nodup → (∀ x ∈ l, x < n) → l.length ≤ n
  | 0, l, _, h => by
    cases l with
    | nil => exact Nat.le_refl _
    | cons x l => have := h x (List.mem_cons_self ..); omega
  | n + 1, l, hl, h => by
    by_cases hm : n ∈ l
    · have h1 := pigeon n (l.erase n) (hl.erase n) (fun x hx => by
        have h2 := (List.Nodup.mem_erase_iff hl).1 hx
        have := h x h2.2
        omega)
      rw [List.length_erase_of_mem hm] at h1
      have : 0 < l.length := List.length_pos_of_mem hm
      omega
    · have := pigeon n l hl (fun x hx => by
        have h2 := h x hx
        have h3 : x ≠ n := fun e => hm (e ▸ hx)
        omega)
      omega
theorem fst_chain {D : List Dep} (hD : okD D = true) {a : Nat} : ∀ {n b : Nat}, 1 ≤ n → fstB D a n b → ∃ l : List Nat, l.Nodup ∧ l.length = n ∧ ∀ x ∈ l, x < 128 ∧ ∃ k, 1 ≤ k ∧ k ≤ n ∧ wayB D a k x = true
  | 0, b, hn, h => by omega
  | 1, b, _, h => ⟨[b], by simp, rfl, fun x hx => by
      rw [List.mem_singleton] at hx
      subst hx
      exact ⟨way_lt hD (Nat.le_refl _) h.1, 1, Nat.le_refl _, Nat.le_refl _, h.1⟩⟩
  | n + 2, b, _, h => by
    obtain ⟨u, h1, h2⟩ := fst_back hD h
    unfold levB at h1
    rw [if_neg (by omega)] at h1
    obtain ⟨l, hl, hn, hx⟩ := fst_chain hD (n := n + 1) (by omega) h1
    refine ⟨b :: l, ?_, by rw [List.length_cons, hn], fun x hm => ?_⟩
    · rw [List.nodup_cons]
      refine ⟨fun hm => ?_, hl⟩
      obtain ⟨_, k, k1, k2, k3⟩ := hx b hm
      rw [h.2 k k1 (by omega)] at k3
      cases k3
    · rcases List.mem_cons.1 hm with e | h3
      · rw [e]
        exact ⟨way_lt hD (by omega) h.1, n + 2, by omega, Nat.le_refl _, h.1⟩
      · obtain ⟨h4, k, k1, k2, k3⟩ := hx x h3
        exact ⟨h4, k, k1, by omega, k3⟩
theorem fst_le {D : List Dep} (hD : okD D = true) {a n b : Nat} (h : fstB D a n b) : n ≤ 128 := by
  by_cases hn : 1 ≤ n
  · obtain ⟨l, hl, he, hx⟩ := fst_chain hD hn h
    rw [← he]
    exact pigeon 128 l hl (fun x hm => (hx x hm).1)
  · omega
def distD (D : List Dep) (a b : Nat) : Nat := match (List.range 128).find? (fun n => wayB D a (n + 1) b) with | none => 0 | some n => n + 1
theorem find_least {p : Nat → Bool} {n k : Nat} (h : (List.range n).find? p = some k) {j : Nat} (hj : j < k) : p j = false := by
  induction n with
  | zero => simp at h
  | succ n ih =>
    rw [List.range_succ, List.find?_append] at h
    cases hf : (List.range n).find? p with
    | some m =>
      rw [hf] at h
      exact ih (hf.trans h)
    | none =>
      rw [hf] at h
      have hk : k = n := by
        have := List.mem_of_find?_eq_some (l := [n]) h
        simpa using this
      subst hk
      have := List.find?_eq_none.1 hf j (List.mem_range.2 hj)
      simpa using this
theorem dist_is {D : List Dep} (hD : okD D = true) (a b : Nat) : isDist D a b (distD D a b) := by
  unfold distD
  cases hf : (List.range 128).find? (fun n => wayB D a (n + 1) b) with
  | some n =>
    have hp : wayB D a (n + 1) b = true := List.find?_some (p := fun n => wayB D a (n + 1) b) hf
    refine .inr ⟨by simp, hp, fun m h1 h2 => ?_⟩
    obtain ⟨j, rfl⟩ : ∃ j, m = j + 1 := ⟨m - 1, by omega⟩
    exact find_least hf (j := j) (by simpa using h2)
  | none =>
    refine .inl ⟨rfl, fun m h1 => ?_⟩
    cases hw : wayB D a m b with
    | false => rfl
    | true =>
      obtain ⟨k, k1, k2, k3⟩ := fst_ex h1 hw
      have hk := fst_le hD k3
      have := List.find?_eq_none.1 hf (k - 1) (List.mem_range.2 (by omega))
      rw [show k - 1 + 1 = k by omega, k3.1] at this
      simp at this
theorem dist_le {D : List Dep} (hD : okD D = true) (a b : Nat) : distD D a b ≤ 128 := by
  rcases dist_is hD a b with ⟨h, _⟩ | ⟨_, h⟩
  · omega
  · exact fst_le hD h
theorem dist_of {D : List Dep} (hD : okD D = true) {a b n : Nat} (h : isDist D a b n) : distD D a b = n := dist_uniq (dist_is hD a b) h
/-- A way is no shorter than the least one. -/
theorem dist_way {D : List Dep} (hD : okD D = true) {a b n : Nat} (hn : 1 ≤ n) (h : wayB D a n b = true) : 1 ≤ distD D a b ∧ distD D a b ≤ n := by
  rcases dist_is hD a b with ⟨h1, h2⟩ | ⟨h1, h2⟩
  · rw [h2 n hn] at h; cases h
  · refine ⟨h1, ?_⟩
    by_cases hlt : n < distD D a b
    · rw [h2.2 n hn hlt] at h; cases h
    · omega
theorem dist_pos {D : List Dep} (hD : okD D = true) {a b : Nat} (h : 1 ≤ distD D a b) : wayB D a (distD D a b) b = true := by
  rcases dist_is hD a b with ⟨h1, h2⟩ | ⟨h1, h2⟩
  · omega
  · exact h2.1
/-- The triangle inequality. -/
theorem dist_tri {D : List Dep} (hD : okD D = true) {a b c : Nat} (h : 1 ≤ distD D a b) (k : 1 ≤ distD D b c) : 1 ≤ distD D a c ∧ distD D a c ≤ distD D a b + distD D b c :=
  dist_way hD (by omega) (way_add hD (dist_pos hD h) (dist_pos hD k))

/-- The number of steps, or -1. -/
def stpG (D : List Dep) (x y : Int) : Int := if okD D = true ∧ (0 ≤ x ∧ x ≤ 127) ∧ (0 ≤ y ∧ y ≤ 127) then (if distD D x.toNat y.toNat = 0 then -1 else (distD D x.toNat y.toNat : Int)) else -1

/-- Along a way the ranks of an order rise. -/
theorem ord_way {D : List Dep} (hD : okD D = true) {R : List Int} (h : isOrdO D R = true) {a : Nat} : ∀ {n b : Nat}, 1 ≤ n → wayB D a n b = true → R.getD a 0 < R.getD b 0 := by
  have he : ∀ a b : Nat, edgeB D a b = true → R.getD a 0 < R.getD b 0 := fun a b hab => by
    obtain ⟨k, hk, e⟩ := atD_ex (edge_iff.1 hab)
    simp only [isOrdO, Bool.and_eq_true, List.all_eq_true, List.mem_range] at h
    have := h.2 k hk
    unfold riseO at this
    rw [e] at this
    simpa using this
  intro n
  induction n with
  | zero => intro b hn; omega
  | succ n ih =>
    intro b _ hw
    obtain ⟨u, h1, h2⟩ := (wayB_next hD).1 hw
    by_cases hn : 1 ≤ n
    · have := ih hn h1
      have := he u b h2
      omega
    · obtain rfl : n = 0 := by omega
      rw [wayB_zero.1 h1] at h2
      exact he a b h2
theorem ord_acyclic {D : List Dep} {R : List Int} (h : orderO D = some R) (c : Nat) : distD D c c = 0 := by
  obtain ⟨hD, _, ho⟩ := order_is h
  rcases dist_is hD c c with ⟨h1, _⟩ | ⟨h1, h2⟩
  · exact h1
  · have := ord_way hD ho h1 h2.1
    omega
/-- Channels without a rank, each of which waits for another one: some lie on a cycle. -/
theorem pre_cycle {D : List Dep} (hD : okD D = true) {S : Nat → Prop} {c0 : Nat} (h0 : S c0) (h0' : c0 < 128) (hp : ∀ c, c < 128 → S c → ∃ p, S p ∧ edgeB D p c = true) : ∃ c n, c < 128 ∧ 1 ≤ n ∧ wayB D c n c = true := by
  have key : ∀ k : Nat, (∃ c n, c < 128 ∧ 1 ≤ n ∧ wayB D c n c = true) ∨ ∃ (l : List Nat) (h : Nat), l.Nodup ∧ l.length = k + 1 ∧ h < 128 ∧ S h ∧ ∀ x ∈ l, x < 128 ∧ ∃ n, wayB D h n x = true := by
    intro k
    induction k with
    | zero => exact .inr ⟨[c0], c0, by simp, rfl, h0', h0, fun x hx => by rw [List.mem_singleton] at hx; subst hx; exact ⟨h0', 0, wayB_zero.2 rfl⟩⟩
    | succ k ih =>
      rcases ih with h | ⟨l, h, hl, hn, hh, hs, hx⟩
      · exact .inl h
      · obtain ⟨p, hps, hpe⟩ := hp h hh hs
        have hp128 := (edge_lt hD hpe).1
        by_cases hm : p ∈ l
        · obtain ⟨_, n, hw⟩ := hx p hm
          exact .inl ⟨p, n + 1, hp128, by omega, way_cons hD hpe hw⟩
        · refine .inr ⟨p :: l, p, by rw [List.nodup_cons]; exact ⟨hm, hl⟩, by rw [List.length_cons, hn], hp128, hps, fun x hxm => ?_⟩
          rcases List.mem_cons.1 hxm with e | h3
          · rw [e]; exact ⟨hp128, 0, wayB_zero.2 rfl⟩
          · obtain ⟨h4, n, hw⟩ := hx x h3
            exact ⟨h4, n + 1, way_cons hD hpe hw⟩
  rcases key 128 with h | ⟨l, h, hl, hn, _, _, hx⟩
  · exact h
  · have := pigeon 128 l hl (fun x hm => (hx x hm).1)
    omega
theorem ordTo_fail {D : List Dep} : ∀ {n : Nat}, ordTo D n = none → ∃ r R, r < n ∧ ordTo D r = some R ∧ bestO D R = none
  | 0, h => by cases h
  | n + 1, h => by
    cases h1 : ordTo D n with
    | none =>
      obtain ⟨r, R, h2, h3⟩ := ordTo_fail h1
      exact ⟨r, R, by omega, h3⟩
    | some R =>
      cases h2 : bestO D R with
      | none => exact ⟨n, R, by omega, h1, h2⟩
      | some c => rw [ordTo_next h1 h2] at h; cases h
/-- Either an order or a cycle exists. -/
theorem cycle_of {D : List Dep} (hD : okD D = true) (h : orderO D = none) : ∃ c, c < 128 ∧ 1 ≤ distD D c c := by
  rw [orderO_ok hD] at h
  obtain ⟨r, R, hr, hR, hb⟩ := ordTo_fail h
  have hi := ord_inv hD (by omega) hR
  have hno : ∀ c, c < 128 → candO D R c = false := fun c hc => by
    have := List.find?_eq_none.1 hb c (List.mem_range.2 hc)
    simpa using this
  have hpos : 0 < R.countP (fun x => decide (x < 0)) := by rw [hi.cnt]; omega
  obtain ⟨x, hx, hx0⟩ := List.countP_pos_iff.1 hpos
  obtain ⟨c0, hc0, rfl⟩ := List.getElem_of_mem hx
  have hc1 : c0 < 128 := by rw [← hi.len]; exact hc0
  have hg : R.getD c0 0 < 0 := by
    rw [List.getD_eq_getElem?_getD, List.getElem?_eq_getElem hc0]
    simpa using hx0
  obtain ⟨c, n, hc, hn, hw⟩ := pre_cycle hD (S := fun c => R.getD c 0 < 0) hg hc1 (fun c hc hs => by
    have h1 := hno c hc
    have h2 : freeO D R c = false := by
      simp only [candO, hs, decide_true, Bool.true_and] at h1
      exact h1
    have h3 : ∃ i, i < D.length ∧ holdO R (atD D i) c = true := by
      refine Classical.byContradiction fun hne => ?_
      have : freeO D R c = true := freeO_iff.2 fun i hi => by
        cases hh : holdO R (atD D i) c with
        | false => rfl
        | true => exact absurd ⟨i, hi, hh⟩ hne
      rw [this] at h2
      cases h2
    obtain ⟨i, hi2, hh⟩ := h3
    simp only [holdO, Bool.and_eq_true, decide_eq_true_eq] at hh
    have hin := inD_iff.1 (okD_in hD (atD_mem hi2))
    refine ⟨(atD D i).1.toNat, hh.2, edge_iff.2 ?_⟩
    have : atD D i = (((atD D i).1.toNat : Int), (c : Int)) := Prod.ext (by simp only; omega) hh.1
    rw [← this]
    exact atD_mem hi2)
  exact ⟨c, hc, (dist_way hD hn hw).1⟩
end Go.Proofs.Ytcmlnokfjbglaaa
end
