/- What is proved here: sets of turns as mathematics, and which turns the ways of a table take; nothing of the program; the dependencies of a table as mathematics: the pairs of channels that follow each other on the ways between all pairs of nodes; nothing of the program; orders of channels as mathematics: the next channel without a rank and without predecessors that lack one, the order that ranking them one by one yields, and that it is one; nothing of the program; walks along dependencies as mathematics: numbers of steps, least numbers of steps, that they are at most 128, that either an order or a cycle exists; nothing of the program; the tables of the rules xy, yx and west have an order of their dependencies on every grid; nothing of the program; the names of verdicts as texts; nothing of the program; the contract of a function that builds one new list of numbers and says whether there is one; nothing of the program; a row of ranks of the call's own, and the two answers of an order of channels; nothing of the program; the shortest cycle of dependencies as mathematics: the least channel on one of the least length, the way from it back to it, and that this is a cycle that cannot be shortened; nothing of the program; verdicts as mathematics: the verdict on a table, that it proves itself, and the safe rules; nothing of the program; small facts on four rows of numbers of a call's own that lie in different blocks; nothing of the program; small facts on a mesh, a table and a verdict in boxes of a call's own, and what a function that returns a verdict gives; nothing of the program; what the laws' helpers on verdicts return: equal verdicts are equal, marks and what is held; nothing of the program; the laws' marks on a verdict and what is held of them; nothing of the program; small facts on the state of a law that compares two verdicts on a mesh and a table; nothing of the program; what the model's test of a range returns, and small facts on a box; nothing of the program; what the model's GridOk, NodeCount and its test of a node return, for all arguments; only new blocks are written; what the model's NodeAt returns, for all arguments; only new blocks are written; what the model's NextNode, Opposite, PortName and its test of a channel return, for all arguments; only new blocks are written; what the model's search in a list returns, for all arguments; nothing is written; what the model's MeshOk, its search in a list and its test of a channel of a mesh return, for all arguments; only new blocks are written; what the model's test of a channel of a mesh returns, for all arguments; only new blocks are written; two boxed arguments stay known behind a call, and the number of pairs of nodes is small; nothing of the program; what the model's test of a table's size returns, for all arguments; only new blocks are written; what the model's walk of a table returns for a table of the right size; only new blocks are written; what holds of the two boxes that the model's functions on tables lay; what the model's TableOk returns, for all arguments; only new blocks are written; the model's TableOk with its answer named, and a small fact on draws; only new blocks are written. -/
import Derived.Test.YtidilfakganooaaGreatDoorZA
section
namespace Go.Proofs.YtidilfakganooaaGreatDoor
open Go.ChangeShapes Go.WideShapes Go.ChangeAt Go.RowKit
set_option linter.unusedVariables false

/-- The numbers below k that a set has, ascending. -/
def setL (f : Nat → Bool) (k : Nat) : List Int := ((List.range k).filter f).map fun j : Nat => (j : Int)
theorem setL_zero (f : Nat → Bool) : setL f 0 = [] := rfl
theorem setL_yes {f : Nat → Bool} {k : Nat} (h : f k = true) : setL f (k + 1) = setL f k ++ [(k : Int)] := by
  simp [setL, List.range_succ, List.filter_append, h]
theorem setL_no {f : Nat → Bool} {k : Nat} (h : f k = false) : setL f (k + 1) = setL f k := by
  simp [setL, List.range_succ, List.filter_append, h]
theorem setL_len (f : Nat → Bool) (k : Nat) : (setL f k).length ≤ k := by
  unfold setL
  rw [List.length_map]
  exact Nat.le_trans (List.length_filter_le _ _) (by simp)
theorem setL_congr {f g : Nat → Bool} {k : Nat} (h : ∀ x, x < k → f x = g x) : setL f k = setL g k := by
  unfold setL
  congr 1
  exact List.filter_congr fun x hx => h x (List.mem_range.1 hx)
theorem setL_mem {f : Nat → Bool} {k : Nat} {x : Int} : x ∈ setL f k ↔ ∃ j : Nat, j < k ∧ x = (j : Int) ∧ f j = true := by
  unfold setL
  simp only [List.mem_map, List.mem_filter, List.mem_range]
  exact ⟨fun ⟨j, ⟨h1, h2⟩, h3⟩ => ⟨j, h1, h3.symm, h2⟩, fun ⟨j, h1, h2, h3⟩ => ⟨j, ⟨h1, h3⟩, h2.symm⟩⟩
theorem setL_sorted (f : Nat → Bool) (k : Nat) : (setL f k).Pairwise (fun a b => a < b) := by
  induction k with
  | zero => exact List.Pairwise.nil
  | succ k ih =>
    cases h : f k with
    | false => rw [setL_no h]; exact ih
    | true =>
      rw [setL_yes h]
      refine List.pairwise_append.2 ⟨ih, List.pairwise_singleton _ _, fun a ha b hb => ?_⟩
      obtain ⟨j, hj, rfl, _⟩ := setL_mem.1 ha
      simp at hb
      omega

/-- A set with one more turn. -/
def withT (f : Nat → Bool) (p q : Int) (x : Nat) : Bool := f x || decide (p ≠ q ∧ 4 * p + q = (x : Int))
theorem withT_same {f : Nat → Bool} {p q : Int} (h : p = q) : withT f p q = f := by
  funext x; simp [withT, h]
/-- The turns from one port to the first k of some ports. -/
def rowT (p : Int) (T : List Int) (k : Nat) (x : Nat) : Bool := (List.range k).any fun j => decide (p ≠ T.getD j 0 ∧ 4 * p + T.getD j 0 = (x : Int))
/-- The turns from the first k of some ports to others. -/
def crossT (F T : List Int) (k : Nat) (x : Nat) : Bool := (List.range k).any fun i => rowT (F.getD i 0) T T.length x
def orT (f g : Nat → Bool) (x : Nat) : Bool := f x || g x
theorem orT_none (f : Nat → Bool) {g : Nat → Bool} (h : ∀ x, g x = false) : orT f g = f := by funext x; simp [orT, h]
theorem row_zero (p : Int) (T : List Int) (x : Nat) : rowT p T 0 x = false := rfl
theorem cross_zero (F T : List Int) (x : Nat) : crossT F T 0 x = false := rfl
theorem row_next (f : Nat → Bool) (p q : Int) (T : List Int) (k : Nat) (h : T.getD k 0 = q) : withT (orT f (rowT p T k)) p q = orT f (rowT p T (k + 1)) := by
  funext x
  simp only [withT, orT, rowT, List.range_succ, List.any_append, List.any_cons, List.any_nil, Bool.or_false, h, Bool.or_assoc]
theorem cross_next (f : Nat → Bool) (p : Int) (F T : List Int) (k : Nat) (h : F.getD k 0 = p) : orT (orT f (crossT F T k)) (rowT p T T.length) = orT f (crossT F T (k + 1)) := by
  funext x
  simp only [orT, crossT, List.range_succ, List.any_append, List.any_cons, List.any_nil, Bool.or_false, h, Bool.or_assoc]

/-- The turn that a way takes behind its channel j. -/
def hitT (R : List Int) (j : Nat) (x : Nat) : Bool := decide (R.getD j 0 % 4 ≠ R.getD (j + 1) 0 % 4 ∧ 4 * (R.getD j 0 % 4) + R.getD (j + 1) 0 % 4 = (x : Int))
def wayT (R : List Int) (k : Nat) (x : Nat) : Bool := (List.range k).any fun j => hitT R j x
theorem way_zero (R : List Int) (x : Nat) : wayT R 0 x = false := rfl
theorem way_next (f : Nat → Bool) (R : List Int) (k : Nat) (p q : Int) (hp : R.getD k 0 % 4 = p) (hq : R.getD (k + 1) 0 % 4 = q) : withT (orT f (wayT R k)) p q = orT f (wayT R (k + 1)) := by
  funext x
  simp only [withT, orT, wayT, hitT, List.range_succ, List.any_append, List.any_cons, List.any_nil, Bool.or_false, hp, hq, Bool.or_assoc]
variable {W H : Int} {L P : List Int}
/-- The way of the pair of nodes number i. -/
def pairW (W H : Int) (L P : List Int) (i : Nat) : List Int := walkOf W H L P ((i : Int) / countG W H) ((i : Int) % countG W H)
def allT (W H : Int) (L P : List Int) (k : Nat) (x : Nat) : Bool := (List.range k).any fun i => wayT (pairW W H L P i) ((pairW W H L P i).length - 1) x
theorem all_zero (x : Nat) : allT W H L P 0 x = false := rfl
theorem all_next {k : Nat} {R : List Int} (h : pairW W H L P k = R) : orT (allT W H L P k) (wayT R (R.length - 1)) = allT W H L P (k + 1) := by
  funext x
  simp only [orT, allT, List.range_succ, List.any_append, List.any_cons, List.any_nil, Bool.or_false, h]
def turnsG (W H : Int) (L P : List Int) : List Int := if tableG W H L P then setL (allT W H L P (sqG W H)) 16 else []
theorem turnsG_yes (h : tableG W H L P = true) : turnsG W H L P = setL (allT W H L P (sqG W H)) 16 := if_pos h
theorem turnsG_no (h : tableG W H L P = false) : turnsG W H L P = [] := if_neg (by simp [h])
theorem turnsG_len : (turnsG W H L P).length ≤ 16 := by
  unfold turnsG; split
  · exact setL_len _ _
  · simp

/-- The channels of a way are numbers below 64. -/
theorem walkF_range {z : Int} : ∀ (f : Nat) (a : Int) (l : List Int), walkF W H L P z f a = some l → ∀ c ∈ l, 0 ≤ c ∧ c < 64
  | 0, a, l, h => by simp [walkF] at h
  | f + 1, a, l, h => by
    have hcl := countG_le W H
    rcases walk_cases h with ⟨rfl, _⟩ | ⟨c, t, rfl, _, hc, _, _, ht⟩
    · simp
    · intro d hd
      rcases List.mem_cons.1 hd with rfl | hd
      · simp only [hasChG, leadsG, Bool.and_eq_true, decide_eq_true_eq] at hc
        omega
      · exact walkF_range f _ t ht d hd
theorem pairW_range {i j : Nat} (h : j < (pairW W H L P i).length) : 0 ≤ (pairW W H L P i).getD j 0 ∧ (pairW W H L P i).getD j 0 < 64 := by
  unfold pairW walkOf at h ⊢
  cases hw : walkF W H L P ((i : Int) % countG W H) ((countG W H).toNat + 1) ((i : Int) / countG W H) with
  | none => simp [hw] at h
  | some l =>
    simp only [hw, Option.getD_some] at h ⊢
    have he : l.getD j 0 = l[j] := by simp [List.getD, List.getElem?_eq_getElem h]
    rw [he]
    exact walkF_range _ _ _ hw _ (List.getElem_mem h)
theorem pairW_len (i : Nat) : (pairW W H L P i).length ≤ 16 := walkOf_len _ _

/-- The turns of a rule. -/
def ruleL (r : Int) : List Int := if r = 1 then [4, 6, 12, 14] else if r = 2 then [1, 3, 9, 11] else if r = 3 then [1, 9, 12, 13, 14] else if r = 4 then [1, 3, 4, 6, 9, 11, 12, 14] else []
theorem ruleL_len (r : Int) : (ruleL r).length ≤ 16 := by
  unfold ruleL
  (repeat' split) <;> simp
/-- The turns of a rule as the model marks them. -/
def ruleF (r : Int) (x : Nat) : Bool :=
  if r = 1 then decide (x / 4 % 2 ≠ x % 4 % 2) && decide (x / 4 % 2 = 1) else if r = 2 then decide (x / 4 % 2 ≠ x % 4 % 2) && !decide (x / 4 % 2 = 1)
  else if r = 3 then decide (x / 4 = 3) && decide (x % 4 ≠ 3) || !decide (x / 4 % 2 = 1) && decide (x % 4 = 1) else if r = 4 then decide (x / 4 % 2 ≠ x % 4 % 2) else false
theorem rule_set (r : Int) : setL (ruleF r) 16 = ruleL r := by
  by_cases h1 : r = 1
  · subst h1; decide
  by_cases h2 : r = 2
  · subst h2; decide
  by_cases h3 : r = 3
  · subst h3; decide
  by_cases h4 : r = 4
  · subst h4; decide
  have e : ∀ x, ruleF r x = false := fun x => by simp [ruleF, h1, h2, h3, h4]
  have e2 : ruleL r = [] := by simp [ruleL, h1, h2, h3, h4]
  rw [e2, setL, List.filter_eq_nil_iff.2 (fun x _ => by simp [e x])]
  rfl

/-- Is it a turn back? -/
def backT (x : Int) : Bool := decide (0 ≤ x ∧ x ≤ 15) && decide (x % 4 = oppG (x / 4))
/-- A turn's name. -/
def nameT (x : Int) : ByteArray := if decide (0 ≤ x ∧ x ≤ 15) && decide (x / 4 ≠ x % 4) then portB (x / 4) ++ ⟨#[45]⟩ ++ portB (x % 4) else ⟨#[]⟩
theorem portB_size (p : Int) : (portB p).size ≤ 5 := by
  unfold portB
  (repeat' split) <;> decide
def allowsG (W H : Int) (L P T : List Int) : Bool := tableG W H L P && (turnsG W H L P).all fun x => inG T x
end Go.Proofs.YtidilfakganooaaGreatDoor
end

section
namespace Go.Proofs.YtidilfakganooaaGreatDoor
open Go.ChangeShapes Go.WideShapes Go.ChangeAt Go.RowKit
set_option linter.unusedVariables false

/-- The first j pairs of a way. -/
def wayD (R : List Int) (j : Nat) : List Dep := (List.range j).map fun t => (R.getD t 0, R.getD (t + 1) 0)
theorem wayD_zero (R : List Int) : wayD R 0 = [] := rfl
theorem wayD_length (R : List Int) (j : Nat) : (wayD R j).length = j := by simp [wayD]
theorem wayD_next (R : List Int) (j : Nat) : wayD R (j + 1) = wayD R j ++ [(R.getD j 0, R.getD (j + 1) 0)] := by
  unfold wayD
  rw [List.range_succ, List.map_append]
  rfl
theorem ins_way {D : List Dep} {R : List Int} {j : Nat} {x y : Int} (hx : R.getD j 0 = x) (hy : R.getD (j + 1) 0 = y) : insD (insAll D (wayD R j)) (x, y) = insAll D (wayD R (j + 1)) := by
  rw [wayD_next, insAll_append, hx, hy]
  rfl
section
variable {W H : Int} {L P : List Int}
/-- The pairs of the first k ways. -/
def allD (W H : Int) (L P : List Int) : Nat → List Dep
  | 0 => []
  | k + 1 => insAll (allD W H L P k) (wayD (pairW W H L P k) ((pairW W H L P k).length - 1))
theorem allD_asc : ∀ k, ascD (allD W H L P k)
  | 0 => asc_nil
  | k + 1 => insAll_asc (allD_asc k) _
theorem allD_next {k : Nat} {R : List Int} (h : pairW W H L P k = R) : insAll (allD W H L P k) (wayD R (R.length - 1)) = allD W H L P (k + 1) := by subst h; rfl
theorem allD_len : ∀ k, (allD W H L P k).length ≤ k * 16
  | 0 => Nat.le_refl _
  | k + 1 => by
    have h1 := (insAll_length (allD W H L P k) (wayD (pairW W H L P k) ((pairW W H L P k).length - 1))).1
    have h2 := allD_len k
    have h3 := pairW_len (W := W) (H := H) (L := L) (P := P) k
    rw [wayD_length] at h1
    show (insAll _ _).length ≤ _
    omega
theorem ins_len {k j : Nat} {R : List Int} (hk : k ≤ 256) (hj : j ≤ 16) : (insAll (allD W H L P k) (wayD R j)).length ≤ 5000 := by
  have h1 := (insAll_length (allD W H L P k) (wayD R j)).1
  have h2 := allD_len (W := W) (H := H) (L := L) (P := P) k
  rw [wayD_length] at h1
  omega
theorem mem_allD : ∀ {k : Nat} {d : Dep}, d ∈ allD W H L P k → ∃ i j, i < k ∧ j + 1 < (pairW W H L P i).length ∧ d = ((pairW W H L P i).getD j 0, (pairW W H L P i).getD (j + 1) 0)
  | 0, d, h => by cases h
  | k + 1, d, h => by
    rcases mem_insAll.1 h with h | h
    · obtain ⟨i, j, h1, h2, h3⟩ := mem_allD h
      exact ⟨i, j, by omega, h2, h3⟩
    · unfold wayD at h
      obtain ⟨j, h1, rfl⟩ := List.mem_map.1 h
      have := List.mem_range.1 h1
      exact ⟨k, j, Nat.lt_succ_self k, by omega, rfl⟩
def depG (W H : Int) (L P : List Int) : List Dep := if tableG W H L P then allD W H L P (sqG W H) else []
theorem depG_yes (h : tableG W H L P = true) : depG W H L P = allD W H L P (sqG W H) := if_pos h
theorem depG_no (h : tableG W H L P = false) : depG W H L P = [] := if_neg (by simp [h])
theorem sqG_le : sqG W H ≤ 256 := by
  have h := cntN_le W H
  exact Nat.mul_le_mul h h
theorem depG_asc : ascD (depG W H L P) := by
  unfold depG
  split
  · exact allD_asc _
  · exact asc_nil
theorem depG_len : (depG W H L P).length ≤ 4096 := by
  unfold depG
  split
  · have h1 := allD_len (W := W) (H := H) (L := L) (P := P) (sqG W H)
    have h2 := sqG_le (W := W) (H := H)
    omega
  · simp
theorem depG_in {d : Dep} (h : d ∈ depG W H L P) : 0 ≤ d.1 ∧ d.1 < 64 ∧ 0 ≤ d.2 ∧ d.2 < 64 := by
  unfold depG at h
  split at h
  · obtain ⟨i, j, _, h2, rfl⟩ := mem_allD h
    have h3 := pairW_range (W := W) (H := H) (L := L) (P := P) (i := i) (j := j) (by omega)
    have h4 := pairW_range (W := W) (H := H) (L := L) (P := P) (i := i) (j := j + 1) h2
    exact ⟨h3.1, h3.2, h4.1, h4.2⟩
  · cases h
theorem depG_ok : okD (depG W H L P) = true := okD_of depG_asc fun d hd => by
  have := depG_in hd
  exact inD_iff.2 (by omega)
end
end Go.Proofs.YtidilfakganooaaGreatDoor
end

section
namespace Go.Proofs.YtidilfakganooaaGreatDoor
open Go.ChangeShapes Go.WideShapes Go.ChangeAt Go.RowKit
set_option linter.unusedVariables false

/-- The element leads from a channel without a rank to c. -/
def holdO (R : List Int) (d : Dep) (c : Nat) : Bool := decide (d.2 = (c : Int)) && decide (R.getD d.1.toNat 0 < 0)
def freeO (D : List Dep) (R : List Int) (c : Nat) : Bool := (List.range D.length).all fun i => !holdO R (atD D i) c
theorem freeO_iff {D : List Dep} {R : List Int} {c : Nat} : freeO D R c = true ↔ ∀ i, i < D.length → holdO R (atD D i) c = false := by
  unfold freeO
  rw [List.all_eq_true]
  exact ⟨fun h i hi => by simpa using h i (List.mem_range.2 hi), fun h i hi => by simpa using h i (List.mem_range.1 hi)⟩
theorem freeO_no {D : List Dep} {R : List Int} {c i : Nat} (hi : i < D.length) (h : holdO R (atD D i) c = true) : freeO D R c = false := by
  cases hf : freeO D R c with
  | false => rfl
  | true => rw [freeO_iff.1 hf i hi] at h; cases h
/-- c can be ranked next. -/
def candO (D : List Dep) (R : List Int) (c : Nat) : Bool := decide (R.getD c 0 < 0) && freeO D R c
/-- The least such channel. -/
def bestO (D : List Dep) (R : List Int) : Option Nat := (List.range 128).find? (candO D R)
theorem find_range {p : Nat → Bool} {n c : Nat} (hc : c < n) (h : p c = true) (h0 : ∀ j, j < c → p j = false) : (List.range n).find? p = some c := by
  induction n with
  | zero => omega
  | succ n ih =>
    rw [List.range_succ, List.find?_append]
    rcases Nat.lt_succ_iff_lt_or_eq.1 hc with h1 | h1
    · rw [ih h1]; rfl
    · subst h1
      have : (List.range c).find? p = none := List.find?_eq_none.2 fun x hx => by
        rw [h0 x (List.mem_range.1 hx)]; simp
      rw [this]
      simp [h]
theorem bestO_some {D : List Dep} {R : List Int} {c : Nat} (hc : c < 128) (h : candO D R c = true) (h0 : ∀ j, j < c → candO D R j = false) : bestO D R = some c := find_range hc h h0
theorem bestO_none {D : List Dep} {R : List Int} (h0 : ∀ j, j < 128 → candO D R j = false) : bestO D R = none := List.find?_eq_none.2 fun x hx => by rw [h0 x (List.mem_range.1 hx)]; simp
theorem bestO_is {D : List Dep} {R : List Int} {c : Nat} (h : bestO D R = some c) : c < 128 ∧ candO D R c = true := ⟨List.mem_range.1 (List.mem_of_find?_eq_some h), List.find?_some h⟩
theorem bestO_least {D : List Dep} {R : List Int} {c : Nat} (h : bestO D R = some c) {j : Nat} (hj : j < c) : candO D R j = false := by
  cases hp : candO D R j with
  | false => rfl
  | true =>
    have key : ∀ n : Nat, j < n → ∃ k, (List.range n).find? (candO D R) = some k ∧ k ≤ j := fun n => by
      induction n with
      | zero => intro h; omega
      | succ n ih =>
        intro hn
        rw [List.range_succ, List.find?_append]
        rcases Nat.lt_succ_iff_lt_or_eq.1 hn with h1 | h1
        · obtain ⟨k, hk, hl⟩ := ih h1
          exact ⟨k, by rw [hk]; rfl, hl⟩
        · subst h1
          cases hf : (List.range j).find? (candO D R) with
          | some k => exact ⟨k, rfl, Nat.le_of_lt (List.mem_range.1 (List.mem_of_find?_eq_some hf))⟩
          | none => exact ⟨j, by simp [hp], Nat.le_refl _⟩
    obtain ⟨k, hk, hl⟩ := key 128 (by have := (bestO_is h).1; omega)
    unfold bestO at h
    rw [h] at hk
    cases hk
    omega
/-- The ranks behind r steps. -/
def ordTo (D : List Dep) : Nat → Option (List Int)
  | 0 => some (List.replicate 128 (-1))
  | r + 1 => (ordTo D r).bind fun R => (bestO D R).map fun c => R.set c (r : Int)
theorem ordTo_next {D : List Dep} {r c : Nat} {R : List Int} (h : ordTo D r = some R) (hc : bestO D R = some c) : ordTo D (r + 1) = some (R.set c (r : Int)) := by simp [ordTo, h, hc]
theorem ordTo_stop {D : List Dep} {r : Nat} {R : List Int} (h : ordTo D r = some R) (hc : bestO D R = none) : ordTo D (r + 1) = none := by simp [ordTo, h, hc]
theorem ordTo_none {D : List Dep} {r : Nat} (h : ordTo D r = none) : ∀ k, ordTo D (r + k) = none
  | 0 => h
  | k + 1 => by rw [← Nat.add_assoc, ordTo, ordTo_none h k]; rfl
theorem ordTo_dead {D : List Dep} {r : Nat} (h : ordTo D r = none) (hr : r ≤ 128) : ordTo D 128 = none := by
  have := ordTo_none h (128 - r)
  rwa [show r + (128 - r) = 128 by omega] at this
def orderO (D : List Dep) : Option (List Int) := if okD D then ordTo D 128 else none
theorem orderO_bad {D : List Dep} (h : okD D = false) : orderO D = none := by simp [orderO, h]
theorem orderO_ok {D : List Dep} (h : okD D = true) : orderO D = ordTo D 128 := by simp [orderO, h]
/-- What holds behind r steps. -/
structure OrdInv (D : List Dep) (r : Nat) (R : List Int) : Prop where
  len : R.length = 128
  rng : ∀ c, c < 128 → R.getD c 0 = -1 ∨ (0 ≤ R.getD c 0 ∧ R.getD c 0 < (r : Int))
  cnt : R.countP (fun x => decide (x < 0)) = 128 - r
  all : ∀ s : Nat, s < r → ∃ c, c < 128 ∧ R.getD c 0 = (s : Int)
  dep : ∀ d ∈ D, 0 ≤ R.getD d.2.toNat 0 → 0 ≤ R.getD d.1.toNat 0 ∧ R.getD d.1.toNat 0 < R.getD d.2.toNat 0
theorem set_getD {R : List Int} {c i : Nat} {x : Int} (hc : c < R.length) : (R.set c x).getD i 0 = if c = i then x else R.getD i 0 := by
  rw [List.getD_eq_getElem?_getD, List.getElem?_set]
  split
  · rename_i h
    subst h
    first | rfl | (rw [if_pos hc]; rfl) | simp [hc]
  · rw [List.getD_eq_getElem?_getD]
theorem ord_start (D : List Dep) (hD : okD D = true) : OrdInv D 0 (List.replicate 128 (-1)) := by
  have hg : ∀ c, c < 128 → (List.replicate 128 (-1 : Int)).getD c 0 = -1 := fun c hc => by
    rw [List.getD_eq_getElem?_getD, List.getElem?_replicate, if_pos hc]; rfl
  refine ⟨List.length_replicate, fun c hc => .inl (hg c hc), ?_, fun s hs => by omega, fun d hd h => ?_⟩
  · rw [List.countP_replicate]; rfl
  · have := inD_iff.1 (okD_in hD hd)
    rw [hg d.2.toNat (by omega)] at h
    omega
theorem ord_next {D : List Dep} (hD : okD D = true) {r c : Nat} {R : List Int} (h : OrdInv D r R) (hr : r < 128) (hc : bestO D R = some c) : OrdInv D (r + 1) (R.set c (r : Int)) := by
  obtain ⟨hc1, hc2⟩ := bestO_is hc
  simp only [candO, Bool.and_eq_true, decide_eq_true_eq] at hc2
  obtain ⟨hn, hf⟩ := hc2
  have hcl : c < R.length := by rw [h.len]; exact hc1
  refine ⟨by rw [List.length_set]; exact h.len, fun i hi => ?_, ?_, fun s hs => ?_, fun d hd h2 => ?_⟩
  · rw [set_getD hcl]
    split
    · right; omega
    · rcases h.rng i hi with h1 | h1
      · exact .inl h1
      · right; omega
  · have e : R.getD c 0 = R[c] := by rw [List.getD_eq_getElem?_getD, List.getElem?_eq_getElem hcl]; rfl
    rw [e] at hn
    have hr0 : ¬ ((r : Int) < 0) := by omega
    rw [List.countP_set hcl, h.cnt]
    simp [hn, hr0]
    omega
  · rcases Nat.lt_succ_iff_lt_or_eq.1 hs with h1 | h1
    · obtain ⟨i, hi, he⟩ := h.all s h1
      refine ⟨i, hi, ?_⟩
      rw [set_getD hcl, if_neg (fun e => by subst e; omega)]
      exact he
    · exact ⟨c, hc1, by rw [set_getD hcl, if_pos rfl, h1]⟩
  · have hin := inD_iff.1 (okD_in hD hd)
    obtain ⟨i, hi, rfl⟩ := atD_ex hd
    have hh := freeO_iff.1 hf i hi
    simp only [holdO, Bool.and_eq_false_iff, decide_eq_false_iff_not] at hh
    rw [set_getD hcl] at h2
    rw [set_getD hcl, set_getD hcl]
    by_cases e2 : c = (atD D i).2.toNat
    · rw [if_pos e2]
      have h3 : ¬ (R.getD (atD D i).1.toNat 0 < 0) := by
        rcases hh with h4 | h4
        · exact absurd (by omega) h4
        · exact h4
      have e1 : c ≠ (atD D i).1.toNat := fun e => by rw [← e] at h3; omega
      rw [if_neg e1]
      rcases h.rng (atD D i).1.toNat (by omega) with h5 | h5
      · omega
      · omega
    · rw [if_neg e2] at h2 ⊢
      obtain ⟨h5, h6⟩ := h.dep _ hd h2
      have e1 : c ≠ (atD D i).1.toNat := fun e => by rw [← e] at h5; omega
      rw [if_neg e1]
      exact ⟨h5, h6⟩
theorem ord_inv {D : List Dep} (hD : okD D = true) : ∀ {r : Nat} {R : List Int}, r ≤ 128 → ordTo D r = some R → OrdInv D r R
  | 0, R, _, h => by
    have : R = List.replicate 128 (-1) := (Option.some.inj h).symm
    rw [this]
    exact ord_start D hD
  | r + 1, R, hr, h => by
    cases h1 : ordTo D r with
    | none => rw [ordTo, h1] at h; cases h
    | some R0 =>
      cases h2 : bestO D R0 with
      | none => rw [ordTo_stop h1 h2] at h; cases h
      | some c =>
        rw [ordTo_next h1 h2] at h
        have : R = R0.set c (r : Int) := (Option.some.inj h).symm
        rw [this]
        exact ord_next hD (ord_inv hD (by omega) h1) (by omega) h2
theorem ordTo_len {D : List Dep} : ∀ {r : Nat} {R : List Int}, ordTo D r = some R → R.length = 128
  | 0, R, h => by rw [← Option.some.inj h]; exact List.length_replicate
  | r + 1, R, h => by
    cases h1 : ordTo D r with
    | none => rw [ordTo, h1] at h; cases h
    | some R0 =>
      cases h2 : bestO D R0 with
      | none => rw [ordTo_stop h1 h2] at h; cases h
      | some c =>
        rw [ordTo_next h1 h2] at h
        rw [← Option.some.inj h, List.length_set]
        exact ordTo_len h1
/-- An order: its ranks are all the numbers, and they rise along each element. -/
def riseO (D : List Dep) (R : List Int) (i : Nat) : Bool := decide (R.getD (atD D i).1.toNat 0 < R.getD (atD D i).2.toNat 0)
def isOrdO (D : List Dep) (R : List Int) : Bool := okD D && decide (R.length = 128) && ((List.range 128).all fun r => inG R (r : Int)) && (List.range D.length).all (riseO D R)
theorem isOrdO_of {D : List Dep} {R : List Int} (h1 : okD D = true) (h2 : R.length = 128) (h3 : ∀ r : Nat, r < 128 → inG R (r : Int) = true) (h4 : ∀ i, i < D.length → riseO D R i = true) : isOrdO D R = true := by
  simp only [isOrdO, h1, h2, decide_true, Bool.true_and, Bool.and_eq_true, List.all_eq_true, List.mem_range]
  exact ⟨h3, h4⟩
theorem isOrdO_bad {D : List Dep} {R : List Int} (h : okD D = false) : isOrdO D R = false := by simp [isOrdO, h]
theorem isOrdO_len {D : List Dep} {R : List Int} (h : R.length ≠ 128) : isOrdO D R = false := by simp [isOrdO, h]
theorem isOrdO_lack {D : List Dep} {R : List Int} {r : Nat} (hr : r < 128) (h : inG R (r : Int) = false) : isOrdO D R = false := by
  cases ho : isOrdO D R with
  | false => rfl
  | true =>
    simp only [isOrdO, Bool.and_eq_true, List.all_eq_true, List.mem_range] at ho
    rw [ho.1.2 r hr] at h
    cases h
theorem isOrdO_fall {D : List Dep} {R : List Int} {i : Nat} (hi : i < D.length) (h : riseO D R i = false) : isOrdO D R = false := by
  cases ho : isOrdO D R with
  | false => rfl
  | true =>
    simp only [isOrdO, Bool.and_eq_true, List.all_eq_true, List.mem_range] at ho
    rw [ho.2 i hi] at h
    cases h
/-- What is found is an order. -/
theorem order_is {D : List Dep} {R : List Int} (h : orderO D = some R) : okD D = true ∧ R.length = 128 ∧ isOrdO D R = true := by
  cases hD : okD D with
  | false => rw [orderO_bad hD] at h; cases h
  | true =>
    rw [orderO_ok hD] at h
    have hi := ord_inv hD (Nat.le_refl _) h
    refine ⟨rfl, hi.len, isOrdO_of hD hi.len (fun r hr => ?_) (fun i hj => ?_)⟩
    · obtain ⟨c, hc, he⟩ := hi.all r hr
      exact inG_yes (by rw [hi.len]; exact hc) he
    · have hn : ∀ x ∈ R, ¬ x < 0 := fun x hx => by
        have := List.countP_eq_zero.1 hi.cnt x hx
        simpa using this
      have hin := inD_iff.1 (okD_in hD (atD_mem hj))
      have hm : R.getD (atD D i).2.toNat 0 ∈ R := by
        rw [List.getD_eq_getElem?_getD, List.getElem?_eq_getElem (by rw [hi.len]; omega)]
        exact List.getElem_mem _
      have := hi.dep _ (atD_mem hj) (by have := hn _ hm; omega)
      exact decide_eq_true this.2
/-- The least channel to which no element leads has the rank 0. -/
def noPre (D : List Dep) (c : Nat) : Bool := (List.range D.length).all fun i => decide ((atD D i).2 ≠ (c : Int))
theorem cand_start {D : List Dep} (hD : okD D = true) {c : Nat} (hc : c < 128) : candO D (List.replicate 128 (-1)) c = noPre D c := by
  have hg : ∀ c, c < 128 → (List.replicate 128 (-1 : Int)).getD c 0 = -1 := fun c hc => by
    rw [List.getD_eq_getElem?_getD, List.getElem?_replicate, if_pos hc]; rfl
  unfold candO freeO noPre
  rw [hg c hc]
  rw [show decide ((-1 : Int) < 0) = true from rfl, Bool.true_and]
  apply Bool.eq_iff_iff.2
  rw [List.all_eq_true, List.all_eq_true]
  have key : ∀ i, i < D.length → (!holdO (List.replicate 128 (-1)) (atD D i) c) = decide ((atD D i).2 ≠ (c : Int)) := fun i hi => by
    have hin := inD_iff.1 (okD_in hD (atD_mem hi))
    unfold holdO
    rw [hg _ (by omega), show decide ((-1 : Int) < 0) = true from rfl, Bool.and_true]
    by_cases h : (atD D i).2 = (c : Int) <;> simp [h]
  exact ⟨fun h i hi => by rw [← key i (List.mem_range.1 hi)]; exact h i hi, fun h i hi => by rw [key i (List.mem_range.1 hi)]; exact h i hi⟩
theorem ord_first {D : List Dep} (hD : okD D = true) {R : List Int} (h : ordTo D 128 = some R) : ∃ c, c < 128 ∧ noPre D c = true ∧ (∀ j, j < c → noPre D j = false) ∧ R.getD c 0 = 0 := by
  have key : ∀ r, ∀ R, r + 1 ≤ 128 → ordTo D (r + 1) = some R → ∃ c, bestO D (List.replicate 128 (-1)) = some c ∧ R.getD c 0 = 0 := fun r => by
    induction r with
    | zero =>
      intro R _ h
      cases h2 : bestO D (List.replicate 128 (-1)) with
      | none => rw [ordTo_stop (r := 0) rfl h2] at h; cases h
      | some c =>
        rw [ordTo_next (r := 0) rfl h2] at h
        refine ⟨c, rfl, ?_⟩
        rw [← Option.some.inj h, set_getD (by rw [List.length_replicate]; exact (bestO_is h2).1), if_pos rfl]
        rfl
    | succ r ih =>
      intro R hr h
      cases h1 : ordTo D (r + 1) with
      | none => rw [ordTo, h1] at h; cases h
      | some R0 =>
        cases h2 : bestO D R0 with
        | none => rw [ordTo_stop h1 h2] at h; cases h
        | some c =>
          rw [ordTo_next h1 h2] at h
          obtain ⟨c0, hc0, he⟩ := ih R0 (by omega) h1
          obtain ⟨hc1, hc2⟩ := bestO_is h2
          simp only [candO, Bool.and_eq_true, decide_eq_true_eq] at hc2
          refine ⟨c0, hc0, ?_⟩
          rw [← Option.some.inj h, set_getD (by rw [ordTo_len h1]; exact hc1), if_neg (fun e => by subst e; omega)]
          exact he
  obtain ⟨c, hc, he⟩ := key 127 R (by omega) h
  obtain ⟨h1, h2⟩ := bestO_is hc
  exact ⟨c, h1, by rw [← cand_start hD h1]; exact h2, fun j hj => by rw [← cand_start hD (by omega)]; exact bestO_least hc hj, he⟩

/-- The rank of a channel under the rule xy. -/
def rankG (W H rule c : Int) : Int :=
  if rule = 1 ∧ leadsG W H c = true then
    (if c % 4 = 1 then c / 4 % W else if c % 4 = 3 then W - 1 - c / 4 % W else if c % 4 = 2 then 10 + c / 4 / W else 10 + H - 1 - c / 4 / W)
  else -1
/-- Each channel of the route is an index, and its rank is above that of the one ahead. -/
def upO (R T : List Int) (i : Nat) : Bool :=
  decide (0 ≤ T.getD i 0 ∧ T.getD i 0 ≤ (R.length : Int) - 1) && (decide (i = 0) || decide (R.getD (T.getD (i - 1) 0).toNat 0 < R.getD (T.getD i 0).toNat 0))
def risesO (R T : List Int) : Bool := (List.range T.length).all (upO R T)
theorem risesO_of {R T : List Int} (h : ∀ i, i < T.length → upO R T i = true) : risesO R T = true := by
  simp only [risesO, List.all_eq_true, List.mem_range]; exact h
theorem risesO_not {R T : List Int} {i : Nat} (hi : i < T.length) (h : upO R T i = false) : risesO R T = false := by
  cases ho : risesO R T with
  | false => rfl
  | true =>
    simp only [risesO, List.all_eq_true, List.mem_range] at ho
    rw [ho i hi] at h
    cases h
end Go.Proofs.YtidilfakganooaaGreatDoor
end

section
namespace Go.Proofs.YtidilfakganooaaGreatDoor
open Go.ChangeShapes Go.WideShapes Go.ChangeAt Go.RowKit
set_option linter.unusedVariables false

/-- An element leads from a to b. -/
def edgeB (D : List Dep) (a b : Nat) : Bool := D.any fun d => decide (d.1 = (a : Int)) && decide (d.2 = (b : Int))
theorem edge_iff {D : List Dep} {a b : Nat} : edgeB D a b = true ↔ ((a : Int), (b : Int)) ∈ D := by
  unfold edgeB
  rw [List.any_eq_true]
  constructor
  · rintro ⟨d, hd, h⟩
    simp only [Bool.and_eq_true, decide_eq_true_eq] at h
    have : d = ((a : Int), (b : Int)) := Prod.ext h.1 h.2
    rwa [this] at hd
  · exact fun h => ⟨_, h, by simp⟩
theorem edge_lt {D : List Dep} (hD : okD D = true) {a b : Nat} (h : edgeB D a b = true) : a < 128 ∧ b < 128 := by
  have h1 := inD_iff.1 (okD_in hD (edge_iff.1 h))
  exact ⟨by have := h1.2.1; simp only at this; omega, by have := h1.2.2.2; simp only at this; omega⟩
theorem edge_succ {D : List Dep} {a b : Nat} : edgeB D a b = true ↔ (b : Int) ∈ succD D (a : Int) := by
  rw [edge_iff]
  unfold succD
  rw [List.mem_map]
  constructor
  · exact fun h => ⟨_, List.mem_filter.2 ⟨h, by simp⟩, rfl⟩
  · rintro ⟨d, hd, he⟩
    obtain ⟨h1, h2⟩ := List.mem_filter.1 hd
    have h3 : d.1 = (a : Int) := by simpa using h2
    have : d = ((a : Int), (b : Int)) := Prod.ext h3 he
    rwa [this] at h1
theorem succ_in {D : List Dep} (hD : okD D = true) {c x : Int} (h : x ∈ succD D c) : 0 ≤ x ∧ x < 128 := by
  unfold succD at h
  obtain ⟨d, hd, rfl⟩ := List.mem_map.1 h
  have h1 := inD_iff.1 (okD_in hD (List.mem_filter.1 hd).1)
  omega

/-- n elements, one behind the other, lead from a to b. -/
def wayB (D : List Dep) (a : Nat) : Nat → Nat → Bool
  | 0, b => decide (b = a)
  | n + 1, b => (List.range 128).any fun u => wayB D a n u && edgeB D u b
theorem wayB_zero {D : List Dep} {a b : Nat} : wayB D a 0 b = true ↔ b = a := by simp [wayB]
theorem wayB_next {D : List Dep} (hD : okD D = true) {a n b : Nat} : wayB D a (n + 1) b = true ↔ ∃ u, wayB D a n u = true ∧ edgeB D u b = true := by
  rw [wayB, List.any_eq_true]
  constructor
  · rintro ⟨u, hu, h⟩
    rw [Bool.and_eq_true] at h
    exact ⟨u, h⟩
  · rintro ⟨u, h1, h2⟩
    exact ⟨u, List.mem_range.2 (edge_lt hD h2).1, by rw [h1, h2]; rfl⟩
theorem way_one {D : List Dep} (hD : okD D = true) {a b : Nat} : wayB D a 1 b = true ↔ edgeB D a b = true := by
  rw [wayB_next hD]
  exact ⟨fun ⟨u, h1, h2⟩ => by rw [wayB_zero.1 h1] at h2; exact h2, fun h => ⟨a, wayB_zero.2 rfl, h⟩⟩
theorem way_lt {D : List Dep} (hD : okD D = true) {a n b : Nat} (hn : 1 ≤ n) (h : wayB D a n b = true) : b < 128 := by
  obtain ⟨m, rfl⟩ : ∃ m, n = m + 1 := ⟨n - 1, by omega⟩
  obtain ⟨u, _, h2⟩ := (wayB_next hD).1 h
  exact (edge_lt hD h2).2
theorem way_from {D : List Dep} (hD : okD D = true) {a : Nat} : ∀ {n b : Nat}, 1 ≤ n → wayB D a n b = true → a < 128
  | 0, b, hn, h => by omega
  | 1, b, _, h => (edge_lt hD ((way_one hD).1 h)).1
  | n + 2, b, _, h => by
    obtain ⟨u, h1, _⟩ := (wayB_next hD).1 h
    exact way_from hD (n := n + 1) (by omega) h1
theorem way_add {D : List Dep} (hD : okD D = true) {a b : Nat} {n : Nat} (h : wayB D a n b = true) : ∀ {m c : Nat}, wayB D b m c = true → wayB D a (n + m) c = true
  | 0, c, k => by rw [wayB_zero.1 k]; exact h
  | m + 1, c, k => by
    obtain ⟨u, h1, h2⟩ := (wayB_next hD).1 k
    exact (wayB_next hD).2 ⟨u, way_add hD h h1, h2⟩
theorem way_split {D : List Dep} (hD : okD D = true) {a n : Nat} : ∀ {m c : Nat}, wayB D a (n + m) c = true → ∃ b, wayB D a n b = true ∧ wayB D b m c = true
  | 0, c, h => ⟨c, h, wayB_zero.2 rfl⟩
  | m + 1, c, h => by
    obtain ⟨u, h1, h2⟩ := (wayB_next hD).1 (show wayB D a ((n + m) + 1) c = true from h)
    obtain ⟨b, h3, h4⟩ := way_split hD h1
    exact ⟨b, h3, (wayB_next hD).2 ⟨u, h4, h2⟩⟩
theorem way_head {D : List Dep} (hD : okD D = true) {a n c : Nat} (h : wayB D a (n + 1) c = true) : ∃ s, edgeB D a s = true ∧ wayB D s n c = true := by
  rw [Nat.add_comm] at h
  obtain ⟨b, h1, h2⟩ := way_split hD h
  exact ⟨b, (way_one hD).1 h1, h2⟩
theorem way_cons {D : List Dep} (hD : okD D = true) {a s n c : Nat} (h : edgeB D a s = true) (k : wayB D s n c = true) : wayB D a (n + 1) c = true := by
  rw [Nat.add_comm]
  exact way_add hD ((way_one hD).2 h) k

/-- The first level, from 1 on, at which b is reached. -/
def fstB (D : List Dep) (a n b : Nat) : Prop := wayB D a n b = true ∧ ∀ m, 1 ≤ m → m < n → wayB D a m b = false
/-- The least number of elements, at least 1, that lead from a to b; 0 if there are none. -/
def isDist (D : List Dep) (a b n : Nat) : Prop := (n = 0 ∧ ∀ m, 1 ≤ m → wayB D a m b = false) ∨ (1 ≤ n ∧ fstB D a n b)
theorem dist_uniq {D : List Dep} {a b n m : Nat} (h : isDist D a b n) (k : isDist D a b m) : n = m := by
  rcases h with ⟨h1, h2⟩ | ⟨h1, h2, h3⟩
  · rcases k with ⟨k1, k2⟩ | ⟨k1, k2, k3⟩
    · omega
    · rw [h2 m k1] at k2; cases k2
  · rcases k with ⟨k1, k2⟩ | ⟨k1, k2, k3⟩
    · rw [k2 n h1] at h2; cases h2
    · rcases Nat.lt_trichotomy n m with h4 | h4 | h4
      · rw [k3 n h1 h4] at h2; cases h2
      · exact h4
      · rw [h3 m k1 h4] at k2; cases k2
theorem fst_ex {D : List Dep} {a b : Nat} : ∀ {n : Nat}, 1 ≤ n → wayB D a n b = true → ∃ m, 1 ≤ m ∧ m ≤ n ∧ fstB D a m b := by
  intro n
  induction n using Nat.strongRecOn with
  | ind n ih =>
    intro hn h
    by_cases hx : ∃ m, 1 ≤ m ∧ m < n ∧ wayB D a m b = true
    · obtain ⟨m, h1, h2, h3⟩ := hx
      obtain ⟨k, k1, k2, k3⟩ := ih m h2 h1 h3
      exact ⟨k, k1, by omega, k3⟩
    · exact ⟨n, hn, Nat.le_refl _, h, fun m h1 h2 => by
        cases hw : wayB D a m b with
        | false => rfl
        | true => exact absurd ⟨m, h1, h2, hw⟩ hx⟩
/-- A channel at a level has one ahead of it at the level before. -/
def levB (D : List Dep) (a n b : Nat) : Prop := if n = 0 then b = a else fstB D a n b
theorem fst_back {D : List Dep} (hD : okD D = true) {a n b : Nat} (h : fstB D a (n + 1) b) : ∃ u, levB D a n u ∧ edgeB D u b = true := by
  obtain ⟨u, h1, h2⟩ := (wayB_next hD).1 h.1
  refine ⟨u, ?_, h2⟩
  unfold levB
  split
  · rename_i h0
    subst h0
    exact wayB_zero.1 h1
  · rename_i h0
    refine ⟨h1, fun m hm hmn => ?_⟩
    cases hw : wayB D a m u with
    | false => rfl
    | true =>
      have := h.2 (m + 1) (by omega) (by omega)
      rw [(wayB_next hD).2 ⟨u, hw, h2⟩] at this
      cases this
theorem pigeon : ∀ (n : Nat) (l : List Nat), l.Nodup → (∀ x ∈ l, x < n) → l.length ≤ n
  | 0, l, _, h => by
    cases l with
    | nil => exact Nat.le_refl _
    | cons x l => have := h x (List.mem_cons_self ..); omega
  | n + 1, l, hl, h => by
    by_cases hm : n ∈ l
    · have h1 := pigeon n (l.erase n) (hl.erase n) (fun x hx => by
        have h2 := (List.Nodup.mem_erase_iff hl).1 hx
        have := h x h2.2
        omega)
      rw [List.length_erase_of_mem hm] at h1
      have : 0 < l.length := List.length_pos_of_mem hm
      omega
    · have := pigeon n l hl (fun x hx => by
        have h2 := h x hx
        have h3 : x ≠ n := fun e => hm (e ▸ hx)
        omega)
      omega
theorem fst_chain {D : List Dep} (hD : okD D = true) {a : Nat} : ∀ {n b : Nat}, 1 ≤ n → fstB D a n b → ∃ l : List Nat, l.Nodup ∧ l.length = n ∧ ∀ x ∈ l, x < 128 ∧ ∃ k, 1 ≤ k ∧ k ≤ n ∧ wayB D a k x = true
  | 0, b, hn, h => by omega
  | 1, b, _, h => ⟨[b], by simp, rfl, fun x hx => by
      rw [List.mem_singleton] at hx
      subst hx
      exact ⟨way_lt hD (Nat.le_refl _) h.1, 1, Nat.le_refl _, Nat.le_refl _, h.1⟩⟩
  | n + 2, b, _, h => by
    obtain ⟨u, h1, h2⟩ := fst_back hD h
    unfold levB at h1
    rw [if_neg (by omega)] at h1
    obtain ⟨l, hl, hn, hx⟩ := fst_chain hD (n := n + 1) (by omega) h1
    refine ⟨b :: l, ?_, by rw [List.length_cons, hn], fun x hm => ?_⟩
    · rw [List.nodup_cons]
      refine ⟨fun hm => ?_, hl⟩
      obtain ⟨_, k, k1, k2, k3⟩ := hx b hm
      rw [h.2 k k1 (by omega)] at k3
      cases k3
    · rcases List.mem_cons.1 hm with e | h3
      · rw [e]
        exact ⟨way_lt hD (by omega) h.1, n + 2, by omega, Nat.le_refl _, h.1⟩
      · obtain ⟨h4, k, k1, k2, k3⟩ := hx x h3
        exact ⟨h4, k, k1, by omega, k3⟩
theorem fst_le {D : List Dep} (hD : okD D = true) {a n b : Nat} (h : fstB D a n b) : n ≤ 128 := by
  by_cases hn : 1 ≤ n
  · obtain ⟨l, hl, he, hx⟩ := fst_chain hD hn h
    rw [← he]
    exact pigeon 128 l hl (fun x hm => (hx x hm).1)
  · omega
def distD (D : List Dep) (a b : Nat) : Nat := match (List.range 128).find? (fun n => wayB D a (n + 1) b) with | none => 0 | some n => n + 1
theorem find_least {p : Nat → Bool} {n k : Nat} (h : (List.range n).find? p = some k) {j : Nat} (hj : j < k) : p j = false := by
  induction n with
  | zero => simp at h
  | succ n ih =>
    rw [List.range_succ, List.find?_append] at h
    cases hf : (List.range n).find? p with
    | some m =>
      rw [hf] at h
      exact ih (hf.trans h)
    | none =>
      rw [hf] at h
      have hk : k = n := by
        have := List.mem_of_find?_eq_some (l := [n]) h
        simpa using this
      subst hk
      have := List.find?_eq_none.1 hf j (List.mem_range.2 hj)
      simpa using this
theorem dist_is {D : List Dep} (hD : okD D = true) (a b : Nat) : isDist D a b (distD D a b) := by
  unfold distD
  cases hf : (List.range 128).find? (fun n => wayB D a (n + 1) b) with
  | some n =>
    have hp : wayB D a (n + 1) b = true := List.find?_some (p := fun n => wayB D a (n + 1) b) hf
    refine .inr ⟨by simp, hp, fun m h1 h2 => ?_⟩
    obtain ⟨j, rfl⟩ : ∃ j, m = j + 1 := ⟨m - 1, by omega⟩
    exact find_least hf (j := j) (by simpa using h2)
  | none =>
    refine .inl ⟨rfl, fun m h1 => ?_⟩
    cases hw : wayB D a m b with
    | false => rfl
    | true =>
      obtain ⟨k, k1, k2, k3⟩ := fst_ex h1 hw
      have hk := fst_le hD k3
      have := List.find?_eq_none.1 hf (k - 1) (List.mem_range.2 (by omega))
      rw [show k - 1 + 1 = k by omega, k3.1] at this
      simp at this
theorem dist_le {D : List Dep} (hD : okD D = true) (a b : Nat) : distD D a b ≤ 128 := by
  rcases dist_is hD a b with ⟨h, _⟩ | ⟨_, h⟩
  · omega
  · exact fst_le hD h
theorem dist_of {D : List Dep} (hD : okD D = true) {a b n : Nat} (h : isDist D a b n) : distD D a b = n := dist_uniq (dist_is hD a b) h
/-- A way is no shorter than the least one. -/
theorem dist_way {D : List Dep} (hD : okD D = true) {a b n : Nat} (hn : 1 ≤ n) (h : wayB D a n b = true) : 1 ≤ distD D a b ∧ distD D a b ≤ n := by
  rcases dist_is hD a b with ⟨h1, h2⟩ | ⟨h1, h2⟩
  · rw [h2 n hn] at h; cases h
  · refine ⟨h1, ?_⟩
    by_cases hlt : n < distD D a b
    · rw [h2.2 n hn hlt] at h; cases h
    · omega
theorem dist_pos {D : List Dep} (hD : okD D = true) {a b : Nat} (h : 1 ≤ distD D a b) : wayB D a (distD D a b) b = true := by
  rcases dist_is hD a b with ⟨h1, h2⟩ | ⟨h1, h2⟩
  · omega
  · exact h2.1
/-- The triangle inequality. -/
theorem dist_tri {D : List Dep} (hD : okD D = true) {a b c : Nat} (h : 1 ≤ distD D a b) (k : 1 ≤ distD D b c) : 1 ≤ distD D a c ∧ distD D a c ≤ distD D a b + distD D b c :=
  dist_way hD (by omega) (way_add hD (dist_pos hD h) (dist_pos hD k))

/-- The number of steps, or -1. -/
def stpG (D : List Dep) (x y : Int) : Int := if okD D = true ∧ (0 ≤ x ∧ x ≤ 127) ∧ (0 ≤ y ∧ y ≤ 127) then (if distD D x.toNat y.toNat = 0 then -1 else (distD D x.toNat y.toNat : Int)) else -1

/-- Along a way the ranks of an order rise. -/
theorem ord_way {D : List Dep} (hD : okD D = true) {R : List Int} (h : isOrdO D R = true) {a : Nat} : ∀ {n b : Nat}, 1 ≤ n → wayB D a n b = true → R.getD a 0 < R.getD b 0 := by
  have he : ∀ a b : Nat, edgeB D a b = true → R.getD a 0 < R.getD b 0 := fun a b hab => by
    obtain ⟨k, hk, e⟩ := atD_ex (edge_iff.1 hab)
    simp only [isOrdO, Bool.and_eq_true, List.all_eq_true, List.mem_range] at h
    have := h.2 k hk
    unfold riseO at this
    rw [e] at this
    simpa using this
  intro n
  induction n with
  | zero => intro b hn; omega
  | succ n ih =>
    intro b _ hw
    obtain ⟨u, h1, h2⟩ := (wayB_next hD).1 hw
    by_cases hn : 1 ≤ n
    · have := ih hn h1
      have := he u b h2
      omega
    · obtain rfl : n = 0 := by omega
      rw [wayB_zero.1 h1] at h2
      exact he a b h2
theorem ord_acyclic {D : List Dep} {R : List Int} (h : orderO D = some R) (c : Nat) : distD D c c = 0 := by
  obtain ⟨hD, _, ho⟩ := order_is h
  rcases dist_is hD c c with ⟨h1, _⟩ | ⟨h1, h2⟩
  · exact h1
  · have := ord_way hD ho h1 h2.1
    omega
/-- Channels without a rank, each of which waits for another one: some lie on a cycle. -/
theorem pre_cycle {D : List Dep} (hD : okD D = true) {S : Nat → Prop} {c0 : Nat} (h0 : S c0) (h0' : c0 < 128) (hp : ∀ c, c < 128 → S c → ∃ p, S p ∧ edgeB D p c = true) : ∃ c n, c < 128 ∧ 1 ≤ n ∧ wayB D c n c = true := by
  have key : ∀ k : Nat, (∃ c n, c < 128 ∧ 1 ≤ n ∧ wayB D c n c = true) ∨ ∃ (l : List Nat) (h : Nat), l.Nodup ∧ l.length = k + 1 ∧ h < 128 ∧ S h ∧ ∀ x ∈ l, x < 128 ∧ ∃ n, wayB D h n x = true := by
    intro k
    induction k with
    | zero => exact .inr ⟨[c0], c0, by simp, rfl, h0', h0, fun x hx => by rw [List.mem_singleton] at hx; subst hx; exact ⟨h0', 0, wayB_zero.2 rfl⟩⟩
    | succ k ih =>
      rcases ih with h | ⟨l, h, hl, hn, hh, hs, hx⟩
      · exact .inl h
      · obtain ⟨p, hps, hpe⟩ := hp h hh hs
        have hp128 := (edge_lt hD hpe).1
        by_cases hm : p ∈ l
        · obtain ⟨_, n, hw⟩ := hx p hm
          exact .inl ⟨p, n + 1, hp128, by omega, way_cons hD hpe hw⟩
        · refine .inr ⟨p :: l, p, by rw [List.nodup_cons]; exact ⟨hm, hl⟩, by rw [List.length_cons, hn], hp128, hps, fun x hxm => ?_⟩
          rcases List.mem_cons.1 hxm with e | h3
          · rw [e]; exact ⟨hp128, 0, wayB_zero.2 rfl⟩
          · obtain ⟨h4, n, hw⟩ := hx x h3
            exact ⟨h4, n + 1, way_cons hD hpe hw⟩
  rcases key 128 with h | ⟨l, h, hl, hn, _, _, hx⟩
  · exact h
  · have := pigeon 128 l hl (fun x hm => (hx x hm).1)
    omega
theorem ordTo_fail {D : List Dep} : ∀ {n : Nat}, ordTo D n = none → ∃ r R, r < n ∧ ordTo D r = some R ∧ bestO D R = none
  | 0, h => by cases h
  | n + 1, h => by
    cases h1 : ordTo D n with
    | none =>
      obtain ⟨r, R, h2, h3⟩ := ordTo_fail h1
      exact ⟨r, R, by omega, h3⟩
    | some R =>
      cases h2 : bestO D R with
      | none => exact ⟨n, R, by omega, h1, h2⟩
      | some c => rw [ordTo_next h1 h2] at h; cases h
/-- Either an order or a cycle exists. -/
theorem cycle_of {D : List Dep} (hD : okD D = true) (h : orderO D = none) : ∃ c, c < 128 ∧ 1 ≤ distD D c c := by
  rw [orderO_ok hD] at h
  obtain ⟨r, R, hr, hR, hb⟩ := ordTo_fail h
  have hi := ord_inv hD (by omega) hR
  have hno : ∀ c, c < 128 → candO D R c = false := fun c hc => by
    have := List.find?_eq_none.1 hb c (List.mem_range.2 hc)
    simpa using this
  have hpos : 0 < R.countP (fun x => decide (x < 0)) := by rw [hi.cnt]; omega
  obtain ⟨x, hx, hx0⟩ := List.countP_pos_iff.1 hpos
  obtain ⟨c0, hc0, rfl⟩ := List.getElem_of_mem hx
  have hc1 : c0 < 128 := by rw [← hi.len]; exact hc0
  have hg : R.getD c0 0 < 0 := by
    rw [List.getD_eq_getElem?_getD, List.getElem?_eq_getElem hc0]
    simpa using hx0
  obtain ⟨c, n, hc, hn, hw⟩ := pre_cycle hD (S := fun c => R.getD c 0 < 0) hg hc1 (fun c hc hs => by
    have h1 := hno c hc
    have h2 : freeO D R c = false := by
      simp only [candO, hs, decide_true, Bool.true_and] at h1
      exact h1
    have h3 : ∃ i, i < D.length ∧ holdO R (atD D i) c = true := by
      refine Classical.byContradiction fun hne => ?_
      have : freeO D R c = true := freeO_iff.2 fun i hi => by
        cases hh : holdO R (atD D i) c with
        | false => rfl
        | true => exact absurd ⟨i, hi, hh⟩ hne
      rw [this] at h2
      cases h2
    obtain ⟨i, hi2, hh⟩ := h3
    simp only [holdO, Bool.and_eq_true, decide_eq_true_eq] at hh
    have hin := inD_iff.1 (okD_in hD (atD_mem hi2))
    refine ⟨(atD D i).1.toNat, hh.2, edge_iff.2 ?_⟩
    have : atD D i = (((atD D i).1.toNat : Int), (c : Int)) := Prod.ext (by simp only; omega) hh.1
    rw [← this]
    exact atD_mem hi2)
  exact ⟨c, hc, (dist_way hD hn hw).1⟩
end Go.Proofs.YtidilfakganooaaGreatDoor
end

section
namespace Go.Proofs.YtidilfakganooaaGreatDoor
open Go.ChangeShapes Go.WideShapes Go.ChangeAt Go.RowKit
set_option linter.unusedVariables false

/-- Numbers that rise along the ways of the rules xy, yx and west. -/
def rkS (W H r c : Int) : Int :=
  if r = 1 then (if c % 4 = 1 then c / 4 % W else if c % 4 = 3 then W - 1 - c / 4 % W else if c % 4 = 2 then 10 + c / 4 / W else 10 + H - 1 - c / 4 / W)
  else if r = 2 then (if c % 4 = 2 then c / 4 / W else if c % 4 = 0 then H - 1 - c / 4 / W else if c % 4 = 1 then 10 + c / 4 % W else 10 + W - 1 - c / 4 % W)
  else (if c % 4 = 3 then W - 1 - c / 4 % W else if c % 4 = 2 then 10 + c / 4 / W else if c % 4 = 0 then 10 + H - 1 - c / 4 / W else 20 + c / 4 % W)
def riseW (f : Int → Int) : List Int → Bool
  | [] => true
  | a :: t => (match t with | [] => true | b :: _ => decide (f a < f b)) && riseW f t
def stdRise (W H r : Int) : Bool := (List.range (sqG W H)).all fun i => riseW (rkS W H r) (pairW W H [] (stdTab W H r) i)
theorem srs_111 : stdRise 1 1 1 = true := by decide +kernel
theorem srs_112 : stdRise 1 1 2 = true := by decide +kernel
theorem srs_113 : stdRise 1 1 3 = true := by decide +kernel
theorem srs_121 : stdRise 1 2 1 = true := by decide +kernel
theorem srs_122 : stdRise 1 2 2 = true := by decide +kernel
theorem srs_123 : stdRise 1 2 3 = true := by decide +kernel
theorem srs_131 : stdRise 1 3 1 = true := by decide +kernel
theorem srs_132 : stdRise 1 3 2 = true := by decide +kernel
theorem srs_133 : stdRise 1 3 3 = true := by decide +kernel
theorem srs_141 : stdRise 1 4 1 = true := by decide +kernel
theorem srs_142 : stdRise 1 4 2 = true := by decide +kernel
theorem srs_143 : stdRise 1 4 3 = true := by decide +kernel
theorem srs_211 : stdRise 2 1 1 = true := by decide +kernel
theorem srs_212 : stdRise 2 1 2 = true := by decide +kernel
theorem srs_213 : stdRise 2 1 3 = true := by decide +kernel
theorem srs_221 : stdRise 2 2 1 = true := by decide +kernel
theorem srs_222 : stdRise 2 2 2 = true := by decide +kernel
theorem srs_223 : stdRise 2 2 3 = true := by decide +kernel
theorem srs_231 : stdRise 2 3 1 = true := by decide +kernel
theorem srs_232 : stdRise 2 3 2 = true := by decide +kernel
theorem srs_233 : stdRise 2 3 3 = true := by decide +kernel
theorem srs_241 : stdRise 2 4 1 = true := by decide +kernel
theorem srs_242 : stdRise 2 4 2 = true := by decide +kernel
theorem srs_243 : stdRise 2 4 3 = true := by decide +kernel
theorem srs_311 : stdRise 3 1 1 = true := by decide +kernel
theorem srs_312 : stdRise 3 1 2 = true := by decide +kernel
theorem srs_313 : stdRise 3 1 3 = true := by decide +kernel
theorem srs_321 : stdRise 3 2 1 = true := by decide +kernel
theorem srs_322 : stdRise 3 2 2 = true := by decide +kernel
theorem srs_323 : stdRise 3 2 3 = true := by decide +kernel
theorem srs_331 : stdRise 3 3 1 = true := by decide +kernel
theorem srs_332 : stdRise 3 3 2 = true := by decide +kernel
theorem srs_333 : stdRise 3 3 3 = true := by decide +kernel
theorem srs_341 : stdRise 3 4 1 = true := by decide +kernel
theorem srs_342 : stdRise 3 4 2 = true := by decide +kernel
theorem srs_343 : stdRise 3 4 3 = true := by decide +kernel
theorem srs_411 : stdRise 4 1 1 = true := by decide +kernel
theorem srs_412 : stdRise 4 1 2 = true := by decide +kernel
theorem srs_413 : stdRise 4 1 3 = true := by decide +kernel
theorem srs_421 : stdRise 4 2 1 = true := by decide +kernel
theorem srs_422 : stdRise 4 2 2 = true := by decide +kernel
theorem srs_423 : stdRise 4 2 3 = true := by decide +kernel
theorem srs_431 : stdRise 4 3 1 = true := by decide +kernel
theorem srs_432 : stdRise 4 3 2 = true := by decide +kernel
theorem srs_433 : stdRise 4 3 3 = true := by decide +kernel
theorem srs_441 : stdRise 4 4 1 = true := by decide +kernel
theorem srs_442 : stdRise 4 4 2 = true := by decide +kernel
theorem srs_443 : stdRise 4 4 3 = true := by decide +kernel
theorem std_rise {W H r : Int} (h : okG W H = true) (h1 : 1 ≤ r) (h3 : r ≤ 3) : stdRise W H r = true := by
  obtain ⟨hW, hH⟩ := okG_cases h
  have hr : r = 1 ∨ r = 2 ∨ r = 3 := by omega
  rcases hW with rfl | rfl | rfl | rfl <;> rcases hH with rfl | rfl | rfl | rfl <;> rcases hr with rfl | rfl | rfl
  · exact srs_111
  · exact srs_112
  · exact srs_113
  · exact srs_121
  · exact srs_122
  · exact srs_123
  · exact srs_131
  · exact srs_132
  · exact srs_133
  · exact srs_141
  · exact srs_142
  · exact srs_143
  · exact srs_211
  · exact srs_212
  · exact srs_213
  · exact srs_221
  · exact srs_222
  · exact srs_223
  · exact srs_231
  · exact srs_232
  · exact srs_233
  · exact srs_241
  · exact srs_242
  · exact srs_243
  · exact srs_311
  · exact srs_312
  · exact srs_313
  · exact srs_321
  · exact srs_322
  · exact srs_323
  · exact srs_331
  · exact srs_332
  · exact srs_333
  · exact srs_341
  · exact srs_342
  · exact srs_343
  · exact srs_411
  · exact srs_412
  · exact srs_413
  · exact srs_421
  · exact srs_422
  · exact srs_423
  · exact srs_431
  · exact srs_432
  · exact srs_433
  · exact srs_441
  · exact srs_442
  · exact srs_443
theorem rise_at {f : Int → Int} : ∀ {T : List Int}, riseW f T = true → ∀ j, j + 1 < T.length → f (T.getD j 0) < f (T.getD (j + 1) 0)
  | [], _, j, hj => by simp at hj
  | [a], _, j, hj => by simp at hj
  | a :: b :: t, h, 0, _ => by
    simp only [riseW, Bool.and_eq_true, decide_eq_true_eq] at h
    exact h.1
  | a :: b :: t, h, j + 1, hj => by
    rw [riseW, Bool.and_eq_true] at h
    exact rise_at (T := b :: t) h.2 j (by simpa using hj)
/-- What rises along all elements rises along the ways. -/
theorem rank_way {D : List Dep} (hD : okD D = true) {f : Int → Int} (hf : ∀ d ∈ D, f d.1 < f d.2) {a : Nat} : ∀ {n b : Nat}, 1 ≤ n → wayB D a n b = true → f (a : Int) < f (b : Int)
  | 0, b, hn, _ => by omega
  | n + 1, b, _, h => by
    obtain ⟨u, h1, h2⟩ := (wayB_next hD).1 h
    have h3 : f (u : Int) < f (b : Int) := hf _ (edge_iff.1 h2)
    by_cases hn : 1 ≤ n
    · exact Int.lt_trans (rank_way hD hf hn h1) h3
    · obtain rfl : n = 0 := by omega
      rw [wayB_zero.1 h1] at h3
      exact h3
theorem order_of_rank {D : List Dep} (hD : okD D = true) {f : Int → Int} (hf : ∀ d ∈ D, f d.1 < f d.2) : ∃ R, orderO D = some R := by
  cases ho : orderO D with
  | some R => exact ⟨R, rfl⟩
  | none =>
    obtain ⟨c, _, hc⟩ := cycle_of hD ho
    have := rank_way hD hf hc (dist_pos hD hc)
    omega
/-- The dependencies of the table of a rule. -/
def depS (W H r : Int) : List Dep := depG W H [] (stdTab W H r)
theorem safe_std {W H r : Int} (h : okG W H = true) (h1 : 1 ≤ r) (h3 : r ≤ 3) : ∃ R, orderO (depS W H r) = some R := by
  unfold depS
  refine order_of_rank depG_ok (f := rkS W H r) fun d hd => ?_
  rw [depG_yes (std_facts h h1 (by omega)).1] at hd
  obtain ⟨i, j, hi, hj, rfl⟩ := mem_allD hd
  have := std_rise h h1 h3
  simp only [stdRise, List.all_eq_true, List.mem_range] at this
  exact rise_at (this i hi) j hj
end Go.Proofs.YtidilfakganooaaGreatDoor
end

section
namespace Go.Proofs.YtidilfakganooaaGreatDoor
open Go.ChangeShapes Go.WideShapes Go.ChangeAt Go.RowKit
set_option linter.unusedVariables false

/-- bad, safe, cyclic. -/
def nameV (c : Int) : ByteArray := if c = 0 then ⟨#[98, 97, 100]⟩ else if c = 1 then ⟨#[115, 97, 102, 101]⟩ else if c = 2 then ⟨#[99, 121, 99, 108, 105, 99]⟩ else ⟨#[]⟩
theorem nameV_0 : nameV 0 = ⟨#[98, 97, 100]⟩ := rfl
theorem nameV_1 : nameV 1 = ⟨#[115, 97, 102, 101]⟩ := rfl
theorem nameV_2 : nameV 2 = ⟨#[99, 121, 99, 108, 105, 99]⟩ := rfl
theorem nameV_no {c : Int} (h0 : c ≠ 0) (h1 : c ≠ 1) (h2 : c ≠ 2) : nameV c = ⟨#[]⟩ := by rw [nameV, if_neg h0, if_neg h1, if_neg h2]
end Go.Proofs.YtidilfakganooaaGreatDoor
end

section
namespace Go.Proofs.YtidilfakganooaaGreatDoor
open Go.ChangeShapes Go.WideShapes Go.ChangeAt Go.RowKit
set_option linter.unusedVariables false

/-- A new list of numbers, and whether there is one. -/
def NewR (L : List Int) (b : Bool) (w : World) (e : Ending) (w' : World) : Prop :=
  ∃ v, e = .returned (.tuple #[v, .bool b]) ∧ w'.ownsRow w.heap.size 3 1 v L.length (intsV L) ∧ Below w.heap.size w w'
theorem ret_pair {v : Value} {a b : Bool} (h : a = b) : Ending.returned (.tuple #[v, .bool a]) = Ending.returned (.tuple #[v, .bool b]) := by rw [h]
theorem own_nil {L : List Int} (h : L = []) (w : World) (base : Nat) : w.ownsRow base 3 1 (.slice none 0 0) L.length (intsV L) := by subst h; exact World.ownsRow_nil _ _ _ _
/-- An empty list of the function's own. -/
theorem own_empty {L : List Int} (h : L = []) {w wr : World} (hb : Below w.heap.size w wr) : (wr.alloc (.cells #[] 3)).ownsRow w.heap.size 3 1 (.slice (some ⟨wr.heap.size, 0, none⟩) 0 0) L.length (intsV L) ∧ Below w.heap.size w (wr.alloc (.cells #[] 3)) := by
  subst h
  exact ⟨World.ownsRow_made (base := w.heap.size) (e := 3) (size := 1) wr #[] 0 hb.size (by decide) rfl, hb.alloc hb.size _⟩
theorem own_cap {w : World} {base : Nat} {e : TypeId} {size n cap : Nat} {A : Option Addr} {xs : List Value} (h : w.ownsRow base e size (.slice A n cap) n xs) : n ≤ cap ∧ cap ≤ maxLen := by
  rcases h.2 with ⟨h1, h2⟩ | ⟨g, cap', cur, h1, _, _, h2, h3, _⟩
  · simp only [Value.slice.injEq] at h1
    obtain ⟨_, _, rfl⟩ := h1
    exact ⟨by omega, Nat.zero_le _⟩
  · simp only [Value.slice.injEq] at h1
    obtain ⟨_, _, rfl⟩ := h1
    exact ⟨h2, h3⟩
/-- The first k numbers of a slice. -/
theorem IntAt.take {w : World} {B n : Nat} {A : Option Addr} {L : List Int} (h : IntAt w B A n L) {k : Nat} (hk : k ≤ n) : IntAt w B A k (L.take k) := ⟨by have := h.1; simp; omega, fun h0 => by
  obtain ⟨b, off, hA, hb, hc⟩ := h.2 (by omega)
  refine ⟨b, off, hA, hb, fun j x hx => hc j x ?_⟩
  rcases Nat.lt_or_ge j k with h1 | h1
  · rwa [List.getElem?_take_of_lt h1] at hx
  · rw [List.getElem?_eq_none (by simp; omega)] at hx; cases hx⟩
end Go.Proofs.YtidilfakganooaaGreatDoor
end

section
namespace Go.Proofs.YtidilfakganooaaGreatDoor
open Go.ChangeShapes Go.WideShapes Go.ChangeAt Go.RowKit
set_option linter.unusedVariables false

/-- The row of ranks, above all that was there. -/
def RkAt (w : World) (n : Nat) (R : List Int) (v : Value) (wr : World) : Prop := wr.ownsRow w.heap.size 3 1 v n (intsV R) ∧ Below w.heap.size w wr
theorem RkAt.gb {w wr w' : World} {n : Nat} {R : List Int} {v : Value} (h : RkAt w n R v wr) (hg : wr.grownBy w' none) : RkAt w n R v w' := ⟨own_none h.1 hg, below_gb h.2 (Nat.le_refl _) hg⟩
theorem RkAt.set {w wr : World} {n g cap : Nat} {R : List Int} (h : RkAt w n R (.slice (some ⟨g, 0, none⟩) n cap) wr) (c : Nat) (x : Int) : RkAt w n (R.set c x) (.slice (some ⟨g, 0, none⟩) n cap) (wr.setCell ⟨g, c, none⟩ (.int .i64 x)) := by
  obtain ⟨h1, h2⟩ := h.1.stored c (.int .i64 x)
  rw [intsV_set] at h1
  exact ⟨h1, h.2.grown h2 h.2.size (fun j e => by cases e; exact (h.1.lt g rfl).1)⟩
def ranksO (D : List Dep) : List Int := (orderO D).getD []
def canO (D : List Dep) : Bool := (orderO D).isSome
theorem order_none {D : List Dep} (h : orderO D = none) : ranksO D = [] ∧ canO D = false := by simp [ranksO, canO, h]
theorem order_some {D : List Dep} {R : List Int} (h : orderO D = some R) : ranksO D = R ∧ canO D = true := by simp [ranksO, canO, h]
theorem ranksO_len (D : List Dep) : (ranksO D).length ≤ 128 := by
  cases h : orderO D with
  | none => rw [(order_none h).1]; simp
  | some R => rw [(order_some h).1, (order_is h).2.1]; exact Nat.le_refl _
end Go.Proofs.YtidilfakganooaaGreatDoor
end

section
namespace Go.Proofs.YtidilfakganooaaGreatDoor
open Go.ChangeShapes Go.WideShapes Go.ChangeAt Go.RowKit
set_option linter.unusedVariables false

/-- The least length of a cycle through one of the first channels, and the least of these channels. -/
def bestTo (D : List Dep) : Nat → Nat × Int
  | 0 => (0, -1)
  | c + 1 => if 0 < distD D c c ∧ ((bestTo D c).1 = 0 ∨ distD D c c < (bestTo D c).1) then (distD D c c, (c : Int)) else bestTo D c
theorem best_take {D : List Dep} {c : Nat} (h : 0 < distD D c c) (k : (bestTo D c).1 = 0 ∨ distD D c c < (bestTo D c).1) : bestTo D (c + 1) = (distD D c c, (c : Int)) := if_pos ⟨h, k⟩
theorem best_pass {D : List Dep} {c : Nat} (h : ¬ (0 < distD D c c ∧ ((bestTo D c).1 = 0 ∨ distD D c c < (bestTo D c).1))) : bestTo D (c + 1) = bestTo D c := if_neg h
def BestIs (D : List Dep) (c : Nat) : Prop :=
  ((bestTo D c).1 = 0 ∧ (bestTo D c).2 = -1 ∧ ∀ j, j < c → distD D j j = 0) ∨
  (∃ s, s < c ∧ (bestTo D c).2 = (s : Int) ∧ (bestTo D c).1 = distD D s s ∧ 1 ≤ distD D s s ∧ (∀ j, j < c → distD D j j = 0 ∨ distD D s s ≤ distD D j j) ∧ (∀ j, j < s → distD D j j = 0 ∨ distD D s s < distD D j j))
theorem best_is (D : List Dep) : ∀ c, BestIs D c
  | 0 => .inl ⟨rfl, rfl, fun j h => by omega⟩
  | c + 1 => by
    have ih := best_is D c
    by_cases h : 0 < distD D c c ∧ ((bestTo D c).1 = 0 ∨ distD D c c < (bestTo D c).1)
    · have e : bestTo D (c + 1) = (distD D c c, (c : Int)) := if_pos h
      unfold BestIs
      rw [e]
      refine .inr ⟨c, Nat.lt_succ_self _, rfl, rfl, h.1, fun j hj => ?_, fun j hj => ?_⟩
      · rcases Nat.lt_succ_iff_lt_or_eq.1 hj with hj | rfl
        · rcases ih with ⟨_, _, h3⟩ | ⟨s, _, _, h3, h4, h5, _⟩
          · exact .inl (h3 j hj)
          · have := h.2
            rcases h5 j hj with h6 | h6
            · exact .inl h6
            · right; omega
        · exact .inr (Nat.le_refl _)
      · rcases ih with ⟨_, _, h3⟩ | ⟨s, _, _, h3, h4, h5, _⟩
        · exact .inl (h3 j hj)
        · have := h.2
          rcases h5 j hj with h6 | h6
          · exact .inl h6
          · right; omega
    · have e : bestTo D (c + 1) = bestTo D c := if_neg h
      unfold BestIs
      rw [e]
      rcases ih with ⟨h1, h2, h3⟩ | ⟨s, h1, h2, h3, h4, h5, h6⟩
      · refine .inl ⟨h1, h2, fun j hj => ?_⟩
        rcases Nat.lt_succ_iff_lt_or_eq.1 hj with hj | rfl
        · exact h3 j hj
        · have : ¬ 0 < distD D j j := fun hp => h ⟨hp, .inl h1⟩
          omega
      · refine .inr ⟨s, by omega, h2, h3, h4, fun j hj => ?_, h6⟩
        rcases Nat.lt_succ_iff_lt_or_eq.1 hj with hj | rfl
        · exact h5 j hj
        · by_cases hp : 0 < distD D j j
          · have : ¬ distD D j j < (bestTo D j).1 := fun hl => h ⟨hp, .inr hl⟩
            right; omega
          · left; omega
/-- The next channel of the cycle: the least successor from which so many steps are left. -/
def candP (D : List Dep) (st left : Nat) (s : Int) : Bool := if left = 0 then decide (s = (st : Int)) else decide (s ≠ (st : Int)) && decide (distD D s.toNat st = left)
def nextP (D : List Dep) (st left u : Nat) : Nat := match (succD D (u : Int)).find? (candP D st left) with | some s => s.toNat | none => u
def atP (D : List Dep) (st b : Nat) : Nat → Nat
  | 0 => st
  | i + 1 => nextP D st (b - i - 1) (atP D st b i)
def cycP (D : List Dep) (st b : Nat) : List Int := (List.range b).map fun i => (atP D st b i : Int)
/-- The shortest cycle. -/
def cycG (D : List Dep) : List Int := if okD D = true then cycP D (bestTo D 128).2.toNat (bestTo D 128).1 else []
theorem cyc_bad {D : List Dep} (h : okD D = false) : cycG D = [] := by simp [cycG, h]
theorem cyc_ok {D : List Dep} (h : okD D = true) : cycG D = cycP D (bestTo D 128).2.toNat (bestTo D 128).1 := by simp [cycG, h]
theorem cyc_len (D : List Dep) (st b : Nat) : (cycP D st b).length = b := by simp [cycP]
theorem cyc_at {D : List Dep} {st b i : Nat} (h : i < b) : (cycP D st b).getD i 0 = (atP D st b i : Int) := by
  rw [List.getD_eq_getElem?_getD, cycP, List.getElem?_map, List.getElem?_range h]; rfl
/-- There is a next one. -/
theorem next_is {D : List Dep} (hD : okD D = true) {st left u : Nat} (h : distD D u st = left + 1) :
    edgeB D u (nextP D st left u) = true ∧ (left = 0 → nextP D st left u = st) ∧ (0 < left → nextP D st left u ≠ st ∧ distD D (nextP D st left u) st = left) := by
  have hw := dist_pos hD (a := u) (b := st) (by omega)
  rw [h] at hw
  have hex : ∃ s ∈ succD D (u : Int), candP D st left s = true := by
    obtain ⟨s, h1, h2⟩ := way_head hD hw
    refine ⟨(s : Int), edge_succ.1 h1, ?_⟩
    unfold candP
    split
    · rename_i h0
      subst h0
      rw [wayB_zero.1 h2]
      simp
    · rename_i h0
      have hst : s ≠ st := fun e => by
        subst e
        have := (dist_way hD (Nat.le_refl 1) ((way_one hD).2 h1)).2
        omega
      have h3 := dist_way hD (show 1 ≤ left by omega) h2
      have h4 : left ≤ distD D s st := by
        have h5 := dist_way hD (show 1 ≤ distD D s st + 1 by omega) (way_cons hD h1 (dist_pos hD h3.1))
        omega
      have h5 : (s : Int) ≠ (st : Int) := fun e => hst (by omega)
      simp only [Int.toNat_natCast]
      simp [h5]
      omega
  unfold nextP
  cases hf : (succD D (u : Int)).find? (candP D st left) with
  | none =>
    obtain ⟨s, hs, hc⟩ := hex
    have := List.find?_eq_none.1 hf s hs
    rw [hc] at this
    simp at this
  | some s =>
    have hs := List.mem_of_find?_eq_some hf
    have hc := List.find?_some hf
    have hr := succ_in hD hs
    have he : edgeB D u s.toNat = true := edge_succ.2 (by rw [Int.toNat_of_nonneg hr.1]; exact hs)
    refine ⟨he, fun h0 => ?_, fun h0 => ?_⟩
    · unfold candP at hc
      rw [if_pos h0] at hc
      have := of_decide_eq_true hc
      show s.toNat = st
      omega
    · unfold candP at hc
      rw [if_neg (by omega)] at hc
      simp only [Bool.and_eq_true, decide_eq_true_eq] at hc
      refine ⟨?_, hc.2⟩
      show s.toNat ≠ st
      have := hc.1
      omega
theorem path_dist {D : List Dep} (hD : okD D = true) {st b : Nat} (hb : distD D st st = b) : ∀ {i : Nat}, i < b → distD D (atP D st b i) st = b - i
  | 0, h => hb
  | i + 1, h => by
    have ih := path_dist hD hb (i := i) (by omega)
    have := (next_is hD (st := st) (left := b - i - 1) (u := atP D st b i) (by omega)).2.2 (by omega)
    rw [atP, this.2]
    omega
theorem path_edge {D : List Dep} (hD : okD D = true) {st b : Nat} (hb : distD D st st = b) {i : Nat} (h : i < b) : edgeB D (atP D st b i) (atP D st b (i + 1)) = true :=
  (next_is hD (st := st) (left := b - i - 1) (u := atP D st b i) (by have := path_dist hD hb h; omega)).1
theorem path_back {D : List Dep} (hD : okD D = true) {st b : Nat} (hb : distD D st st = b) (h : 1 ≤ b) : atP D st b b = st := by
  obtain ⟨i, rfl⟩ : ∃ i, b = i + 1 := ⟨b - 1, by omega⟩
  exact (next_is hD (st := st) (left := (i + 1) - i - 1) (u := atP D st (i + 1) i) (by have := path_dist hD hb (i := i) (by omega); omega)).2.1 (by omega)
theorem path_way {D : List Dep} (hD : okD D = true) {st b : Nat} (hb : distD D st st = b) : ∀ {i : Nat}, i ≤ b → wayB D st i (atP D st b i) = true
  | 0, _ => wayB_zero.2 rfl
  | i + 1, h => (wayB_next hD).2 ⟨_, path_way hD hb (i := i) (by omega), path_edge hD hb (by omega)⟩
theorem path_inj {D : List Dep} (hD : okD D = true) {st b : Nat} (hb : distD D st st = b) {i j : Nat} (hi : i < b) (hj : j < b) (h : atP D st b i = atP D st b j) : i = j := by
  have h1 := path_dist hD hb hi
  have h2 := path_dist hD hb hj
  rw [h] at h1
  omega
theorem path_lt {D : List Dep} (hD : okD D = true) {st b : Nat} (hb : distD D st st = b) {i : Nat} (h : i < b) : atP D st b i < 128 := (edge_lt hD (path_edge hD hb h)).1
/-- Each channel of the cycle is on no shorter one. -/
theorem path_self {D : List Dep} (hD : okD D = true) {st b : Nat} (hb : distD D st st = b) (hmin : ∀ j, j < 128 → distD D j j = 0 ∨ b ≤ distD D j j) {i : Nat} (h : i < b) : distD D (atP D st b i) (atP D st b i) = b := by
  have h1 := path_dist hD hb h
  have h2 := way_add hD (dist_pos hD (a := atP D st b i) (b := st) (by omega)) (path_way hD hb (Nat.le_of_lt h))
  have h3 := dist_way hD (by omega) h2
  rcases hmin _ (path_lt hD hb h) with h4 | h4
  · omega
  · omega

/-- The list has this element. -/
def hasD (D : List Dep) (x y : Int) : Bool := (List.range D.length).any fun i => decide ((atD D i).1 = x) && decide ((atD D i).2 = y)
theorem has_yes {D : List Dep} {x y : Int} {i : Nat} (hi : i < D.length) (h1 : (atD D i).1 = x) (h2 : (atD D i).2 = y) : hasD D x y = true := List.any_eq_true.2 ⟨i, List.mem_range.2 hi, by simp [h1, h2]⟩
theorem has_no {D : List Dep} {x y : Int} (h : ∀ i, i < D.length → ¬ ((atD D i).1 = x ∧ (atD D i).2 = y)) : hasD D x y = false := by
  unfold hasD
  rw [List.any_eq_false]
  intro i hi
  have := h i (List.mem_range.1 hi)
  simpa using this
theorem has_edge {D : List Dep} {a b : Nat} (h : edgeB D a b = true) : hasD D (a : Int) (b : Int) = true := by
  obtain ⟨k, hk, e⟩ := atD_ex (edge_iff.1 h)
  exact has_yes hk (by rw [e]) (by rw [e])
def cycAt (D : List Dep) (C : List Int) (i : Nat) : Bool := !inG (C.take i) (C.getD i 0) && hasD D (C.getD i 0) (C.getD ((i + 1) % C.length) 0)
/-- A cycle: no channel twice, and elements from each to the next one, and from the last to the first. -/
def isCycG (D : List Dep) (C : List Int) : Bool := okD D && (List.range C.length).all (cycAt D C) && decide (0 < C.length)
theorem isCyc_bad {D : List Dep} {C : List Int} (h : okD D = false) : isCycG D C = false := by simp [isCycG, h]
theorem isCyc_nil (D : List Dep) : isCycG D [] = false := by simp [isCycG]
theorem isCyc_no {D : List Dep} {C : List Int} {i : Nat} (hi : i < C.length) (h : cycAt D C i = false) : isCycG D C = false := by
  cases ho : isCycG D C with
  | false => rfl
  | true =>
    simp only [isCycG, Bool.and_eq_true, List.all_eq_true, List.mem_range] at ho
    rw [ho.1.2 i hi] at h
    cases h
theorem isCyc_yes {D : List Dep} {C : List Int} (hD : okD D = true) (h : ∀ i, i < C.length → cycAt D C i = true) : isCycG D C = decide (0 < C.length) := by
  have : (List.range C.length).all (cycAt D C) = true := by
    rw [List.all_eq_true]
    exact fun i hi => h i (List.mem_range.1 hi)
  simp [isCycG, hD, this]
theorem inG_none {L : List Int} {x : Int} (h : x ∉ L) : inG L x = false := by
  cases hi : inG L x with
  | false => rfl
  | true => exact absurd (List.contains_iff_mem.1 hi) h
theorem cycP_is {D : List Dep} (hD : okD D = true) {st b : Nat} (hb : distD D st st = b) (h1 : 1 ≤ b) : isCycG D (cycP D st b) = true := by
  rw [isCyc_yes hD (fun i hi => ?_), cyc_len]
  · exact decide_eq_true (by omega)
  · rw [cyc_len] at hi
    unfold cycAt
    rw [cyc_len, cyc_at hi]
    have hnin : inG ((cycP D st b).take i) (atP D st b i : Int) = false := inG_none fun hm => by
      obtain ⟨j, hj, e⟩ := List.getElem_of_mem hm
      rw [List.length_take, cyc_len] at hj
      rw [List.getElem_take] at e
      have hjb : j < b := by omega
      have e2 : (cycP D st b).getD j 0 = (atP D st b i : Int) := by
        rw [List.getD_eq_getElem?_getD, List.getElem?_eq_getElem (by rw [cyc_len]; exact hjb), e]; rfl
      rw [cyc_at hjb] at e2
      have := path_inj hD hb hjb hi (by omega)
      omega
    rw [hnin]
    have he := path_edge hD hb hi
    by_cases hlast : i + 1 = b
    · rw [hlast, Nat.mod_self, cyc_at (by omega)]
      rw [hlast, path_back hD hb h1] at he
      exact has_edge he
    · rw [Nat.mod_eq_of_lt (by omega), cyc_at (by omega)]
      exact has_edge he
/-- The shortest cycle: either there is none, or it is one, begins with its least channel, and each of its channels is on no shorter one. -/
theorem cyc_facts {D : List Dep} (hD : okD D = true) :
    (cycG D = [] ∧ ∀ c, c < 128 → distD D c c = 0) ∨
    (∃ st b, cycG D = cycP D st b ∧ st < 128 ∧ distD D st st = b ∧ 1 ≤ b ∧ (∀ j, j < 128 → distD D j j = 0 ∨ b ≤ distD D j j) ∧ (∀ i, i < b → st ≤ atP D st b i) ∧ isCycG D (cycG D) = true) := by
  rw [cyc_ok hD]
  rcases best_is D 128 with ⟨h1, h2, h3⟩ | ⟨s, h1, h2, h3, h4, h5, h6⟩
  · left
    rw [h1]
    exact ⟨rfl, h3⟩
  · right
    rw [h2, h3, Int.toNat_natCast]
    refine ⟨s, _, rfl, h1, rfl, h4, h5, fun i hi => ?_, cycP_is hD rfl h4⟩
    by_cases hlt : atP D s (distD D s s) i < s
    · have e := path_self hD rfl h5 hi
      rcases h6 _ hlt with h7 | h7
      · omega
      · omega
    · omega
/-- Whether there is a cycle. -/
def hasCyc (D : List Dep) : Bool := decide (0 < (cycG D).length)
theorem cycG_le (D : List Dep) : (cycG D).length ≤ 128 := by
  cases hD : okD D with
  | false => rw [cyc_bad hD]; simp
  | true =>
    rcases cyc_facts hD with ⟨h, _⟩ | ⟨st, b, h, _, hb, _⟩
    · rw [h]; simp
    · rw [h, cyc_len, ← hb]; exact dist_le hD st st
end Go.Proofs.YtidilfakganooaaGreatDoor
end

section
namespace Go.Proofs.YtidilfakganooaaGreatDoor
open Go.ChangeShapes Go.WideShapes Go.ChangeAt Go.RowKit
set_option linter.unusedVariables false

/-- A verdict: its code, its ranks, its cycle. -/
structure Verd where
  code : Int
  ranks : List Int
  cycle : List Int
def verdG (W H : Int) (L P : List Int) : Verd :=
  if tableG W H L P = true then (if canO (depG W H L P) = true then ⟨1, ranksO (depG W H L P), []⟩ else ⟨2, [], cycG (depG W H L P)⟩) else ⟨0, [], []⟩
section
variable {W H : Int} {L P : List Int}
theorem verd_bad (h : tableG W H L P = false) : verdG W H L P = ⟨0, [], []⟩ := if_neg (by simp [h])
theorem verd_safe (h : tableG W H L P = true) (k : canO (depG W H L P) = true) : verdG W H L P = ⟨1, ranksO (depG W H L P), []⟩ := by rw [verdG, if_pos h, if_pos k]
theorem verd_cyc (h : tableG W H L P = true) (k : canO (depG W H L P) = false) : verdG W H L P = ⟨2, [], cycG (depG W H L P)⟩ := by rw [verdG, if_pos h, if_neg (by simp [k])]
theorem verd_len : (verdG W H L P).ranks.length ≤ 128 ∧ (verdG W H L P).cycle.length ≤ 128 := by
  have h1 := ranksO_len (depG W H L P)
  have h2 := cycG_le (depG W H L P)
  unfold verdG
  split
  · split <;> exact ⟨by simp; try omega, by simp; try omega⟩
  · exact ⟨by simp, by simp⟩
theorem verd_code : (verdG W H L P).code = 0 ∨ (verdG W H L P).code = 1 ∨ (verdG W H L P).code = 2 := by
  unfold verdG
  split
  · split
    · exact .inr (.inl rfl)
    · exact .inr (.inr rfl)
  · exact .inl rfl
/-- Whether a verdict proves itself. -/
def provesG (W H : Int) (L P : List Int) (v : Verd) : Bool :=
  if v.code = 0 then !tableG W H L P && decide (v.ranks.length = 0) && decide (v.cycle.length = 0)
  else if v.code = 1 then tableG W H L P && isOrdO (depG W H L P) v.ranks && decide (v.cycle.length = 0)
  else if v.code = 2 then tableG W H L P && isCycG (depG W H L P) v.cycle && decide (v.ranks.length = 0)
  else false
theorem proves_bad {v : Verd} (h : v.code = 0) : provesG W H L P v = (!tableG W H L P && decide (v.ranks.length = 0) && decide (v.cycle.length = 0)) := if_pos h
theorem proves_safe {v : Verd} (h : v.code = 1) : provesG W H L P v = (tableG W H L P && isOrdO (depG W H L P) v.ranks && decide (v.cycle.length = 0)) := by rw [provesG, if_neg (by omega), if_pos h]
theorem proves_cyc {v : Verd} (h : v.code = 2) : provesG W H L P v = (tableG W H L P && isCycG (depG W H L P) v.cycle && decide (v.ranks.length = 0)) := by rw [provesG, if_neg (by omega), if_neg (by omega), if_pos h]
theorem proves_no {v : Verd} (h0 : v.code ≠ 0) (h1 : v.code ≠ 1) (h2 : v.code ≠ 2) : provesG W H L P v = false := by rw [provesG, if_neg h0, if_neg h1, if_neg h2]
/-- The found order is one; without one there is a cycle. -/
theorem dep_order (k : canO (depG W H L P) = true) : isOrdO (depG W H L P) (ranksO (depG W H L P)) = true := by
  cases ho : orderO (depG W H L P) with
  | none => rw [(order_none ho).2] at k; cases k
  | some R =>
    rw [(order_some ho).1]
    exact (order_is ho).2.2
theorem dep_cycle (k : canO (depG W H L P) = false) : isCycG (depG W H L P) (cycG (depG W H L P)) = true := by
  cases ho : orderO (depG W H L P) with
  | some R => rw [(order_some ho).2] at k; cases k
  | none =>
    obtain ⟨c, hc, h1⟩ := cycle_of depG_ok ho
    rcases cyc_facts (D := depG W H L P) depG_ok with ⟨_, h2⟩ | ⟨_, _, _, _, _, _, _, _, h2⟩
    · have := h2 c hc; omega
    · exact h2
theorem verd_proves : provesG W H L P (verdG W H L P) = true := by
  cases ht : tableG W H L P with
  | false => rw [verd_bad ht, proves_bad rfl, ht]; rfl
  | true =>
    cases hk : canO (depG W H L P) with
    | true => rw [verd_safe ht hk, proves_safe rfl, ht, dep_order hk]; rfl
    | false => rw [verd_cyc ht hk, proves_cyc rfl, ht, dep_cycle hk]; rfl
theorem verd_zero : (decide ((verdG W H L P).code = 0)) = !tableG W H L P := by
  cases ht : tableG W H L P with
  | false => rw [verd_bad ht]; rfl
  | true =>
    cases hk : canO (depG W H L P) with
    | true => rw [verd_safe ht hk]; rfl
    | false => rw [verd_cyc ht hk]; rfl
end
/-- Whether the table of a rule is safe. -/
def safeB (W H r : Int) : Bool := decide ((verdG W H [] (stdTab W H r)).code = 1)
theorem safe_yes {W H r : Int} (h : okG W H = true) (h1 : 1 ≤ r) (h3 : r ≤ 3) : safeB W H r = true := by
  obtain ⟨R, hR⟩ := safe_std h h1 h3
  unfold safeB
  rw [verd_safe (std_facts h h1 (by omega)).1 (order_some (show orderO (depG W H [] (stdTab W H r)) = some R from hR)).2]
  rfl
/-- The first safe rules. -/
def safeTo (W H : Int) (n : Nat) : List Int := ((List.range n).map fun i : Nat => (i : Int) + 1).filter (safeB W H)
def safeG (W H : Int) : List Int := if okG W H = true then safeTo W H 4 else []
theorem safeTo_zero (W H : Int) : safeTo W H 0 = [] := rfl
theorem safeTo_next (W H : Int) (n : Nat) : safeTo W H (n + 1) = if safeB W H ((n : Int) + 1) = true then safeTo W H n ++ [(n : Int) + 1] else safeTo W H n := by
  unfold safeTo
  rw [List.range_succ, List.map_append, List.filter_append]
  by_cases h : safeB W H ((n : Int) + 1) = true
  · rw [if_pos h]; simp [h]
  · rw [if_neg h]; simp [h]
theorem safeTo_len (W H : Int) : ∀ n, (safeTo W H n).length ≤ n
  | 0 => Nat.le_refl _
  | n + 1 => by
    have := safeTo_len W H n
    rw [safeTo_next]
    split <;> simp <;> omega
theorem safeG_len (W H : Int) : (safeG W H).length ≤ 4 := by
  unfold safeG
  split
  · exact safeTo_len W H 4
  · simp
theorem safe_mem {W H r : Int} (h : okG W H = true) (h1 : 1 ≤ r) (h4 : r ≤ 4) : r ∈ safeG W H ↔ safeB W H r = true := by
  unfold safeG safeTo
  rw [if_pos h, List.mem_filter, List.mem_map]
  constructor
  · exact fun k => k.2
  · exact fun k => ⟨⟨(r - 1).toNat, List.mem_range.2 (by omega), by omega⟩, k⟩
end Go.Proofs.YtidilfakganooaaGreatDoor
end

section
namespace Go.Proofs.YtidilfakganooaaGreatDoor
open Go.ChangeShapes Go.WideShapes Go.ChangeAt Go.RowKit
set_option linter.unusedVariables false

/-- The first one's block is not the second one's. -/
def Apart (v v' : Value) : Prop := ∀ g, v.ownBlock = some g → v'.ownBlock ≠ some g
theorem apart_none (v : Value) : Apart v (.slice none 0 0) := fun g _ e => by cases e
theorem none_apart (v : Value) : Apart (.slice none 0 0) v := fun g e => by cases e
theorem row_kept {w w' : World} {base : Nat} {v : Value} {n : Nat} {xs : List Value} {row : Option Nat} (h : w.ownsRow base 3 1 v n xs) (hg : w.grownBy w' row) (hne : ∀ g, row = some g → v.ownBlock ≠ some g) : w'.ownsRow base 3 1 v n xs :=
  h.kept hg (by
    cases hv : v.ownBlock with
    | none => exact .inl rfl
    | some k => exact .inr (fun e => hne k e.symm hv))
/-- The numbers of steps, the front, the next front, the successors. -/
structure Dp (w : World) (vd : Value) (X : List Int) (vf : Value) (F : List Int) (vn : Value) (N : List Int) (vs : Value) (S : List Int) (wr : World) : Prop where
  rd : wr.ownsRow w.heap.size 3 1 vd 128 (intsV X)
  rf : wr.ownsRow w.heap.size 3 1 vf F.length (intsV F)
  rn : wr.ownsRow w.heap.size 3 1 vn N.length (intsV N)
  rs : wr.ownsRow w.heap.size 3 1 vs S.length (intsV S)
  lb : Below w.heap.size w wr
  df : Apart vd vf
  dn : Apart vd vn
  ds : Apart vd vs
  nf : Apart vn vf
  ns : Apart vn vs
section
variable {w wr w' : World} {vd vf vn vs v : Value} {X F N S L : List Int}
theorem Dp.gb (h : Dp w vd X vf F vn N vs S wr) (hg : wr.grownBy w' none) : Dp w vd X vf F vn N vs S w' :=
  ⟨own_none h.rd hg, own_none h.rf hg, own_none h.rn hg, own_none h.rs hg, below_gb h.lb (Nat.le_refl _) hg, h.df, h.dn, h.ds, h.nf, h.ns⟩
theorem Dp.al (h : Dp w vd X vf F vn N vs S wr) (o : Obj) : Dp w vd X vf F vn N vs S (wr.alloc o) := h.gb (gb_alloc (gb_refl wr none) o)
/-- The successors of another channel. -/
theorem Dp.succ (h : Dp w vd X vf F vn N vs S wr) (ho : w'.ownsRow wr.heap.size 3 1 v L.length (intsV L)) (hb : Below wr.heap.size wr w') : Dp w vd X vf F vn N v L w' := by
  have k := h.gb (gb_of_below hb none)
  exact ⟨k.rd, k.rf, k.rn, own_less ho h.lb.size, k.lb, h.df, h.dn, fun g hg e => by have h1 := (h.rd.lt g hg).2; have h2 := (ho.lt g e).1; omega, h.nf, fun g hg e => by have h1 := (h.rn.lt g hg).2; have h2 := (ho.lt g e).1; omega⟩
theorem Dp.drop (h : Dp w vd X vf F vn N vs S wr) : Dp w vd X vf F vn N (.slice none 0 0) [] wr :=
  ⟨h.rd, h.rf, h.rn, World.ownsRow_nil _ _ _ _, h.lb, h.df, h.dn, apart_none _, h.nf, apart_none _⟩
/-- A new list behind the front. -/
theorem Dp.begin (h : Dp w vd X vf F vn N vs S wr) : Dp w vd X vf F (.slice (some ⟨wr.heap.size, 0, none⟩) 0 0) [] (.slice none 0 0) [] (wr.alloc (.cells #[] 3)) := by
  have k := h.al (.cells #[] 3)
  refine ⟨k.rd, k.rf, World.ownsRow_made (base := w.heap.size) (e := 3) (size := 1) wr #[] 0 h.lb.size (by decide) rfl, World.ownsRow_nil _ _ _ _, k.lb, h.df, fun g hg e => ?_, apart_none _, fun g hg e => ?_, apart_none _⟩
  · have h1 := (h.rd.lt g hg).2
    have h2 : wr.heap.size = g := Option.some.inj e
    omega
  · have h1 := (h.rf.lt g e).2
    have h2 : wr.heap.size = g := Option.some.inj hg
    omega
/-- The new list is the front. -/
theorem Dp.shift (h : Dp w vd X vf F vn N vs S wr) : Dp w vd X vn N (.slice none 0 0) [] (.slice none 0 0) [] wr :=
  ⟨h.rd, h.rn, World.ownsRow_nil _ _ _ _, World.ownsRow_nil _ _ _ _, h.lb, h.dn, apart_none _, apart_none _, none_apart _, none_apart _⟩
theorem Dp.store {g cap : Nat} (h : Dp w (.slice (some ⟨g, 0, none⟩) 128 cap) X vf F vn N vs S wr) (t : Nat) (x : Int) : Dp w (.slice (some ⟨g, 0, none⟩) 128 cap) (X.set t x) vf F vn N vs S (wr.setCell ⟨g, t, none⟩ (.int .i64 x)) := by
  obtain ⟨h1, h2⟩ := h.rd.stored t (.int .i64 x)
  rw [intsV_set] at h1
  refine ⟨h1, row_kept h.rf h2 ?_, row_kept h.rn h2 ?_, row_kept h.rs h2 ?_, h.lb.grown h2 h.lb.size (fun j e => by cases e; exact (h.rd.lt g rfl).1), h.df, h.dn, h.ds, h.nf, h.ns⟩
  · exact fun j e => by cases e; exact h.df g rfl
  · exact fun j e => by cases e; exact h.dn g rfl
  · exact fun j e => by cases e; exact h.ds g rfl
theorem Dp.app {g cap : Nat} {o : Obj} {x : Int} (h : Dp w vd X vf F vn N vs S wr) (ho : w'.ownsRow w.heap.size 3 1 (.slice (some ⟨g, 0, none⟩) (N.length + 1) cap) (N.length + 1) (intsV N ++ [.int .i64 x]))
    (hg : (wr.alloc o).grownBy w' vn.ownBlock) (hat : vn.ownBlock = some g ∨ g = (wr.alloc o).heap.size) : Dp w vd X vf F (.slice (some ⟨g, 0, none⟩) (N.length + 1) cap) (N ++ [x]) vs S w' := by
  have k := h.al o
  have hH : wr.heap.size < (wr.alloc o).heap.size := by rw [alloc_size]; omega
  refine ⟨row_kept k.rd hg (fun j e e2 => h.dn j e2 e), row_kept k.rf hg (fun j e => h.nf j e), by rw [List.length_append, intsV_append]; exact ho, row_kept k.rs hg (fun j e => h.ns j e), k.lb.grown hg k.lb.size (fun j e => (h.rn.lt j e).1), h.df, ?_, h.ds, ?_, ?_⟩
  · intro j e e2
    have e3 : g = j := Option.some.inj e2
    subst e3
    rcases hat with h1 | h1
    · exact h.dn g e h1
    · have := (h.rd.lt g e).2
      omega
  · intro j e e2
    have e3 : g = j := Option.some.inj e
    subst e3
    rcases hat with h1 | h1
    · exact h.nf g h1 e2
    · have := (h.rf.lt g e2).2
      omega
  · intro j e e2
    have e3 : g = j := Option.some.inj e
    subst e3
    rcases hat with h1 | h1
    · exact h.ns g h1 e2
    · have := (h.rs.lt g e2).2
      omega
end
end Go.Proofs.YtidilfakganooaaGreatDoor
end

section
namespace Go.Proofs.YtidilfakganooaaGreatDoor
open Go.ChangeShapes Go.WideShapes Go.ChangeAt Go.RowKit
set_option linter.unusedVariables false

/-- The two rows of a verdict: numbers R and C, apart from each other. -/
structure VRow (w : World) (base : Nat) (vr vc : Value) (a b : Nat) (R C : List Int) : Prop where
  r : w.ownsRow base 3 1 vr a (intsV R)
  c : w.ownsRow base 3 1 vc b (intsV C)
  ap : Apart vr vc
section
variable {w w' w1 : World} {base base2 a b a2 b2 : Nat} {vr vc ur uc : Value} {R C R2 C2 : List Int} {row row2 : Option Nat}
theorem VRow.gb (h : VRow w base vr vc a b R C) (hg : w.grownBy w' none) : VRow w' base vr vc a b R C := ⟨own_none h.r hg, own_none h.c hg, h.ap⟩
theorem VRow.bl (h : VRow w base vr vc a b R C) (hb : Below w.heap.size w w') : VRow w' base vr vc a b R C := h.gb (gb_of_below hb none)
theorem VRow.alloc (h : VRow w base vr vc a b R C) (o : Obj) : VRow (w.alloc o) base vr vc a b R C := h.gb (gb_alloc (gb_refl w none) o)
theorem VRow.drew (h : VRow w base vr vc a b R C) : VRow w.drew base vr vc a b R C := h.gb (gb_drew (gb_refl w none))
theorem VRow.less (h : VRow w base vr vc a b R C) (hb : base2 ≤ base) : VRow w base2 vr vc a b R C := ⟨own_less h.r hb, own_less h.c hb, h.ap⟩
theorem VRow.lt (h : VRow w base vr vc a b R C) (k : Nat) (hk : vr.ownBlock = some k ∨ vc.ownBlock = some k) : base ≤ k ∧ k < w.heap.size := by
  rcases hk with hk | hk
  · exact h.r.lt k hk
  · exact h.c.lt k hk
theorem VRow.kept (h : VRow w base vr vc a b R C) (hg : w.grownBy w' row) (hne : ∀ k, (vr.ownBlock = some k ∨ vc.ownBlock = some k) → row ≠ some k) : VRow w' base vr vc a b R C :=
  ⟨row_kept h.r hg (fun j e e2 => hne j (.inl e2) e), row_kept h.c hg (fun j e e2 => hne j (.inr e2) e), h.ap⟩
theorem VRow.kept2 (h : VRow w base vr vc a b R C) (hg : w.grownBy w1 ur.ownBlock) (hg2 : w1.grownBy w' uc.ownBlock) (hne : ∀ k j, (vr.ownBlock = some k ∨ vc.ownBlock = some k) → (ur.ownBlock = some j ∨ uc.ownBlock = some j) → k ≠ j) : VRow w' base vr vc a b R C :=
  (h.kept hg (fun k hk e => hne k k hk (.inl e) rfl)).kept hg2 (fun k hk e => hne k k hk (.inr e) rfl)
end
/-- A new verdict: two new rows apart from each other. -/
def NewV (v : Verd) (w : World) (e : Ending) (w' : World) : Prop :=
  ∃ vr vc, e = .returned (.agg #[.int .i64 v.code, vr, vc]) ∧ VRow w' w.heap.size vr vc v.ranks.length v.cycle.length v.ranks v.cycle ∧ Below w.heap.size w w'
/-- The boxes: a mesh, a table, a verdict. -/
def vdB (W H : Int) (A A2 : Option Addr) (n cap n2 c2 : Nat) (cs : Array Value) (w : World) : World := (twoI W H A A2 n cap n2 c2 w).alloc (.cells cs 34)
section
variable {W H : Int} {A A2 : Option Addr} {n cap n2 c2 : Nat} {cs : Array Value} {w wr w' : World}
theorem vdB_size : (vdB W H A A2 n cap n2 c2 cs w).heap.size = w.heap.size + 3 := by unfold vdB; rw [alloc_size, twoI_size]
theorem vdB_gb : w.grownBy (vdB W H A A2 n cap n2 c2 cs w) none := gb_alloc twoI_gb _
/-- The boxes as they are. -/
structure VdAt (W H : Int) (A A2 : Option Addr) (n cap n2 c2 : Nat) (cs : Array Value) (w wr : World) : Prop where
  m : Blk wr w.heap.size 28 (meshC W H A n cap)
  t : Blk wr (w.heap.size + 1) 30 #[.slice A2 n2 c2]
  v : Blk wr (w.heap.size + 2) 34 cs
  g : w.grownBy wr none
theorem vdAt_start (cs : Array Value) (w : World) : VdAt W H A A2 n cap n2 c2 cs w (vdB W H A A2 n cap n2 c2 cs w) := by
  have hv := Blk.new (twoI W H A A2 n cap n2 c2 w) 34 cs
  rw [twoI_size] at hv
  exact ⟨(twoI_mesh (gb_refl _ _)).alloc _, (twoI_table (gb_refl _ _)).alloc _, hv, vdB_gb⟩
theorem VdAt.gb (h : VdAt W H A A2 n cap n2 c2 cs w wr) (hg : wr.grownBy w' none) : VdAt W H A A2 n cap n2 c2 cs w w' := ⟨h.m.grown hg (by simp), h.t.grown hg (by simp), h.v.grown hg (by simp), gb_trans h.g hg⟩
theorem VdAt.sz (h : VdAt W H A A2 n cap n2 c2 cs w wr) : w.heap.size + 3 ≤ wr.heap.size := by have := h.v.lt; omega
theorem vd_gb (wr : World) (g : Nat) (c : Int) (vr vc : Value) : wr.grownBy (((wr.setCell ⟨g, 0, none⟩ (.int .i64 c)).setCell ⟨g, 1, none⟩ vr).setCell ⟨g, 2, none⟩ vc) (some g) := by
  have g1 := gb_setCell (gb_refl wr (some g)) (p := ⟨g, 0, none⟩) (.inl rfl) (.int .i64 c)
  have g2 := gb_setCell g1 (p := ⟨g, 1, none⟩) (.inl rfl) vr
  exact gb_setCell g2 (p := ⟨g, 2, none⟩) (.inl rfl) vc
/-- The verdict is written. -/
theorem vd_put {c : Int} {vr vc : Value} (h : VdAt W H A A2 n cap n2 c2 cs w wr) : Below w.heap.size w (((wr.setCell ⟨w.heap.size + 2, 0, none⟩ (.int .i64 c)).setCell ⟨w.heap.size + 2, 1, none⟩ vr).setCell ⟨w.heap.size + 2, 2, none⟩ vc) := by
  have h0 : Below w.heap.size w wr := gb_below_none h.g (Nat.le_refl _)
  have hg : wr.grownBy (((wr.setCell ⟨w.heap.size + 2, 0, none⟩ (.int .i64 c)).setCell ⟨w.heap.size + 2, 1, none⟩ vr).setCell ⟨w.heap.size + 2, 2, none⟩ vc) (some (w.heap.size + 2)) := vd_gb wr (w.heap.size + 2) c vr vc
  exact h0.grown hg (by have := h.sz; omega) (fun j e => by cases e; omega)
theorem vd_row {c : Int} {vr vc v : Value} {k B : Nat} {xs : List Value} (h : VdAt W H A A2 n cap n2 c2 cs w wr) (ho : wr.ownsRow B 3 1 v k xs) : (((wr.setCell ⟨w.heap.size + 2, 0, none⟩ (.int .i64 c)).setCell ⟨w.heap.size + 2, 1, none⟩ vr).setCell ⟨w.heap.size + 2, 2, none⟩ vc).ownsRow B 3 1 v k xs := by
  have hg : wr.grownBy (((wr.setCell ⟨w.heap.size + 2, 0, none⟩ (.int .i64 c)).setCell ⟨w.heap.size + 2, 1, none⟩ vr).setCell ⟨w.heap.size + 2, 2, none⟩ vc) (some (w.heap.size + 2)) := vd_gb wr (w.heap.size + 2) c vr vc
  exact row_kept ho hg (fun j e => by cases e; exact own_ne ho h.v (by decide))
/-- The cells of the verdict that was written. -/
theorem vd_cells {c : Int} {vr vc a b d : Value} (h : VdAt W H A A2 n cap n2 c2 #[a, b, d] w wr) : Blk (((wr.setCell ⟨w.heap.size + 2, 0, none⟩ (.int .i64 c)).setCell ⟨w.heap.size + 2, 1, none⟩ vr).setCell ⟨w.heap.size + 2, 2, none⟩ vc) (w.heap.size + 2) 34 #[.int .i64 c, vr, vc] := by
  have := ((h.v.set_ 0 (.int .i64 c)).set_ 1 vr).set_ 2 vc
  simpa using this
end
end Go.Proofs.YtidilfakganooaaGreatDoor
end

section
namespace Go.Proofs.YtidilfakganooaaGreatDoor
open Go.ChangeShapes Go.WideShapes Go.ChangeAt Go.RowKit
set_option linter.unusedVariables false
set_option maxRecDepth 20000

theorem new_at2 (w : World) (o o2 : Obj) (t : TypeId) (cs : Array Value) : Blk ((w.alloc o).alloc (.cells cs t)) (w.heap.size + 1) t cs := by
  have h := Blk.new (w.alloc o) t cs
  rw [alloc_size] at h
  exact h
theorem lawsEqVerdict (z : Int) (vr1 vc1 vr2 vc2 : Value) (b1 b2 : Nat) (R C : List Int) (w : World) (h1 : VRow w b1 vr1 vc1 R.length C.length R C) (h2 : VRow w b2 vr2 vc2 R.length C.length R C) (hR : R.length ≤ 1000000000) (hC : C.length ≤ 1000000000) :
    Calls Tryz.prog 18 #[.agg #[.int .i64 z, vr1, vc1], .agg #[.int .i64 z, vr2, vc2]] w (RetB true w) := by
  obtain ⟨A1, c1, rfl, _⟩ := own_form h1.r
  obtain ⟨A2, c2, rfl, _⟩ := own_form h1.c
  obtain ⟨A3, c3, rfl, _⟩ := own_form h2.r
  obtain ⟨A4, c4, rfl, _⟩ := own_form h2.c
  have hg := gb_alloc (gb_alloc (gb_refl w none) (.cells #[.int .i64 z, .slice A1 R.length c1, .slice A2 C.length c2] 34)) (.cells #[.int .i64 z, .slice A3 R.length c3, .slice A4 C.length c4] 34)
  have H1 := Lib.hid (h1.gb hg)
  have H2 := Lib.hid (h2.gb hg)
  have HB1 := Lib.hid ((Blk.new w 34 #[.int .i64 z, .slice A1 R.length c1, .slice A2 C.length c2]).alloc (.cells #[.int .i64 z, .slice A3 R.length c3, .slice A4 C.length c4] 34))
  have HB2 := Lib.hid (new_at2 w (.cells #[.int .i64 z, .slice A1 R.length c1, .slice A2 C.length c2] 34) (.cells #[] 3) 34 #[.int .i64 z, .slice A3 R.length c3, .slice A4 C.length c4])
  have HG := Lib.hid hg
  clear h1 h2 hg
  go_enter Tryz.func18, Tryz.ntmps18
  go_wp2_with fail
  refine (lawsEqOwn _ _ b1 b2 R _ H1.out.r H2.out.r hR).mono ?_
  rintro e w2 ⟨rfl, hg2⟩
  have HG2 := Lib.hid (gb_trans HG.out hg2)
  have H12 := Lib.hid (H1.out.gb hg2)
  have H22 := Lib.hid (H2.out.gb hg2)
  have e0 : w2.cell? ⟨w.heap.size, 2, none⟩ = some (.slice A2 C.length c2) := (HB1.out.grown hg2 (by simp)).cell 2
  have e1 : w2.cell? ⟨w.heap.size + 1, 2, none⟩ = some (.slice A4 C.length c4) := (HB2.out.grown hg2 (by simp)).cell 2
  clear hg2
  go_wp2_with fail
  refine (lawsEqOwn _ _ b1 b2 C _ H12.out.c H22.out.c hC).mono ?_
  rintro e w3 ⟨rfl, hg3⟩
  have HG3 := Lib.hid (gb_trans HG2.out hg3)
  clear hg3 e0 e1
  go_wp2_with fail
  go_ret
  exact ⟨rfl, HG3.out⟩
end Go.Proofs.YtidilfakganooaaGreatDoor
end

section
namespace Go.Proofs.YtidilfakganooaaGreatDoor
open Go.ChangeShapes Go.WideShapes Go.ChangeAt Go.RowKit
set_option linter.unusedVariables false
set_option maxRecDepth 20000

/-- The rows are marked; a world between. -/
theorem lawsMarkVerdict (z : Int) (vr vc : Value) (base a b k0 : Nat) (R C : List Int) (w : World) (h : VRow w base vr vc a b R C) (hk : k0 + a + b ≤ 1000000000) :
    Calls Tryz.prog 23 #[.agg #[.int .i64 z, vr, vc], .int .i64 (k0 : Int)] w fun e w' => e = .returned (.int .i64 ((k0 + a + b : Nat) : Int)) ∧ VRow w' base vr vc a b (marksI k0 a) (marksI (k0 + a) b) ∧ ∃ w1, w1.ownsRow base 3 1 vr a (intsV (marksI k0 a)) ∧ w.grownBy w1 vr.ownBlock ∧ w1.grownBy w' vc.ownBlock := by
  obtain ⟨A1, c1, rfl, _⟩ := own_form h.r
  obtain ⟨A2, c2, rfl, _⟩ := own_form h.c
  have hg := gb_alloc (gb_refl w none) (.cells #[.int .i64 z, .slice A1 a c1, .slice A2 b c2] 34)
  have H1 := Lib.hid (h.gb hg)
  have HB1 := Lib.hid (Blk.new w 34 #[.int .i64 z, .slice A1 a c1, .slice A2 b c2])
  clear h hg
  go_enter Tryz.func23, Tryz.ntmps23
  go_wp2_with fail
  refine (lawsMarkI _ base a k0 R _ H1.out.r (by omega)).mono ?_
  rintro e w1 ⟨rfl, o1, g1⟩
  have O1 := Lib.hid o1
  have OC := Lib.hid (row_kept H1.out.c g1 (fun j e => H1.out.ap j e))
  have e0 : w1.cell? ⟨w.heap.size, 2, none⟩ = some (.slice A2 b c2) := (HB1.out.grown g1 (fun e => own_ne H1.out.r HB1.out (by decide) e.symm)).cell 2
  have G1 := Lib.hid (gb_trans (gb_alloc (gb_refl w _) (.cells #[.int .i64 z, .slice A1 a c1, .slice A2 b c2] 34)) g1)
  clear o1 g1
  go_wp2_with fail
  refine (lawsMarkI _ base b (k0 + a) C _ OC.out hk).mono ?_
  rintro e w2 ⟨rfl, o2, g2⟩
  have O2 := Lib.hid o2
  have OR := Lib.hid (row_kept O1.out g2 (fun j e e2 => H1.out.ap j e2 e))
  have G2 := Lib.hid g2
  clear o2 g2 e0
  go_wp2_with fail
  go_ret
  exact ⟨rfl, ⟨OR.out, O2.out, H1.out.ap⟩, w1, O1.out, G1.out, G2.out⟩
theorem lawsHeldVerdict (z : Int) (vr vc : Value) (base a b k0 : Nat) (w : World) (h : VRow w base vr vc a b (marksI k0 a) (marksI (k0 + a) b)) (hk : k0 + a + b ≤ 1000000000) :
    Calls Tryz.prog 24 #[.agg #[.int .i64 z, vr, vc], .int .i64 (k0 : Int)] w fun e w' => e = .returned (.int .i64 ((k0 + a + b : Nat) : Int)) ∧ w.grownBy w' none := by
  obtain ⟨A1, c1, rfl, _⟩ := own_form h.r
  obtain ⟨A2, c2, rfl, _⟩ := own_form h.c
  have hg := gb_alloc (gb_refl w none) (.cells #[.int .i64 z, .slice A1 a c1, .slice A2 b c2] 34)
  have H1 := Lib.hid (h.gb hg)
  have HB1 := Lib.hid (Blk.new w 34 #[.int .i64 z, .slice A1 a c1, .slice A2 b c2])
  have HG := Lib.hid hg
  have k1 : (0 : Int) ≤ ((k0 + a : Nat) : Int) := by omega
  have k2 : (0 : Int) ≤ ((k0 + a + b : Nat) : Int) := by omega
  have k3 : ¬ ((k0 + a : Nat) : Int) < 0 := by omega
  have k4 : ¬ ((k0 + a + b : Nat) : Int) < 0 := by omega
  clear h hg
  go_enter Tryz.func24, Tryz.ntmps24
  go_wp2_with fail
  refine (lawsHeldOwn _ base a k0 _ H1.out.r (by omega)).mono ?_
  rintro e w1 ⟨rfl, g1⟩
  have H2 := Lib.hid (H1.out.gb g1)
  have e0 : w1.cell? ⟨w.heap.size, 2, none⟩ = some (.slice A2 b c2) := (HB1.out.grown g1 (by simp)).cell 2
  have G1 := Lib.hid (gb_trans HG.out g1)
  clear g1
  go_wp2_with fail
  refine (lawsHeldOwn _ base b (k0 + a) _ H2.out.c hk).mono ?_
  rintro e w2 ⟨rfl, g2⟩
  have G2 := Lib.hid (gb_trans G1.out g2)
  clear g2 e0
  go_wp2_with fail
  go_ret
  exact ⟨rfl, G2.out⟩
end Go.Proofs.YtidilfakganooaaGreatDoor
end

section
namespace Go.Proofs.YtidilfakganooaaGreatDoor
open Go.ChangeShapes Go.WideShapes Go.ChangeAt Go.RowKit
set_option linter.unusedVariables false

/-- The law's arguments, its copies of them (with the numbers M and N), the model's verdict and the program's (with the numbers R8 and C8), each in its box. -/
structure VS (W H : Int) (A A2 : Option Addr) (n cap n2 c2 : Nat) (w : World) (b0 b1 gm gp lm lp : Nat) (M N : List Int) (bw bg : Nat) (z : Int) (vr0 vc0 vr8 vc8 : Value) (a b : Nat) (R C R8 C8 : List Int) (wr : World) : Prop where
  lb : LawB W H A A2 n cap n2 c2 w wr
  km : Blk wr b0 28 (meshC W H (some ⟨gm, 0, none⟩) lm lm)
  kt : Blk wr b1 30 #[.slice (some ⟨gp, 0, none⟩) lp lp]
  om : wr.ownsRow (w.heap.size + 2) 3 1 (.slice (some ⟨gm, 0, none⟩) lm lm) lm (intsV M)
  ot : wr.ownsRow (w.heap.size + 2) 3 1 (.slice (some ⟨gp, 0, none⟩) lp lp) lp (intsV N)
  k0 : Blk wr bw 34 #[.int .i64 z, vr0, vc0]
  k8 : Blk wr bg 34 #[.int .i64 z, vr8, vc8]
  r0 : VRow wr (w.heap.size + 2) vr0 vc0 a b R C
  r8 : VRow wr (w.heap.size + 2) vr8 vc8 a b R8 C8
  s0 : ∀ k, (vr0.ownBlock = some k ∨ vc0.ownBlock = some k) → k < gm
  s1 : gm < gp
  s8 : ∀ k, (vr8.ownBlock = some k ∨ vc8.ownBlock = some k) → gp < k
section
variable {W H : Int} {A A2 : Option Addr} {n cap n2 c2 : Nat} {w wr w' w1 : World} {b0 b1 gm gp lm lp bw bg a b : Nat} {M N M' N' : List Int} {z : Int} {vr0 vc0 vr8 vc8 : Value} {R C R8 C8 R' C' : List Int}
theorem VS.gb (h : VS W H A A2 n cap n2 c2 w b0 b1 gm gp lm lp M N bw bg z vr0 vc0 vr8 vc8 a b R C R8 C8 wr) (hg : wr.grownBy w' none) : VS W H A A2 n cap n2 c2 w b0 b1 gm gp lm lp M N bw bg z vr0 vc0 vr8 vc8 a b R C R8 C8 w' :=
  ⟨h.lb.gb hg, h.km.grown hg (by simp), h.kt.grown hg (by simp), own_none h.om hg, own_none h.ot hg, h.k0.grown hg (by simp), h.k8.grown hg (by simp), h.r0.gb hg, h.r8.gb hg, h.s0, h.s1, h.s8⟩
theorem VS.bl (h : VS W H A A2 n cap n2 c2 w b0 b1 gm gp lm lp M N bw bg z vr0 vc0 vr8 vc8 a b R C R8 C8 wr) (hb : Below wr.heap.size wr w') : VS W H A A2 n cap n2 c2 w b0 b1 gm gp lm lp M N bw bg z vr0 vc0 vr8 vc8 a b R C R8 C8 w' := h.gb (gb_of_below hb none)
theorem VS.dr (h : VS W H A A2 n cap n2 c2 w b0 b1 gm gp lm lp M N bw bg z vr0 vc0 vr8 vc8 a b R C R8 C8 wr) : VS W H A A2 n cap n2 c2 w b0 b1 gm gp lm lp M N bw bg z vr0 vc0 vr8 vc8 a b R C R8 C8 wr.drew := h.gb (gb_drew (gb_refl wr none))
theorem VS.atM (h : VS W H A A2 n cap n2 c2 w b0 b1 gm gp lm lp M N bw bg z vr0 vc0 vr8 vc8 a b R C R8 C8 wr) (hl : M.length = lm) : IntAt wr wr.heap.size (some ⟨gm, 0, none⟩) lm M := intAt_own h.om hl (Nat.le_refl _)
theorem VS.atP (h : VS W H A A2 n cap n2 c2 w b0 b1 gm gp lm lp M N bw bg z vr0 vc0 vr8 vc8 a b R C R8 C8 wr) (hl : N.length = lp) : IntAt wr wr.heap.size (some ⟨gp, 0, none⟩) lp N := intAt_own h.ot hl (Nat.le_refl _)
/-- The copy of the mesh is marked. -/
theorem VS.markM (h : VS W H A A2 n cap n2 c2 w b0 b1 gm gp lm lp M N bw bg z vr0 vc0 vr8 vc8 a b R C R8 C8 wr) (ho : w'.ownsRow (w.heap.size + 2) 3 1 (.slice (some ⟨gm, 0, none⟩) lm lm) lm (intsV M')) (hg : wr.grownBy w' (some gm)) : VS W H A A2 n cap n2 c2 w b0 b1 gm gp lm lp M' N bw bg z vr0 vc0 vr8 vc8 a b R C R8 C8 w' :=
  ⟨h.lb.own hg (fun k e => by cases e; exact (h.om.lt gm rfl).1), h.km.grown hg (fun e => own_ne h.om h.km (by decide) e.symm), h.kt.grown hg (fun e => own_ne h.om h.kt (by decide) e.symm), ho,
    row_kept h.ot hg (fun j e e2 => by have h1 := h.s1; have h2 : gm = j := Option.some.inj e; have h3 : gp = j := Option.some.inj e2; omega),
    h.k0.grown hg (fun e => own_ne h.om h.k0 (by decide) e.symm), h.k8.grown hg (fun e => own_ne h.om h.k8 (by decide) e.symm),
    h.r0.kept hg (fun k hk e => by have h1 := h.s0 k hk; have h2 : gm = k := Option.some.inj e; omega), h.r8.kept hg (fun k hk e => by have h1 := h.s8 k hk; have h3 := h.s1; have h2 : gm = k := Option.some.inj e; omega), h.s0, h.s1, h.s8⟩
theorem VS.markT (h : VS W H A A2 n cap n2 c2 w b0 b1 gm gp lm lp M N bw bg z vr0 vc0 vr8 vc8 a b R C R8 C8 wr) (ho : w'.ownsRow (w.heap.size + 2) 3 1 (.slice (some ⟨gp, 0, none⟩) lp lp) lp (intsV N')) (hg : wr.grownBy w' (some gp)) : VS W H A A2 n cap n2 c2 w b0 b1 gm gp lm lp M N' bw bg z vr0 vc0 vr8 vc8 a b R C R8 C8 w' :=
  ⟨h.lb.own hg (fun k e => by cases e; exact (h.ot.lt gp rfl).1), h.km.grown hg (fun e => own_ne h.ot h.km (by decide) e.symm), h.kt.grown hg (fun e => own_ne h.ot h.kt (by decide) e.symm),
    row_kept h.om hg (fun j e e2 => by have h1 := h.s1; have h2 : gp = j := Option.some.inj e; have h3 : gm = j := Option.some.inj e2; omega), ho,
    h.k0.grown hg (fun e => own_ne h.ot h.k0 (by decide) e.symm), h.k8.grown hg (fun e => own_ne h.ot h.k8 (by decide) e.symm),
    h.r0.kept hg (fun k hk e => by have h1 := h.s0 k hk; have h3 := h.s1; have h2 : gp = k := Option.some.inj e; omega), h.r8.kept hg (fun k hk e => by have h1 := h.s8 k hk; have h2 : gp = k := Option.some.inj e; omega), h.s0, h.s1, h.s8⟩
/-- The program's verdict is marked: what keeps one row's change keeps two. -/
theorem VS.one (h : VS W H A A2 n cap n2 c2 w b0 b1 gm gp lm lp M N bw bg z vr0 vc0 vr8 vc8 a b R C R8 C8 wr) {v : Value} {k : Nat} {xs : List Value} (hv : wr.ownsRow (w.heap.size + 2) 3 1 v k xs) (hs : ∀ j, v.ownBlock = some j → gp < j) (hg : wr.grownBy w' v.ownBlock) (hr : VRow w' (w.heap.size + 2) vr8 vc8 a b R' C') : VS W H A A2 n cap n2 c2 w b0 b1 gm gp lm lp M N bw bg z vr0 vc0 vr8 vc8 a b R C R' C' w' :=
  ⟨h.lb.own hg (fun k e => (hv.lt k e).1), h.km.grown hg (fun e => own_ne hv h.km (by decide) e.symm), h.kt.grown hg (fun e => own_ne hv h.kt (by decide) e.symm),
    row_kept h.om hg (fun j e e2 => by have h1 := hs j e; have h2 := h.s1; have h3 : gm = j := Option.some.inj e2; omega), row_kept h.ot hg (fun j e e2 => by have h1 := hs j e; have h3 : gp = j := Option.some.inj e2; omega),
    h.k0.grown hg (fun e => own_ne hv h.k0 (by decide) e.symm), h.k8.grown hg (fun e => own_ne hv h.k8 (by decide) e.symm),
    h.r0.kept hg (fun k hk e => by have h1 := h.s0 k hk; have h2 := hs k e; have h3 := h.s1; omega), hr, h.s0, h.s1, h.s8⟩
theorem VS.markV (h : VS W H A A2 n cap n2 c2 w b0 b1 gm gp lm lp M N bw bg z vr0 vc0 vr8 vc8 a b R C R8 C8 wr) {Rm : List Int} (h1 : w1.ownsRow (w.heap.size + 2) 3 1 vr8 a (intsV Rm)) (hg : wr.grownBy w1 vr8.ownBlock) (hg2 : w1.grownBy w' vc8.ownBlock) (hr : VRow w' (w.heap.size + 2) vr8 vc8 a b R' C') : VS W H A A2 n cap n2 c2 w b0 b1 gm gp lm lp M N bw bg z vr0 vc0 vr8 vc8 a b R C R' C' w' := by
  have hc : w1.ownsRow (w.heap.size + 2) 3 1 vc8 b (intsV C8) := row_kept h.r8.c hg (fun j e e2 => h.r8.ap j e e2)
  have k1 := h.one h.r8.r (fun j e => h.s8 j (.inl e)) hg ⟨h1, hc, h.r8.ap⟩
  exact k1.one hc (fun j e => h.s8 j (.inr e)) hg2 hr
theorem vs_start {ws w6 w7 w8 : World} (hB : LawB W H A A2 n cap n2 c2 w ws) (hK : Blk ws bw 34 #[.int .i64 z, vr0, vc0]) (hR : VRow ws (w.heap.size + 2) vr0 vc0 a b R C)
    (o6 : w6.ownsRow ws.heap.size 3 1 (.slice (some ⟨gm, 0, none⟩) lm lm) lm (intsV M)) (b6 : Below ws.heap.size ws w6)
    (o7 : w7.ownsRow (w6.alloc (.cells (meshC W H (some ⟨gm, 0, none⟩) lm lm) 28)).heap.size 3 1 (.slice (some ⟨gp, 0, none⟩) lp lp) lp (intsV N)) (b7 : Below (w6.alloc (.cells (meshC W H (some ⟨gm, 0, none⟩) lm lm) 28)).heap.size (w6.alloc (.cells (meshC W H (some ⟨gm, 0, none⟩) lm lm) 28)) w7)
    (r8 : VRow w8 (w7.alloc (.cells #[.slice (some ⟨gp, 0, none⟩) lp lp] 30)).heap.size vr8 vc8 a b R C) (b8 : Below (w7.alloc (.cells #[.slice (some ⟨gp, 0, none⟩) lp lp] 30)).heap.size (w7.alloc (.cells #[.slice (some ⟨gp, 0, none⟩) lp lp] 30)) w8) :
    VS W H A A2 n cap n2 c2 w w6.heap.size w7.heap.size gm gp lm lp M N bw w8.heap.size z vr0 vc0 vr8 vc8 a b R C R C (w8.alloc (.cells #[.int .i64 z, vr8, vc8] 34)) := by
  have e6 : (w6.alloc (.cells (meshC W H (some ⟨gm, 0, none⟩) lm lm) 28)).heap.size = w6.heap.size + 1 := alloc_size _ _
  have e7 : (w7.alloc (.cells #[.slice (some ⟨gp, 0, none⟩) lp lp] 30)).heap.size = w7.heap.size + 1 := alloc_size _ _
  have hgm := o6.lt gm rfl
  have hgp := o7.lt gp rfl
  have s7 := b7.size
  have s8 := b8.size
  have l1 := hB.le
  have s6 := b6.size
  rw [e6] at hgp s7
  rw [e7] at s8
  have g6 : ws.grownBy (w6.alloc (.cells (meshC W H (some ⟨gm, 0, none⟩) lm lm) 28)) none := gb_alloc (gb_of_below b6 none) _
  have g7 : (w6.alloc (.cells (meshC W H (some ⟨gm, 0, none⟩) lm lm) 28)).grownBy (w7.alloc (.cells #[.slice (some ⟨gp, 0, none⟩) lp lp] 30)) none := gb_alloc (gb_of_below b7 none) _
  have g8 : (w7.alloc (.cells #[.slice (some ⟨gp, 0, none⟩) lp lp] 30)).grownBy (w8.alloc (.cells #[.int .i64 z, vr8, vc8] 34)) none := gb_alloc (gb_of_below b8 none) _
  have g68 := gb_trans g7 g8
  have gs8 := gb_trans g6 g68
  refine ⟨hB.gb gs8, (Blk.new w6 28 _).grown g68 (by simp), (Blk.new w7 30 _).grown g8 (by simp), own_none (own_less (o6.alloc _) l1) g68, own_none (own_less (o7.alloc _) (by omega)) g8, hK.grown gs8 (by simp), Blk.new w8 34 _, hR.gb gs8, (r8.alloc _).less (by omega), fun k hk => ?_, by omega, fun k hk => ?_⟩
  · have := (hR.lt k hk).2
    omega
  · have := (r8.lt k hk).1
    rw [e7] at this
    omega
/-- The model's verdict goes into a new box. -/
theorem vd_box {w5 : World} {v0 v1 : Value} (hB : LawB W H A A2 n cap n2 c2 w w5) (hR : VRow w5 (w.heap.size + 2) v0 v1 a b R C) (z : Int) (cs : Array Value) :
    LawB W H A A2 n cap n2 c2 w (w5.alloc (.cells cs 34)) ∧ Blk (w5.alloc (.cells cs 34)) w5.heap.size 34 cs ∧ VRow (w5.alloc (.cells cs 34)) (w.heap.size + 2) v0 v1 a b R C :=
  ⟨hB.gb (gb_alloc (gb_refl _ _) _), Blk.new w5 34 cs, hR.alloc _⟩
theorem LawB.bx1 {q : Prop} {wq : World} (h : LawB W H A A2 n cap n2 c2 w wq ∧ q) : LawB W H A A2 n cap n2 c2 w wq := h.1
theorem blk_ne {wq : World} {g g2 : Nat} {t t2 : TypeId} {cs cs2 : Array Value} (h : Blk wq g t cs) (h2 : Blk wq g2 t2 cs2) (hne : t ≠ t2) : g ≠ g2 := fun e => by
  subst e
  unfold Blk at h h2
  rw [h] at h2
  injection h2 with h3
  injection h3 with _ h4 _
  exact hne h4
theorem lb_bx {wq : World} (h : LawB W H A A2 n cap n2 c2 w wq) (cs : Array Value) : LawB W H A A2 n cap n2 c2 w (wq.alloc (.cells cs 34)) ∧ Blk (wq.alloc (.cells cs 34)) wq.heap.size 34 cs := ⟨h.gb (gb_alloc (gb_refl _ _) _), Blk.new wq 34 cs⟩
theorem lb_bxd {wq : World} (h : LawB W H A A2 n cap n2 c2 w wq) (cs : Array Value) : LawB W H A A2 n cap n2 c2 w (wq.alloc (.cells cs 34)).drew ∧ Blk (wq.alloc (.cells cs 34)).drew wq.heap.size 34 cs := ⟨h.gb (gb_drew (gb_alloc (gb_refl _ _) _)), (Blk.new wq 34 cs).grown (gb_drew (gb_refl _ none)) (by simp)⟩
theorem vs_bx (h : VS W H A A2 n cap n2 c2 w b0 b1 gm gp lm lp M N bw bg z vr0 vc0 vr8 vc8 a b R C R8 C8 wr) (cs : Array Value) : VS W H A A2 n cap n2 c2 w b0 b1 gm gp lm lp M N bw bg z vr0 vc0 vr8 vc8 a b R C R8 C8 (wr.alloc (.cells cs 34)) ∧ Blk (wr.alloc (.cells cs 34)) wr.heap.size 34 cs := ⟨h.gb (gb_alloc (gb_refl _ _) _), Blk.new wr 34 cs⟩
theorem vs_bxd (h : VS W H A A2 n cap n2 c2 w b0 b1 gm gp lm lp M N bw bg z vr0 vc0 vr8 vc8 a b R C R8 C8 wr) (cs : Array Value) : VS W H A A2 n cap n2 c2 w b0 b1 gm gp lm lp M N bw bg z vr0 vc0 vr8 vc8 a b R C R8 C8 (wr.alloc (.cells cs 34)).drew ∧ Blk (wr.alloc (.cells cs 34)).drew wr.heap.size 34 cs := ⟨h.gb (gb_drew (gb_alloc (gb_refl _ _) _)), (Blk.new wr 34 cs).grown (gb_drew (gb_refl _ none)) (by simp)⟩
theorem VS.bx1 {q : Prop} (h : VS W H A A2 n cap n2 c2 w b0 b1 gm gp lm lp M N bw bg z vr0 vc0 vr8 vc8 a b R C R8 C8 wr ∧ q) : VS W H A A2 n cap n2 c2 w b0 b1 gm gp lm lp M N bw bg z vr0 vc0 vr8 vc8 a b R C R8 C8 wr := h.1
/-- A third verdict goes into a new box, or into one that lies there. -/
theorem vs_box {v0 v1 : Value} (h : VS W H A A2 n cap n2 c2 w b0 b1 gm gp lm lp M N bw bg z vr0 vc0 vr8 vc8 a b R C R8 C8 wr) (hR : VRow wr (w.heap.size + 2) v0 v1 a b R C) (cs : Array Value) :
    VS W H A A2 n cap n2 c2 w b0 b1 gm gp lm lp M N bw bg z vr0 vc0 vr8 vc8 a b R C R8 C8 (wr.alloc (.cells cs 34)) ∧ Blk (wr.alloc (.cells cs 34)) wr.heap.size 34 cs ∧ VRow (wr.alloc (.cells cs 34)) (w.heap.size + 2) v0 v1 a b R C :=
  ⟨(vs_bx h cs).1, (vs_bx h cs).2, hR.alloc _⟩
theorem vs_old {Ar Ac : Option Addr} {cr cc g : Nat} {x y u : Value} (h : VS W H A A2 n cap n2 c2 w b0 b1 gm gp lm lp M N bw bg z vr0 vc0 vr8 vc8 a b R C R8 C8 wr) (hR : VRow wr (w.heap.size + 2) (.slice Ar a cr) (.slice Ac b cc) a b R C) (hk : Blk wr g 34 #[x, y, u]) (hg2 : w.heap.size + 2 ≤ g) (h0 : bw ≠ g) (h8 : bg ≠ g) :
    VS W H A A2 n cap n2 c2 w b0 b1 gm gp lm lp M N bw bg z vr0 vc0 vr8 vc8 a b R C R8 C8 (((wr.setCell ⟨g, 0, none⟩ (.int .i64 z)).setCell ⟨g, 1, none⟩ (.slice Ar a cr)).setCell ⟨g, 2, none⟩ (.slice Ac b cc)) ∧
    Blk (((wr.setCell ⟨g, 0, none⟩ (.int .i64 z)).setCell ⟨g, 1, none⟩ (.slice Ar a cr)).setCell ⟨g, 2, none⟩ (.slice Ac b cc)) g 34 #[.int .i64 z, .slice Ar a cr, .slice Ac b cc] ∧
    VRow (((wr.setCell ⟨g, 0, none⟩ (.int .i64 z)).setCell ⟨g, 1, none⟩ (.slice Ar a cr)).setCell ⟨g, 2, none⟩ (.slice Ac b cc)) (w.heap.size + 2) (.slice Ar a cr) (.slice Ac b cc) a b R C := by
  have hg := vd_gb wr g z (.slice Ar a cr) (.slice Ac b cc)
  have hrow : ∀ {v : Value} {k : Nat} {xs : List Value}, wr.ownsRow (w.heap.size + 2) 3 1 v k xs → (((wr.setCell ⟨g, 0, none⟩ (.int .i64 z)).setCell ⟨g, 1, none⟩ (.slice Ar a cr)).setCell ⟨g, 2, none⟩ (.slice Ac b cc)).ownsRow (w.heap.size + 2) 3 1 v k xs := fun hv => row_kept hv hg (fun j e => by
    have e2 : g = j := Option.some.inj e
    subst e2
    exact own_ne hv hk (by decide))
  have hbox : Blk (((wr.setCell ⟨g, 0, none⟩ (.int .i64 z)).setCell ⟨g, 1, none⟩ (.slice Ar a cr)).setCell ⟨g, 2, none⟩ (.slice Ac b cc)) g 34 #[.int .i64 z, .slice Ar a cr, .slice Ac b cc] := by
    have := ((hk.set_ 0 (.int .i64 z)).set_ 1 (.slice Ar a cr)).set_ 2 (.slice Ac b cc)
    simpa using this
  exact ⟨⟨h.lb.own hg (fun k e => by cases e; exact hg2), h.km.grown hg (fun e => blk_ne h.km hk (by decide) (Option.some.inj e)), h.kt.grown hg (fun e => blk_ne h.kt hk (by decide) (Option.some.inj e)), hrow h.om, hrow h.ot, h.k0.grown hg (fun e => h0 (Option.some.inj e)), h.k8.grown hg (fun e => h8 (Option.some.inj e)), ⟨hrow h.r0.r, hrow h.r0.c, h.r0.ap⟩, ⟨hrow h.r8.r, hrow h.r8.c, h.r8.ap⟩, h.s0, h.s1, h.s8⟩, hbox, ⟨hrow hR.r, hrow hR.c, hR.ap⟩⟩
/-- The model's verdict goes into a box that lies there. -/
theorem vd_old {w5 : World} {Ar Ac : Option Addr} {cr cc g : Nat} {x y u : Value} (hB : LawB W H A A2 n cap n2 c2 w w5) (hR : VRow w5 (w.heap.size + 2) (.slice Ar a cr) (.slice Ac b cc) a b R C) (hk : Blk w5 g 34 #[x, y, u]) (z : Int) (hg2 : w.heap.size + 2 ≤ g) :
    LawB W H A A2 n cap n2 c2 w (((w5.setCell ⟨g, 0, none⟩ (.int .i64 z)).setCell ⟨g, 1, none⟩ (.slice Ar a cr)).setCell ⟨g, 2, none⟩ (.slice Ac b cc)) ∧
    Blk (((w5.setCell ⟨g, 0, none⟩ (.int .i64 z)).setCell ⟨g, 1, none⟩ (.slice Ar a cr)).setCell ⟨g, 2, none⟩ (.slice Ac b cc)) g 34 #[.int .i64 z, .slice Ar a cr, .slice Ac b cc] ∧
    VRow (((w5.setCell ⟨g, 0, none⟩ (.int .i64 z)).setCell ⟨g, 1, none⟩ (.slice Ar a cr)).setCell ⟨g, 2, none⟩ (.slice Ac b cc)) (w.heap.size + 2) (.slice Ar a cr) (.slice Ac b cc) a b R C := by
  have hg := vd_gb w5 g z (.slice Ar a cr) (.slice Ac b cc)
  refine ⟨hB.own hg (fun k e => by cases e; exact hg2), ?_, hR.kept hg (fun k hk2 e => by
    have e2 : g = k := Option.some.inj e
    subst e2
    rcases hk2 with h1 | h1
    · exact own_ne hR.r hk (by decide) h1
    · exact own_ne hR.c hk (by decide) h1)⟩
  have := ((hk.set_ 0 (.int .i64 z)).set_ 1 (.slice Ar a cr)).set_ 2 (.slice Ac b cc)
  simpa using this
end
end Go.Proofs.YtidilfakganooaaGreatDoor
end

section
namespace Go.Proofs.YtidilfakganooaaGreatDoor
open Go.ChangeShapes Go.WideShapes Go.ChangeAt Go.RowKit
set_option linter.unusedVariables false

theorem specIn (x lo hi : Int) (w : World) :
    Calls Tryz.prog 76 #[.int .i64 x, .int .i64 lo, .int .i64 hi] w fun e w' => e = .returned (.bool (decide (lo ≤ x ∧ x ≤ hi))) ∧ w = w' := by
  by_cases h1 : lo ≤ x
  all_goals
    go_enter Tryz.func76, Tryz.ntmps76
    go_wp2
    all_goals go_ret
    all_goals exact ⟨ret_bool (by simp <;> omega), rfl⟩

theorem specInV (x lo hi : Int) (b : Bool) (hb : decide (lo ≤ x ∧ x ≤ hi) = b) (w : World) :
    Calls Tryz.prog 76 #[.int .i64 x, .int .i64 lo, .int .i64 hi] w fun e w' => e = .returned (.bool b) ∧ w = w' := hb ▸ specIn x lo hi w

theorem box_blk {w w1 : World} {T : TypeId} {cs : Array Value} (h : (w.alloc (.cells cs T)).grownBy w1 none) : Blk w1 w.heap.size T cs := (Blk.new w T cs).grown h (by simp)
theorem box_gb {w w1 : World} {o : Obj} (h : (w.alloc o).grownBy w1 none) : w.grownBy w1 none := gb_trans (gb_alloc (gb_refl _ _) _) h

end Go.Proofs.YtidilfakganooaaGreatDoor
end

section
namespace Go.Proofs.YtidilfakganooaaGreatDoor
open Go.ChangeShapes Go.WideShapes Go.ChangeAt Go.RowKit
set_option linter.unusedVariables false

/-- A grid as a value. -/
def gridV (W H : Int) : Value := .agg #[.int .i64 W, .int .i64 H]
def gridC (W H : Int) : Array Value := #[.int .i64 W, .int .i64 H]

theorem specGridOk (W H : Int) (w : World) :
    Calls Tryz.prog 48 #[.agg #[.int .i64 W, .int .i64 H]] w (RetB (okG W H) w) := by
  by_cases h1 : 1 ≤ W ∧ W ≤ 4
  · by_cases h2 : 1 ≤ H ∧ H ≤ 4
    all_goals
      go_enter Tryz.func48, Tryz.ntmps48
      go_wp2_with fail
      refine (specInV W 1 4 true (by simpa using h1) _).mono ?_
      rintro e w1 ⟨rfl, rfl⟩
      go_wp2_with fail
      first
      | refine (specInV H 1 4 true (by simpa using h2) _).mono ?_
      | refine (specInV H 1 4 false (by simpa using h2) _).mono ?_
      rintro e w1 ⟨rfl, rfl⟩
      go_wp2_with fail
      go_ret
      exact ⟨ret_bool (by simp [okG]; omega), gb_alloc (gb_refl _ _) _⟩
  · go_enter Tryz.func48, Tryz.ntmps48
    go_wp2_with fail
    refine (specInV W 1 4 false (by simpa using h1) _).mono ?_
    rintro e w1 ⟨rfl, rfl⟩
    go_wp2_with fail
    go_ret
    exact ⟨ret_bool (by simp [okG]; omega), gb_alloc (gb_refl _ _) _⟩

theorem specNodeCount (W H : Int) (w : World) :
    Calls Tryz.prog 64 #[.agg #[.int .i64 W, .int .i64 H]] w (RetI (countG W H) none w) := by
  cases hok : okG W H with
  | true =>
    obtain ⟨hW, hH⟩ := okG_cases hok
    have hm : wrap64 (W * H) = countG W H := by
      simp only [countG, hok, if_true]
      rcases hW with rfl | rfl | rfl | rfl <;> rcases hH with rfl | rfl | rfl | rfl <;> exact IntWalk.wrap64_in _ (by omega)
    have Hm := Lib.hid hm
    clear hW hH hm
    go_enter Tryz.func64, Tryz.ntmps64
    go_wp2_with fail
    refine (specGridOk W H _).mono ?_
    rintro e w1 ⟨rfl, hg⟩
    have hb := box_blk hg
    have c0 : w1.cell? ⟨w.heap.size, 0, none⟩ = some (.int .i64 W) := hb.cell 0
    have c1 : w1.cell? ⟨w.heap.size, 1, none⟩ = some (.int .i64 H) := hb.cell 1
    have Hg := Lib.hid hg
    clear hg hb
    rw [hok]
    go_wp2_with fail
    go_ret
    exact ⟨ret_int64 (by rw [← Hm.out]), box_gb Hg.out⟩
  | false =>
    go_enter Tryz.func64, Tryz.ntmps64
    go_wp2_with fail
    refine (specGridOk W H _).mono ?_
    rintro e w1 ⟨rfl, hg⟩
    rw [hok]
    go_wp2_with fail
    go_ret
    exact ⟨ret_int64 (by simp [countG, hok]), box_gb hg⟩

theorem specHas (W H n : Int) (w : World) :
    Calls Tryz.prog 112 #[.agg #[.int .i64 W, .int .i64 H], .int .i64 n] w (RetB (hasG W H n) w) := by
  obtain ⟨k, hk⟩ : ∃ k, countG W H = k := ⟨_, rfl⟩
  have hl := countG_le W H
  rw [hk] at hl
  obtain ⟨hl0, hl1⟩ := hl
  go_enter Tryz.func112, Tryz.ntmps112
  go_wp2_with fail
  refine (specNodeCount W H _).mono ?_
  rintro e w1 ⟨rfl, hg⟩
  rw [hk]
  go_wp2_with fail
  refine (specInV n 0 _ (hasG W H n) (by unfold hasG; rw [hk]; exact decide_eq_decide.2 (by omega)) _).mono ?_
  rintro e w2 ⟨rfl, rfl⟩
  go_wp2_with fail
  go_ret
  exact ⟨rfl, box_gb hg⟩
theorem specHasV (W H n : Int) (b : Bool) (h : hasG W H n = b) (w : World) :
    Calls Tryz.prog 112 #[.agg #[.int .i64 W, .int .i64 H], .int .i64 n] w (RetB b w) := h ▸ specHas W H n w
end Go.Proofs.YtidilfakganooaaGreatDoor
end

section
namespace Go.Proofs.YtidilfakganooaaGreatDoor
open Go.ChangeShapes Go.WideShapes Go.ChangeAt Go.RowKit
set_option linter.unusedVariables false

theorem specNodeAt (W H x y : Int) (w : World) :
    Calls Tryz.prog 113 #[.agg #[.int .i64 W, .int .i64 H], .int .i64 x, .int .i64 y] w (RetI (atG W H x y) none w) := by
  cases hok : okG W H with
  | true =>
    obtain ⟨hW, hH⟩ := okG_cases hok
    by_cases hx : 0 ≤ x ∧ x ≤ W - 1
    · by_cases hy : 0 ≤ y ∧ y ≤ H - 1
      · rcases hW with rfl | rfl | rfl | rfl
        all_goals
          go_enter Tryz.func113, Tryz.ntmps113
          go_wp2_with fail
          refine (specGridOk _ H _).mono ?_
          rintro e w1 ⟨rfl, hg⟩
          have hb := box_blk hg
          have c0 := hb.cell 0
          have c1 := hb.cell 1
          have Hg := Lib.hid hg
          clear hg hb
          simp at c0 c1
          rw [hok]
          go_wp2_with fail
          refine (specInV x 0 _ true (by simp; omega) _).mono ?_
          rintro e w2 ⟨rfl, rfl⟩
          go_wp2_with fail
          refine (specInV y 0 _ true (by simp; omega) _).mono ?_
          rintro e w2 ⟨rfl, rfl⟩
          go_wp2_with fail
          go_ret
          exact ⟨ret_int64 (by unfold atG; rw [if_pos ⟨hok, by omega⟩] <;> omega), box_gb Hg.out⟩
      · go_enter Tryz.func113, Tryz.ntmps113
        go_wp2_with fail
        refine (specGridOk _ H _).mono ?_
        rintro e w1 ⟨rfl, hg⟩
        have hb := box_blk hg
        have c0 := hb.cell 0
        have c1 := hb.cell 1
        have Hg := Lib.hid hg
        clear hg hb
        simp at c0 c1
        rw [hok]
        go_wp2_with fail
        refine (specInV x 0 _ true (by simp; omega) _).mono ?_
        rintro e w2 ⟨rfl, rfl⟩
        go_wp2_with fail
        refine (specInV y 0 _ false (by simp; omega) _).mono ?_
        rintro e w2 ⟨rfl, rfl⟩
        go_wp2_with fail
        go_ret
        exact ⟨ret_int64 (by unfold atG; rw [if_neg (by rintro ⟨_, _⟩; omega)]), box_gb Hg.out⟩
    · go_enter Tryz.func113, Tryz.ntmps113
      go_wp2_with fail
      refine (specGridOk _ H _).mono ?_
      rintro e w1 ⟨rfl, hg⟩
      have hb := box_blk hg
      have c0 := hb.cell 0
      have c1 := hb.cell 1
      have Hg := Lib.hid hg
      clear hg hb
      simp at c0 c1
      rw [hok]
      go_wp2_with fail
      refine (specInV x 0 _ false (by simp; omega) _).mono ?_
      rintro e w2 ⟨rfl, rfl⟩
      go_wp2_with fail
      go_ret
      exact ⟨ret_int64 (by unfold atG; rw [if_neg (by rintro ⟨_, _⟩; omega)]), box_gb Hg.out⟩
  | false =>
    go_enter Tryz.func113, Tryz.ntmps113
    go_wp2_with fail
    refine (specGridOk W H _).mono ?_
    rintro e w1 ⟨rfl, hg⟩
    rw [hok]
    go_wp2_with fail
    go_ret
    exact ⟨ret_int64 (by unfold atG; rw [if_neg (by rintro ⟨h, _⟩; rw [hok] at h; cases h)]), box_gb hg⟩
end Go.Proofs.YtidilfakganooaaGreatDoor
end

section
namespace Go.Proofs.YtidilfakganooaaGreatDoor
open Go.ChangeShapes Go.WideShapes Go.ChangeAt Go.RowKit
set_option linter.unusedVariables false

theorem specNodeAtV (W H x y n : Int) (h : atG W H x y = n) (w : World) :
    Calls Tryz.prog 113 #[.agg #[.int .i64 W, .int .i64 H], .int .i64 x, .int .i64 y] w (RetI n none w) := h ▸ specNodeAt W H x y w

theorem specNextNode (W H n p : Int) (w : World) :
    Calls Tryz.prog 97 #[.agg #[.int .i64 W, .int .i64 H], .int .i64 n, .int .i64 p] w (RetI (nextG W H n p) none w) := by
  cases hh : hasG W H n with
  | true =>
    obtain ⟨hW, hH⟩ := okG_cases (hasG_ok hh).1
    obtain ⟨h0, h1⟩ := hasG_le hh
    have hq := row_wrap h0 h1 hW
    obtain ⟨a0, a1, a2, a3, a4⟩ := place_of hh
    have hW1 : 1 ≤ W := by omega
    have hW2 : W ≤ 4 := by omega
    have hH2 : H ≤ 4 := by omega
    have hN : nextG W H n p = (if p = 0 then atG W H (n % W) (n / W - 1) else if p = 1 then atG W H (n % W + 1) (n / W) else if p = 2 then atG W H (n % W) (n / W + 1) else if p = 3 then atG W H (n % W - 1) (n / W) else if p = 4 then n else -1) := by simp [nextG, hh]
    obtain ⟨x, hx⟩ : ∃ x, n % W = x := ⟨_, rfl⟩
    obtain ⟨y, hy⟩ : ∃ y, n / W = y := ⟨_, rfl⟩
    rw [hx, hy] at hN
    rw [hx] at a0 a1
    rw [hy] at a2 a3 hq
    obtain ⟨r, hr⟩ : ∃ r, nextG W H n p = r := ⟨_, rfl⟩
    rw [hr] at hN ⊢
    have hd : n.tdiv W = y := by rw [Int.tdiv_eq_ediv_of_nonneg h0]; exact hy
    clear a4 hW hH hr hq
    by_cases p0 : p = 0
    · subst p0
      simp at hN
      go_enter Tryz.func97, Tryz.ntmps97
      go_wp2_with fail
      refine (specHas W H n _).mono ?_
      rintro e w1 ⟨rfl, hg⟩
      have hb := box_blk hg
      have c0 := hb.cell 0
      have c1 := hb.cell 1
      have Hg := Lib.hid (box_gb hg)
      clear hg hb
      simp at c0 c1
      rw [hh]
      go_wp2_with fail
      simp only [hx]
      refine (specNodeAtV W H (x) (y - 1) r hN.symm _).mono ?_
      rintro e w2 ⟨rfl, hg2⟩
      have Hg2 := Lib.hid hg2
      clear hg2
      go_wp2_with fail
      go_ret
      exact ⟨ret_int64 hN.symm, gb_trans Hg.out Hg2.out⟩
    by_cases p1 : p = 1
    · subst p1
      simp at hN
      go_enter Tryz.func97, Tryz.ntmps97
      go_wp2_with fail
      refine (specHas W H n _).mono ?_
      rintro e w1 ⟨rfl, hg⟩
      have hb := box_blk hg
      have c0 := hb.cell 0
      have c1 := hb.cell 1
      have Hg := Lib.hid (box_gb hg)
      clear hg hb
      simp at c0 c1
      rw [hh]
      go_wp2_with fail
      simp only [hx]
      refine (specNodeAtV W H (x + 1) (y) r hN.symm _).mono ?_
      rintro e w2 ⟨rfl, hg2⟩
      have Hg2 := Lib.hid hg2
      clear hg2
      go_wp2_with fail
      go_ret
      exact ⟨ret_int64 hN.symm, gb_trans Hg.out Hg2.out⟩
    by_cases p2 : p = 2
    · subst p2
      simp at hN
      go_enter Tryz.func97, Tryz.ntmps97
      go_wp2_with fail
      refine (specHas W H n _).mono ?_
      rintro e w1 ⟨rfl, hg⟩
      have hb := box_blk hg
      have c0 := hb.cell 0
      have c1 := hb.cell 1
      have Hg := Lib.hid (box_gb hg)
      clear hg hb
      simp at c0 c1
      rw [hh]
      go_wp2_with fail
      simp only [hx]
      refine (specNodeAtV W H (x) (y + 1) r hN.symm _).mono ?_
      rintro e w2 ⟨rfl, hg2⟩
      have Hg2 := Lib.hid hg2
      clear hg2
      go_wp2_with fail
      go_ret
      exact ⟨ret_int64 hN.symm, gb_trans Hg.out Hg2.out⟩
    by_cases p3 : p = 3
    · subst p3
      simp at hN
      go_enter Tryz.func97, Tryz.ntmps97
      go_wp2_with fail
      refine (specHas W H n _).mono ?_
      rintro e w1 ⟨rfl, hg⟩
      have hb := box_blk hg
      have c0 := hb.cell 0
      have c1 := hb.cell 1
      have Hg := Lib.hid (box_gb hg)
      clear hg hb
      simp at c0 c1
      rw [hh]
      go_wp2_with fail
      simp only [hx]
      refine (specNodeAtV W H (x - 1) (y) r hN.symm _).mono ?_
      rintro e w2 ⟨rfl, hg2⟩
      have Hg2 := Lib.hid hg2
      clear hg2
      go_wp2_with fail
      go_ret
      exact ⟨ret_int64 hN.symm, gb_trans Hg.out Hg2.out⟩
    by_cases p4 : p = 4
    · subst p4
      simp at hN
      go_enter Tryz.func97, Tryz.ntmps97
      go_wp2_with fail
      refine (specHas W H n _).mono ?_
      rintro e w1 ⟨rfl, hg⟩
      have hb := box_blk hg
      have c0 := hb.cell 0
      have c1 := hb.cell 1
      have Hg := Lib.hid (box_gb hg)
      clear hg hb
      simp at c0 c1
      rw [hh]
      go_wp2_with fail
      go_ret
      exact ⟨ret_int64 hN.symm, Hg.out⟩
    simp [p0, p1, p2, p3, p4] at hN
    have q0 : (p == 0) = false := by simpa using p0
    have q1 : (p == 1) = false := by simpa using p1
    have q2 : (p == 2) = false := by simpa using p2
    have q3 : (p == 3) = false := by simpa using p3
    have q4 : (p == 4) = false := by simpa using p4
    clear p0 p1 p2 p3 p4
    · skip
      go_enter Tryz.func97, Tryz.ntmps97
      go_wp2_with fail
      refine (specHas W H n _).mono ?_
      rintro e w1 ⟨rfl, hg⟩
      have hb := box_blk hg
      have c0 := hb.cell 0
      have c1 := hb.cell 1
      have Hg := Lib.hid (box_gb hg)
      clear hg hb
      simp at c0 c1
      rw [hh]
      go_wp2_with fail
      go_ret
      exact ⟨ret_int64 hN.symm, Hg.out⟩
  | false =>
    go_enter Tryz.func97, Tryz.ntmps97
    go_wp2_with fail
    refine (specHas W H n _).mono ?_
    rintro e w1 ⟨rfl, hg⟩
    rw [hh]
    go_wp2_with fail
    go_ret
    exact ⟨ret_int64 (by simp [nextG, hh]), box_gb hg⟩

theorem specNextNodeV (W H n p r : Int) (h : nextG W H n p = r) (w : World) :
    Calls Tryz.prog 97 #[.agg #[.int .i64 W, .int .i64 H], .int .i64 n, .int .i64 p] w (RetI r none w) := h ▸ specNextNode W H n p w
theorem specNodeCountV (W H k : Int) (h : countG W H = k) (w : World) :
    Calls Tryz.prog 64 #[.agg #[.int .i64 W, .int .i64 H]] w (RetI k none w) := h ▸ specNodeCount W H w

theorem specLeads (W H c : Int) (w : World) :
    Calls Tryz.prog 106 #[.agg #[.int .i64 W, .int .i64 H], .int .i64 c] w (RetB (leadsG W H c) w) := by
  obtain ⟨k, hk⟩ : ∃ k, countG W H = k := ⟨_, rfl⟩
  obtain ⟨hk0, hk1⟩ := countG_le W H
  rw [hk] at hk0 hk1
  have hL : leadsG W H c = decide (0 ≤ c ∧ c < 4 * k ∧ 0 ≤ nextG W H (c / 4) (c % 4)) := by rw [leadsG, hk]
  by_cases hc : 0 ≤ c ∧ c ≤ 4 * k - 1
  · have hb : decide (0 ≤ c ∧ c ≤ 4 * k - 1) = true := decide_eq_true hc
    obtain ⟨hc0, hc1⟩ := hc
    have hcN : c ≤ 63 := by omega
    obtain ⟨r, hr⟩ : ∃ r, nextG W H (c / 4) (c % 4) = r := ⟨_, rfl⟩
    have hd : c.tdiv 4 = c / 4 := Int.tdiv_eq_ediv_of_nonneg hc0
    have hm : c.tmod 4 = c % 4 := Int.tmod_eq_emod_of_nonneg hc0
    have hL2 : leadsG W H c = decide (0 ≤ r) := by rw [hL, hr]; exact decide_eq_decide.2 ⟨fun h => h.2.2, fun h => ⟨hc0, by omega, h⟩⟩
    have HL := Lib.hid hL2
    clear hL hL2
    go_enter Tryz.func106, Tryz.ntmps106
    go_wp2_with fail
    refine (specNodeCountV W H k hk _).mono ?_
    rintro e w1 ⟨rfl, hg⟩
    have hb1 := box_blk hg
    have c0 := hb1.cell 0
    have c1 := hb1.cell 1
    have Hg := Lib.hid (box_gb hg)
    clear hg hb1
    simp at c0 c1
    go_wp2_with fail
    refine (specInV c 0 _ true hb _).mono ?_
    rintro e w2 ⟨rfl, rfl⟩
    go_wp2_with fail
    refine (specNextNodeV W H (c / 4) (c % 4) r hr _).mono ?_
    rintro e w3 ⟨rfl, hg3⟩
    have Hg3 := Lib.hid hg3
    clear hg3
    go_wp2_with fail
    go_ret
    exact ⟨ret_bool (by rw [HL.out]), gb_trans Hg.out Hg3.out⟩
  · have hb : decide (0 ≤ c ∧ c ≤ 4 * k - 1) = false := decide_eq_false hc
    have hL2 : leadsG W H c = false := by rw [hL]; exact decide_eq_false (fun h => hc ⟨h.1, by omega⟩)
    clear hc hL
    go_enter Tryz.func106, Tryz.ntmps106
    go_wp2_with fail
    refine (specNodeCountV W H k hk _).mono ?_
    rintro e w1 ⟨rfl, hg⟩
    have Hg := Lib.hid (box_gb hg)
    clear hg
    go_wp2_with fail
    refine (specInV c 0 _ false hb _).mono ?_
    rintro e w2 ⟨rfl, rfl⟩
    go_wp2_with fail
    go_ret
    exact ⟨ret_bool (by rw [hL2]), Hg.out⟩

theorem specLeadsV (W H c : Int) (b : Bool) (h : leadsG W H c = b) (w : World) :
    Calls Tryz.prog 106 #[.agg #[.int .i64 W, .int .i64 H], .int .i64 c] w (RetB b w) := h ▸ specLeads W H c w
end Go.Proofs.YtidilfakganooaaGreatDoor
end

section
namespace Go.Proofs.YtidilfakganooaaGreatDoor
open Go.ChangeShapes Go.WideShapes Go.ChangeAt Go.RowKit
set_option linter.unusedVariables false
set_option linter.unusedSimpArgs false

theorem specFind (A : Option Addr) (n cap B : Nat) (L : List Int) (c : Int) (w : World) (h : IntAt w B A n L) (hn : n ≤ 1000000000) :
    Calls Tryz.prog 68 #[.slice A n cap, .int .i64 c] w fun e w' => e = .returned (.bool (inG L c)) ∧ w = w' := by
  have hl := h.1
  have HI := Lib.hid h
  clear h
  go_enter Tryz.func68, Tryz.ntmps68
  go_wp2_with fail
  go_loop [5] (fun i => ∃ k : Nat, i = .int .i64 (k : Int) ∧ k ≤ n ∧ ∀ j, j < k → L.getD j 0 ≠ c) (fun i => n - (intOf i).toNat)
  case atStart => exact ⟨0, rfl, Nat.zero_le _, fun j h => by omega⟩
  case round =>
    obtain ⟨k, rfl, hk, hne⟩ := hrel
    have HNE := Lib.hid hne
    clear hne
    by_cases hlt : k < n
    · obtain ⟨b, off, rfl, hb, hc⟩ := HI.out.at k hlt
      obtain ⟨x, hx⟩ : ∃ x, L.getD k 0 = x := ⟨_, rfl⟩
      rw [hx] at hc
      have HX := Lib.hid hx
      clear hx
      by_cases hxc : x = c
      · subst hxc
        go_wp2_with fail
        go_ret
        exact ⟨ret_bool (inG_yes (by omega) HX.out).symm, rfl⟩
      · have hxb : (x == c) = false := by simpa using hxc
        have HXC := Lib.hid hxc
        clear hxc
        go_wp2_with fail
        go_round
        case rel => exact ⟨k + 1, by go_num, by omega, fun j hj => by
          rcases Nat.lt_succ_iff_lt_or_eq.1 hj with h1 | rfl
          · exact HNE.out j h1
          · rw [HX.out]; exact HXC.out⟩
        case measure => simp [intOf]; omega
    · obtain rfl : k = n := by omega
      go_wp2_with fail
      go_ret
      exact ⟨ret_bool (inG_no (fun j hj => HNE.out j (by omega))).symm, rfl⟩
theorem specFindV (A : Option Addr) (n cap B : Nat) (L : List Int) (c : Int) (b : Bool) (hb : inG L c = b) (w : World) (h : IntAt w B A n L) (hn : n ≤ 1000000000) :
    Calls Tryz.prog 68 #[.slice A n cap, .int .i64 c] w fun e w' => e = .returned (.bool b) ∧ w = w' := hb ▸ specFind A n cap B L c w h hn
end Go.Proofs.YtidilfakganooaaGreatDoor
end

section
namespace Go.Proofs.YtidilfakganooaaGreatDoor
open Go.ChangeShapes Go.WideShapes Go.ChangeAt Go.RowKit
set_option linter.unusedVariables false
set_option linter.unusedSimpArgs false

theorem gb_undraw {a b : World} {row : Option Nat} (h : a.drew.grownBy b row) : a.grownBy b row := ⟨h.os, h.tape, h.output, h.size, h.block⟩

set_option maxHeartbeats 3200000 in
theorem specMeshOk (W H : Int) (A : Option Addr) (n cap : Nat) (L : List Int) (w : World) (h : IntAt w w.heap.size A n L) (hn : n ≤ 1000000000) :
    Calls Tryz.prog 95 #[.agg #[.int .i64 W, .int .i64 H, .slice A n cap]] w (RetB (meshG W H L) w) := by
  have hl := h.1
  have HI := Lib.hid h
  clear h
  cases hok : okG W H with
  | false =>
    go_enter Tryz.func95, Tryz.ntmps95
    go_wp2_with fail
    refine (specGridOk W H _).mono ?_
    rintro e w1 ⟨rfl, hg⟩
    rw [hok]
    go_wp2_with fail
    go_ret
    exact ⟨ret_bool (meshG_bad hok).symm, box_gb hg⟩
  | true =>
    go_enter Tryz.func95, Tryz.ntmps95
    go_wp2_with fail
    refine (specGridOk W H _).mono ?_
    rintro e w1 ⟨rfl, hg⟩
    have HM := Lib.hid (show MeshAt W H L A n cap w 0 w1 from ⟨goodTo_zero W H L, hg⟩)
    clear hg
    rw [hok]
    go_wp2_with fail
    go_loopw [3] (fun i wr => ∃ k : Nat, i = .int .i64 (k : Int) ∧ k ≤ n ∧ MeshAt W H L A n cap w k wr) (fun i _ => n - (intOf i).toNat)
    case atStart => exact ⟨0, rfl, Nat.zero_le _, HM.out⟩
    case round =>
      obtain ⟨k, rfl, hk, hgood, hg⟩ := hrel
      have HGo := Lib.hid hgood
      have HG := Lib.hid hg
      have hbk := box_blk hg
      have HBK := Lib.hid hbk
      have a0 : wr.cell? ⟨w.heap.size, 0, none⟩ = some (.int .i64 W) := hbk.cell 0
      have a1 : wr.cell? ⟨w.heap.size, 1, none⟩ = some (.int .i64 H) := hbk.cell 1
      have a2 : wr.cell? ⟨w.heap.size, 2, none⟩ = some (.slice A n cap) := hbk.cell 2
      have hia := HI.out.none (Nat.le_refl _) (box_gb hg)
      have HIA := Lib.hid hia
      clear hg hgood hbk
      by_cases hlt : k < n
      · obtain ⟨b, off, rfl, hb, hc⟩ := hia.at k hlt
        obtain ⟨x, hx⟩ : ∃ x, L.getD k 0 = x := ⟨_, rfl⟩
        rw [hx] at hc
        clear hia
        have hk0 : (0 : Int) ≤ (k : Int) := by omega
        have hk1 : (k : Int) < (n : Int) := by omega
        cases hld : leadsG W H x with
        | false =>
          have HBad := Lib.hid (meshG_no (by omega) (goodAt_lead hx hld))
          have CL := Lib.hid (fun w => specLeadsV W H x false hld w)
          clear hx hld
          go_wp2_with fail
          refine wp_region_held_drew (S := (fun w' => w'.cell? ⟨w.heap.size, 0, none⟩ = some (.int .i64 W) ∧ w'.cell? ⟨w.heap.size, 1, none⟩ = some (.int .i64 H) ∧ w'.cell? ⟨w.heap.size, 2, none⟩ = some (.slice (some ⟨b, off, none⟩) n cap) ∧ w'.cell? ⟨b, off + k, none⟩ = some (.int .i64 x))) (by kernel_rfl) (⟨a0, a1, a2, hc⟩) (fun hHeld => ?_)
          refine wpAnyH_take (i := 0) (v := ?_) rfl (by kernel_rfl) (by kernel_rfl) (by kernel_rfl) (fun _ _ _ h => h) (Or.inl ⟨by rfl, ?_⟩) (by assumption) ?_
          rotate_left
          · intro wq hSw; (try dsimp only at hSw); go_simp; (try with_reducible rfl)
          simp only [List.getElem_toArray, List.getElem_cons_succ, List.getElem_cons_zero, Act.put, List.setIfInBounds_toArray, List.set_cons_zero, List.set_cons_succ]
          refine wpAnyH_take (i := 1) (v := ?_) rfl (by kernel_rfl) (by kernel_rfl) (by kernel_rfl) (fun _ _ _ h => h) (Or.inl ⟨by rfl, ?_⟩) (by assumption) ?_
          rotate_left
          · intro wq hSw; (try dsimp only at hSw); go_simp; (try with_reducible rfl)
          simp only [List.getElem_toArray, List.getElem_cons_succ, List.getElem_cons_zero, Act.put, List.setIfInBounds_toArray, List.set_cons_zero, List.set_cons_succ]
          refine wpAnyH_take (i := 2) (v := ?_) rfl (by kernel_rfl) (by kernel_rfl) (by kernel_rfl) (fun _ _ _ h => h) (Or.inl ⟨by rfl, ?_⟩) (by assumption) ?_
          rotate_left
          · intro wq hSw; (try dsimp only at hSw); go_simp; (try with_reducible rfl)
          simp only [List.getElem_toArray, List.getElem_cons_succ, List.getElem_cons_zero, Act.put, List.setIfInBounds_toArray, List.set_cons_zero, List.set_cons_succ]
          refine wpAnyH_take (i := 3) (v := ?_) rfl (by kernel_rfl) (by kernel_rfl) (by kernel_rfl) (fun _ _ _ h => h) (Or.inl ⟨by rfl, ?_⟩) (by assumption) ?_
          rotate_left
          · intro wq hSw; (try dsimp only at hSw); go_simp; (try with_reducible rfl)
          simp only [List.getElem_toArray, List.getElem_cons_succ, List.getElem_cons_zero, Act.put, List.setIfInBounds_toArray, List.set_cons_zero, List.set_cons_succ]
          refine wpAnyH_take (i := 4) (v := ?_) rfl (by kernel_rfl) (by kernel_rfl) (by kernel_rfl) (fun _ _ _ h => h) (Or.inl ⟨by rfl, ?_⟩) (by assumption) ?_
          rotate_left
          · intro wq hSw; (try dsimp only at hSw); go_simp; (try with_reducible rfl)
          simp only [List.getElem_toArray, List.getElem_cons_succ, List.getElem_cons_zero, Act.put, List.setIfInBounds_toArray, List.set_cons_zero, List.set_cons_succ]
          refine wpAnyH_take (i := 5) (v := ?_) rfl (by kernel_rfl) (by kernel_rfl) (by kernel_rfl) (fun _ _ _ h => h) (Or.inl ⟨by rfl, ?_⟩) (by assumption) ?_
          rotate_left
          · intro wq hSw; (try dsimp only at hSw); go_simp; (try with_reducible rfl)
          simp only [List.getElem_toArray, List.getElem_cons_succ, List.getElem_cons_zero, Act.put, List.setIfInBounds_toArray, List.set_cons_zero, List.set_cons_succ]
          refine wpAnyH_take (i := 6) (v := ?_) rfl (by kernel_rfl) (by kernel_rfl) (by kernel_rfl) (fun _ _ _ h => h) (Or.inl ⟨by rfl, ?_⟩) (by assumption) ?_
          rotate_left
          · intro wq hSw; (try dsimp only at hSw); go_simp; (try with_reducible rfl)
          simp only [List.getElem_toArray, List.getElem_cons_succ, List.getElem_cons_zero, Act.put, List.setIfInBounds_toArray, List.set_cons_zero, List.set_cons_succ]
          refine wpAnyH_ready (rs := [7]) (by kernel_rfl) (by simp) ?_
          refine AllReadyH.cons rfl (fun K hK => ?_) AllReadyH.nil
          go_simp
          (with_reducible refine (CL.out _).mono ?_); rintro e w2 ⟨rfl, hg2⟩; have hg3 := gb_trans HG.out (gb_undraw hg2); have kk := box_blk hg3; have d0 : w2.cell? ⟨w.heap.size, 0, none⟩ = some (.int .i64 W) := kk.cell 0; have d1 : w2.cell? ⟨w.heap.size, 1, none⟩ = some (.int .i64 H) := kk.cell 1; have d2 : w2.cell? ⟨w.heap.size, 2, none⟩ = some (.slice (some ⟨b, off, none⟩) n cap) := kk.cell 2; have dc := (hg2.cell hc (by simp)); have HG3 := Lib.hid hg3; clear hg2 hg3 kk
          try go_wp2_with fail
          refine hK.out _ _ (⟨d0, d1, d2, dc⟩) (fun hHeld => ?_)
          clear hK K
          try simp only [List.getElem_toArray, List.getElem_cons_succ, List.getElem_cons_zero, Act.put, List.setIfInBounds_toArray, List.set_cons_zero, List.set_cons_succ]
          refine wpAnyH_take (i := 8) (v := ?_) rfl (by kernel_rfl) (by kernel_rfl) (by kernel_rfl) (fun _ _ _ h => h) (Or.inl ⟨by rfl, ?_⟩) (by assumption) ?_
          rotate_left
          · intro wq hSw; (try dsimp only at hSw); go_simp; (try with_reducible rfl)
          simp only [List.getElem_toArray, List.getElem_cons_succ, List.getElem_cons_zero, Act.put, List.setIfInBounds_toArray, List.set_cons_zero, List.set_cons_succ]
          refine wpAnyH_take (i := 9) (v := ?_) rfl (by kernel_rfl) (by kernel_rfl) (by kernel_rfl) (fun _ _ _ h => h) (Or.inl ⟨by rfl, ?_⟩) (by assumption) ?_
          rotate_left
          · intro wq hSw; (try dsimp only at hSw); go_simp; (try with_reducible rfl)
          simp only [List.getElem_toArray, List.getElem_cons_succ, List.getElem_cons_zero, Act.put, List.setIfInBounds_toArray, List.set_cons_zero, List.set_cons_succ]
          refine wpAnyH_take (i := 10) (v := undef) rfl (by kernel_rfl) (by kernel_rfl) (by kernel_rfl) (fun _ _ _ h => h) (Or.inr ⟨by rfl, rfl⟩) (by assumption) ?_
          simp only [List.getElem_toArray, List.getElem_cons_succ, List.getElem_cons_zero, Act.put, List.setIfInBounds_toArray, List.set_cons_zero, List.set_cons_succ]
          refine wpAnyH_take (i := 11) (v := undef) rfl (by kernel_rfl) (by kernel_rfl) (by kernel_rfl) (fun _ _ _ h => h) (Or.inr ⟨by rfl, rfl⟩) (by assumption) ?_
          simp only [List.getElem_toArray, List.getElem_cons_succ, List.getElem_cons_zero, Act.put, List.setIfInBounds_toArray, List.set_cons_zero, List.set_cons_succ]
          refine wpAnyH_take (i := 12) (v := undef) rfl (by kernel_rfl) (by kernel_rfl) (by kernel_rfl) (fun _ _ _ h => h) (Or.inr ⟨by rfl, rfl⟩) (by assumption) ?_
          simp only [List.getElem_toArray, List.getElem_cons_succ, List.getElem_cons_zero, Act.put, List.setIfInBounds_toArray, List.set_cons_zero, List.set_cons_succ]
          refine wpAnyH_take (i := 13) (v := undef) rfl (by kernel_rfl) (by kernel_rfl) (by kernel_rfl) (fun _ _ _ h => h) (Or.inr ⟨by rfl, rfl⟩) (by assumption) ?_
          simp only [List.getElem_toArray, List.getElem_cons_succ, List.getElem_cons_zero, Act.put, List.setIfInBounds_toArray, List.set_cons_zero, List.set_cons_succ]
          refine wpAnyH_take (i := 14) (v := undef) rfl (by kernel_rfl) (by kernel_rfl) (by kernel_rfl) (fun _ _ _ h => h) (Or.inr ⟨by rfl, rfl⟩) (by assumption) ?_
          simp only [List.getElem_toArray, List.getElem_cons_succ, List.getElem_cons_zero, Act.put, List.setIfInBounds_toArray, List.set_cons_zero, List.set_cons_succ]
          refine wpAnyH_take (i := 15) (v := undef) rfl (by kernel_rfl) (by kernel_rfl) (by kernel_rfl) (fun _ _ _ h => h) (Or.inr ⟨by rfl, rfl⟩) (by assumption) ?_
          simp only [List.getElem_toArray, List.getElem_cons_succ, List.getElem_cons_zero, Act.put, List.setIfInBounds_toArray, List.set_cons_zero, List.set_cons_succ]
          refine wpAnyH_take (i := 16) (v := undef) rfl (by kernel_rfl) (by kernel_rfl) (by kernel_rfl) (fun _ _ _ h => h) (Or.inr ⟨by rfl, rfl⟩) (by assumption) ?_
          simp only [List.getElem_toArray, List.getElem_cons_succ, List.getElem_cons_zero, Act.put, List.setIfInBounds_toArray, List.set_cons_zero, List.set_cons_succ]
          refine wpAnyH_take (i := 17) (v := undef) rfl (by kernel_rfl) (by kernel_rfl) (by kernel_rfl) (fun _ _ _ h => h) (Or.inr ⟨by rfl, rfl⟩) (by assumption) ?_
          simp only [List.getElem_toArray, List.getElem_cons_succ, List.getElem_cons_zero, Act.put, List.setIfInBounds_toArray, List.set_cons_zero, List.set_cons_succ]
          refine wpAnyH_take (i := 18) (v := undef) rfl (by kernel_rfl) (by kernel_rfl) (by kernel_rfl) (fun _ _ _ h => h) (Or.inr ⟨by rfl, rfl⟩) (by assumption) ?_
          simp only [List.getElem_toArray, List.getElem_cons_succ, List.getElem_cons_zero, Act.put, List.setIfInBounds_toArray, List.set_cons_zero, List.set_cons_succ]
          refine wpAnyH_take (i := 19) (v := undef) rfl (by kernel_rfl) (by kernel_rfl) (by kernel_rfl) (fun _ _ _ h => h) (Or.inr ⟨by rfl, rfl⟩) (by assumption) ?_
          simp only [List.getElem_toArray, List.getElem_cons_succ, List.getElem_cons_zero, Act.put, List.setIfInBounds_toArray, List.set_cons_zero, List.set_cons_succ]
          refine wpAnyH_take (i := 20) (v := undef) rfl (by kernel_rfl) (by kernel_rfl) (by kernel_rfl) (fun _ _ _ h => h) (Or.inr ⟨by rfl, rfl⟩) (by assumption) ?_
          simp only [List.getElem_toArray, List.getElem_cons_succ, List.getElem_cons_zero, Act.put, List.setIfInBounds_toArray, List.set_cons_zero, List.set_cons_succ]
          refine wpAnyH_take (i := 21) (v := undef) rfl (by kernel_rfl) (by kernel_rfl) (by kernel_rfl) (fun _ _ _ h => h) (Or.inr ⟨by rfl, rfl⟩) (by assumption) ?_
          simp only [List.getElem_toArray, List.getElem_cons_succ, List.getElem_cons_zero, Act.put, List.setIfInBounds_toArray, List.set_cons_zero, List.set_cons_succ]
          refine wpAnyH_take (i := 22) (v := undef) rfl (by kernel_rfl) (by kernel_rfl) (by kernel_rfl) (fun _ _ _ h => h) (Or.inr ⟨by rfl, rfl⟩) (by assumption) ?_
          simp only [List.getElem_toArray, List.getElem_cons_succ, List.getElem_cons_zero, Act.put, List.setIfInBounds_toArray, List.set_cons_zero, List.set_cons_succ]
          refine wpAnyH_take (i := 23) (v := undef) rfl (by kernel_rfl) (by kernel_rfl) (by kernel_rfl) (fun _ _ _ h => h) (Or.inr ⟨by rfl, rfl⟩) (by assumption) ?_
          simp only [List.getElem_toArray, List.getElem_cons_succ, List.getElem_cons_zero, Act.put, List.setIfInBounds_toArray, List.set_cons_zero, List.set_cons_succ]
          refine wpAnyH_take (i := 24) (v := undef) rfl (by kernel_rfl) (by kernel_rfl) (by kernel_rfl) (fun _ _ _ h => h) (Or.inr ⟨by rfl, rfl⟩) (by assumption) ?_
          simp only [List.getElem_toArray, List.getElem_cons_succ, List.getElem_cons_zero, Act.put, List.setIfInBounds_toArray, List.set_cons_zero, List.set_cons_succ]
          refine wpAnyH_take (i := 25) (v := undef) rfl (by kernel_rfl) (by kernel_rfl) (by kernel_rfl) (fun _ _ _ h => h) (Or.inr ⟨by rfl, rfl⟩) (by assumption) ?_
          simp only [List.getElem_toArray, List.getElem_cons_succ, List.getElem_cons_zero, Act.put, List.setIfInBounds_toArray, List.set_cons_zero, List.set_cons_succ]
          refine wpAnyH_take (i := 26) (v := ?_) rfl (by kernel_rfl) (by kernel_rfl) (by kernel_rfl) (fun _ _ _ h => h) (Or.inl ⟨by rfl, ?_⟩) (by assumption) ?_
          rotate_left
          · intro wq hSw; (try dsimp only at hSw); go_simp; (try with_reducible rfl)
          simp only [List.getElem_toArray, List.getElem_cons_succ, List.getElem_cons_zero, Act.put, List.setIfInBounds_toArray, List.set_cons_zero, List.set_cons_succ]
          refine wpAnyH_done (by kernel_rfl) ?_ _
          go_wp2_with fail
          go_ret
          exact ⟨ret_bool HBad.out.symm, box_gb HG3.out⟩
        | true =>
          have CL := Lib.hid (fun w => specLeadsV W H x true hld w)
          cases k with
          | zero =>
            have HNx := Lib.hid (goodTo_succ HGo.out (goodAt_first hx hld))
            clear hx hld
            rw [Nat.add_zero] at hc
            go_wp2_with fail
            refine wp_region_held_drew (S := (fun w' => w'.cell? ⟨w.heap.size, 0, none⟩ = some (.int .i64 W) ∧ w'.cell? ⟨w.heap.size, 1, none⟩ = some (.int .i64 H) ∧ w'.cell? ⟨w.heap.size, 2, none⟩ = some (.slice (some ⟨b, off, none⟩) n cap) ∧ w'.cell? ⟨b, off, none⟩ = some (.int .i64 x))) (by kernel_rfl) (⟨a0, a1, a2, hc⟩) (fun hHeld => ?_)
            refine wpAnyH_take (i := 0) (v := ?_) rfl (by kernel_rfl) (by kernel_rfl) (by kernel_rfl) (fun _ _ _ h => h) (Or.inl ⟨by rfl, ?_⟩) (by assumption) ?_
            rotate_left
            · intro wq hSw; (try dsimp only at hSw); go_simp; (try with_reducible rfl)
            simp only [List.getElem_toArray, List.getElem_cons_succ, List.getElem_cons_zero, Act.put, List.setIfInBounds_toArray, List.set_cons_zero, List.set_cons_succ]
            refine wpAnyH_take (i := 1) (v := ?_) rfl (by kernel_rfl) (by kernel_rfl) (by kernel_rfl) (fun _ _ _ h => h) (Or.inl ⟨by rfl, ?_⟩) (by assumption) ?_
            rotate_left
            · intro wq hSw; (try dsimp only at hSw); go_simp; (try with_reducible rfl)
            simp only [List.getElem_toArray, List.getElem_cons_succ, List.getElem_cons_zero, Act.put, List.setIfInBounds_toArray, List.set_cons_zero, List.set_cons_succ]
            refine wpAnyH_take (i := 2) (v := ?_) rfl (by kernel_rfl) (by kernel_rfl) (by kernel_rfl) (fun _ _ _ h => h) (Or.inl ⟨by rfl, ?_⟩) (by assumption) ?_
            rotate_left
            · intro wq hSw; (try dsimp only at hSw); go_simp; (try with_reducible rfl)
            simp only [List.getElem_toArray, List.getElem_cons_succ, List.getElem_cons_zero, Act.put, List.setIfInBounds_toArray, List.set_cons_zero, List.set_cons_succ]
            refine wpAnyH_take (i := 3) (v := ?_) rfl (by kernel_rfl) (by kernel_rfl) (by kernel_rfl) (fun _ _ _ h => h) (Or.inl ⟨by rfl, ?_⟩) (by assumption) ?_
            rotate_left
            · intro wq hSw; (try dsimp only at hSw); go_simp; (try with_reducible rfl)
            simp only [List.getElem_toArray, List.getElem_cons_succ, List.getElem_cons_zero, Act.put, List.setIfInBounds_toArray, List.set_cons_zero, List.set_cons_succ]
            refine wpAnyH_take (i := 4) (v := ?_) rfl (by kernel_rfl) (by kernel_rfl) (by kernel_rfl) (fun _ _ _ h => h) (Or.inl ⟨by rfl, ?_⟩) (by assumption) ?_
            rotate_left
            · intro wq hSw; (try dsimp only at hSw); go_simp; (try with_reducible rfl)
            simp only [List.getElem_toArray, List.getElem_cons_succ, List.getElem_cons_zero, Act.put, List.setIfInBounds_toArray, List.set_cons_zero, List.set_cons_succ]
            refine wpAnyH_take (i := 5) (v := ?_) rfl (by kernel_rfl) (by kernel_rfl) (by kernel_rfl) (fun _ _ _ h => h) (Or.inl ⟨by rfl, ?_⟩) (by assumption) ?_
            rotate_left
            · intro wq hSw; (try dsimp only at hSw); go_simp; (try with_reducible rfl)
            simp only [List.getElem_toArray, List.getElem_cons_succ, List.getElem_cons_zero, Act.put, List.setIfInBounds_toArray, List.set_cons_zero, List.set_cons_succ]
            refine wpAnyH_take (i := 6) (v := ?_) rfl (by kernel_rfl) (by kernel_rfl) (by kernel_rfl) (fun _ _ _ h => h) (Or.inl ⟨by rfl, ?_⟩) (by assumption) ?_
            rotate_left
            · intro wq hSw; (try dsimp only at hSw); go_simp; (try with_reducible rfl)
            simp only [List.getElem_toArray, List.getElem_cons_succ, List.getElem_cons_zero, Act.put, List.setIfInBounds_toArray, List.set_cons_zero, List.set_cons_succ]
            refine wpAnyH_ready (rs := [7]) (by kernel_rfl) (by simp) ?_
            refine AllReadyH.cons rfl (fun K hK => ?_) AllReadyH.nil
            go_simp
            (with_reducible refine (CL.out _).mono ?_); rintro e w2 ⟨rfl, hg2⟩; have hg3 := gb_trans HG.out (gb_undraw hg2); have kk := box_blk hg3; have d0 : w2.cell? ⟨w.heap.size, 0, none⟩ = some (.int .i64 W) := kk.cell 0; have d1 : w2.cell? ⟨w.heap.size, 1, none⟩ = some (.int .i64 H) := kk.cell 1; have d2 : w2.cell? ⟨w.heap.size, 2, none⟩ = some (.slice (some ⟨b, off, none⟩) n cap) := kk.cell 2; have dc := (hg2.cell hc (by simp)); have HG3 := Lib.hid hg3; clear hg2 hg3 kk
            try go_wp2_with fail
            refine hK.out _ _ (⟨d0, d1, d2, dc⟩) (fun hHeld => ?_)
            clear hK K
            try simp only [List.getElem_toArray, List.getElem_cons_succ, List.getElem_cons_zero, Act.put, List.setIfInBounds_toArray, List.set_cons_zero, List.set_cons_succ]
            refine wpAnyH_take (i := 8) (v := ?_) rfl (by kernel_rfl) (by kernel_rfl) (by kernel_rfl) (fun _ _ _ h => h) (Or.inl ⟨by rfl, ?_⟩) (by assumption) ?_
            rotate_left
            · intro wq hSw; (try dsimp only at hSw); go_simp; (try with_reducible rfl)
            simp only [List.getElem_toArray, List.getElem_cons_succ, List.getElem_cons_zero, Act.put, List.setIfInBounds_toArray, List.set_cons_zero, List.set_cons_succ]
            refine wpAnyH_take (i := 9) (v := ?_) rfl (by kernel_rfl) (by kernel_rfl) (by kernel_rfl) (fun _ _ _ h => h) (Or.inl ⟨by rfl, ?_⟩) (by assumption) ?_
            rotate_left
            · intro wq hSw; (try dsimp only at hSw); go_simp; (try with_reducible rfl)
            simp only [List.getElem_toArray, List.getElem_cons_succ, List.getElem_cons_zero, Act.put, List.setIfInBounds_toArray, List.set_cons_zero, List.set_cons_succ]
            refine wpAnyH_take (i := 10) (v := ?_) rfl (by kernel_rfl) (by kernel_rfl) (by kernel_rfl) (fun _ _ _ h => h) (Or.inl ⟨by rfl, ?_⟩) (by assumption) ?_
            rotate_left
            · intro wq hSw; (try dsimp only at hSw); go_simp; (try with_reducible rfl)
            simp only [List.getElem_toArray, List.getElem_cons_succ, List.getElem_cons_zero, Act.put, List.setIfInBounds_toArray, List.set_cons_zero, List.set_cons_succ]
            refine wpAnyH_take (i := 11) (v := ?_) rfl (by kernel_rfl) (by kernel_rfl) (by kernel_rfl) (fun _ _ _ h => h) (Or.inl ⟨by rfl, ?_⟩) (by assumption) ?_
            rotate_left
            · intro wq hSw; (try dsimp only at hSw); go_simp; (try with_reducible rfl)
            simp only [List.getElem_toArray, List.getElem_cons_succ, List.getElem_cons_zero, Act.put, List.setIfInBounds_toArray, List.set_cons_zero, List.set_cons_succ]
            refine wpAnyH_take (i := 12) (v := ?_) rfl (by kernel_rfl) (by kernel_rfl) (by kernel_rfl) (fun _ _ _ h => h) (Or.inl ⟨by rfl, ?_⟩) (by assumption) ?_
            rotate_left
            · intro wq hSw; (try dsimp only at hSw); go_simp; (try with_reducible rfl)
            simp only [List.getElem_toArray, List.getElem_cons_succ, List.getElem_cons_zero, Act.put, List.setIfInBounds_toArray, List.set_cons_zero, List.set_cons_succ]
            refine wpAnyH_take (i := 13) (v := undef) rfl (by kernel_rfl) (by kernel_rfl) (by kernel_rfl) (fun _ _ _ h => h) (Or.inr ⟨by rfl, rfl⟩) (by assumption) ?_
            simp only [List.getElem_toArray, List.getElem_cons_succ, List.getElem_cons_zero, Act.put, List.setIfInBounds_toArray, List.set_cons_zero, List.set_cons_succ]
            refine wpAnyH_take (i := 14) (v := undef) rfl (by kernel_rfl) (by kernel_rfl) (by kernel_rfl) (fun _ _ _ h => h) (Or.inr ⟨by rfl, rfl⟩) (by assumption) ?_
            simp only [List.getElem_toArray, List.getElem_cons_succ, List.getElem_cons_zero, Act.put, List.setIfInBounds_toArray, List.set_cons_zero, List.set_cons_succ]
            refine wpAnyH_take (i := 15) (v := undef) rfl (by kernel_rfl) (by kernel_rfl) (by kernel_rfl) (fun _ _ _ h => h) (Or.inr ⟨by rfl, rfl⟩) (by assumption) ?_
            simp only [List.getElem_toArray, List.getElem_cons_succ, List.getElem_cons_zero, Act.put, List.setIfInBounds_toArray, List.set_cons_zero, List.set_cons_succ]
            refine wpAnyH_take (i := 16) (v := undef) rfl (by kernel_rfl) (by kernel_rfl) (by kernel_rfl) (fun _ _ _ h => h) (Or.inr ⟨by rfl, rfl⟩) (by assumption) ?_
            simp only [List.getElem_toArray, List.getElem_cons_succ, List.getElem_cons_zero, Act.put, List.setIfInBounds_toArray, List.set_cons_zero, List.set_cons_succ]
            refine wpAnyH_take (i := 17) (v := undef) rfl (by kernel_rfl) (by kernel_rfl) (by kernel_rfl) (fun _ _ _ h => h) (Or.inr ⟨by rfl, rfl⟩) (by assumption) ?_
            simp only [List.getElem_toArray, List.getElem_cons_succ, List.getElem_cons_zero, Act.put, List.setIfInBounds_toArray, List.set_cons_zero, List.set_cons_succ]
            refine wpAnyH_take (i := 18) (v := undef) rfl (by kernel_rfl) (by kernel_rfl) (by kernel_rfl) (fun _ _ _ h => h) (Or.inr ⟨by rfl, rfl⟩) (by assumption) ?_
            simp only [List.getElem_toArray, List.getElem_cons_succ, List.getElem_cons_zero, Act.put, List.setIfInBounds_toArray, List.set_cons_zero, List.set_cons_succ]
            refine wpAnyH_take (i := 19) (v := undef) rfl (by kernel_rfl) (by kernel_rfl) (by kernel_rfl) (fun _ _ _ h => h) (Or.inr ⟨by rfl, rfl⟩) (by assumption) ?_
            simp only [List.getElem_toArray, List.getElem_cons_succ, List.getElem_cons_zero, Act.put, List.setIfInBounds_toArray, List.set_cons_zero, List.set_cons_succ]
            refine wpAnyH_take (i := 20) (v := undef) rfl (by kernel_rfl) (by kernel_rfl) (by kernel_rfl) (fun _ _ _ h => h) (Or.inr ⟨by rfl, rfl⟩) (by assumption) ?_
            simp only [List.getElem_toArray, List.getElem_cons_succ, List.getElem_cons_zero, Act.put, List.setIfInBounds_toArray, List.set_cons_zero, List.set_cons_succ]
            refine wpAnyH_take (i := 21) (v := undef) rfl (by kernel_rfl) (by kernel_rfl) (by kernel_rfl) (fun _ _ _ h => h) (Or.inr ⟨by rfl, rfl⟩) (by assumption) ?_
            simp only [List.getElem_toArray, List.getElem_cons_succ, List.getElem_cons_zero, Act.put, List.setIfInBounds_toArray, List.set_cons_zero, List.set_cons_succ]
            refine wpAnyH_take (i := 22) (v := undef) rfl (by kernel_rfl) (by kernel_rfl) (by kernel_rfl) (fun _ _ _ h => h) (Or.inr ⟨by rfl, rfl⟩) (by assumption) ?_
            simp only [List.getElem_toArray, List.getElem_cons_succ, List.getElem_cons_zero, Act.put, List.setIfInBounds_toArray, List.set_cons_zero, List.set_cons_succ]
            refine wpAnyH_take (i := 23) (v := undef) rfl (by kernel_rfl) (by kernel_rfl) (by kernel_rfl) (fun _ _ _ h => h) (Or.inr ⟨by rfl, rfl⟩) (by assumption) ?_
            simp only [List.getElem_toArray, List.getElem_cons_succ, List.getElem_cons_zero, Act.put, List.setIfInBounds_toArray, List.set_cons_zero, List.set_cons_succ]
            refine wpAnyH_take (i := 24) (v := undef) rfl (by kernel_rfl) (by kernel_rfl) (by kernel_rfl) (fun _ _ _ h => h) (Or.inr ⟨by rfl, rfl⟩) (by assumption) ?_
            simp only [List.getElem_toArray, List.getElem_cons_succ, List.getElem_cons_zero, Act.put, List.setIfInBounds_toArray, List.set_cons_zero, List.set_cons_succ]
            refine wpAnyH_take (i := 25) (v := ?_) rfl (by kernel_rfl) (by kernel_rfl) (by kernel_rfl) (fun _ _ _ h => h) (Or.inl ⟨by rfl, ?_⟩) (by assumption) ?_
            rotate_left
            · intro wq hSw; (try dsimp only at hSw); go_simp; (try with_reducible rfl)
            simp only [List.getElem_toArray, List.getElem_cons_succ, List.getElem_cons_zero, Act.put, List.setIfInBounds_toArray, List.set_cons_zero, List.set_cons_succ]
            refine wpAnyH_take (i := 26) (v := ?_) rfl (by kernel_rfl) (by kernel_rfl) (by kernel_rfl) (fun _ _ _ h => h) (Or.inl ⟨by rfl, ?_⟩) (by assumption) ?_
            rotate_left
            · intro wq hSw; (try dsimp only at hSw); go_simp; (try with_reducible rfl)
            simp only [List.getElem_toArray, List.getElem_cons_succ, List.getElem_cons_zero, Act.put, List.setIfInBounds_toArray, List.set_cons_zero, List.set_cons_succ]
            refine wpAnyH_done (by kernel_rfl) ?_ _
            go_wp2_with fail
            go_roundw
            case rel => exact ⟨1, by go_num, by omega, HNx.out, HG3.out⟩
            case measure => simp [intOf] <;> omega
          | succ j =>
            obtain ⟨b', off', hbe, _, hc2⟩ := HIA.out.at j (by omega)
            obtain ⟨rfl, rfl⟩ : b = b' ∧ off = off' := by injection hbe with h1; injection h1 with h2 h3; exact ⟨h2, h3⟩
            obtain ⟨y, hy⟩ : ∃ y, L.getD j 0 = y := ⟨_, rfl⟩
            rw [hy] at hc2
            have hga := goodAt_next hx hy hld
            have e1 : IntKind.i64.wrap ((j : Int) + 1 - 1) = (j : Int) := by rw [Int.add_sub_cancel]; exact IntWalk.i64_in _ (by omega)
            have e2 : IntKind.i64.wrap (((j + 1 : Nat) : Int) - 1) = (j : Int) := by rw [IntWalk.i64_in _ (by omega)]; omega
            have e3 : IntKind.i64.wrap (j : Int) = (j : Int) := IntWalk.i64_in _ (by omega)
            have j0 : (0 : Int) ≤ (j : Int) := by omega
            have j1 : (j : Int) < (n : Int) := by omega
            have j2 : (0 : Int) ≤ (j : Int) + 1 := by omega
            have j3 : (j : Int) + 1 < (n : Int) := by omega
            have j4 : ((j : Int) + 1).toNat = j + 1 := by omega
            by_cases hyx : y < x
            · have hle : decide (x ≤ y) = false := decide_eq_false (by omega)
              have hgd : goodAt W H L (j + 1) = true := by rw [hga]; exact decide_eq_true hyx
              have HNx := Lib.hid (goodTo_succ HGo.out hgd)
              clear hx hy hld hbe hga hgd hyx
              go_wp2_with fail
              first
              | go_region_held3 (fun w' => w'.cell? ⟨w.heap.size, 0, none⟩ = some (.int .i64 W) ∧ w'.cell? ⟨w.heap.size, 1, none⟩ = some (.int .i64 H) ∧ w'.cell? ⟨w.heap.size, 2, none⟩ = some (.slice (some ⟨b, off, none⟩) n cap) ∧ w'.cell? ⟨b, off + (j + 1), none⟩ = some (.int .i64 x) ∧ w'.cell? ⟨b, off + j, none⟩ = some (.int .i64 y))
                  (first | exact ⟨a0, a1, a2, hc, hc2⟩ | exact ⟨d0, d1, d2, dc, dc2⟩)
                  (first | (go_at_call 106; (with_reducible refine (CL.out _).mono ?_); rintro e w2 ⟨rfl, hg2⟩; have hg3 := gb_trans HG.out (gb_undraw hg2); have kk := box_blk hg3; have d0 : w2.cell? ⟨w.heap.size, 0, none⟩ = some (.int .i64 W) := kk.cell 0; have d1 : w2.cell? ⟨w.heap.size, 1, none⟩ = some (.int .i64 H) := kk.cell 1; have d2 : w2.cell? ⟨w.heap.size, 2, none⟩ = some (.slice (some ⟨b, off, none⟩) n cap) := kk.cell 2; have dc := (hg2.cell hc (by simp)); have dc2 := (hg2.cell hc2 (by simp)); have HG3 := Lib.hid hg3; clear hg2 hg3 kk) | fail)
              | fail "held"
              all_goals
                go_wp2_with fail
                go_roundw
                case rel => exact ⟨j + 2, by go_num, by omega, HNx.out, HG3.out⟩
                case measure => simp [intOf] <;> omega
            · have hle : decide (x ≤ y) = true := decide_eq_true (by omega)
              have hgd : goodAt W H L (j + 1) = false := by rw [hga]; exact decide_eq_false hyx
              have HBad := Lib.hid (meshG_no (i := j + 1) (by omega) hgd)
              clear hx hy hld hbe hga hgd hyx
              go_wp2_with fail
              first
              | go_region_held3 (fun w' => w'.cell? ⟨w.heap.size, 0, none⟩ = some (.int .i64 W) ∧ w'.cell? ⟨w.heap.size, 1, none⟩ = some (.int .i64 H) ∧ w'.cell? ⟨w.heap.size, 2, none⟩ = some (.slice (some ⟨b, off, none⟩) n cap) ∧ w'.cell? ⟨b, off + (j + 1), none⟩ = some (.int .i64 x) ∧ w'.cell? ⟨b, off + j, none⟩ = some (.int .i64 y))
                  (first | exact ⟨a0, a1, a2, hc, hc2⟩ | exact ⟨d0, d1, d2, dc, dc2⟩)
                  (first | (go_at_call 106; (with_reducible refine (CL.out _).mono ?_); rintro e w2 ⟨rfl, hg2⟩; have hg3 := gb_trans HG.out (gb_undraw hg2); have kk := box_blk hg3; have d0 : w2.cell? ⟨w.heap.size, 0, none⟩ = some (.int .i64 W) := kk.cell 0; have d1 : w2.cell? ⟨w.heap.size, 1, none⟩ = some (.int .i64 H) := kk.cell 1; have d2 : w2.cell? ⟨w.heap.size, 2, none⟩ = some (.slice (some ⟨b, off, none⟩) n cap) := kk.cell 2; have dc := (hg2.cell hc (by simp)); have dc2 := (hg2.cell hc2 (by simp)); have HG3 := Lib.hid hg3; clear hg2 hg3 kk) | fail)
              | fail "held"
              all_goals
                go_wp2_with fail
                go_ret
                exact ⟨ret_bool HBad.out.symm, box_gb HG3.out⟩
      · obtain rfl : k = n := by omega
        clear hia
        go_wp2_with fail
        go_ret
        exact ⟨ret_bool (meshG_yes hok (by rw [hl]; exact HGo.out)).symm, box_gb HG.out⟩
end Go.Proofs.YtidilfakganooaaGreatDoor
end

section
namespace Go.Proofs.YtidilfakganooaaGreatDoor
open Go.ChangeShapes Go.WideShapes Go.ChangeAt Go.RowKit
set_option linter.unusedVariables false

theorem specMeshOkV (W H : Int) (A : Option Addr) (n cap : Nat) (L : List Int) (b : Bool) (hb : meshG W H L = b) (w : World) (h : IntAt w w.heap.size A n L) (hn : n ≤ 1000000000) :
    Calls Tryz.prog 95 #[.agg #[.int .i64 W, .int .i64 H, .slice A n cap]] w (RetB b w) := hb ▸ specMeshOk W H A n cap L w h hn

theorem specHasCh (W H : Int) (A : Option Addr) (n cap : Nat) (L : List Int) (c : Int) (w : World) (h : IntAt w w.heap.size A n L) (hn : n ≤ 1000000000) :
    Calls Tryz.prog 96 #[.agg #[.int .i64 W, .int .i64 H, .slice A n cap], .int .i64 c] w (RetB (hasChG W H L c) w) := by
  have HI := Lib.hid h
  clear h
  cases hld : leadsG W H c with
  | false =>
    go_enter Tryz.func96, Tryz.ntmps96
    go_wp2_with fail
    refine (specLeadsV W H c false hld _).mono ?_
    rintro e w1 ⟨rfl, hg⟩
    have Hg := Lib.hid (box_gb hg)
    clear hg
    go_wp2_with fail
    go_ret
    exact ⟨ret_bool (by simp [hasChG, hld]), Hg.out⟩
  | true =>
    obtain ⟨b, hb⟩ : ∃ b, inG L c = b := ⟨_, rfl⟩
    have hr : hasChG W H L c = !b := by simp [hasChG, hld, hb]
    have HR := Lib.hid hr
    clear hr
    go_enter Tryz.func96, Tryz.ntmps96
    go_wp2_with fail
    refine (specLeadsV W H c true hld _).mono ?_
    rintro e w1 ⟨rfl, hg⟩
    have hbk := box_blk hg
    have a2 := hbk.cell 2
    simp at a2
    have hi := HI.out.none (Nat.le_refl _) (box_gb hg)
    have Hg := Lib.hid (box_gb hg)
    clear hg hbk
    go_wp2_with fail
    refine (specFindV A n cap w.heap.size L c b hb _ hi hn).mono ?_
    rintro e w2 ⟨rfl, rfl⟩
    clear hi
    go_wp2_with fail
    go_ret
    exact ⟨ret_bool (by rw [HR.out]), Hg.out⟩

theorem specHasChV (W H : Int) (A : Option Addr) (n cap : Nat) (L : List Int) (c : Int) (b : Bool) (hb : hasChG W H L c = b) (w : World) (h : IntAt w w.heap.size A n L) (hn : n ≤ 1000000000) :
    Calls Tryz.prog 96 #[.agg #[.int .i64 W, .int .i64 H, .slice A n cap], .int .i64 c] w (RetB b w) := hb ▸ specHasCh W H A n cap L c w h hn
end Go.Proofs.YtidilfakganooaaGreatDoor
end

section
namespace Go.Proofs.YtidilfakganooaaGreatDoor
open Go.ChangeShapes Go.WideShapes Go.ChangeAt Go.RowKit
set_option linter.unusedVariables false

theorem box2 {w w1 : World} {T U : TypeId} {cs ds : Array Value} (h : ((w.alloc (.cells cs T)).alloc (.cells ds U)).grownBy w1 none) :
    Blk w1 w.heap.size T cs ∧ Blk w1 (w.heap.size + 1) U ds ∧ w.grownBy w1 none := by
  refine ⟨((Blk.new w T cs).alloc _).grown h (by simp), ?_, gb_trans (gb_alloc (gb_alloc (gb_refl _ _) _) _) h⟩
  have := (Blk.new (w.alloc (.cells cs T)) U ds).grown h (by simp)
  rwa [alloc_size] at this
theorem sq_bounds {k : Int} (h0 : 0 ≤ k) (h1 : k ≤ 16) : 0 ≤ k * k ∧ k * k ≤ 256 := by
  have e : k = (k.toNat : Int) := (Int.toNat_of_nonneg h0).symm
  have h2 : k.toNat ≤ 16 := by omega
  have h3 : k.toNat * k.toNat ≤ 16 * 16 := Nat.mul_le_mul h2 h2
  rw [e, ← Int.natCast_mul]
  omega
end Go.Proofs.YtidilfakganooaaGreatDoor
end

section
namespace Go.Proofs.YtidilfakganooaaGreatDoor
open Go.ChangeShapes Go.WideShapes Go.ChangeAt Go.RowKit
set_option linter.unusedVariables false

theorem specSized (W H : Int) (A A2 : Option Addr) (n cap n2 c2 : Nat) (L P : List Int) (b : Bool) (hb : sizedG W H L P = b) (w : World) (h : IntAt w w.heap.size A n L) (hn : n ≤ 1000000000) (hp : P.length = n2) (hn2 : n2 ≤ 1000000000) :
    Calls Tryz.prog 63 #[.agg #[.int .i64 W, .int .i64 H, .slice A n cap], .agg #[.slice A2 n2 c2]] w (RetB b w) := by
  have HI := Lib.hid h
  clear h
  obtain ⟨k, hk⟩ : ∃ k, countG W H = k := ⟨_, rfl⟩
  obtain ⟨hk0, hk1⟩ := countG_le W H
  rw [hk] at hk0 hk1
  obtain ⟨m0, m1⟩ := sq_bounds hk0 hk1
  have hsz : sizedG W H L P = (meshG W H L && decide ((n2 : Int) = k * k)) := by rw [sizedG, hk, hp]
  have hw : wrap64 (k * k) = k * k := IntWalk.wrap64_in _ (by omega)
  have HN := Lib.hid (fun w => specNodeCountV W H k hk w)
  rw [hb] at hsz
  clear hk hk0 hk1 m0 m1 hp hb
  cases hm : meshG W H L with
  | false =>
    have HM := Lib.hid (fun w h => specMeshOkV W H A n cap L false hm w h hn)
    have hf : b = false := by rw [hsz, hm]; rfl
    have HF := Lib.hid hf
    clear hm hf hsz hw
    go_enter Tryz.func63, Tryz.ntmps63
    go_wp2_with fail
    refine (HN.out _).mono ?_
    rintro e w1 ⟨rfl, hg⟩
    obtain ⟨k1, k2, g1⟩ := box2 hg
    have a0 : w1.cell? ⟨w.heap.size, 0, none⟩ = some (.int .i64 W) := k1.cell 0
    have a1 : w1.cell? ⟨w.heap.size, 1, none⟩ = some (.int .i64 H) := k1.cell 1
    have a2 : w1.cell? ⟨w.heap.size, 2, none⟩ = some (.slice A n cap) := k1.cell 2
    have hi := (HI.out.none (Nat.le_refl _) g1).more (B' := w1.heap.size) g1.size
    have G1 := Lib.hid g1
    clear hg k1 k2 g1
    go_wp2_with fail
    refine (HM.out _ hi).mono ?_
    rintro e w2 ⟨rfl, hg2⟩
    have G2 := Lib.hid (gb_trans G1.out hg2)
    clear hg2 hi
    go_wp2_with fail
    go_ret
    exact ⟨ret_bool HF.out.symm, G2.out⟩
  | true =>
    have HM := Lib.hid (fun w h => specMeshOkV W H A n cap L true hm w h hn)
    have hf : b = decide ((n2 : Int) = k * k) := by rw [hsz, hm]; rfl
    have HF := Lib.hid hf
    have HW := Lib.hid hw
    clear hm hf hsz hw
    go_enter Tryz.func63, Tryz.ntmps63
    go_wp2_with fail
    refine (HN.out _).mono ?_
    rintro e w1 ⟨rfl, hg⟩
    obtain ⟨k1, k2, g1⟩ := box2 hg
    have a0 : w1.cell? ⟨w.heap.size, 0, none⟩ = some (.int .i64 W) := k1.cell 0
    have a1 : w1.cell? ⟨w.heap.size, 1, none⟩ = some (.int .i64 H) := k1.cell 1
    have a2 : w1.cell? ⟨w.heap.size, 2, none⟩ = some (.slice A n cap) := k1.cell 2
    have hi := (HI.out.none (Nat.le_refl _) g1).more (B' := w1.heap.size) g1.size
    have G1 := Lib.hid g1
    have K2 := Lib.hid k2
    clear hg k1 k2 g1
    go_wp2_with fail
    refine (HM.out _ hi).mono ?_
    rintro e w2 ⟨rfl, hg2⟩
    have b0 : w2.cell? ⟨w.heap.size + 1, 0, none⟩ = some (.slice A2 n2 c2) := (K2.out.grown hg2 (by simp)).cell 0
    have G2 := Lib.hid (gb_trans G1.out hg2)
    clear hg2 hi a0 a1 a2
    go_wp2_with fail
    go_ret
    exact ⟨ret_bool (by rw [HF.out]; simp only [HW.out]; rfl), G2.out⟩
end Go.Proofs.YtidilfakganooaaGreatDoor
end

section
namespace Go.Proofs.YtidilfakganooaaGreatDoor
open Go.ChangeShapes Go.WideShapes Go.ChangeAt Go.RowKit
set_option linter.unusedVariables false
set_option maxRecDepth 20000

/-- A mesh and a table as blocks. -/
def twoB (W H : Int) (A A2 : Option Addr) (n cap n2 c2 : Nat) (w : World) : World := (w.alloc (.cells (meshC W H A n cap) 28)).alloc (.cells #[.slice A2 n2 c2] 30)
section
variable {W H : Int} {A A2 : Option Addr} {n cap n2 c2 : Nat} {w wr : World}
theorem twoB_size : (twoB W H A A2 n cap n2 c2 w).heap.size = w.heap.size + 2 := by unfold twoB; rw [alloc_size, alloc_size]
theorem twoB_below : Below w.heap.size w (twoB W H A A2 n cap n2 c2 w) := ((Below.refl _ _).alloc (Nat.le_refl _) _).alloc (by rw [alloc_size]; omega) _
theorem twoB_mesh (h : Below (w.heap.size + 2) (twoB W H A A2 n cap n2 c2 w) wr) : Blk wr w.heap.size 28 (meshC W H A n cap) :=
  ((Blk.new w 28 (meshC W H A n cap)).alloc _).below h (by omega)
theorem twoB_table (h : Below (w.heap.size + 2) (twoB W H A A2 n cap n2 c2 w) wr) : Blk wr (w.heap.size + 1) 30 #[.slice A2 n2 c2] := by
  have := Blk.new (w.alloc (.cells (meshC W H A n cap) 28)) 30 #[.slice A2 n2 c2]
  rw [alloc_size] at this
  exact this.below h (by omega)
theorem twoB_old (h : Below (w.heap.size + 2) (twoB W H A A2 n cap n2 c2 w) wr) : Below w.heap.size w wr :=
  twoB_below.trans (h.mono (by omega))
theorem twoB_le (h : Below (w.heap.size + 2) (twoB W H A A2 n cap n2 c2 w) wr) : w.heap.size + 2 ≤ wr.heap.size := by have := h.size; rw [twoB_size] at this; exact this
end
theorem new_nil {w wr : World} (h : Below w.heap.size w wr) : (wr.alloc (.cells #[] 3)).ownsRow w.heap.size 3 1 (.slice (some ⟨wr.heap.size, 0, none⟩) 0 0) 0 [] ∧ Below w.heap.size w (wr.alloc (.cells #[] 3)) :=
  ⟨World.ownsRow_made (base := w.heap.size) (e := 3) (size := 1) wr #[] 0 h.size (by decide) rfl, h.alloc h.size _⟩

def lenV : Value → Nat | .slice _ n _ => n | _ => 0
def WalkAt (W H : Int) (A A2 : Option Addr) (n cap n2 c2 : Nat) (w : World) (acc : List Int) (v : Value) (wr : World) : Prop :=
  wr.ownsRow (w.heap.size + 2) 3 1 v acc.length (intsV acc) ∧ Below (w.heap.size + 2) (twoB W H A A2 n cap n2 c2 w) wr

theorem WalkAt.app {W H : Int} {A A2 : Option Addr} {n cap n2 c2 : Nat} {w w3 w4 : World} {acc : List Int} {x : Int} {v v' : Value} {o : Obj} (hb : Below (w.heap.size + 2) (twoB W H A A2 n cap n2 c2 w) w3) (ho : w3.ownsRow (w.heap.size + 2) 3 1 v acc.length (intsV acc))
    (hown4 : w4.ownsRow (w.heap.size + 2) 3 1 v' (acc.length + 1) (intsV acc ++ [.int .i64 x])) (hg : (w3.alloc o).grownBy w4 v.ownBlock) :
    WalkAt W H A A2 n cap n2 c2 w (acc ++ [x]) v' w4 ∧ lenV v' = acc.length + 1 ∧ w4.cell? ⟨w.heap.size, 0, none⟩ = some (.int .i64 W) ∧ w4.cell? ⟨w.heap.size, 1, none⟩ = some (.int .i64 H) := by
  have hX : WalkAt W H A A2 n cap n2 c2 w (acc ++ [x]) v' w4 :=
    ⟨by rw [List.length_append, intsV_append]; exact hown4, (hb.alloc (twoB_le hb) _).grown hg (by have := twoB_le hb; simp; omega) (fun j hj => (ho.lt j hj).1)⟩
  refine ⟨hX, ?_, (twoB_mesh hX.2).cell 0, (twoB_mesh hX.2).cell 1⟩
  obtain ⟨A', c', rfl, _⟩ := own_form hX.1
  simp [lenV]

set_option maxHeartbeats 1600000 in
theorem specWalk (W H : Int) (A A2 : Option Addr) (n cap n2 c2 : Nat) (L P : List Int) (a z : Int) (w : World) (h : IntAt w w.heap.size A n L) (h2 : IntAt w w.heap.size A2 n2 P) (hn : n ≤ 1000000000) (hn2 : n2 ≤ 1000000000)
    (hs : sizedG W H L P = true) (ha : hasG W H a = true) (hz : hasG W H z = true) :
    Calls Tryz.prog 65 #[.agg #[.int .i64 W, .int .i64 H, .slice A n cap], .agg #[.slice A2 n2 c2], .int .i64 a, .int .i64 z] w (NewI (walkOf W H L P a z) w) := by
  obtain ⟨i0, hi, hz0, hz1, hz2⟩ := info_parts info_int
  have hp := h2.1
  have HI := Lib.hid h
  have HP := Lib.hid h2
  clear h h2
  obtain ⟨k, hk⟩ : ∃ k, countG W H = k := ⟨_, rfl⟩
  obtain ⟨hk0, hk1⟩ := countG_le W H
  rw [hk] at hk0 hk1
  have hsq := (sizedG_mesh hs).2
  rw [hp, hk] at hsq
  have HSQ := Lib.hid hsq
  have HN := Lib.hid (fun w => specNodeCountV W H k hk w)
  have HK := Lib.hid hk
  have hzz := hasG_iff.1 hz
  rw [hk] at hzz
  have HZ := Lib.hid hzz
  have HA := Lib.hid ha
  have HRS := Lib.hid (show walkOf W H L P a z = restG W H L P z [] (k.toNat + 1) a by rw [← hk]; exact (rest_start a z).symm)
  obtain ⟨res, hres⟩ : ∃ res, walkOf W H L P a z = res := ⟨_, rfl⟩
  rw [hres] at HRS ⊢
  have hown0 : ((twoB W H A A2 n cap n2 c2 w).alloc (.cells #[] 3)).ownsRow (w.heap.size + 2) 3 1 (.slice (some ⟨w.heap.size + 2, 0, none⟩) 0 0) 0 [] := by
    have := World.ownsRow_made (base := w.heap.size + 2) (e := 3) (size := 1) (twoB W H A A2 n cap n2 c2 w) #[] 0 (by rw [twoB_size]; exact Nat.le_refl _) (by decide) rfl
    rwa [twoB_size] at this
  have HO0 := Lib.hid hown0
  have HB0 := Lib.hid (show Below (w.heap.size + 2) (twoB W H A A2 n cap n2 c2 w) ((twoB W H A A2 n cap n2 c2 w).alloc (.cells #[] 3)) from (Below.refl _ _).alloc (by rw [twoB_size]; exact Nat.le_refl _) _)
  clear hk hs ha hz hsq hzz hres hown0 hp
  go_enter Tryz.func65, Tryz.ntmps65
  go_wp2_with fail
  refine (HN.out _).mono ?_
  rintro e w1 ⟨rfl, hg⟩
  have HX := Lib.hid (show WalkAt W H A A2 n cap n2 c2 w [] (.slice (some ⟨w.heap.size + 2, 0, none⟩) 0 0) w1 from
    ⟨own_none HO0.out hg, below_gb HB0.out (by rw [twoB_size]; exact Nat.le_refl _) hg⟩)
  clear hg
  go_wp2_with fail
  go_loopw [9, 11] (fun v i wr => ∃ (acc : List Int) (x : Int), i = .int .i64 x ∧ (acc.length : Int) ≤ k + 1 ∧ hasG W H x = true ∧ res = restG W H L P z acc (k.toNat + 1 - acc.length) x ∧ WalkAt W H A A2 n cap n2 c2 w acc v wr) (fun v _ _ => 17 - lenV v)
  case atStart => exact ⟨[], a, rfl, by simp; omega, HA.out, HRS.out, HX.out⟩
  case round =>
    obtain ⟨acc, x, rfl, hl, hx, hre, hown, hbel⟩ := hrel
    obtain ⟨Aq, capq, rfl, hAq⟩ := own_form hown
    have HOwn := Lib.hid hown
    have HBel := Lib.hid hbel
    have hl17 : acc.length ≤ 17 := by omega
    have tb := twoB_table hbel
    have b0 : wr.cell? ⟨w.heap.size + 1, 0, none⟩ = some (.slice A2 n2 c2) := tb.cell 0
    have hsw := twoB_le hbel
    have hbo := twoB_old hbel
    have HX := Lib.hid hx
    have HRE := Lib.hid hre
    have HAQ := Lib.hid hAq
    obtain ⟨x0, x1⟩ := hasG_iff.1 hx
    rw [HK.out] at x1
    clear hown hbel tb hx hre hAq
    by_cases hlt : (acc.length : Int) ≤ k
    · obtain ⟨t0, t1⟩ := tab_at HSQ.out x0 x1 HZ.out.1 HZ.out.2
      obtain ⟨j, hj⟩ : ∃ j : Nat, x * k + z = (j : Int) := ⟨(x * k + z).toNat, (Int.toNat_of_nonneg t0).symm⟩
      have hjn : j < n2 := by omega
      have hak := Int.mul_nonneg x0 hk0
      have hz0 := HZ.out.1
      have e1 : wrap64 (x * k) = x * k := IntWalk.wrap64_in _ (by omega)
      have e2 : wrap64 (x * k + z) = (j : Int) := by rw [hj]; exact IntWalk.wrap64_in _ (by omega)
      obtain ⟨b, off, rfl, hbB, hcell⟩ := (HP.out.below hbo).at j hjn
      obtain ⟨p, hpp⟩ : ∃ p, P.getD j 0 = p := ⟨_, rfl⟩
      rw [hpp] at hcell
      have htab : tabG (countG W H) P x z = p := by unfold tabG; rw [HK.out, hj, Int.toNat_natCast]; exact hpp
      obtain ⟨f, hf⟩ : ∃ f, k.toNat + 1 - acc.length = f + 1 := ⟨k.toNat - acc.length, by omega⟩
      have hre := HRE.out
      rw [hf] at hre
      have HF := Lib.hid hf
      have HT := Lib.hid htab
      have HRE2 := Lib.hid hre
      have HHJ := Lib.hid hj
      have x16 : x ≤ 15 := by omega
      have HBO := Lib.hid hbo
      have j0 : (0 : Int) ≤ (j : Int) := by omega
      have j1 : (j : Int) < (n2 : Int) := by omega
      clear hj hpp htab hf hre t0 t1 hak hz0 hbo
      by_cases h4 : p = 4
      · subst h4
        by_cases hxz : x = z
        · have hxb : (x != z) = false := by simpa using hxz
          have HF2 := Lib.hid (HRE2.out.trans (rest_end HT.out hxz))
          clear hxz
          go_wp2_with fail
          go_ret
          refine ⟨_, rfl, ?_, HBO.out⟩
          rw [HF2.out]
          exact own_less HOwn.out (by omega)
        · have hxb : (x != z) = true := by simpa using hxz
          have HF2 := Lib.hid (HRE2.out.trans (rest_lost HT.out hxz))
          clear hxz
          go_wp2_with fail
          go_ret
          obtain ⟨o, b⟩ := new_nil HBO.out
          refine ⟨_, rfl, ?_, b⟩
          rw [HF2.out]
          exact o
      · have h4b : (p == 4) = false := by simpa using h4
        have H4 := Lib.hid h4
        clear h4
        by_cases h03 : 0 ≤ p ∧ p ≤ 3
        · have HIN := Lib.hid (fun w => specInV p 0 3 true (decide_eq_true h03) w)
          obtain ⟨p0, p3⟩ := h03
          have hi2 := (HI.out.below HBO.out).more (B' := wr.heap.size) (by omega)
          have tm := twoB_mesh HBel.out
          have a0 : wr.cell? ⟨w.heap.size, 0, none⟩ = some (.int .i64 W) := tm.cell 0
          have a1 : wr.cell? ⟨w.heap.size, 1, none⟩ = some (.int .i64 H) := tm.cell 1
          have a2 : wr.cell? ⟨w.heap.size, 2, none⟩ = some (.slice A n cap) := tm.cell 2
          have TM := Lib.hid tm
          clear tm
          cases hc : hasChG W H L (4 * x + p) with
          | false =>
            have HC := Lib.hid (fun w h => specHasChV W H A n cap L (4 * x + p) false hc w h hn)
            have HF2 := Lib.hid (HRE2.out.trans (rest_bad HT.out H4.out (by simp [stepsG, hc])))
            clear hc
            go_wp2_with fail
            refine (HIN.out _).mono ?_
            rintro e w2 ⟨rfl, rfl⟩
            go_wp2_with fail
            refine (HC.out _ hi2).mono ?_
            rintro e w3 ⟨rfl, hg3⟩
            have G3 := Lib.hid (gb_below_none hg3 (Nat.le_trans HBO.out.size (Nat.le_refl _)))
            clear hg3 hi2
            go_wp2_with fail
            go_ret
            obtain ⟨o, b⟩ := new_nil (HBO.out.trans G3.out)
            refine ⟨_, rfl, ?_, b⟩
            rw [HF2.out]
            exact o
          | true =>
            have hst : stepsG W H L x p = true := by simp [stepsG, hc, p0, p3]
            have HC := Lib.hid (fun w h => specHasChV W H A n cap L (4 * x + p) true hc w h hn)
            have HF2 := Lib.hid (HRE2.out.trans (rest_go HT.out H4.out hst))
            have HNX := Lib.hid (step_has hst)
            obtain ⟨y, hy⟩ : ∃ y, nextG W H x p = y := ⟨_, rfl⟩
            rw [hy] at HF2 HNX
            have HNN := Lib.hid (fun w => specNextNodeV W H x p y hy w)
            clear hc hst hy
            go_wp2_with fail
            refine (HIN.out _).mono ?_
            rintro e w2 ⟨rfl, rfl⟩
            go_wp2_with fail
            refine (HC.out _ hi2).mono ?_
            rintro e w3 ⟨rfl, hg3⟩
            have G3 := Lib.hid hg3
            have hown1 := own_none HOwn.out hg3
            have hsz1 : w.heap.size + 2 ≤ w3.heap.size := Nat.le_trans hsw hg3.size
            have b3' := Lib.hid (show ∀ u ∈ [Value.int .i64 (4 * x + p)], u.oneCell' = true by simp [Value.oneCell'])
            have b4' := Lib.hid (show acc.length + 1 ≤ maxLen by unfold maxLen; omega)
            clear hg3 hi2 a0 a1 a2 b0
            go_wp2_with (at_builtin; refine wpList_append_own _ rfl _ _ 26 rfl (w.heap.size + 2) 3 i0 (.int .i64 0) 1 8 Tryz.underlying26 hi hz0 hz1 hz2 rfl (by decide) _ acc.length _ rfl (hown1.alloc _) ⟨w3.heap.size, 0, none⟩ 1 1 [.int .i64 (4 * x + p)] rfl rfl (World.news_of_block (cs := #[.int .i64 (4 * x + p)]) (t := 3) (fr := (0, 0)) (heap_alloc_new w3 _)) b3'.out b4'.out (by omega) (by simp; omega) ?_; intro v' w4 hown4 hgrow4 _; obtain ⟨xa, xl, a0, a1⟩ := WalkAt.app (below_gb HBel.out (by rw [twoB_size]; exact Nat.le_refl _) G3.out) hown1 hown4 hgrow4; have HXA := Lib.hid xa; have HLV := Lib.hid xl; clear xa xl hown4 hgrow4)
            refine (HNN.out _).mono ?_
            rintro e w5 ⟨rfl, hg5⟩
            have G5 := Lib.hid hg5
            clear hg5 a0 a1
            go_wp2_with fail
            go_roundw
            case rel => exact ⟨acc ++ [4 * x + p], y, rfl, by simp; omega, HNX.out, by rw [HF2.out]; congr 1; have := HF.out; simp; omega, own_none HXA.out.1 G5.out, below_gb HXA.out.2 (by rw [twoB_size]; exact Nat.le_refl _) G5.out⟩
            case measure => rw [HLV.out]; simp [lenV]; omega
        · have HIN := Lib.hid (fun w => specInV p 0 3 false (decide_eq_false h03) w)
          have HF2 := Lib.hid (HRE2.out.trans (rest_bad HT.out H4.out (by simp [stepsG]; intro u v; exact absurd ⟨u, v⟩ h03)))
          clear h03
          go_wp2_with fail
          refine (HIN.out _).mono ?_
          rintro e w2 ⟨rfl, rfl⟩
          go_wp2_with fail
          go_ret
          obtain ⟨o, b⟩ := new_nil HBO.out
          refine ⟨_, rfl, ?_, b⟩
          rw [HF2.out]
          exact o
    · have hf : k.toNat + 1 - acc.length = 0 := by omega
      have hre := HRE.out
      rw [hf, rest_zero] at hre
      have HF2 := Lib.hid hre
      have HBO := Lib.hid hbo
      clear hf hre hbo
      go_wp2_with fail
      go_ret
      obtain ⟨o, b⟩ := new_nil HBO.out
      refine ⟨_, rfl, ?_, b⟩
      rw [HF2.out]
      exact o
end Go.Proofs.YtidilfakganooaaGreatDoor
end

section
namespace Go.Proofs.YtidilfakganooaaGreatDoor
open Go.ChangeShapes Go.WideShapes Go.ChangeAt Go.RowKit
set_option linter.unusedVariables false
set_option maxRecDepth 20000

theorem IntAt.two {w : World} {A A2 B : Option Addr} {n cap n2 c2 m : Nat} {W H : Int} {L : List Int} (h : IntAt w w.heap.size B m L) : IntAt (twoB W H A A2 n cap n2 c2 w) (twoB W H A A2 n cap n2 c2 w).heap.size B m L :=
  (h.below twoB_below).more (by rw [twoB_size]; omega)
theorem IntAt.old {w wr : World} {A A2 B : Option Addr} {n cap n2 c2 m : Nat} {W H : Int} {L : List Int} (h : IntAt w w.heap.size B m L) (hb : Below (w.heap.size + 2) (twoB W H A A2 n cap n2 c2 w) wr) : IntAt wr wr.heap.size B m L :=
  (h.below (twoB_old hb)).more (by have := twoB_le hb; omega)
theorem NewI.old {w wr w' : World} {A A2 : Option Addr} {n cap n2 c2 : Nat} {W H : Int} {L : List Int} {v : Value} (hb : Below (w.heap.size + 2) (twoB W H A A2 n cap n2 c2 w) wr) (ho : w'.ownsRow wr.heap.size 3 1 v L.length (intsV L)) (hw : Below wr.heap.size wr w') : NewI L w (.returned v) w' :=
  ⟨v, rfl, own_less ho (by have := twoB_le hb; omega), (twoB_old hb).trans (hw.mono (by have := twoB_le hb; omega))⟩
theorem below_two {w w1 : World} {A A2 : Option Addr} {n cap n2 c2 : Nat} {W H : Int} (h : (twoB W H A A2 n cap n2 c2 w).grownBy w1 none) : Below (w.heap.size + 2) (twoB W H A A2 n cap n2 c2 w) w1 := gb_below_none h (by rw [twoB_size]; exact Nat.le_refl _)
theorem below_then {w wr w1 : World} {A A2 : Option Addr} {n cap n2 c2 : Nat} {W H : Int} (hb : Below (w.heap.size + 2) (twoB W H A A2 n cap n2 c2 w) wr) (h : wr.grownBy w1 none) : Below (w.heap.size + 2) (twoB W H A A2 n cap n2 c2 w) w1 := below_gb hb (by rw [twoB_size]; exact Nat.le_refl _) h
end Go.Proofs.YtidilfakganooaaGreatDoor
end

section
namespace Go.Proofs.YtidilfakganooaaGreatDoor
open Go.ChangeShapes Go.WideShapes Go.ChangeAt Go.RowKit
set_option linter.unusedVariables false
set_option maxRecDepth 20000

def TabAt (W H : Int) (A A2 : Option Addr) (n cap n2 c2 : Nat) (L P : List Int) (w : World) (a b : Nat) (wr : World) : Prop :=
  pairsTo W H L P a b ∧ Below (w.heap.size + 2) (twoB W H A A2 n cap n2 c2 w) wr
theorem specTableOk (W H : Int) (A A2 : Option Addr) (n cap n2 c2 : Nat) (L P : List Int) (w : World) (h : IntAt w w.heap.size A n L) (h2 : IntAt w w.heap.size A2 n2 P) (hn : n ≤ 1000000000) (hn2 : n2 ≤ 1000000000) :
    Calls Tryz.prog 38 #[.agg #[.int .i64 W, .int .i64 H, .slice A n cap], .agg #[.slice A2 n2 c2]] w (RetB (tableG W H L P) w) := by
  have hp := h2.1
  have HI := Lib.hid h
  have HP := Lib.hid h2
  have HT := Lib.hid (show IntAt (twoB W H A A2 n cap n2 c2 w) (twoB W H A A2 n cap n2 c2 w).heap.size A n L from h.two)
  clear h h2
  cases hs : sizedG W H L P with
  | false =>
    have HS := Lib.hid (fun w h => specSized W H A A2 n cap n2 c2 L P false hs w h hn hp hn2)
    have HF := Lib.hid (tableG_unsized hs)
    clear hs
    go_enter Tryz.func38, Tryz.ntmps38
    go_wp2_with fail
    refine (HS.out _ HT.out).mono ?_
    rintro e w1 ⟨rfl, hg⟩
    have G1 := Lib.hid (box2 hg).2.2
    clear hg
    go_wp2_with fail
    go_ret
    exact ⟨ret_bool HF.out.symm, G1.out⟩
  | true =>
    have HS := Lib.hid (fun w h => specSized W H A A2 n cap n2 c2 L P true hs w h hn hp hn2)
    obtain ⟨k, hk⟩ : ∃ k, countG W H = k := ⟨_, rfl⟩
    obtain ⟨hk0, hk1⟩ := countG_le W H
    rw [hk] at hk0 hk1
    have hsq := (sizedG_mesh hs).2
    rw [hp, hk] at hsq
    have HSQ := Lib.hid hsq
    have HN := Lib.hid (fun w => specNodeCountV W H k hk w)
    have HK := Lib.hid hk
    have HSZ := Lib.hid hs
    clear hk hs hsq hp
    go_enter Tryz.func38, Tryz.ntmps38
    go_wp2_with fail
    refine (HS.out _ HT.out).mono ?_
    rintro e w1 ⟨rfl, hg⟩
    have B1 := Lib.hid (below_two hg)
    clear hg
    have a0 : w1.cell? ⟨w.heap.size, 0, none⟩ = some (.int .i64 W) := (twoB_mesh B1.out).cell 0
    have a1 : w1.cell? ⟨w.heap.size, 1, none⟩ = some (.int .i64 H) := (twoB_mesh B1.out).cell 1
    go_wp2_with fail
    refine (HN.out _).mono ?_
    rintro e w2 ⟨rfl, hg⟩
    have X2 := Lib.hid (show TabAt W H A A2 n cap n2 c2 L P w 0 0 w2 from ⟨pairs_zero, below_then B1.out hg⟩)
    clear hg a0 a1
    go_wp2_with fail
    go_loopw [6] (fun i wr => ∃ x : Nat, i = .int .i64 (x : Int) ∧ (x : Int) ≤ k ∧ TabAt W H A A2 n cap n2 c2 L P w x 0 wr) (fun i _ => 17 - (intOf i).toNat)
    case atStart => exact ⟨0, rfl, by omega, X2.out⟩
    case round =>
      obtain ⟨x, rfl, hx, hpr, hbel⟩ := hrel
      have HX := Lib.hid (show TabAt W H A A2 n cap n2 c2 L P w x 0 wr from ⟨hpr, hbel⟩)
      have BX := Lib.hid hbel
      clear hpr hbel
      by_cases hlt : (x : Int) < k
      · go_wp2_with fail
        go_loopw [7] (fun i ws => ∃ y : Nat, i = .int .i64 (y : Int) ∧ (y : Int) ≤ k ∧ TabAt W H A A2 n cap n2 c2 L P w x y ws) (fun i _ => 17 - (intOf i).toNat)
        case atStart => exact ⟨0, rfl, by omega, HX.out⟩
        case round =>
          obtain ⟨y, rfl, hy, hpr, hbel⟩ := hrel
          have HPR := Lib.hid hpr
          have BY := Lib.hid hbel
          clear hpr hbel
          by_cases hly : (y : Int) < k
          · by_cases hxy : x = y
            · subst hxy
              obtain ⟨t0, t1⟩ := tab_at HSQ.out (Int.natCast_nonneg x) hlt (Int.natCast_nonneg x) hlt
              obtain ⟨j, hj⟩ : ∃ j : Nat, (x : Int) * k + x = (j : Int) := ⟨((x : Int) * k + x).toNat, (Int.toNat_of_nonneg t0).symm⟩
              have hjn : j < n2 := by omega
              have hak := Int.mul_nonneg (Int.natCast_nonneg x) hk0
              have e1 : wrap64 ((x : Int) * k) = (x : Int) * k := IntWalk.wrap64_in _ (by omega)
              have e2 : wrap64 ((x : Int) * k + x) = (j : Int) := by rw [hj]; exact IntWalk.wrap64_in _ (by omega)
              have hold := twoB_old BY.out
              obtain ⟨b, off, rfl, hbB, hcell⟩ := (HP.out.below hold).at j hjn
              obtain ⟨p, hpp⟩ : ∃ p, P.getD j 0 = p := ⟨_, rfl⟩
              rw [hpp] at hcell
              have htab : tabG (countG W H) P x x = p := by unfold tabG; rw [HK.out, hj, Int.toNat_natCast]; exact hpp
              have hen := entry_same (W := W) (H := H) (L := L) (P := P) (a := (x : Int))
              rw [htab] at hen
              have j0 : (0 : Int) ≤ (j : Int) := by omega
              have j1 : (j : Int) < (n2 : Int) := by omega
              have b0 : wr.cell? ⟨w.heap.size + 1, 0, none⟩ = some (.slice (some ⟨b, off, none⟩) n2 c2) := (twoB_table BY.out).cell 0
              by_cases h4 : p = 4
              · have hb4 : (p != 4) = false := by simpa using h4
                have HE := Lib.hid (pairs_next HPR.out (hen.trans (decide_eq_true h4)))
                clear hj hpp htab hen h4 t0 t1 hak hold
                go_wp2_with fail
                go_roundw
                case rel => exact ⟨x + 1, by go_num, by omega, HE.out, BY.out⟩
                case measure => simp [intOf]; omega
              · have hb4 : (p != 4) = true := by simpa using h4
                have HE := Lib.hid (tableG_no (W := W) (H := H) (L := L) (P := P) (a := x) (b := x) (by rw [HK.out]; exact hlt) (by rw [HK.out]; exact hlt) (hen.trans (decide_eq_false h4)))
                clear hj hpp htab hen h4 t0 t1 hak hold
                go_wp2_with fail
                go_ret
                exact ⟨ret_bool HE.out.symm, gb_of_below (twoB_old BY.out) none⟩
            · have hb1 : ((x : Int) == (y : Int)) = false := by simp; omega
              have hb2 : ((x : Int) != (y : Int)) = true := by simp; omega
              have hax : hasG W H (x : Int) = true := hasG_iff.2 ⟨by omega, by rw [HK.out]; exact hlt⟩
              have hay : hasG W H (y : Int) = true := hasG_iff.2 ⟨by omega, by rw [HK.out]; exact hly⟩
              have HWK := Lib.hid (fun w h h2 => specWalk W H A A2 n cap n2 c2 L P x y w h h2 hn hn2 HSZ.out hax hay)
              have hen := entry_two (W := W) (H := H) (L := L) (P := P) (a := (x : Int)) (b := (y : Int)) (by omega)
              have HEN := Lib.hid hen
              have a0 : wr.cell? ⟨w.heap.size, 0, none⟩ = some (.int .i64 W) := (twoB_mesh BY.out).cell 0
              have a1 : wr.cell? ⟨w.heap.size, 1, none⟩ = some (.int .i64 H) := (twoB_mesh BY.out).cell 1
              have a2 : wr.cell? ⟨w.heap.size, 2, none⟩ = some (.slice A n cap) := (twoB_mesh BY.out).cell 2
              have b0 : wr.cell? ⟨w.heap.size + 1, 0, none⟩ = some (.slice A2 n2 c2) := (twoB_table BY.out).cell 0
              have hi2 := HI.out.old BY.out
              have hp2 := HP.out.old BY.out
              clear hen hax hay
              go_wp2_with fail
              refine (HWK.out _ hi2 hp2).mono ?_
              rintro e w4 ⟨v, rfl, o4, b4⟩
              obtain ⟨A4, c4, rfl, _⟩ := own_form o4
              have B4 := Lib.hid (below_then BY.out (gb_of_below b4 none))
              obtain ⟨wl, hwl⟩ : ∃ q, walkOf W H L P x y = q := ⟨_, rfl⟩
              rw [hwl] at HEN
              have hlen : wl.length ≤ 16 := by rw [← hwl]; exact walkOf_len _ _
              clear o4 b4 hi2 hp2 a0 a1 a2 b0
              rw [hwl]
              clear hwl
              cases wl with
              | nil =>
                have HE := Lib.hid (tableG_no (W := W) (H := H) (L := L) (P := P) (a := x) (b := y) (by rw [HK.out]; exact hlt) (by rw [HK.out]; exact hly) (HEN.out.trans rfl))
                simp only [List.length_nil]
                go_wp2_with fail
                go_ret
                exact ⟨ret_bool HE.out.symm, gb_of_below (twoB_old B4.out) none⟩
              | cons c cs =>
                have HE := Lib.hid (pairs_next HPR.out (HEN.out.trans rfl))
                obtain ⟨q, hq⟩ : ∃ q, (c :: cs).length = q := ⟨_, rfl⟩
                have hq0 : ((q : Int) == 0) = false := by rw [← hq]; simp; omega
                rw [hq] at hlen ⊢
                clear hq
                go_wp2_with fail
                go_roundw
                case rel => exact ⟨y + 1, by go_num, by omega, HE.out, B4.out⟩
                case measure => simp [intOf]; omega
          · obtain ⟨e1, e2⟩ : (y : Int) = k ∧ True := ⟨by omega, trivial⟩
            have HE := Lib.hid (pairs_row HPR.out (by rw [HK.out]; exact e1))
            clear e1 e2
            go_wp2_with fail
            go_roundw
            case rel => exact ⟨x + 1, by go_num, by omega, HE.out, BY.out⟩
            case measure => simp [intOf]; omega
      · have hxk : (x : Int) = k := by omega
        have HE := Lib.hid (tableG_yes HSZ.out HX.out.1 (by rw [HK.out]; exact hxk))
        clear hxk
        go_wp2_with fail
        go_ret
        exact ⟨ret_bool HE.out.symm, gb_of_below (twoB_old BX.out) none⟩
end Go.Proofs.YtidilfakganooaaGreatDoor
end

section
namespace Go.Proofs.YtidilfakganooaaGreatDoor
open Go.ChangeShapes Go.WideShapes Go.ChangeAt Go.RowKit
set_option linter.unusedVariables false

theorem specTableOkV (W H : Int) (A A2 : Option Addr) (n cap n2 c2 : Nat) (L P : List Int) (b : Bool) (hb : tableG W H L P = b) (w : World) (h : IntAt w w.heap.size A n L) (h2 : IntAt w w.heap.size A2 n2 P) (hn : n ≤ 1000000000) (hn2 : n2 ≤ 1000000000) :
    Calls Tryz.prog 38 #[.agg #[.int .i64 W, .int .i64 H, .slice A n cap], .agg #[.slice A2 n2 c2]] w (RetB b w) := hb ▸ specTableOk W H A A2 n cap n2 c2 L P w h h2 hn hn2
theorem below_undrew3 {B : Nat} {a b : World} (h : Below B a.drew b) : Below B a b := ⟨h.os, h.tape, h.output, h.size, h.block⟩
end Go.Proofs.YtidilfakganooaaGreatDoor
end
