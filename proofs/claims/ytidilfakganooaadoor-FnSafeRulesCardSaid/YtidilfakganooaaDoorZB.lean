/- What is proved here: the lists that the functions on routes return, as mathematics; nothing of the program; a neighbor has the node as its neighbor at the opposite port, at the distance 1; as mathematics, nothing of the program; a route turned back leads back along the same nodes, and turned back twice it is the route again; a table's walk is a route that visits no node twice; as mathematics, nothing of the program; sets of turns as mathematics, and which turns the ways of a table take; nothing of the program; the dependencies of a table as mathematics: the pairs of channels that follow each other on the ways between all pairs of nodes; nothing of the program; orders of channels as mathematics: the next channel without a rank and without predecessors that lack one, the order that ranking them one by one yields, and that it is one; nothing of the program; walks along dependencies as mathematics: numbers of steps, least numbers of steps, that they are at most 128, that either an order or a cycle exists; nothing of the program; the tables of the rules xy, yx and west have an order of their dependencies on every grid; nothing of the program; the names of verdicts as texts; nothing of the program; the contract of a function that builds one new list of numbers and says whether there is one; nothing of the program; a row of ranks of the call's own, and the two answers of an order of channels; nothing of the program; the shortest cycle of dependencies as mathematics: the least channel on one of the least length, the way from it back to it, and that this is a cycle that cannot be shortened; nothing of the program; verdicts as mathematics: the verdict on a table, that it proves itself, and the safe rules; nothing of the program; small facts on four rows of numbers of a call's own that lie in different blocks; nothing of the program; small facts on a mesh, a table and a verdict in boxes of a call's own, and what a function that returns a verdict gives; nothing of the program; what the library's search in a list of numbers returns; only new blocks are written; what the program's search in a list and its test of a channel of a mesh return for numbers of 64 bits; only new blocks are written; what the program's walk of a square of ports returns for two nodes; only new blocks are written; the ways of a valid table between the nodes of a pair; nothing of the program; the program's list of the walks between all pairs of nodes: empty for a table that is not valid, else the walk of each pair in its order; only new blocks are written; what the program's TableOk returns, for all arguments; only new blocks are written; lists of dependencies as cells: rows of the call's own and slices that can be read; nothing of the program; what the library's comparisons of integers return, and the program's comparison of two dependencies; only new blocks are written; what the library's binary search finds in an ascending list of dependencies, with the program's comparison; only new blocks are written. -/
import Derived.Test.YtidilfakganooaaDoorZA
import Derived.Deep.RegionHeld3
import Derived.Shelf.Abstract
section
namespace Go.Proofs.YtidilfakganooaaDoor
open Go.ChangeShapes Go.WideShapes Go.ChangeAt Go.RowKit
set_option linter.unusedVariables false

/-- The node at the end of a channel. -/
def endC (W H c : Int) : Int := nextG W H (c / 4) (c % 4)
/-- Channel i of a route exists and begins where the one before ends. -/
def linkG (W H : Int) (L r : List Int) (i : Nat) : Bool := hasChG W H L (r.getD i 0) && (decide (i = 0) || decide (r.getD i 0 / 4 = endC W H (r.getD (i - 1) 0)))
def routeG (W H : Int) (L r : List Int) : Bool := meshG W H L && decide (0 < r.length) && (List.range r.length).all (linkG W H L r)
/-- The nodes of the first k channels. -/
def nodesTo (W H : Int) (r : List Int) (k : Nat) : List Int := (r.getD 0 0 / 4) :: (r.take k).map (endC W H)
def nodesG (W H : Int) (L r : List Int) : List Int := if routeG W H L r then nodesTo W H r r.length else []
/-- No number of a list is one of those before it, and there is one. -/
def freeAt (N : List Int) (i : Nat) : Bool := !inG (N.take i) (N.getD i 0)
def freeG (N : List Int) : Bool := decide (0 < N.length) && (List.range N.length).all (freeAt N)
def joinG (W H : Int) (L a b : List Int) : List Int := if routeG W H L (a ++ b) then a ++ b else []
/-- The channel between the same nodes in the other direction. -/
def backC (W H c : Int) : Int := 4 * endC W H c + oppG (c % 4)
/-- The channels back, from the last one on: the first k of them. -/
def backTo (W H : Int) (r : List Int) (k : Nat) : List Int := (r.reverse.take k).map (backC W H)
def backOk (W H : Int) (L r : List Int) : Bool := routeG W H L r && r.all fun c => hasChG W H L (backC W H c)
def backG (W H : Int) (L r : List Int) : List Int := if backOk W H L r then r.reverse.map (backC W H) else []

section
variable {W H : Int} {L r : List Int}
def linksTo (W H : Int) (L r : List Int) (k : Nat) : Prop := ∀ j, j < k → linkG W H L r j = true
theorem links_zero : linksTo W H L r 0 := fun _ h => by omega
theorem links_succ {k : Nat} (h : linksTo W H L r k) (hk : linkG W H L r k = true) : linksTo W H L r (k + 1) := fun j hj => by
  rcases Nat.lt_succ_iff_lt_or_eq.1 hj with h1 | rfl
  · exact h j h1
  · exact hk
theorem route_yes (hm : meshG W H L = true) (h0 : 0 < r.length) (h : linksTo W H L r r.length) : routeG W H L r = true := by
  simp only [routeG, hm, Bool.true_and, decide_eq_true h0, List.all_eq_true, List.mem_range]; exact h
theorem route_no {i : Nat} (hi : i < r.length) (h : linkG W H L r i = false) : routeG W H L r = false := by
  cases hr : routeG W H L r with
  | false => rfl
  | true =>
    simp only [routeG, Bool.and_eq_true, List.all_eq_true, List.mem_range] at hr
    have := hr.2 i hi
    rw [h] at this
    cases this
theorem route_mesh (h : meshG W H L = false) : routeG W H L r = false := by simp [routeG, h]
theorem route_nil : routeG W H L [] = false := by simp [routeG]
theorem route_all (h : routeG W H L r = true) : meshG W H L = true ∧ 0 < r.length ∧ linksTo W H L r r.length := by
  simp only [routeG, Bool.and_eq_true, List.all_eq_true, List.mem_range, decide_eq_true_eq] at h
  exact ⟨h.1.1, h.1.2, h.2⟩
theorem route_pos (h : routeG W H L r = true) : 0 < r.length := (route_all h).2.1
theorem link_has {i : Nat} (h : linkG W H L r i = true) : hasChG W H L (r.getD i 0) = true := by simp only [linkG, Bool.and_eq_true] at h; exact h.1
theorem link_lost {i : Nat} {c : Int} (hc : r.getD i 0 = c) (h : hasChG W H L c = false) : linkG W H L r i = false := by unfold linkG; rw [hc, h, Bool.false_and]
theorem link_first {c : Int} (hc : r.getD 0 0 = c) (h : hasChG W H L c = true) : linkG W H L r 0 = true := by simp only [linkG, hc, h, decide_true, Bool.true_or, Bool.and_self]
theorem link_next {i : Nat} {c x : Int} (hc : r.getD (i + 1) 0 = c) (hx : endC W H (r.getD i 0) = x) (h : hasChG W H L c = true) : linkG W H L r (i + 1) = decide (c / 4 = x) := by
  simp only [linkG, Nat.add_sub_cancel, hc, hx, h, Bool.true_and]
  simp
/-- Where the first k channels have led. -/
def atR (W H : Int) (r : List Int) (k : Nat) : Int := if k = 0 then r.getD 0 0 / 4 else endC W H (r.getD (k - 1) 0)
theorem link_at {k : Nat} {c : Int} (hc : r.getD k 0 = c) (h : hasChG W H L c = true) : linkG W H L r k = decide (c / 4 = atR W H r k) := by
  cases k with
  | zero => rw [link_first hc h, atR, if_pos rfl, hc]; simp
  | succ k => rw [link_next hc rfl h, atR, if_neg (by omega), Nat.add_sub_cancel]
theorem atR_succ (k : Nat) : atR W H r (k + 1) = endC W H (r.getD k 0) := by rw [atR, if_neg (by omega), Nat.add_sub_cancel]
theorem route_snoc {k : Nat} {c : Int} (hk : k < r.length) (hc : r.getD k 0 = c) : r.take (k + 1) = r.take k ++ [c] := by
  rw [List.take_add_one, List.getElem?_eq_getElem hk, ← hc, List.getD_eq_getElem?_getD, List.getElem?_eq_getElem hk]; rfl
theorem nodesTo_zero : nodesTo W H r 0 = [r.getD 0 0 / 4] := rfl
theorem nodesTo_succ {k : Nat} {c : Int} (hk : k < r.length) (hc : r.getD k 0 = c) : nodesTo W H r (k + 1) = nodesTo W H r k ++ [endC W H c] := by
  unfold nodesTo
  rw [route_snoc hk hc]
  simp
theorem nodesTo_len {k : Nat} (hk : k ≤ r.length) : (nodesTo W H r k).length = k + 1 := by simp [nodesTo]; omega
theorem nodesTo_last {k : Nat} (hk : k ≤ r.length) : (nodesTo W H r k).getD k 0 = atR W H r k := by
  cases k with
  | zero => rfl
  | succ k =>
    have hl := nodesTo_len (W := W) (H := H) (r := r) (k := k) (by omega)
    rw [nodesTo_succ (c := r.getD k 0) (by omega) rfl, atR_succ, List.getD_eq_getElem?_getD, List.getElem?_append_right (by omega), hl, Nat.sub_self]
    rfl
theorem nodes_yes (h : routeG W H L r = true) : nodesG W H L r = nodesTo W H r r.length := if_pos h
theorem nodes_no (h : routeG W H L r = false) : nodesG W H L r = [] := by simp [nodesG, h]
theorem nodes_len (h : routeG W H L r = true) : (nodesG W H L r).length = r.length + 1 := by rw [nodes_yes h, nodesTo_len (Nat.le_refl _)]
theorem nodes_pos : decide (0 < (nodesG W H L r).length) = routeG W H L r := by
  cases h : routeG W H L r with
  | false => rw [nodes_no h]; rfl
  | true => rw [nodes_len h]; simp
theorem nodes_le : (nodesG W H L r).length ≤ r.length + 1 := by
  cases h : routeG W H L r with
  | false => rw [nodes_no h]; simp
  | true => exact Nat.le_of_eq (nodes_len h)

def freeTo (N : List Int) (k : Nat) : Prop := ∀ j, j < k → freeAt N j = true
theorem free_zero (N : List Int) : freeTo N 0 := fun _ h => by omega
theorem free_succ {N : List Int} {k : Nat} (h : freeTo N k) (hk : freeAt N k = true) : freeTo N (k + 1) := fun j hj => by
  rcases Nat.lt_succ_iff_lt_or_eq.1 hj with h1 | rfl
  · exact h j h1
  · exact hk
theorem free_yes {N : List Int} (h : freeTo N N.length) : freeG N = decide (0 < N.length) := by
  have : (List.range N.length).all (freeAt N) = true := by simp only [List.all_eq_true, List.mem_range]; exact h
  simp [freeG, this]
theorem free_no {N : List Int} {i : Nat} (hi : i < N.length) (h : freeAt N i = false) : freeG N = false := by
  have : (List.range N.length).all (freeAt N) = false := by rw [List.all_eq_false]; exact ⟨i, List.mem_range.2 hi, by rw [h]; decide⟩
  simp [freeG, this]
theorem free_at {N : List Int} {i : Nat} {x : Int} {b : Bool} (hx : N.getD i 0 = x) (h : inG (N.take i) x = b) : freeAt N i = !b := by simp only [freeAt, hx, h]

theorem back_zero : backTo W H r 0 = [] := rfl
theorem rev_at {k : Nat} {c : Int} (hk : k < r.length) (hc : r.getD (r.length - 1 - k) 0 = c) : r.reverse[k]? = some c := by
  rw [List.getElem?_reverse hk, ← hc, List.getD_eq_getElem?_getD, List.getElem?_eq_getElem (by omega)]; rfl
theorem back_succ {k : Nat} {c : Int} (hk : k < r.length) (hc : r.getD (r.length - 1 - k) 0 = c) : backTo W H r (k + 1) = backTo W H r k ++ [backC W H c] := by
  unfold backTo
  rw [List.take_add_one, rev_at hk hc]
  simp
theorem back_len {k : Nat} (hk : k ≤ r.length) : (backTo W H r k).length = k := by simp [backTo]; omega
theorem back_full : backTo W H r r.length = r.reverse.map (backC W H) := by unfold backTo; rw [List.take_of_length_le (by simp)]
/-- The first k channels back exist. -/
def backsTo (W H : Int) (L r : List Int) (k : Nat) : Prop := ∀ j, j < k → hasChG W H L (backC W H (r.getD (r.length - 1 - j) 0)) = true
theorem backs_zero : backsTo W H L r 0 := fun _ h => by omega
theorem backs_succ {k : Nat} {c : Int} (h : backsTo W H L r k) (hc : r.getD (r.length - 1 - k) 0 = c) (hk : hasChG W H L (backC W H c) = true) : backsTo W H L r (k + 1) := fun j hj => by
  rcases Nat.lt_succ_iff_lt_or_eq.1 hj with h1 | rfl
  · exact h j h1
  · rw [hc]; exact hk
theorem backs_all (h : backsTo W H L r r.length) : (r.all fun c => hasChG W H L (backC W H c)) = true := by
  rw [List.all_eq_true]
  intro c hc
  obtain ⟨j, hj, rfl⟩ := List.getElem_of_mem hc
  have := h (r.length - 1 - j) (by omega)
  rw [show r.length - 1 - (r.length - 1 - j) = j by omega, List.getD_eq_getElem?_getD, List.getElem?_eq_getElem hj] at this
  exact this
theorem backOk_yes (hr : routeG W H L r = true) (h : backsTo W H L r r.length) : backOk W H L r = true := by rw [backOk, hr, backs_all h]; rfl
theorem backOk_no {c : Int} {i : Nat} (hi : i < r.length) (hc : r.getD i 0 = c) (h : hasChG W H L (backC W H c) = false) : backOk W H L r = false := by
  have hm : c ∈ r := by rw [← hc, List.getD_eq_getElem?_getD, List.getElem?_eq_getElem hi]; exact List.getElem_mem hi
  cases hb : backOk W H L r with
  | false => rfl
  | true =>
    simp only [backOk, Bool.and_eq_true, List.all_eq_true] at hb
    have := hb.2 c hm
    rw [h] at this
    cases this
theorem backOk_route (h : routeG W H L r = false) : backOk W H L r = false := by simp [backOk, h]
theorem backG_yes (h : backOk W H L r = true) : backG W H L r = backTo W H r r.length := by rw [backG, if_pos h, back_full]
theorem backG_no (h : backOk W H L r = false) : backG W H L r = [] := by simp [backG, h]
theorem backG_le : (backG W H L r).length ≤ r.length := by
  cases h : backOk W H L r with
  | false => rw [backG_no h]; simp
  | true => rw [backG_yes h, back_len (Nat.le_refl _)]; exact Nat.le_refl _
theorem joinG_yes {a b : List Int} (h : routeG W H L (a ++ b) = true) : joinG W H L a b = a ++ b := if_pos h
theorem joinG_no {a b : List Int} (h : routeG W H L (a ++ b) = false) : joinG W H L a b = [] := by simp [joinG, h]
theorem joinG_le {a b : List Int} : (joinG W H L a b).length ≤ a.length + b.length := by
  unfold joinG
  split
  · simp
  · simp
theorem endC_le (W H c : Int) : -1 ≤ endC W H c ∧ endC W H c ≤ 15 := nextG_le _ _ _ _
theorem oppG_le (p : Int) : -1 ≤ oppG p ∧ oppG p ≤ 4 := by
  unfold oppG
  repeat' split
  all_goals omega
theorem backC_le (W H c : Int) : -5 ≤ backC W H c ∧ backC W H c ≤ 64 := by
  have h1 := endC_le W H c
  have h2 := oppG_le (c % 4)
  unfold backC; omega
theorem has_leads {c : Int} (h : hasChG W H L c = true) : 0 ≤ c ∧ c < 4 * countG W H ∧ 0 ≤ endC W H c := by
  simp only [hasChG, Bool.and_eq_true, leadsG, decide_eq_true_eq] at h
  exact h.1
theorem has_ok {c : Int} (h : hasChG W H L c = true) : okG W H = true := by
  have h1 := (has_leads h).2.2
  unfold endC nextG at h1
  split at h1
  · rename_i hh; exact (hasG_ok hh).1
  · omega
/-- The nodes of the first k channels, the first node being z. -/
def nodesZ (W H : Int) (r : List Int) (z : Int) (k : Nat) : List Int := z :: (r.take k).map (endC W H)
def atZ (W H : Int) (r : List Int) (z : Int) (k : Nat) : Int := if k = 0 then z else endC W H (r.getD (k - 1) 0)
theorem nodesZ_zero (z : Int) : nodesZ W H r z 0 = [z] := rfl
theorem nodesZ_succ {z : Int} {k : Nat} {c : Int} (hk : k < r.length) (hc : r.getD k 0 = c) : nodesZ W H r z (k + 1) = nodesZ W H r z k ++ [endC W H c] := by
  unfold nodesZ
  rw [route_snoc hk hc]
  simp
theorem nodesZ_len {z : Int} {k : Nat} (hk : k ≤ r.length) : (nodesZ W H r z k).length = k + 1 := by simp [nodesZ]; omega
theorem atZ_succ (z : Int) {k : Nat} {c y : Int} (hc : r.getD k 0 = c) (hy : endC W H c = y) : atZ W H r z (k + 1) = y := by rw [atZ, if_neg (by omega), Nat.add_sub_cancel, hc, hy]
theorem link_z {z : Int} {k : Nat} {c : Int} (hz : 0 ≤ r.getD 0 0 → z = r.getD 0 0 / 4) (hc : r.getD k 0 = c) (h : hasChG W H L c = true) (h0 : 0 ≤ c) : linkG W H L r k = decide (c / 4 = atZ W H r z k) := by
  rw [link_at hc h]
  cases k with
  | zero => rw [atR, atZ, if_pos rfl, if_pos rfl, hz (by rw [hc]; exact h0)]
  | succ k => rw [atR, atZ, if_neg (by omega), if_neg (by omega)]
theorem nodes_z {z : Int} (hz : 0 ≤ r.getD 0 0 → z = r.getD 0 0 / 4) (hm : meshG W H L = true) (h0 : 0 < r.length) (h : linksTo W H L r r.length) : nodesG W H L r = nodesZ W H r z r.length := by
  have hl := (has_leads (link_has (h 0 h0))).1
  rw [nodes_yes (route_yes hm h0 h), nodesTo, nodesZ, hz hl]
end
end Go.Proofs.YtidilfakganooaaDoor
end

section
namespace Go.Proofs.YtidilfakganooaaDoor
open Go.ChangeShapes Go.WideShapes Go.ChangeAt Go.RowKit
set_option linter.unusedVariables false

theorem place_at {W H x y : Int} (hok : okG W H = true) (hx0 : 0 ≤ x) (hx1 : x < W) (hy0 : 0 ≤ y) (hy1 : y < H) :
    hasG W H (y * W + x) = true ∧ (y * W + x) % W = x ∧ (y * W + x) / W = y := by
  obtain ⟨hW, hH⟩ := okG_cases hok
  have hc : countG W H = W * H := by simp [countG, hok]
  rw [hasG_iff, hc]
  rcases hW with rfl | rfl | rfl | rfl <;> rcases hH with rfl | rfl | rfl | rfl <;> omega
theorem atG_of {W H x y : Int} (h : 0 ≤ atG W H x y) : okG W H = true ∧ 0 ≤ x ∧ x < W ∧ 0 ≤ y ∧ y < H ∧ atG W H x y = y * W + x := by
  unfold atG at h ⊢
  split at h
  · rename_i hc
    exact ⟨hc.1, hc.2.1, hc.2.2.1, hc.2.2.2.1, hc.2.2.2.2, by rw [if_pos hc]⟩
  · omega
theorem atG_in {W H x y : Int} (hok : okG W H = true) (hx0 : 0 ≤ x) (hx1 : x < W) (hy0 : 0 ≤ y) (hy1 : y < H) : atG W H x y = y * W + x := by
  unfold atG
  rw [if_pos ⟨hok, hx0, hx1, hy0, hy1⟩]
theorem next0 {W H n : Int} (h : hasG W H n = true) : nextG W H n 0 = atG W H (n % W) (n / W - 1) := by simp [nextG, h]
theorem next1 {W H n : Int} (h : hasG W H n = true) : nextG W H n 1 = atG W H (n % W + 1) (n / W) := by simp [nextG, h]
theorem next2 {W H n : Int} (h : hasG W H n = true) : nextG W H n 2 = atG W H (n % W) (n / W + 1) := by simp [nextG, h]
theorem next3 {W H n : Int} (h : hasG W H n = true) : nextG W H n 3 = atG W H (n % W - 1) (n / W) := by simp [nextG, h]
theorem next4 {W H n : Int} (h : hasG W H n = true) : nextG W H n 4 = n := by simp [nextG, h]

/-- One step to (dx, dy), and back. -/
theorem step_back {W H a b dx dy : Int} (ha : hasG W H a = true) (hb : atG W H (a % W + dx) (a / W + dy) = b) (h0 : 0 ≤ b) (hd : absI dx + absI dy = 1) :
    hasG W H b = true ∧ b % W = a % W + dx ∧ b / W = a / W + dy ∧ distG W H a b = 1 ∧ atG W H (b % W - dx) (b / W - dy) = a := by
  obtain ⟨hok, x0, x1, y0, y1, he⟩ := atG_of (by rw [hb]; exact h0)
  obtain ⟨p1, p2, p3⟩ := place_at hok x0 x1 y0 y1
  have hbe : b = (a / W + dy) * W + (a % W + dx) := by rw [← hb]; exact he
  rw [← hbe] at p1 p2 p3
  obtain ⟨q0, q1, q2, q3, q4⟩ := place_of ha
  refine ⟨p1, p2, p3, ?_, ?_⟩
  · rw [distG_ok ha p1, p2, p3, show a % W - (a % W + dx) = -dx by omega, show a / W - (a / W + dy) = -dy by omega, absI_neg, absI_neg]
    exact hd
  · rw [p2, p3, show a % W + dx - dx = a % W by omega, show a / W + dy - dy = a / W by omega, atG_in hok q0 q1 q2 q3, q4]

/-- What the law on neighbors asks of one port. -/
theorem neigh_fact {W H a q : Int} (ha : hasG W H a = true) (h0 : 0 ≤ q) (h1 : q ≤ 3) :
    ∃ b o : Int, nextG W H a q = b ∧ oppG q = o ∧ 0 ≤ o ∧ o ≤ 3 ∧ o ≠ q ∧ oppG o = q ∧ (0 ≤ b → nextG W H b o = a ∧ distG W H a b = 1) ∧ -1 ≤ b ∧ b ≤ 15 := by
  have hle := nextG_le W H a q
  have hq : q = 0 ∨ q = 1 ∨ q = 2 ∨ q = 3 := by omega
  rcases hq with rfl | rfl | rfl | rfl
  · refine ⟨_, 2, rfl, by decide, by omega, by omega, by omega, by decide, fun hb => ?_, hle⟩
    have hn := next0 ha
    obtain ⟨k1, k2, k3, k4, k5⟩ := step_back (dx := 0) (dy := -1) ha (b := nextG W H a 0) (by rw [hn, show a % W + 0 = a % W by omega, show a / W + -1 = a / W - 1 by omega]) hb (by decide)
    refine ⟨?_, k4⟩
    rw [next2 k1]
    rwa [show nextG W H a 0 % W - 0 = nextG W H a 0 % W by omega, show nextG W H a 0 / W - -1 = nextG W H a 0 / W + 1 by omega] at k5
  · refine ⟨_, 3, rfl, by decide, by omega, by omega, by omega, by decide, fun hb => ?_, hle⟩
    have hn := next1 ha
    obtain ⟨k1, k2, k3, k4, k5⟩ := step_back (dx := 1) (dy := 0) ha (b := nextG W H a 1) (by rw [hn, show a / W + 0 = a / W by omega]) hb (by decide)
    refine ⟨?_, k4⟩
    rw [next3 k1]
    rwa [show nextG W H a 1 / W - 0 = nextG W H a 1 / W by omega] at k5
  · refine ⟨_, 0, rfl, by decide, by omega, by omega, by omega, by decide, fun hb => ?_, hle⟩
    have hn := next2 ha
    obtain ⟨k1, k2, k3, k4, k5⟩ := step_back (dx := 0) (dy := 1) ha (b := nextG W H a 2) (by rw [hn, show a % W + 0 = a % W by omega]) hb (by decide)
    refine ⟨?_, k4⟩
    rw [next0 k1]
    rwa [show nextG W H a 2 % W - 0 = nextG W H a 2 % W by omega] at k5
  · refine ⟨_, 1, rfl, by decide, by omega, by omega, by omega, by decide, fun hb => ?_, hle⟩
    have hn := next3 ha
    obtain ⟨k1, k2, k3, k4, k5⟩ := step_back (dx := -1) (dy := 0) ha (b := nextG W H a 3) (by rw [hn, show a / W + 0 = a / W by omega, show a % W + -1 = a % W - 1 by omega]) hb (by decide)
    refine ⟨?_, k4⟩
    rw [next1 k1]
    rwa [show nextG W H a 3 / W - 0 = nextG W H a 3 / W by omega, show nextG W H a 3 % W - -1 = nextG W H a 3 % W + 1 by omega] at k5
end Go.Proofs.YtidilfakganooaaDoor
end

section
namespace Go.Proofs.YtidilfakganooaaDoor
open Go.ChangeShapes Go.WideShapes Go.ChangeAt Go.RowKit
set_option linter.unusedVariables false

section
variable {W H : Int} {L r : List Int}
/-- The channel back of a channel that leads somewhere. -/
theorem back_lead {c : Int} (h0 : 0 ≤ c) (h1 : c < 4 * countG W H) (h2 : 0 ≤ endC W H c) : leadsG W H (backC W H c) = true ∧ backC W H c / 4 = endC W H c ∧ endC W H (backC W H c) = c / 4 ∧ backC W H (backC W H c) = c := by
  have ha : hasG W H (c / 4) = true := hasG_iff.2 ⟨by omega, by omega⟩
  obtain ⟨b, o, hb, ho, o0, o3, _, hoo, hbk, _⟩ := neigh_fact (q := c % 4) ha (by omega) (by omega)
  have he : endC W H c = b := hb
  have hbb : backC W H c = 4 * b + o := by rw [backC, he, ho]
  rw [he] at h2 ⊢
  have h4 : (4 * b + o) / 4 = b := by omega
  have h5 : (4 * b + o) % 4 = o := by omega
  have h6 : endC W H (4 * b + o) = c / 4 := by rw [endC, h4, h5]; exact (hbk h2).1
  have hh := (hasG_iff.1 (next_has (W := W) (H := H) (n := c / 4) (p := c % 4) (by rw [hb]; exact h2))).2
  rw [hb] at hh
  rw [hbb]
  refine ⟨?_, h4, h6, ?_⟩
  · have h7 : 0 ≤ nextG W H ((4 * b + o) / 4) ((4 * b + o) % 4) := by show 0 ≤ endC W H (4 * b + o); rw [h6]; omega
    simp only [leadsG, decide_eq_true_eq]
    exact ⟨by omega, by omega, h7⟩
  · rw [backC, h6, h5, hoo]; omega
theorem back_has {c : Int} (h : hasChG W H L c = true) : leadsG W H (backC W H c) = true ∧ backC W H c / 4 = endC W H c ∧ endC W H (backC W H c) = c / 4 ∧ backC W H (backC W H c) = c := by
  obtain ⟨h0, h1, h2⟩ := has_leads h
  exact back_lead h0 h1 h2
theorem route_at (h : routeG W H L r = true) {j : Nat} (hj : j < r.length) : hasChG W H L (r.getD j 0) = true ∧ r.getD j 0 / 4 = atR W H r j := by
  have hl := (route_all h).2.2 j hj
  have hh := link_has hl
  refine ⟨hh, ?_⟩
  rw [link_at rfl hh] at hl
  exact of_decide_eq_true hl
theorem nodes_at (h : routeG W H L r = true) {j : Nat} (hj : j ≤ r.length) : (nodesG W H L r).getD j 0 = atR W H r j := by
  rw [nodes_yes h, nodesTo, List.take_of_length_le (Nat.le_refl _)]
  cases j with
  | zero => rfl
  | succ j => rw [atR_succ, List.getD_cons_succ, List.getD_eq_getElem?_getD, List.getElem?_map, List.getD_eq_getElem?_getD, List.getElem?_eq_getElem (by omega)]; rfl
theorem rev_get (hn : 0 < r.length) {j : Nat} (hj : j < r.length) : (r.reverse.map (backC W H)).getD j 0 = backC W H (r.getD (r.length - 1 - j) 0) := by
  rw [List.getD_eq_getElem?_getD, List.getElem?_map, List.getElem?_reverse hj, List.getD_eq_getElem?_getD, List.getElem?_eq_getElem (by omega)]; rfl
theorem backOk_all (h : backOk W H L r = true) : routeG W H L r = true ∧ ∀ j, j < r.length → hasChG W H L (backC W H (r.getD j 0)) = true := by
  simp only [backOk, Bool.and_eq_true, List.all_eq_true] at h
  refine ⟨h.1, fun j hj => h.2 _ ?_⟩
  rw [List.getD_eq_getElem?_getD, List.getElem?_eq_getElem hj]
  exact List.getElem_mem hj
/-- The route back. -/
theorem back_route (h : backOk W H L r = true) : routeG W H L (backG W H L r) = true ∧ (backG W H L r).length = r.length ∧
    (∀ j, j < r.length → (backG W H L r).getD j 0 = backC W H (r.getD (r.length - 1 - j) 0)) ∧ ∀ j, j ≤ r.length → atR W H (backG W H L r) j = atR W H r (r.length - j) := by
  obtain ⟨hr, hb⟩ := backOk_all h
  have hn := route_pos hr
  have hB : backG W H L r = r.reverse.map (backC W H) := if_pos h
  have hlen : (backG W H L r).length = r.length := by rw [hB]; simp
  have hg : ∀ j, j < r.length → (backG W H L r).getD j 0 = backC W H (r.getD (r.length - 1 - j) 0) := fun j hj => by rw [hB]; exact rev_get hn hj
  have hat : ∀ j, j ≤ r.length → atR W H (backG W H L r) j = atR W H r (r.length - j) := fun j hj => by
    cases j with
    | zero =>
      rw [atR, if_pos rfl, hg 0 hn, (back_has (route_at hr (j := r.length - 1 - 0) (by omega)).1).2.1, atR, if_neg (by omega)]
      congr 2
    | succ j =>
      obtain ⟨q1, q2⟩ := route_at hr (j := r.length - 1 - j) (by omega)
      rw [atR_succ, hg j (by omega), (back_has q1).2.2.1, q2]
      congr 1
      omega
  refine ⟨route_yes (route_all hr).1 (by omega) (fun j hj => ?_), hlen, hg, hat⟩
  rw [hlen] at hj
  have q1 := (route_at hr (j := r.length - 1 - j) (by omega)).1
  rw [link_at (hg j hj) (hb _ (by omega)), hat j (by omega), (back_has q1).2.1, atR, if_neg (by omega)]
  refine decide_eq_true ?_
  congr 2
  omega
theorem back_back (h : backOk W H L r = true) : backOk W H L (backG W H L r) = true ∧ backG W H L (backG W H L r) = r := by
  obtain ⟨hr, hb⟩ := backOk_all h
  obtain ⟨h1, h2, h3, h4⟩ := back_route h
  have hall : backsTo W H L (backG W H L r) (backG W H L r).length := fun j hj => by
    rw [h2] at hj
    rw [h2, h3 _ (by omega)]
    have q1 := (route_at hr (j := r.length - 1 - (r.length - 1 - j)) (by omega)).1
    rw [(back_has q1).2.2.2]
    exact q1
  have hk := backOk_yes h1 hall
  refine ⟨hk, ?_⟩
  obtain ⟨_, g2, g3, _⟩ := back_route hk
  refine List.ext_getElem (by rw [g2, h2]) fun i i1 i2 => ?_
  have e1 := g3 i (by rw [h2]; omega)
  rw [h2, h3 _ (by omega)] at e1
  have q1 := (route_at hr (j := r.length - 1 - (r.length - 1 - i)) (by omega)).1
  rw [(back_has q1).2.2.2] at e1
  rw [List.getD_eq_getElem?_getD, List.getD_eq_getElem?_getD, List.getElem?_eq_getElem (by omega), List.getElem?_eq_getElem (by omega)] at e1
  simp only [Option.getD_some] at e1
  rw [e1]
  congr 1
  omega
theorem back_round (h : backOk W H L r = true) : routeG W H L (r ++ backG W H L r) = true := by
  obtain ⟨hr, hb⟩ := backOk_all h
  obtain ⟨h1, h2, h3, h4⟩ := back_route h
  have ga : ∀ j, j < r.length → (r ++ backG W H L r).getD j 0 = r.getD j 0 := fun j hj => by
    rw [List.getD_eq_getElem?_getD, List.getD_eq_getElem?_getD, List.getElem?_append_left hj]
  have gb : ∀ j, (r ++ backG W H L r).getD (r.length + j) 0 = (backG W H L r).getD j 0 := fun j => by
    rw [List.getD_eq_getElem?_getD, List.getD_eq_getElem?_getD, List.getElem?_append_right (by omega), Nat.add_sub_cancel_left]
  refine route_yes (route_all hr).1 (by rw [List.length_append]; have := route_pos hr; omega) (fun i hi => ?_)
  rw [List.length_append, h2] at hi
  have hn := route_pos hr
  rcases Nat.lt_or_ge i r.length with hlt | hge
  · obtain ⟨q1, q2⟩ := route_at hr hlt
    rw [link_at (ga i hlt) q1, q2]
    refine decide_eq_true ?_
    cases i with
    | zero => rw [atR, atR, if_pos rfl, if_pos rfl, ga 0 hn]
    | succ i => rw [atR_succ, atR_succ, ga i (by omega)]
  · obtain ⟨j, rfl⟩ : ∃ j, i = r.length + j := ⟨i - r.length, by omega⟩
    obtain ⟨q1, q2⟩ := route_at h1 (j := j) (by omega)
    rw [link_at (gb j) q1, q2]
    refine decide_eq_true ?_
    rw [h4 j (by omega)]
    cases j with
    | zero =>
      have : r.length - 0 = r.length := by omega
      rw [this]
      obtain ⟨m, hm⟩ : ∃ m, r.length = m + 1 := ⟨r.length - 1, by omega⟩
      rw [Nat.add_zero, hm, atR_succ, atR_succ, ga m (by omega)]
    | succ j =>
      rw [show r.length + (j + 1) = (r.length + j) + 1 by omega, atR_succ, gb j, ← atR_succ, h4 (j + 1) (by omega)]
/-- Without broken channels every route can be turned back. -/
theorem back_free (h : routeG W H [] r = true) : backOk W H [] r = true := by
  refine backOk_yes h (fun j hj => ?_)
  have q1 := (route_at h (j := r.length - 1 - j) (by omega)).1
  simp only [hasChG, (back_has q1).1, inG]
  rfl

/-- A list grows by a channel that begins where it has led. -/
theorem links_push {c : Int} (h : linksTo W H L r r.length) (hc : hasChG W H L c = true) (hx : 0 < r.length → c / 4 = atR W H r r.length) :
    linksTo W H L (r ++ [c]) (r ++ [c]).length ∧ atR W H (r ++ [c]) (r ++ [c]).length = endC W H c := by
  have ga : ∀ j, j < r.length → (r ++ [c]).getD j 0 = r.getD j 0 := fun j hj => by
    rw [List.getD_eq_getElem?_getD, List.getD_eq_getElem?_getD, List.getElem?_append_left hj]
  have gc : (r ++ [c]).getD r.length 0 = c := by
    rw [List.getD_eq_getElem?_getD, List.getElem?_append_right (Nat.le_refl _), Nat.sub_self]; rfl
  have hl : (r ++ [c]).length = r.length + 1 := by simp
  refine ⟨?_, by rw [hl, atR_succ, gc]⟩
  rw [hl]
  refine links_succ (fun j hj => ?_) ?_
  · have := h j hj
    cases j with
    | zero => rw [linkG, ga 0 hj]; rw [linkG] at this; simpa using this
    | succ j => rw [linkG, ga _ hj, Nat.add_sub_cancel, ga j (by omega)]; rw [linkG, Nat.add_sub_cancel] at this; exact this
  · rw [link_at gc hc]
    refine decide_eq_true ?_
    rcases Nat.eq_zero_or_pos r.length with h0 | h0
    · rw [h0, atR, if_pos rfl]
      rw [h0] at gc
      rw [gc]
    · rw [hx h0]
      obtain ⟨m, hm⟩ : ∃ m, r.length = m + 1 := ⟨r.length - 1, by omega⟩
      rw [hm, atR_succ, atR_succ, ga m (by omega)]

variable {P : List Int}
/-- A walk of a table, channel by channel. -/
theorem walk_cases {z a : Int} {f : Nat} {l : List Int} (h : walkF W H L P z (f + 1) a = some l) :
    (l = [] ∧ a = z) ∨ ∃ c t, l = c :: t ∧ c = 4 * a + tabG (countG W H) P a z ∧ hasChG W H L c = true ∧ c / 4 = a ∧ c % 4 = tabG (countG W H) P a z ∧ walkF W H L P z f (endC W H c) = some t := by
  rw [walkF] at h
  split at h
  · split at h
    · rename_i e
      cases h
      exact .inl ⟨rfl, e⟩
    · cases h
  · split at h
    · rename_i h4 hs
      rw [Option.map_eq_some_iff] at h
      obtain ⟨t, ht, rfl⟩ := h
      obtain ⟨p0, p3, hc⟩ := steps_next hs
      have e1 : (4 * a + tabG (countG W H) P a z) / 4 = a := by omega
      have e2 : (4 * a + tabG (countG W H) P a z) % 4 = tabG (countG W H) P a z := by omega
      exact .inr ⟨_, t, rfl, rfl, hc, e1, e2, by rw [endC, e1, e2]; exact ht⟩
    · cases h
theorem walk_det {z : Int} : ∀ (f g : Nat) (a : Int) (l m : List Int), walkF W H L P z f a = some l → walkF W H L P z g a = some m → l = m
  | 0, _, _, _, _, h, _ => by simp [walkF] at h
  | _ + 1, 0, _, _, _, _, h => by simp [walkF] at h
  | f + 1, g + 1, a, l, m, h1, h2 => by
    rw [walkF] at h1 h2
    split at h1
    · rename_i h4
      rw [if_pos h4] at h2
      split at h1
      · rename_i e
        rw [if_pos e] at h2
        cases h1; cases h2; rfl
      · cases h1
    · rename_i h4
      rw [if_neg h4] at h2
      split at h1
      · rename_i hs
        rw [if_pos hs] at h2
        rw [Option.map_eq_some_iff] at h1 h2
        obtain ⟨t, ht, rfl⟩ := h1
        obtain ⟨u, hu, rfl⟩ := h2
        rw [walk_det f g _ t u ht hu]
      · cases h1
/-- What lies behind the first j channels of a walk is the walk from where they lead. -/
theorem walk_drop {z : Int} : ∀ (f : Nat) (a : Int) (l : List Int), walkF W H L P z f a = some l → ∀ j, j ≤ l.length →
    ∃ g, walkF W H L P z g (if j = 0 then a else endC W H (l.getD (j - 1) 0)) = some (l.drop j)
  | 0, _, _, h, _, _ => by simp [walkF] at h
  | f + 1, a, l, h, 0, _ => ⟨f + 1, by rw [if_pos rfl]; exact h⟩
  | f + 1, a, l, h, j + 1, hj => by
    rcases walk_cases h with ⟨rfl, _⟩ | ⟨c, t, rfl, _, _, _, _, ht⟩
    · simp at hj
    · obtain ⟨g, hg⟩ := walk_drop f _ t ht j (by simpa using hj)
      refine ⟨g, ?_⟩
      rw [if_neg (by omega), Nat.add_sub_cancel, List.drop_succ_cons]
      cases j with
      | zero => rw [if_pos rfl] at hg; exact hg
      | succ j => rw [if_neg (by omega), Nat.add_sub_cancel] at hg; rw [List.getD_cons_succ]; exact hg
theorem walk_links {z : Int} : ∀ (f : Nat) (a : Int) (l : List Int), walkF W H L P z f a = some l → linksTo W H L l l.length ∧ (0 < l.length → l.getD 0 0 / 4 = a ∧ l.getD 0 0 % 4 = tabG (countG W H) P a z ∧ atR W H l l.length = z) ∧ (l = [] → a = z)
  | 0, _, _, h => by simp [walkF] at h
  | f + 1, a, l, h => by
    rcases walk_cases h with ⟨rfl, e⟩ | ⟨c, t, rfl, hc, hh, h4, h5, ht⟩
    · exact ⟨links_zero, fun h => absurd h (by simp), fun _ => e⟩
    · obtain ⟨h1, h2, h3⟩ := walk_links f _ t ht
      refine ⟨fun j hj => ?_, fun _ => ⟨h4, h5, ?_⟩, fun e => by cases e⟩
      · cases j with
        | zero => exact link_first rfl hh
        | succ j =>
          have hj' : j < t.length := by simpa using hj
          have q := h1 j hj'
          have qh := link_has q
          rw [link_next (c := t.getD j 0) (x := endC W H ((c :: t).getD j 0)) (by rw [List.getD_cons_succ]) rfl qh]
          refine decide_eq_true ?_
          cases j with
          | zero => exact (h2 (by omega)).1
          | succ j =>
            rw [link_at rfl qh, atR_succ] at q
            rw [List.getD_cons_succ]
            exact of_decide_eq_true q
      · rw [List.length_cons, atR_succ]
        cases t with
        | nil => exact h3 rfl
        | cons d u =>
          have q := (h2 (by simp)).2.2
          rw [List.length_cons, atR_succ] at q
          rw [List.length_cons, List.getD_cons_succ]
          exact q
theorem walk_free {z a : Int} {f : Nat} {l : List Int} (h : walkF W H L P z f a = some l) (hm : meshG W H L = true) (h0 : 0 < l.length) : routeG W H L l = true ∧ freeG (nodesG W H L l) = true := by
  obtain ⟨h1, h2, _⟩ := walk_links f a l h
  have hr := route_yes hm h0 h1
  refine ⟨hr, ?_⟩
  have hlen := nodes_len hr
  rw [free_yes, hlen]
  · simp
  · intro i hi
    rw [hlen] at hi
    refine free_at (b := false) rfl (inG_no fun j hj => ?_)
    rw [List.length_take, hlen] at hj
    have hji : j < i := by omega
    rw [List.getD_eq_getElem?_getD, List.getElem?_take_of_lt hji, ← List.getD_eq_getElem?_getD, nodes_at hr (by omega), nodes_at hr (by omega)]
    intro e
    have hat : ∀ k, k ≤ l.length → (if k = 0 then a else endC W H (l.getD (k - 1) 0)) = atR W H l k := fun k hk => by
      unfold atR
      split
      · exact (h2 h0).1.symm
      · rfl
    obtain ⟨g1, w1⟩ := walk_drop f a l h j (by omega)
    obtain ⟨g2, w2⟩ := walk_drop f a l h i (by omega)
    rw [hat j (by omega), e] at w1
    rw [hat i (by omega)] at w2
    have := congrArg List.length (walk_det g1 g2 _ _ _ w1 w2)
    rw [List.length_drop, List.length_drop] at this
    omega
end
end Go.Proofs.YtidilfakganooaaDoor
end

section
namespace Go.Proofs.YtidilfakganooaaDoor
open Go.ChangeShapes Go.WideShapes Go.ChangeAt Go.RowKit
set_option linter.unusedVariables false

/-- The numbers below k that a set has, ascending. -/
def setL (f : Nat → Bool) (k : Nat) : List Int := ((List.range k).filter f).map fun j : Nat => (j : Int)
theorem setL_zero (f : Nat → Bool) : setL f 0 = [] := rfl
theorem setL_yes {f : Nat → Bool} {k : Nat} (h : f k = true) : setL f (k + 1) = setL f k ++ [(k : Int)] := by
  simp [setL, List.range_succ, List.filter_append, h]
theorem setL_no {f : Nat → Bool} {k : Nat} (h : f k = false) : setL f (k + 1) = setL f k := by
  simp [setL, List.range_succ, List.filter_append, h]
theorem setL_len (f : Nat → Bool) (k : Nat) : (setL f k).length ≤ k := by
  unfold setL
  rw [List.length_map]
  exact Nat.le_trans (List.length_filter_le _ _) (by simp)
theorem setL_congr {f g : Nat → Bool} {k : Nat} (h : ∀ x, x < k → f x = g x) : setL f k = setL g k := by
  unfold setL
  congr 1
  exact List.filter_congr fun x hx => h x (List.mem_range.1 hx)
theorem setL_mem {f : Nat → Bool} {k : Nat} {x : Int} : x ∈ setL f k ↔ ∃ j : Nat, j < k ∧ x = (j : Int) ∧ f j = true := by
  unfold setL
  simp only [List.mem_map, List.mem_filter, List.mem_range]
  exact ⟨fun ⟨j, ⟨h1, h2⟩, h3⟩ => ⟨j, h1, h3.symm, h2⟩, fun ⟨j, h1, h2, h3⟩ => ⟨j, ⟨h1, h3⟩, h2.symm⟩⟩
theorem setL_sorted (f : Nat → Bool) (k : Nat) : (setL f k).Pairwise (fun a b => a < b) := by
  induction k with
  | zero => exact List.Pairwise.nil
  | succ k ih =>
    cases h : f k with
    | false => rw [setL_no h]; exact ih
    | true =>
      rw [setL_yes h]
      refine List.pairwise_append.2 ⟨ih, List.pairwise_singleton _ _, fun a ha b hb => ?_⟩
      obtain ⟨j, hj, rfl, _⟩ := setL_mem.1 ha
      simp at hb
      omega

/-- A set with one more turn. -/
def withT (f : Nat → Bool) (p q : Int) (x : Nat) : Bool := f x || decide (p ≠ q ∧ 4 * p + q = (x : Int))
theorem withT_same {f : Nat → Bool} {p q : Int} (h : p = q) : withT f p q = f := by
  funext x; simp [withT, h]
/-- The turns from one port to the first k of some ports. -/
def rowT (p : Int) (T : List Int) (k : Nat) (x : Nat) : Bool := (List.range k).any fun j => decide (p ≠ T.getD j 0 ∧ 4 * p + T.getD j 0 = (x : Int))
/-- The turns from the first k of some ports to others. -/
def crossT (F T : List Int) (k : Nat) (x : Nat) : Bool := (List.range k).any fun i => rowT (F.getD i 0) T T.length x
def orT (f g : Nat → Bool) (x : Nat) : Bool := f x || g x
theorem orT_none (f : Nat → Bool) {g : Nat → Bool} (h : ∀ x, g x = false) : orT f g = f := by funext x; simp [orT, h]
theorem row_zero (p : Int) (T : List Int) (x : Nat) : rowT p T 0 x = false := rfl
theorem cross_zero (F T : List Int) (x : Nat) : crossT F T 0 x = false := rfl
theorem row_next (f : Nat → Bool) (p q : Int) (T : List Int) (k : Nat) (h : T.getD k 0 = q) : withT (orT f (rowT p T k)) p q = orT f (rowT p T (k + 1)) := by
  funext x
  simp only [withT, orT, rowT, List.range_succ, List.any_append, List.any_cons, List.any_nil, Bool.or_false, h, Bool.or_assoc]
theorem cross_next (f : Nat → Bool) (p : Int) (F T : List Int) (k : Nat) (h : F.getD k 0 = p) : orT (orT f (crossT F T k)) (rowT p T T.length) = orT f (crossT F T (k + 1)) := by
  funext x
  simp only [orT, crossT, List.range_succ, List.any_append, List.any_cons, List.any_nil, Bool.or_false, h, Bool.or_assoc]

/-- The turn that a way takes behind its channel j. -/
def hitT (R : List Int) (j : Nat) (x : Nat) : Bool := decide (R.getD j 0 % 4 ≠ R.getD (j + 1) 0 % 4 ∧ 4 * (R.getD j 0 % 4) + R.getD (j + 1) 0 % 4 = (x : Int))
def wayT (R : List Int) (k : Nat) (x : Nat) : Bool := (List.range k).any fun j => hitT R j x
theorem way_zero (R : List Int) (x : Nat) : wayT R 0 x = false := rfl
theorem way_next (f : Nat → Bool) (R : List Int) (k : Nat) (p q : Int) (hp : R.getD k 0 % 4 = p) (hq : R.getD (k + 1) 0 % 4 = q) : withT (orT f (wayT R k)) p q = orT f (wayT R (k + 1)) := by
  funext x
  simp only [withT, orT, wayT, hitT, List.range_succ, List.any_append, List.any_cons, List.any_nil, Bool.or_false, hp, hq, Bool.or_assoc]
variable {W H : Int} {L P : List Int}
/-- The way of the pair of nodes number i. -/
def pairW (W H : Int) (L P : List Int) (i : Nat) : List Int := walkOf W H L P ((i : Int) / countG W H) ((i : Int) % countG W H)
def allT (W H : Int) (L P : List Int) (k : Nat) (x : Nat) : Bool := (List.range k).any fun i => wayT (pairW W H L P i) ((pairW W H L P i).length - 1) x
theorem all_zero (x : Nat) : allT W H L P 0 x = false := rfl
theorem all_next {k : Nat} {R : List Int} (h : pairW W H L P k = R) : orT (allT W H L P k) (wayT R (R.length - 1)) = allT W H L P (k + 1) := by
  funext x
  simp only [orT, allT, List.range_succ, List.any_append, List.any_cons, List.any_nil, Bool.or_false, h]
def turnsG (W H : Int) (L P : List Int) : List Int := if tableG W H L P then setL (allT W H L P (sqG W H)) 16 else []
theorem turnsG_yes (h : tableG W H L P = true) : turnsG W H L P = setL (allT W H L P (sqG W H)) 16 := if_pos h
theorem turnsG_no (h : tableG W H L P = false) : turnsG W H L P = [] := if_neg (by simp [h])
theorem turnsG_len : (turnsG W H L P).length ≤ 16 := by
  unfold turnsG; split
  · exact setL_len _ _
  · simp

/-- The channels of a way are numbers below 64. -/
theorem walkF_range {z : Int} : ∀ (f : Nat) (a : Int) (l : List Int), walkF W H L P z f a = some l → ∀ c ∈ l, 0 ≤ c ∧ c < 64
  | 0, a, l, h => by simp [walkF] at h
  | f + 1, a, l, h => by
    have hcl := countG_le W H
    rcases walk_cases h with ⟨rfl, _⟩ | ⟨c, t, rfl, _, hc, _, _, ht⟩
    · simp
    · intro d hd
      rcases List.mem_cons.1 hd with rfl | hd
      · simp only [hasChG, leadsG, Bool.and_eq_true, decide_eq_true_eq] at hc
        omega
      · exact walkF_range f _ t ht d hd
theorem pairW_range {i j : Nat} (h : j < (pairW W H L P i).length) : 0 ≤ (pairW W H L P i).getD j 0 ∧ (pairW W H L P i).getD j 0 < 64 := by
  unfold pairW walkOf at h ⊢
  cases hw : walkF W H L P ((i : Int) % countG W H) ((countG W H).toNat + 1) ((i : Int) / countG W H) with
  | none => simp [hw] at h
  | some l =>
    simp only [hw, Option.getD_some] at h ⊢
    have he : l.getD j 0 = l[j] := by simp [List.getD, List.getElem?_eq_getElem h]
    rw [he]
    exact walkF_range _ _ _ hw _ (List.getElem_mem h)
theorem pairW_len (i : Nat) : (pairW W H L P i).length ≤ 16 := walkOf_len _ _

/-- The turns of a rule. -/
def ruleL (r : Int) : List Int := if r = 1 then [4, 6, 12, 14] else if r = 2 then [1, 3, 9, 11] else if r = 3 then [1, 9, 12, 13, 14] else if r = 4 then [1, 3, 4, 6, 9, 11, 12, 14] else []
theorem ruleL_len (r : Int) : (ruleL r).length ≤ 16 := by
  unfold ruleL
  (repeat' split) <;> simp
/-- The turns of a rule as the model marks them. -/
def ruleF (r : Int) (x : Nat) : Bool :=
  if r = 1 then decide (x / 4 % 2 ≠ x % 4 % 2) && decide (x / 4 % 2 = 1) else if r = 2 then decide (x / 4 % 2 ≠ x % 4 % 2) && !decide (x / 4 % 2 = 1)
  else if r = 3 then decide (x / 4 = 3) && decide (x % 4 ≠ 3) || !decide (x / 4 % 2 = 1) && decide (x % 4 = 1) else if r = 4 then decide (x / 4 % 2 ≠ x % 4 % 2) else false
theorem rule_set (r : Int) : setL (ruleF r) 16 = ruleL r := by
  by_cases h1 : r = 1
  · subst h1; decide
  by_cases h2 : r = 2
  · subst h2; decide
  by_cases h3 : r = 3
  · subst h3; decide
  by_cases h4 : r = 4
  · subst h4; decide
  have e : ∀ x, ruleF r x = false := fun x => by simp [ruleF, h1, h2, h3, h4]
  have e2 : ruleL r = [] := by simp [ruleL, h1, h2, h3, h4]
  rw [e2, setL, List.filter_eq_nil_iff.2 (fun x _ => by simp [e x])]
  rfl

/-- Is it a turn back? -/
def backT (x : Int) : Bool := decide (0 ≤ x ∧ x ≤ 15) && decide (x % 4 = oppG (x / 4))
/-- A turn's name. -/
def nameT (x : Int) : ByteArray := if decide (0 ≤ x ∧ x ≤ 15) && decide (x / 4 ≠ x % 4) then portB (x / 4) ++ ⟨#[45]⟩ ++ portB (x % 4) else ⟨#[]⟩
theorem portB_size (p : Int) : (portB p).size ≤ 5 := by
  unfold portB
  (repeat' split) <;> decide
def allowsG (W H : Int) (L P T : List Int) : Bool := tableG W H L P && (turnsG W H L P).all fun x => inG T x
end Go.Proofs.YtidilfakganooaaDoor
end

section
namespace Go.Proofs.YtidilfakganooaaDoor
open Go.ChangeShapes Go.WideShapes Go.ChangeAt Go.RowKit
set_option linter.unusedVariables false

/-- The first j pairs of a way. -/
def wayD (R : List Int) (j : Nat) : List Dep := (List.range j).map fun t => (R.getD t 0, R.getD (t + 1) 0)
theorem wayD_zero (R : List Int) : wayD R 0 = [] := rfl
theorem wayD_length (R : List Int) (j : Nat) : (wayD R j).length = j := by simp [wayD]
theorem wayD_next (R : List Int) (j : Nat) : wayD R (j + 1) = wayD R j ++ [(R.getD j 0, R.getD (j + 1) 0)] := by
  unfold wayD
  rw [List.range_succ, List.map_append]
  rfl
theorem ins_way {D : List Dep} {R : List Int} {j : Nat} {x y : Int} (hx : R.getD j 0 = x) (hy : R.getD (j + 1) 0 = y) : insD (insAll D (wayD R j)) (x, y) = insAll D (wayD R (j + 1)) := by
  rw [wayD_next, insAll_append, hx, hy]
  rfl
section
variable {W H : Int} {L P : List Int}
/-- The pairs of the first k ways. -/
def allD (W H : Int) (L P : List Int) : Nat → List Dep
  | 0 => []
  | k + 1 => insAll (allD W H L P k) (wayD (pairW W H L P k) ((pairW W H L P k).length - 1))
theorem allD_asc : ∀ k, ascD (allD W H L P k)
  | 0 => asc_nil
  | k + 1 => insAll_asc (allD_asc k) _
theorem allD_next {k : Nat} {R : List Int} (h : pairW W H L P k = R) : insAll (allD W H L P k) (wayD R (R.length - 1)) = allD W H L P (k + 1) := by subst h; rfl
theorem allD_len : ∀ k, (allD W H L P k).length ≤ k * 16
  | 0 => Nat.le_refl _
  | k + 1 => by
    have h1 := (insAll_length (allD W H L P k) (wayD (pairW W H L P k) ((pairW W H L P k).length - 1))).1
    have h2 := allD_len k
    have h3 := pairW_len (W := W) (H := H) (L := L) (P := P) k
    rw [wayD_length] at h1
    show (insAll _ _).length ≤ _
    omega
theorem ins_len {k j : Nat} {R : List Int} (hk : k ≤ 256) (hj : j ≤ 16) : (insAll (allD W H L P k) (wayD R j)).length ≤ 5000 := by
  have h1 := (insAll_length (allD W H L P k) (wayD R j)).1
  have h2 := allD_len (W := W) (H := H) (L := L) (P := P) k
  rw [wayD_length] at h1
  omega
theorem mem_allD : ∀ {k : Nat} {d : Dep}, d ∈ allD W H L P k → ∃ i j, i < k ∧ j + 1 < (pairW W H L P i).length ∧ d = ((pairW W H L P i).getD j 0, (pairW W H L P i).getD (j + 1) 0)
  | 0, d, h => by cases h
  | k + 1, d, h => by
    rcases mem_insAll.1 h with h | h
    · obtain ⟨i, j, h1, h2, h3⟩ := mem_allD h
      exact ⟨i, j, by omega, h2, h3⟩
    · unfold wayD at h
      obtain ⟨j, h1, rfl⟩ := List.mem_map.1 h
      have := List.mem_range.1 h1
      exact ⟨k, j, Nat.lt_succ_self k, by omega, rfl⟩
def depG (W H : Int) (L P : List Int) : List Dep := if tableG W H L P then allD W H L P (sqG W H) else []
theorem depG_yes (h : tableG W H L P = true) : depG W H L P = allD W H L P (sqG W H) := if_pos h
theorem depG_no (h : tableG W H L P = false) : depG W H L P = [] := if_neg (by simp [h])
theorem sqG_le : sqG W H ≤ 256 := by
  have h := cntN_le W H
  exact Nat.mul_le_mul h h
theorem depG_asc : ascD (depG W H L P) := by
  unfold depG
  split
  · exact allD_asc _
  · exact asc_nil
theorem depG_len : (depG W H L P).length ≤ 4096 := by
  unfold depG
  split
  · have h1 := allD_len (W := W) (H := H) (L := L) (P := P) (sqG W H)
    have h2 := sqG_le (W := W) (H := H)
    omega
  · simp
theorem depG_in {d : Dep} (h : d ∈ depG W H L P) : 0 ≤ d.1 ∧ d.1 < 64 ∧ 0 ≤ d.2 ∧ d.2 < 64 := by
  unfold depG at h
  split at h
  · obtain ⟨i, j, _, h2, rfl⟩ := mem_allD h
    have h3 := pairW_range (W := W) (H := H) (L := L) (P := P) (i := i) (j := j) (by omega)
    have h4 := pairW_range (W := W) (H := H) (L := L) (P := P) (i := i) (j := j + 1) h2
    exact ⟨h3.1, h3.2, h4.1, h4.2⟩
  · cases h
theorem depG_ok : okD (depG W H L P) = true := okD_of depG_asc fun d hd => by
  have := depG_in hd
  exact inD_iff.2 (by omega)
end
end Go.Proofs.YtidilfakganooaaDoor
end

section
namespace Go.Proofs.YtidilfakganooaaDoor
open Go.ChangeShapes Go.WideShapes Go.ChangeAt Go.RowKit
set_option linter.unusedVariables false

/-- The element leads from a channel without a rank to c. -/
def holdO (R : List Int) (d : Dep) (c : Nat) : Bool := decide (d.2 = (c : Int)) && decide (R.getD d.1.toNat 0 < 0)
def freeO (D : List Dep) (R : List Int) (c : Nat) : Bool := (List.range D.length).all fun i => !holdO R (atD D i) c
theorem freeO_iff {D : List Dep} {R : List Int} {c : Nat} : freeO D R c = true ↔ ∀ i, i < D.length → holdO R (atD D i) c = false := by
  unfold freeO
  rw [List.all_eq_true]
  exact ⟨fun h i hi => by simpa using h i (List.mem_range.2 hi), fun h i hi => by simpa using h i (List.mem_range.1 hi)⟩
theorem freeO_no {D : List Dep} {R : List Int} {c i : Nat} (hi : i < D.length) (h : holdO R (atD D i) c = true) : freeO D R c = false := by
  cases hf : freeO D R c with
  | false => rfl
  | true => rw [freeO_iff.1 hf i hi] at h; cases h
/-- c can be ranked next. -/
def candO (D : List Dep) (R : List Int) (c : Nat) : Bool := decide (R.getD c 0 < 0) && freeO D R c
/-- The least such channel. -/
def bestO (D : List Dep) (R : List Int) : Option Nat := (List.range 128).find? (candO D R)
theorem find_range {p : Nat → Bool} {n c : Nat} (hc : c < n) (h : p c = true) (h0 : ∀ j, j < c → p j = false) : (List.range n).find? p = some c := by
  induction n with
  | zero => omega
  | succ n ih =>
    rw [List.range_succ, List.find?_append]
    rcases Nat.lt_succ_iff_lt_or_eq.1 hc with h1 | h1
    · rw [ih h1]; rfl
    · subst h1
      have : (List.range c).find? p = none := List.find?_eq_none.2 fun x hx => by
        rw [h0 x (List.mem_range.1 hx)]; simp
      rw [this]
      simp [h]
theorem bestO_some {D : List Dep} {R : List Int} {c : Nat} (hc : c < 128) (h : candO D R c = true) (h0 : ∀ j, j < c → candO D R j = false) : bestO D R = some c := find_range hc h h0
theorem bestO_none {D : List Dep} {R : List Int} (h0 : ∀ j, j < 128 → candO D R j = false) : bestO D R = none := List.find?_eq_none.2 fun x hx => by rw [h0 x (List.mem_range.1 hx)]; simp
theorem bestO_is {D : List Dep} {R : List Int} {c : Nat} (h : bestO D R = some c) : c < 128 ∧ candO D R c = true := ⟨List.mem_range.1 (List.mem_of_find?_eq_some h), List.find?_some h⟩
theorem bestO_least {D : List Dep} {R : List Int} {c : Nat} (h : bestO D R = some c) {j : Nat} (hj : j < c) : candO D R j = false := by
  cases hp : candO D R j with
  | false => rfl
  | true =>
    have key : ∀ n : Nat, j < n → ∃ k, (List.range n).find? (candO D R) = some k ∧ k ≤ j := fun n => by
      induction n with
      | zero => intro h; omega
      | succ n ih =>
        intro hn
        rw [List.range_succ, List.find?_append]
        rcases Nat.lt_succ_iff_lt_or_eq.1 hn with h1 | h1
        · obtain ⟨k, hk, hl⟩ := ih h1
          exact ⟨k, by rw [hk]; rfl, hl⟩
        · subst h1
          cases hf : (List.range j).find? (candO D R) with
          | some k => exact ⟨k, rfl, Nat.le_of_lt (List.mem_range.1 (List.mem_of_find?_eq_some hf))⟩
          | none => exact ⟨j, by simp [hp], Nat.le_refl _⟩
    obtain ⟨k, hk, hl⟩ := key 128 (by have := (bestO_is h).1; omega)
    unfold bestO at h
    rw [h] at hk
    cases hk
    omega
/-- The ranks behind r steps. -/
def ordTo (D : List Dep) : Nat → Option (List Int)
  | 0 => some (List.replicate 128 (-1))
  | r + 1 => (ordTo D r).bind fun R => (bestO D R).map fun c => R.set c (r : Int)
theorem ordTo_next {D : List Dep} {r c : Nat} {R : List Int} (h : ordTo D r = some R) (hc : bestO D R = some c) : ordTo D (r + 1) = some (R.set c (r : Int)) := by simp [ordTo, h, hc]
theorem ordTo_stop {D : List Dep} {r : Nat} {R : List Int} (h : ordTo D r = some R) (hc : bestO D R = none) : ordTo D (r + 1) = none := by simp [ordTo, h, hc]
theorem ordTo_none {D : List Dep} {r : Nat} (h : ordTo D r = none) : ∀ k, ordTo D (r + k) = none
  | 0 => h
  | k + 1 => by rw [← Nat.add_assoc, ordTo, ordTo_none h k]; rfl
theorem ordTo_dead {D : List Dep} {r : Nat} (h : ordTo D r = none) (hr : r ≤ 128) : ordTo D 128 = none := by
  have := ordTo_none h (128 - r)
  rwa [show r + (128 - r) = 128 by omega] at this
def orderO (D : List Dep) : Option (List Int) := if okD D then ordTo D 128 else none
theorem orderO_bad {D : List Dep} (h : okD D = false) : orderO D = none := by simp [orderO, h]
theorem orderO_ok {D : List Dep} (h : okD D = true) : orderO D = ordTo D 128 := by simp [orderO, h]
/-- What holds behind r steps. -/
structure OrdInv (D : List Dep) (r : Nat) (R : List Int) : Prop where
  len : R.length = 128
  rng : ∀ c, c < 128 → R.getD c 0 = -1 ∨ (0 ≤ R.getD c 0 ∧ R.getD c 0 < (r : Int))
  cnt : R.countP (fun x => decide (x < 0)) = 128 - r
  all : ∀ s : Nat, s < r → ∃ c, c < 128 ∧ R.getD c 0 = (s : Int)
  dep : ∀ d ∈ D, 0 ≤ R.getD d.2.toNat 0 → 0 ≤ R.getD d.1.toNat 0 ∧ R.getD d.1.toNat 0 < R.getD d.2.toNat 0
theorem set_getD {R : List Int} {c i : Nat} {x : Int} (hc : c < R.length) : (R.set c x).getD i 0 = if c = i then x else R.getD i 0 := by
  rw [List.getD_eq_getElem?_getD, List.getElem?_set]
  split
  · rename_i h
    subst h
    first | rfl | (rw [if_pos hc]; rfl) | simp [hc]
  · rw [List.getD_eq_getElem?_getD]
theorem ord_start (D : List Dep) (hD : okD D = true) : OrdInv D 0 (List.replicate 128 (-1)) := by
  have hg : ∀ c, c < 128 → (List.replicate 128 (-1 : Int)).getD c 0 = -1 := fun c hc => by
    rw [List.getD_eq_getElem?_getD, List.getElem?_replicate, if_pos hc]; rfl
  refine ⟨List.length_replicate, fun c hc => .inl (hg c hc), ?_, fun s hs => by omega, fun d hd h => ?_⟩
  · rw [List.countP_replicate]; rfl
  · have := inD_iff.1 (okD_in hD hd)
    rw [hg d.2.toNat (by omega)] at h
    omega
theorem ord_next {D : List Dep} (hD : okD D = true) {r c : Nat} {R : List Int} (h : OrdInv D r R) (hr : r < 128) (hc : bestO D R = some c) : OrdInv D (r + 1) (R.set c (r : Int)) := by
  obtain ⟨hc1, hc2⟩ := bestO_is hc
  simp only [candO, Bool.and_eq_true, decide_eq_true_eq] at hc2
  obtain ⟨hn, hf⟩ := hc2
  have hcl : c < R.length := by rw [h.len]; exact hc1
  refine ⟨by rw [List.length_set]; exact h.len, fun i hi => ?_, ?_, fun s hs => ?_, fun d hd h2 => ?_⟩
  · rw [set_getD hcl]
    split
    · right; omega
    · rcases h.rng i hi with h1 | h1
      · exact .inl h1
      · right; omega
  · have e : R.getD c 0 = R[c] := by rw [List.getD_eq_getElem?_getD, List.getElem?_eq_getElem hcl]; rfl
    rw [e] at hn
    have hr0 : ¬ ((r : Int) < 0) := by omega
    rw [List.countP_set hcl, h.cnt]
    simp [hn, hr0]
    omega
  · rcases Nat.lt_succ_iff_lt_or_eq.1 hs with h1 | h1
    · obtain ⟨i, hi, he⟩ := h.all s h1
      refine ⟨i, hi, ?_⟩
      rw [set_getD hcl, if_neg (fun e => by subst e; omega)]
      exact he
    · exact ⟨c, hc1, by rw [set_getD hcl, if_pos rfl, h1]⟩
  · have hin := inD_iff.1 (okD_in hD hd)
    obtain ⟨i, hi, rfl⟩ := atD_ex hd
    have hh := freeO_iff.1 hf i hi
    simp only [holdO, Bool.and_eq_false_iff, decide_eq_false_iff_not] at hh
    rw [set_getD hcl] at h2
    rw [set_getD hcl, set_getD hcl]
    by_cases e2 : c = (atD D i).2.toNat
    · rw [if_pos e2]
      have h3 : ¬ (R.getD (atD D i).1.toNat 0 < 0) := by
        rcases hh with h4 | h4
        · exact absurd (by omega) h4
        · exact h4
      have e1 : c ≠ (atD D i).1.toNat := fun e => by rw [← e] at h3; omega
      rw [if_neg e1]
      rcases h.rng (atD D i).1.toNat (by omega) with h5 | h5
      · omega
      · omega
    · rw [if_neg e2] at h2 ⊢
      obtain ⟨h5, h6⟩ := h.dep _ hd h2
      have e1 : c ≠ (atD D i).1.toNat := fun e => by rw [← e] at h5; omega
      rw [if_neg e1]
      exact ⟨h5, h6⟩
theorem ord_inv {D : List Dep} (hD : okD D = true) : ∀ {r : Nat} {R : List Int}, r ≤ 128 → ordTo D r = some R → OrdInv D r R
  | 0, R, _, h => by
    have : R = List.replicate 128 (-1) := (Option.some.inj h).symm
    rw [this]
    exact ord_start D hD
  | r + 1, R, hr, h => by
    cases h1 : ordTo D r with
    | none => rw [ordTo, h1] at h; cases h
    | some R0 =>
      cases h2 : bestO D R0 with
      | none => rw [ordTo_stop h1 h2] at h; cases h
      | some c =>
        rw [ordTo_next h1 h2] at h
        have : R = R0.set c (r : Int) := (Option.some.inj h).symm
        rw [this]
        exact ord_next hD (ord_inv hD (by omega) h1) (by omega) h2
theorem ordTo_len {D : List Dep} : ∀ {r : Nat} {R : List Int}, ordTo D r = some R → R.length = 128
  | 0, R, h => by rw [← Option.some.inj h]; exact List.length_replicate
  | r + 1, R, h => by
    cases h1 : ordTo D r with
    | none => rw [ordTo, h1] at h; cases h
    | some R0 =>
      cases h2 : bestO D R0 with
      | none => rw [ordTo_stop h1 h2] at h; cases h
      | some c =>
        rw [ordTo_next h1 h2] at h
        rw [← Option.some.inj h, List.length_set]
        exact ordTo_len h1
/-- An order: its ranks are all the numbers, and they rise along each element. -/
def riseO (D : List Dep) (R : List Int) (i : Nat) : Bool := decide (R.getD (atD D i).1.toNat 0 < R.getD (atD D i).2.toNat 0)
def isOrdO (D : List Dep) (R : List Int) : Bool := okD D && decide (R.length = 128) && ((List.range 128).all fun r => inG R (r : Int)) && (List.range D.length).all (riseO D R)
theorem isOrdO_of {D : List Dep} {R : List Int} (h1 : okD D = true) (h2 : R.length = 128) (h3 : ∀ r : Nat, r < 128 → inG R (r : Int) = true) (h4 : ∀ i, i < D.length → riseO D R i = true) : isOrdO D R = true := by
  simp only [isOrdO, h1, h2, decide_true, Bool.true_and, Bool.and_eq_true, List.all_eq_true, List.mem_range]
  exact ⟨h3, h4⟩
theorem isOrdO_bad {D : List Dep} {R : List Int} (h : okD D = false) : isOrdO D R = false := by simp [isOrdO, h]
theorem isOrdO_len {D : List Dep} {R : List Int} (h : R.length ≠ 128) : isOrdO D R = false := by simp [isOrdO, h]
theorem isOrdO_lack {D : List Dep} {R : List Int} {r : Nat} (hr : r < 128) (h : inG R (r : Int) = false) : isOrdO D R = false := by
  cases ho : isOrdO D R with
  | false => rfl
  | true =>
    simp only [isOrdO, Bool.and_eq_true, List.all_eq_true, List.mem_range] at ho
    rw [ho.1.2 r hr] at h
    cases h
theorem isOrdO_fall {D : List Dep} {R : List Int} {i : Nat} (hi : i < D.length) (h : riseO D R i = false) : isOrdO D R = false := by
  cases ho : isOrdO D R with
  | false => rfl
  | true =>
    simp only [isOrdO, Bool.and_eq_true, List.all_eq_true, List.mem_range] at ho
    rw [ho.2 i hi] at h
    cases h
/-- What is found is an order. -/
theorem order_is {D : List Dep} {R : List Int} (h : orderO D = some R) : okD D = true ∧ R.length = 128 ∧ isOrdO D R = true := by
  cases hD : okD D with
  | false => rw [orderO_bad hD] at h; cases h
  | true =>
    rw [orderO_ok hD] at h
    have hi := ord_inv hD (Nat.le_refl _) h
    refine ⟨rfl, hi.len, isOrdO_of hD hi.len (fun r hr => ?_) (fun i hj => ?_)⟩
    · obtain ⟨c, hc, he⟩ := hi.all r hr
      exact inG_yes (by rw [hi.len]; exact hc) he
    · have hn : ∀ x ∈ R, ¬ x < 0 := fun x hx => by
        have := List.countP_eq_zero.1 hi.cnt x hx
        simpa using this
      have hin := inD_iff.1 (okD_in hD (atD_mem hj))
      have hm : R.getD (atD D i).2.toNat 0 ∈ R := by
        rw [List.getD_eq_getElem?_getD, List.getElem?_eq_getElem (by rw [hi.len]; omega)]
        exact List.getElem_mem _
      have := hi.dep _ (atD_mem hj) (by have := hn _ hm; omega)
      exact decide_eq_true this.2
/-- The least channel to which no element leads has the rank 0. -/
def noPre (D : List Dep) (c : Nat) : Bool := (List.range D.length).all fun i => decide ((atD D i).2 ≠ (c : Int))
theorem cand_start {D : List Dep} (hD : okD D = true) {c : Nat} (hc : c < 128) : candO D (List.replicate 128 (-1)) c = noPre D c := by
  have hg : ∀ c, c < 128 → (List.replicate 128 (-1 : Int)).getD c 0 = -1 := fun c hc => by
    rw [List.getD_eq_getElem?_getD, List.getElem?_replicate, if_pos hc]; rfl
  unfold candO freeO noPre
  rw [hg c hc]
  rw [show decide ((-1 : Int) < 0) = true from rfl, Bool.true_and]
  apply Bool.eq_iff_iff.2
  rw [List.all_eq_true, List.all_eq_true]
  have key : ∀ i, i < D.length → (!holdO (List.replicate 128 (-1)) (atD D i) c) = decide ((atD D i).2 ≠ (c : Int)) := fun i hi => by
    have hin := inD_iff.1 (okD_in hD (atD_mem hi))
    unfold holdO
    rw [hg _ (by omega), show decide ((-1 : Int) < 0) = true from rfl, Bool.and_true]
    by_cases h : (atD D i).2 = (c : Int) <;> simp [h]
  exact ⟨fun h i hi => by rw [← key i (List.mem_range.1 hi)]; exact h i hi, fun h i hi => by rw [key i (List.mem_range.1 hi)]; exact h i hi⟩
theorem ord_first {D : List Dep} (hD : okD D = true) {R : List Int} (h : ordTo D 128 = some R) : ∃ c, c < 128 ∧ noPre D c = true ∧ (∀ j, j < c → noPre D j = false) ∧ R.getD c 0 = 0 := by
  have key : ∀ r, ∀ R, r + 1 ≤ 128 → ordTo D (r + 1) = some R → ∃ c, bestO D (List.replicate 128 (-1)) = some c ∧ R.getD c 0 = 0 := fun r => by
    induction r with
    | zero =>
      intro R _ h
      cases h2 : bestO D (List.replicate 128 (-1)) with
      | none => rw [ordTo_stop (r := 0) rfl h2] at h; cases h
      | some c =>
        rw [ordTo_next (r := 0) rfl h2] at h
        refine ⟨c, rfl, ?_⟩
        rw [← Option.some.inj h, set_getD (by rw [List.length_replicate]; exact (bestO_is h2).1), if_pos rfl]
        rfl
    | succ r ih =>
      intro R hr h
      cases h1 : ordTo D (r + 1) with
      | none => rw [ordTo, h1] at h; cases h
      | some R0 =>
        cases h2 : bestO D R0 with
        | none => rw [ordTo_stop h1 h2] at h; cases h
        | some c =>
          rw [ordTo_next h1 h2] at h
          obtain ⟨c0, hc0, he⟩ := ih R0 (by omega) h1
          obtain ⟨hc1, hc2⟩ := bestO_is h2
          simp only [candO, Bool.and_eq_true, decide_eq_true_eq] at hc2
          refine ⟨c0, hc0, ?_⟩
          rw [← Option.some.inj h, set_getD (by rw [ordTo_len h1]; exact hc1), if_neg (fun e => by subst e; omega)]
          exact he
  obtain ⟨c, hc, he⟩ := key 127 R (by omega) h
  obtain ⟨h1, h2⟩ := bestO_is hc
  exact ⟨c, h1, by rw [← cand_start hD h1]; exact h2, fun j hj => by rw [← cand_start hD (by omega)]; exact bestO_least hc hj, he⟩

/-- The rank of a channel under the rule xy. -/
def rankG (W H rule c : Int) : Int :=
  if rule = 1 ∧ leadsG W H c = true then
    (if c % 4 = 1 then c / 4 % W else if c % 4 = 3 then W - 1 - c / 4 % W else if c % 4 = 2 then 10 + c / 4 / W else 10 + H - 1 - c / 4 / W)
  else -1
/-- Each channel of the route is an index, and its rank is above that of the one ahead. -/
def upO (R T : List Int) (i : Nat) : Bool :=
  decide (0 ≤ T.getD i 0 ∧ T.getD i 0 ≤ (R.length : Int) - 1) && (decide (i = 0) || decide (R.getD (T.getD (i - 1) 0).toNat 0 < R.getD (T.getD i 0).toNat 0))
def risesO (R T : List Int) : Bool := (List.range T.length).all (upO R T)
theorem risesO_of {R T : List Int} (h : ∀ i, i < T.length → upO R T i = true) : risesO R T = true := by
  simp only [risesO, List.all_eq_true, List.mem_range]; exact h
theorem risesO_not {R T : List Int} {i : Nat} (hi : i < T.length) (h : upO R T i = false) : risesO R T = false := by
  cases ho : risesO R T with
  | false => rfl
  | true =>
    simp only [risesO, List.all_eq_true, List.mem_range] at ho
    rw [ho i hi] at h
    cases h
end Go.Proofs.YtidilfakganooaaDoor
end

section
namespace Go.Proofs.YtidilfakganooaaDoor
open Go.ChangeShapes Go.WideShapes Go.ChangeAt Go.RowKit
set_option linter.unusedVariables false

/-- An element leads from a to b. -/
def edgeB (D : List Dep) (a b : Nat) : Bool := D.any fun d => decide (d.1 = (a : Int)) && decide (d.2 = (b : Int))
theorem edge_iff {D : List Dep} {a b : Nat} : edgeB D a b = true ↔ ((a : Int), (b : Int)) ∈ D := by
  unfold edgeB
  rw [List.any_eq_true]
  constructor
  · rintro ⟨d, hd, h⟩
    simp only [Bool.and_eq_true, decide_eq_true_eq] at h
    have : d = ((a : Int), (b : Int)) := Prod.ext h.1 h.2
    rwa [this] at hd
  · exact fun h => ⟨_, h, by simp⟩
theorem edge_lt {D : List Dep} (hD : okD D = true) {a b : Nat} (h : edgeB D a b = true) : a < 128 ∧ b < 128 := by
  have h1 := inD_iff.1 (okD_in hD (edge_iff.1 h))
  exact ⟨by have := h1.2.1; simp only at this; omega, by have := h1.2.2.2; simp only at this; omega⟩
theorem edge_succ {D : List Dep} {a b : Nat} : edgeB D a b = true ↔ (b : Int) ∈ succD D (a : Int) := by
  rw [edge_iff]
  unfold succD
  rw [List.mem_map]
  constructor
  · exact fun h => ⟨_, List.mem_filter.2 ⟨h, by simp⟩, rfl⟩
  · rintro ⟨d, hd, he⟩
    obtain ⟨h1, h2⟩ := List.mem_filter.1 hd
    have h3 : d.1 = (a : Int) := by simpa using h2
    have : d = ((a : Int), (b : Int)) := Prod.ext h3 he
    rwa [this] at h1
theorem succ_in {D : List Dep} (hD : okD D = true) {c x : Int} (h : x ∈ succD D c) : 0 ≤ x ∧ x < 128 := by
  unfold succD at h
  obtain ⟨d, hd, rfl⟩ := List.mem_map.1 h
  have h1 := inD_iff.1 (okD_in hD (List.mem_filter.1 hd).1)
  omega

/-- n elements, one behind the other, lead from a to b. -/
def wayB (D : List Dep) (a : Nat) : Nat → Nat → Bool
  | 0, b => decide (b = a)
  | n + 1, b => (List.range 128).any fun u => wayB D a n u && edgeB D u b
theorem wayB_zero {D : List Dep} {a b : Nat} : wayB D a 0 b = true ↔ b = a := by simp [wayB]
theorem wayB_next {D : List Dep} (hD : okD D = true) {a n b : Nat} : wayB D a (n + 1) b = true ↔ ∃ u, wayB D a n u = true ∧ edgeB D u b = true := by
  rw [wayB, List.any_eq_true]
  constructor
  · rintro ⟨u, hu, h⟩
    rw [Bool.and_eq_true] at h
    exact ⟨u, h⟩
  · rintro ⟨u, h1, h2⟩
    exact ⟨u, List.mem_range.2 (edge_lt hD h2).1, by rw [h1, h2]; rfl⟩
theorem way_one {D : List Dep} (hD : okD D = true) {a b : Nat} : wayB D a 1 b = true ↔ edgeB D a b = true := by
  rw [wayB_next hD]
  exact ⟨fun ⟨u, h1, h2⟩ => by rw [wayB_zero.1 h1] at h2; exact h2, fun h => ⟨a, wayB_zero.2 rfl, h⟩⟩
theorem way_lt {D : List Dep} (hD : okD D = true) {a n b : Nat} (hn : 1 ≤ n) (h : wayB D a n b = true) : b < 128 := by
  obtain ⟨m, rfl⟩ : ∃ m, n = m + 1 := ⟨n - 1, by omega⟩
  obtain ⟨u, _, h2⟩ := (wayB_next hD).1 h
  exact (edge_lt hD h2).2
theorem way_from {D : List Dep} (hD : okD D = true) {a : Nat} : ∀ {n b : Nat}, 1 ≤ n → wayB D a n b = true → a < 128
  | 0, b, hn, h => by omega
  | 1, b, _, h => (edge_lt hD ((way_one hD).1 h)).1
  | n + 2, b, _, h => by
    obtain ⟨u, h1, _⟩ := (wayB_next hD).1 h
    exact way_from hD (n := n + 1) (by omega) h1
theorem way_add {D : List Dep} (hD : okD D = true) {a b : Nat} {n : Nat} (h : wayB D a n b = true) : ∀ {m c : Nat}, wayB D b m c = true → wayB D a (n + m) c = true
  | 0, c, k => by rw [wayB_zero.1 k]; exact h
  | m + 1, c, k => by
    obtain ⟨u, h1, h2⟩ := (wayB_next hD).1 k
    exact (wayB_next hD).2 ⟨u, way_add hD h h1, h2⟩
theorem way_split {D : List Dep} (hD : okD D = true) {a n : Nat} : ∀ {m c : Nat}, wayB D a (n + m) c = true → ∃ b, wayB D a n b = true ∧ wayB D b m c = true
  | 0, c, h => ⟨c, h, wayB_zero.2 rfl⟩
  | m + 1, c, h => by
    obtain ⟨u, h1, h2⟩ := (wayB_next hD).1 (show wayB D a ((n + m) + 1) c = true from h)
    obtain ⟨b, h3, h4⟩ := way_split hD h1
    exact ⟨b, h3, (wayB_next hD).2 ⟨u, h4, h2⟩⟩
theorem way_head {D : List Dep} (hD : okD D = true) {a n c : Nat} (h : wayB D a (n + 1) c = true) : ∃ s, edgeB D a s = true ∧ wayB D s n c = true := by
  rw [Nat.add_comm] at h
  obtain ⟨b, h1, h2⟩ := way_split hD h
  exact ⟨b, (way_one hD).1 h1, h2⟩
theorem way_cons {D : List Dep} (hD : okD D = true) {a s n c : Nat} (h : edgeB D a s = true) (k : wayB D s n c = true) : wayB D a (n + 1) c = true := by
  rw [Nat.add_comm]
  exact way_add hD ((way_one hD).2 h) k

/-- The first level, from 1 on, at which b is reached. -/
def fstB (D : List Dep) (a n b : Nat) : Prop := wayB D a n b = true ∧ ∀ m, 1 ≤ m → m < n → wayB D a m b = false
/-- The least number of elements, at least 1, that lead from a to b; 0 if there are none. -/
def isDist (D : List Dep) (a b n : Nat) : Prop := (n = 0 ∧ ∀ m, 1 ≤ m → wayB D a m b = false) ∨ (1 ≤ n ∧ fstB D a n b)
theorem dist_uniq {D : List Dep} {a b n m : Nat} (h : isDist D a b n) (k : isDist D a b m) : n = m := by
  rcases h with ⟨h1, h2⟩ | ⟨h1, h2, h3⟩
  · rcases k with ⟨k1, k2⟩ | ⟨k1, k2, k3⟩
    · omega
    · rw [h2 m k1] at k2; cases k2
  · rcases k with ⟨k1, k2⟩ | ⟨k1, k2, k3⟩
    · rw [k2 n h1] at h2; cases h2
    · rcases Nat.lt_trichotomy n m with h4 | h4 | h4
      · rw [k3 n h1 h4] at h2; cases h2
      · exact h4
      · rw [h3 m k1 h4] at k2; cases k2
theorem fst_ex {D : List Dep} {a b : Nat} : ∀ {n : Nat}, 1 ≤ n → wayB D a n b = true → ∃ m, 1 ≤ m ∧ m ≤ n ∧ fstB D a m b := by
  intro n
  induction n using Nat.strongRecOn with
  | ind n ih =>
    intro hn h
    by_cases hx : ∃ m, 1 ≤ m ∧ m < n ∧ wayB D a m b = true
    · obtain ⟨m, h1, h2, h3⟩ := hx
      obtain ⟨k, k1, k2, k3⟩ := ih m h2 h1 h3
      exact ⟨k, k1, by omega, k3⟩
    · exact ⟨n, hn, Nat.le_refl _, h, fun m h1 h2 => by
        cases hw : wayB D a m b with
        | false => rfl
        | true => exact absurd ⟨m, h1, h2, hw⟩ hx⟩
/-- A channel at a level has one ahead of it at the level before. -/
def levB (D : List Dep) (a n b : Nat) : Prop := if n = 0 then b = a else fstB D a n b
theorem fst_back {D : List Dep} (hD : okD D = true) {a n b : Nat} (h : fstB D a (n + 1) b) : ∃ u, levB D a n u ∧ edgeB D u b = true := by
  obtain ⟨u, h1, h2⟩ := (wayB_next hD).1 h.1
  refine ⟨u, ?_, h2⟩
  unfold levB
  split
  · rename_i h0
    subst h0
    exact wayB_zero.1 h1
  · rename_i h0
    refine ⟨h1, fun m hm hmn => ?_⟩
    cases hw : wayB D a m u with
    | false => rfl
    | true =>
      have := h.2 (m + 1) (by omega) (by omega)
      rw [(wayB_next hD).2 ⟨u, hw, h2⟩] at this
      cases this
theorem pigeon : ∀ (n : Nat) (l : List Nat), l.Nodup → (∀ x ∈ l, x < n) → l.length ≤ n
  | 0, l, _, h => by
    cases l with
    | nil => exact Nat.le_refl _
    | cons x l => have := h x (List.mem_cons_self ..); omega
  | n + 1, l, hl, h => by
    by_cases hm : n ∈ l
    · have h1 := pigeon n (l.erase n) (hl.erase n) (fun x hx => by
        have h2 := (List.Nodup.mem_erase_iff hl).1 hx
        have := h x h2.2
        omega)
      rw [List.length_erase_of_mem hm] at h1
      have : 0 < l.length := List.length_pos_of_mem hm
      omega
    · have := pigeon n l hl (fun x hx => by
        have h2 := h x hx
        have h3 : x ≠ n := fun e => hm (e ▸ hx)
        omega)
      omega
theorem fst_chain {D : List Dep} (hD : okD D = true) {a : Nat} : ∀ {n b : Nat}, 1 ≤ n → fstB D a n b → ∃ l : List Nat, l.Nodup ∧ l.length = n ∧ ∀ x ∈ l, x < 128 ∧ ∃ k, 1 ≤ k ∧ k ≤ n ∧ wayB D a k x = true
  | 0, b, hn, h => by omega
  | 1, b, _, h => ⟨[b], by simp, rfl, fun x hx => by
      rw [List.mem_singleton] at hx
      subst hx
      exact ⟨way_lt hD (Nat.le_refl _) h.1, 1, Nat.le_refl _, Nat.le_refl _, h.1⟩⟩
  | n + 2, b, _, h => by
    obtain ⟨u, h1, h2⟩ := fst_back hD h
    unfold levB at h1
    rw [if_neg (by omega)] at h1
    obtain ⟨l, hl, hn, hx⟩ := fst_chain hD (n := n + 1) (by omega) h1
    refine ⟨b :: l, ?_, by rw [List.length_cons, hn], fun x hm => ?_⟩
    · rw [List.nodup_cons]
      refine ⟨fun hm => ?_, hl⟩
      obtain ⟨_, k, k1, k2, k3⟩ := hx b hm
      rw [h.2 k k1 (by omega)] at k3
      cases k3
    · rcases List.mem_cons.1 hm with e | h3
      · rw [e]
        exact ⟨way_lt hD (by omega) h.1, n + 2, by omega, Nat.le_refl _, h.1⟩
      · obtain ⟨h4, k, k1, k2, k3⟩ := hx x h3
        exact ⟨h4, k, k1, by omega, k3⟩
theorem fst_le {D : List Dep} (hD : okD D = true) {a n b : Nat} (h : fstB D a n b) : n ≤ 128 := by
  by_cases hn : 1 ≤ n
  · obtain ⟨l, hl, he, hx⟩ := fst_chain hD hn h
    rw [← he]
    exact pigeon 128 l hl (fun x hm => (hx x hm).1)
  · omega
def distD (D : List Dep) (a b : Nat) : Nat := match (List.range 128).find? (fun n => wayB D a (n + 1) b) with | none => 0 | some n => n + 1
theorem find_least {p : Nat → Bool} {n k : Nat} (h : (List.range n).find? p = some k) {j : Nat} (hj : j < k) : p j = false := by
  induction n with
  | zero => simp at h
  | succ n ih =>
    rw [List.range_succ, List.find?_append] at h
    cases hf : (List.range n).find? p with
    | some m =>
      rw [hf] at h
      exact ih (hf.trans h)
    | none =>
      rw [hf] at h
      have hk : k = n := by
        have := List.mem_of_find?_eq_some (l := [n]) h
        simpa using this
      subst hk
      have := List.find?_eq_none.1 hf j (List.mem_range.2 hj)
      simpa using this
theorem dist_is {D : List Dep} (hD : okD D = true) (a b : Nat) : isDist D a b (distD D a b) := by
  unfold distD
  cases hf : (List.range 128).find? (fun n => wayB D a (n + 1) b) with
  | some n =>
    have hp : wayB D a (n + 1) b = true := List.find?_some (p := fun n => wayB D a (n + 1) b) hf
    refine .inr ⟨by simp, hp, fun m h1 h2 => ?_⟩
    obtain ⟨j, rfl⟩ : ∃ j, m = j + 1 := ⟨m - 1, by omega⟩
    exact find_least hf (j := j) (by simpa using h2)
  | none =>
    refine .inl ⟨rfl, fun m h1 => ?_⟩
    cases hw : wayB D a m b with
    | false => rfl
    | true =>
      obtain ⟨k, k1, k2, k3⟩ := fst_ex h1 hw
      have hk := fst_le hD k3
      have := List.find?_eq_none.1 hf (k - 1) (List.mem_range.2 (by omega))
      rw [show k - 1 + 1 = k by omega, k3.1] at this
      simp at this
theorem dist_le {D : List Dep} (hD : okD D = true) (a b : Nat) : distD D a b ≤ 128 := by
  rcases dist_is hD a b with ⟨h, _⟩ | ⟨_, h⟩
  · omega
  · exact fst_le hD h
theorem dist_of {D : List Dep} (hD : okD D = true) {a b n : Nat} (h : isDist D a b n) : distD D a b = n := dist_uniq (dist_is hD a b) h
/-- A way is no shorter than the least one. -/
theorem dist_way {D : List Dep} (hD : okD D = true) {a b n : Nat} (hn : 1 ≤ n) (h : wayB D a n b = true) : 1 ≤ distD D a b ∧ distD D a b ≤ n := by
  rcases dist_is hD a b with ⟨h1, h2⟩ | ⟨h1, h2⟩
  · rw [h2 n hn] at h; cases h
  · refine ⟨h1, ?_⟩
    by_cases hlt : n < distD D a b
    · rw [h2.2 n hn hlt] at h; cases h
    · omega
theorem dist_pos {D : List Dep} (hD : okD D = true) {a b : Nat} (h : 1 ≤ distD D a b) : wayB D a (distD D a b) b = true := by
  rcases dist_is hD a b with ⟨h1, h2⟩ | ⟨h1, h2⟩
  · omega
  · exact h2.1
/-- The triangle inequality. -/
theorem dist_tri {D : List Dep} (hD : okD D = true) {a b c : Nat} (h : 1 ≤ distD D a b) (k : 1 ≤ distD D b c) : 1 ≤ distD D a c ∧ distD D a c ≤ distD D a b + distD D b c :=
  dist_way hD (by omega) (way_add hD (dist_pos hD h) (dist_pos hD k))

/-- The number of steps, or -1. -/
def stpG (D : List Dep) (x y : Int) : Int := if okD D = true ∧ (0 ≤ x ∧ x ≤ 127) ∧ (0 ≤ y ∧ y ≤ 127) then (if distD D x.toNat y.toNat = 0 then -1 else (distD D x.toNat y.toNat : Int)) else -1

/-- Along a way the ranks of an order rise. -/
theorem ord_way {D : List Dep} (hD : okD D = true) {R : List Int} (h : isOrdO D R = true) {a : Nat} : ∀ {n b : Nat}, 1 ≤ n → wayB D a n b = true → R.getD a 0 < R.getD b 0 := by
  have he : ∀ a b : Nat, edgeB D a b = true → R.getD a 0 < R.getD b 0 := fun a b hab => by
    obtain ⟨k, hk, e⟩ := atD_ex (edge_iff.1 hab)
    simp only [isOrdO, Bool.and_eq_true, List.all_eq_true, List.mem_range] at h
    have := h.2 k hk
    unfold riseO at this
    rw [e] at this
    simpa using this
  intro n
  induction n with
  | zero => intro b hn; omega
  | succ n ih =>
    intro b _ hw
    obtain ⟨u, h1, h2⟩ := (wayB_next hD).1 hw
    by_cases hn : 1 ≤ n
    · have := ih hn h1
      have := he u b h2
      omega
    · obtain rfl : n = 0 := by omega
      rw [wayB_zero.1 h1] at h2
      exact he a b h2
theorem ord_acyclic {D : List Dep} {R : List Int} (h : orderO D = some R) (c : Nat) : distD D c c = 0 := by
  obtain ⟨hD, _, ho⟩ := order_is h
  rcases dist_is hD c c with ⟨h1, _⟩ | ⟨h1, h2⟩
  · exact h1
  · have := ord_way hD ho h1 h2.1
    omega
/-- Channels without a rank, each of which waits for another one: some lie on a cycle. -/
theorem pre_cycle {D : List Dep} (hD : okD D = true) {S : Nat → Prop} {c0 : Nat} (h0 : S c0) (h0' : c0 < 128) (hp : ∀ c, c < 128 → S c → ∃ p, S p ∧ edgeB D p c = true) : ∃ c n, c < 128 ∧ 1 ≤ n ∧ wayB D c n c = true := by
  have key : ∀ k : Nat, (∃ c n, c < 128 ∧ 1 ≤ n ∧ wayB D c n c = true) ∨ ∃ (l : List Nat) (h : Nat), l.Nodup ∧ l.length = k + 1 ∧ h < 128 ∧ S h ∧ ∀ x ∈ l, x < 128 ∧ ∃ n, wayB D h n x = true := by
    intro k
    induction k with
    | zero => exact .inr ⟨[c0], c0, by simp, rfl, h0', h0, fun x hx => by rw [List.mem_singleton] at hx; subst hx; exact ⟨h0', 0, wayB_zero.2 rfl⟩⟩
    | succ k ih =>
      rcases ih with h | ⟨l, h, hl, hn, hh, hs, hx⟩
      · exact .inl h
      · obtain ⟨p, hps, hpe⟩ := hp h hh hs
        have hp128 := (edge_lt hD hpe).1
        by_cases hm : p ∈ l
        · obtain ⟨_, n, hw⟩ := hx p hm
          exact .inl ⟨p, n + 1, hp128, by omega, way_cons hD hpe hw⟩
        · refine .inr ⟨p :: l, p, by rw [List.nodup_cons]; exact ⟨hm, hl⟩, by rw [List.length_cons, hn], hp128, hps, fun x hxm => ?_⟩
          rcases List.mem_cons.1 hxm with e | h3
          · rw [e]; exact ⟨hp128, 0, wayB_zero.2 rfl⟩
          · obtain ⟨h4, n, hw⟩ := hx x h3
            exact ⟨h4, n + 1, way_cons hD hpe hw⟩
  rcases key 128 with h | ⟨l, h, hl, hn, _, _, hx⟩
  · exact h
  · have := pigeon 128 l hl (fun x hm => (hx x hm).1)
    omega
theorem ordTo_fail {D : List Dep} : ∀ {n : Nat}, ordTo D n = none → ∃ r R, r < n ∧ ordTo D r = some R ∧ bestO D R = none
  | 0, h => by cases h
  | n + 1, h => by
    cases h1 : ordTo D n with
    | none =>
      obtain ⟨r, R, h2, h3⟩ := ordTo_fail h1
      exact ⟨r, R, by omega, h3⟩
    | some R =>
      cases h2 : bestO D R with
      | none => exact ⟨n, R, by omega, h1, h2⟩
      | some c => rw [ordTo_next h1 h2] at h; cases h
/-- Either an order or a cycle exists. -/
theorem cycle_of {D : List Dep} (hD : okD D = true) (h : orderO D = none) : ∃ c, c < 128 ∧ 1 ≤ distD D c c := by
  rw [orderO_ok hD] at h
  obtain ⟨r, R, hr, hR, hb⟩ := ordTo_fail h
  have hi := ord_inv hD (by omega) hR
  have hno : ∀ c, c < 128 → candO D R c = false := fun c hc => by
    have := List.find?_eq_none.1 hb c (List.mem_range.2 hc)
    simpa using this
  have hpos : 0 < R.countP (fun x => decide (x < 0)) := by rw [hi.cnt]; omega
  obtain ⟨x, hx, hx0⟩ := List.countP_pos_iff.1 hpos
  obtain ⟨c0, hc0, rfl⟩ := List.getElem_of_mem hx
  have hc1 : c0 < 128 := by rw [← hi.len]; exact hc0
  have hg : R.getD c0 0 < 0 := by
    rw [List.getD_eq_getElem?_getD, List.getElem?_eq_getElem hc0]
    simpa using hx0
  obtain ⟨c, n, hc, hn, hw⟩ := pre_cycle hD (S := fun c => R.getD c 0 < 0) hg hc1 (fun c hc hs => by
    have h1 := hno c hc
    have h2 : freeO D R c = false := by
      simp only [candO, hs, decide_true, Bool.true_and] at h1
      exact h1
    have h3 : ∃ i, i < D.length ∧ holdO R (atD D i) c = true := by
      refine Classical.byContradiction fun hne => ?_
      have : freeO D R c = true := freeO_iff.2 fun i hi => by
        cases hh : holdO R (atD D i) c with
        | false => rfl
        | true => exact absurd ⟨i, hi, hh⟩ hne
      rw [this] at h2
      cases h2
    obtain ⟨i, hi2, hh⟩ := h3
    simp only [holdO, Bool.and_eq_true, decide_eq_true_eq] at hh
    have hin := inD_iff.1 (okD_in hD (atD_mem hi2))
    refine ⟨(atD D i).1.toNat, hh.2, edge_iff.2 ?_⟩
    have : atD D i = (((atD D i).1.toNat : Int), (c : Int)) := Prod.ext (by simp only; omega) hh.1
    rw [← this]
    exact atD_mem hi2)
  exact ⟨c, hc, (dist_way hD hn hw).1⟩
end Go.Proofs.YtidilfakganooaaDoor
end

section
namespace Go.Proofs.YtidilfakganooaaDoor
open Go.ChangeShapes Go.WideShapes Go.ChangeAt Go.RowKit
set_option linter.unusedVariables false

/-- Numbers that rise along the ways of the rules xy, yx and west. -/
def rkS (W H r c : Int) : Int :=
  if r = 1 then (if c % 4 = 1 then c / 4 % W else if c % 4 = 3 then W - 1 - c / 4 % W else if c % 4 = 2 then 10 + c / 4 / W else 10 + H - 1 - c / 4 / W)
  else if r = 2 then (if c % 4 = 2 then c / 4 / W else if c % 4 = 0 then H - 1 - c / 4 / W else if c % 4 = 1 then 10 + c / 4 % W else 10 + W - 1 - c / 4 % W)
  else (if c % 4 = 3 then W - 1 - c / 4 % W else if c % 4 = 2 then 10 + c / 4 / W else if c % 4 = 0 then 10 + H - 1 - c / 4 / W else 20 + c / 4 % W)
def riseW (f : Int → Int) : List Int → Bool
  | [] => true
  | a :: t => (match t with | [] => true | b :: _ => decide (f a < f b)) && riseW f t
def stdRise (W H r : Int) : Bool := (List.range (sqG W H)).all fun i => riseW (rkS W H r) (pairW W H [] (stdTab W H r) i)
theorem srs_111 : stdRise 1 1 1 = true := by decide +kernel
theorem srs_112 : stdRise 1 1 2 = true := by decide +kernel
theorem srs_113 : stdRise 1 1 3 = true := by decide +kernel
theorem srs_121 : stdRise 1 2 1 = true := by decide +kernel
theorem srs_122 : stdRise 1 2 2 = true := by decide +kernel
theorem srs_123 : stdRise 1 2 3 = true := by decide +kernel
theorem srs_131 : stdRise 1 3 1 = true := by decide +kernel
theorem srs_132 : stdRise 1 3 2 = true := by decide +kernel
theorem srs_133 : stdRise 1 3 3 = true := by decide +kernel
theorem srs_141 : stdRise 1 4 1 = true := by decide +kernel
theorem srs_142 : stdRise 1 4 2 = true := by decide +kernel
theorem srs_143 : stdRise 1 4 3 = true := by decide +kernel
theorem srs_211 : stdRise 2 1 1 = true := by decide +kernel
theorem srs_212 : stdRise 2 1 2 = true := by decide +kernel
theorem srs_213 : stdRise 2 1 3 = true := by decide +kernel
theorem srs_221 : stdRise 2 2 1 = true := by decide +kernel
theorem srs_222 : stdRise 2 2 2 = true := by decide +kernel
theorem srs_223 : stdRise 2 2 3 = true := by decide +kernel
theorem srs_231 : stdRise 2 3 1 = true := by decide +kernel
theorem srs_232 : stdRise 2 3 2 = true := by decide +kernel
theorem srs_233 : stdRise 2 3 3 = true := by decide +kernel
theorem srs_241 : stdRise 2 4 1 = true := by decide +kernel
theorem srs_242 : stdRise 2 4 2 = true := by decide +kernel
theorem srs_243 : stdRise 2 4 3 = true := by decide +kernel
theorem srs_311 : stdRise 3 1 1 = true := by decide +kernel
theorem srs_312 : stdRise 3 1 2 = true := by decide +kernel
theorem srs_313 : stdRise 3 1 3 = true := by decide +kernel
theorem srs_321 : stdRise 3 2 1 = true := by decide +kernel
theorem srs_322 : stdRise 3 2 2 = true := by decide +kernel
theorem srs_323 : stdRise 3 2 3 = true := by decide +kernel
theorem srs_331 : stdRise 3 3 1 = true := by decide +kernel
theorem srs_332 : stdRise 3 3 2 = true := by decide +kernel
theorem srs_333 : stdRise 3 3 3 = true := by decide +kernel
theorem srs_341 : stdRise 3 4 1 = true := by decide +kernel
theorem srs_342 : stdRise 3 4 2 = true := by decide +kernel
theorem srs_343 : stdRise 3 4 3 = true := by decide +kernel
theorem srs_411 : stdRise 4 1 1 = true := by decide +kernel
theorem srs_412 : stdRise 4 1 2 = true := by decide +kernel
theorem srs_413 : stdRise 4 1 3 = true := by decide +kernel
theorem srs_421 : stdRise 4 2 1 = true := by decide +kernel
theorem srs_422 : stdRise 4 2 2 = true := by decide +kernel
theorem srs_423 : stdRise 4 2 3 = true := by decide +kernel
theorem srs_431 : stdRise 4 3 1 = true := by decide +kernel
theorem srs_432 : stdRise 4 3 2 = true := by decide +kernel
theorem srs_433 : stdRise 4 3 3 = true := by decide +kernel
theorem srs_441 : stdRise 4 4 1 = true := by decide +kernel
theorem srs_442 : stdRise 4 4 2 = true := by decide +kernel
theorem srs_443 : stdRise 4 4 3 = true := by decide +kernel
theorem std_rise {W H r : Int} (h : okG W H = true) (h1 : 1 ≤ r) (h3 : r ≤ 3) : stdRise W H r = true := by
  obtain ⟨hW, hH⟩ := okG_cases h
  have hr : r = 1 ∨ r = 2 ∨ r = 3 := by omega
  rcases hW with rfl | rfl | rfl | rfl <;> rcases hH with rfl | rfl | rfl | rfl <;> rcases hr with rfl | rfl | rfl
  · exact srs_111
  · exact srs_112
  · exact srs_113
  · exact srs_121
  · exact srs_122
  · exact srs_123
  · exact srs_131
  · exact srs_132
  · exact srs_133
  · exact srs_141
  · exact srs_142
  · exact srs_143
  · exact srs_211
  · exact srs_212
  · exact srs_213
  · exact srs_221
  · exact srs_222
  · exact srs_223
  · exact srs_231
  · exact srs_232
  · exact srs_233
  · exact srs_241
  · exact srs_242
  · exact srs_243
  · exact srs_311
  · exact srs_312
  · exact srs_313
  · exact srs_321
  · exact srs_322
  · exact srs_323
  · exact srs_331
  · exact srs_332
  · exact srs_333
  · exact srs_341
  · exact srs_342
  · exact srs_343
  · exact srs_411
  · exact srs_412
  · exact srs_413
  · exact srs_421
  · exact srs_422
  · exact srs_423
  · exact srs_431
  · exact srs_432
  · exact srs_433
  · exact srs_441
  · exact srs_442
  · exact srs_443
theorem rise_at {f : Int → Int} : ∀ {T : List Int}, riseW f T = true → ∀ j, j + 1 < T.length → f (T.getD j 0) < f (T.getD (j + 1) 0)
  | [], _, j, hj => by simp at hj
  | [a], _, j, hj => by simp at hj
  | a :: b :: t, h, 0, _ => by
    simp only [riseW, Bool.and_eq_true, decide_eq_true_eq] at h
    exact h.1
  | a :: b :: t, h, j + 1, hj => by
    rw [riseW, Bool.and_eq_true] at h
    exact rise_at (T := b :: t) h.2 j (by simpa using hj)
/-- What rises along all elements rises along the ways. -/
theorem rank_way {D : List Dep} (hD : okD D = true) {f : Int → Int} (hf : ∀ d ∈ D, f d.1 < f d.2) {a : Nat} : ∀ {n b : Nat}, 1 ≤ n → wayB D a n b = true → f (a : Int) < f (b : Int)
  | 0, b, hn, _ => by omega
  | n + 1, b, _, h => by
    obtain ⟨u, h1, h2⟩ := (wayB_next hD).1 h
    have h3 : f (u : Int) < f (b : Int) := hf _ (edge_iff.1 h2)
    by_cases hn : 1 ≤ n
    · exact Int.lt_trans (rank_way hD hf hn h1) h3
    · obtain rfl : n = 0 := by omega
      rw [wayB_zero.1 h1] at h3
      exact h3
theorem order_of_rank {D : List Dep} (hD : okD D = true) {f : Int → Int} (hf : ∀ d ∈ D, f d.1 < f d.2) : ∃ R, orderO D = some R := by
  cases ho : orderO D with
  | some R => exact ⟨R, rfl⟩
  | none =>
    obtain ⟨c, _, hc⟩ := cycle_of hD ho
    have := rank_way hD hf hc (dist_pos hD hc)
    omega
/-- The dependencies of the table of a rule. -/
def depS (W H r : Int) : List Dep := depG W H [] (stdTab W H r)
theorem safe_std {W H r : Int} (h : okG W H = true) (h1 : 1 ≤ r) (h3 : r ≤ 3) : ∃ R, orderO (depS W H r) = some R := by
  unfold depS
  refine order_of_rank depG_ok (f := rkS W H r) fun d hd => ?_
  rw [depG_yes (std_facts h h1 (by omega)).1] at hd
  obtain ⟨i, j, hi, hj, rfl⟩ := mem_allD hd
  have := std_rise h h1 h3
  simp only [stdRise, List.all_eq_true, List.mem_range] at this
  exact rise_at (this i hi) j hj
end Go.Proofs.YtidilfakganooaaDoor
end

section
namespace Go.Proofs.YtidilfakganooaaDoor
open Go.ChangeShapes Go.WideShapes Go.ChangeAt Go.RowKit
set_option linter.unusedVariables false

/-- bad, safe, cyclic. -/
def nameV (c : Int) : ByteArray := if c = 0 then ⟨#[98, 97, 100]⟩ else if c = 1 then ⟨#[115, 97, 102, 101]⟩ else if c = 2 then ⟨#[99, 121, 99, 108, 105, 99]⟩ else ⟨#[]⟩
theorem nameV_0 : nameV 0 = ⟨#[98, 97, 100]⟩ := rfl
theorem nameV_1 : nameV 1 = ⟨#[115, 97, 102, 101]⟩ := rfl
theorem nameV_2 : nameV 2 = ⟨#[99, 121, 99, 108, 105, 99]⟩ := rfl
theorem nameV_no {c : Int} (h0 : c ≠ 0) (h1 : c ≠ 1) (h2 : c ≠ 2) : nameV c = ⟨#[]⟩ := by rw [nameV, if_neg h0, if_neg h1, if_neg h2]
end Go.Proofs.YtidilfakganooaaDoor
end

section
namespace Go.Proofs.YtidilfakganooaaDoor
open Go.ChangeShapes Go.WideShapes Go.ChangeAt Go.RowKit
set_option linter.unusedVariables false

/-- A new list of numbers, and whether there is one. -/
def NewR (L : List Int) (b : Bool) (w : World) (e : Ending) (w' : World) : Prop :=
  ∃ v, e = .returned (.tuple #[v, .bool b]) ∧ w'.ownsRow w.heap.size 3 1 v L.length (intsV L) ∧ Below w.heap.size w w'
theorem ret_pair {v : Value} {a b : Bool} (h : a = b) : Ending.returned (.tuple #[v, .bool a]) = Ending.returned (.tuple #[v, .bool b]) := by rw [h]
theorem own_nil {L : List Int} (h : L = []) (w : World) (base : Nat) : w.ownsRow base 3 1 (.slice none 0 0) L.length (intsV L) := by subst h; exact World.ownsRow_nil _ _ _ _
/-- An empty list of the function's own. -/
theorem own_empty {L : List Int} (h : L = []) {w wr : World} (hb : Below w.heap.size w wr) : (wr.alloc (.cells #[] 3)).ownsRow w.heap.size 3 1 (.slice (some ⟨wr.heap.size, 0, none⟩) 0 0) L.length (intsV L) ∧ Below w.heap.size w (wr.alloc (.cells #[] 3)) := by
  subst h
  exact ⟨World.ownsRow_made (base := w.heap.size) (e := 3) (size := 1) wr #[] 0 hb.size (by decide) rfl, hb.alloc hb.size _⟩
theorem own_cap {w : World} {base : Nat} {e : TypeId} {size n cap : Nat} {A : Option Addr} {xs : List Value} (h : w.ownsRow base e size (.slice A n cap) n xs) : n ≤ cap ∧ cap ≤ maxLen := by
  rcases h.2 with ⟨h1, h2⟩ | ⟨g, cap', cur, h1, _, _, h2, h3, _⟩
  · simp only [Value.slice.injEq] at h1
    obtain ⟨_, _, rfl⟩ := h1
    exact ⟨by omega, Nat.zero_le _⟩
  · simp only [Value.slice.injEq] at h1
    obtain ⟨_, _, rfl⟩ := h1
    exact ⟨h2, h3⟩
/-- The first k numbers of a slice. -/
theorem IntAt.take {w : World} {B n : Nat} {A : Option Addr} {L : List Int} (h : IntAt w B A n L) {k : Nat} (hk : k ≤ n) : IntAt w B A k (L.take k) := ⟨by have := h.1; simp; omega, fun h0 => by
  obtain ⟨b, off, hA, hb, hc⟩ := h.2 (by omega)
  refine ⟨b, off, hA, hb, fun j x hx => hc j x ?_⟩
  rcases Nat.lt_or_ge j k with h1 | h1
  · rwa [List.getElem?_take_of_lt h1] at hx
  · rw [List.getElem?_eq_none (by simp; omega)] at hx; cases hx⟩
end Go.Proofs.YtidilfakganooaaDoor
end

section
namespace Go.Proofs.YtidilfakganooaaDoor
open Go.ChangeShapes Go.WideShapes Go.ChangeAt Go.RowKit
set_option linter.unusedVariables false

/-- The row of ranks, above all that was there. -/
def RkAt (w : World) (n : Nat) (R : List Int) (v : Value) (wr : World) : Prop := wr.ownsRow w.heap.size 3 1 v n (intsV R) ∧ Below w.heap.size w wr
theorem RkAt.gb {w wr w' : World} {n : Nat} {R : List Int} {v : Value} (h : RkAt w n R v wr) (hg : wr.grownBy w' none) : RkAt w n R v w' := ⟨own_none h.1 hg, below_gb h.2 (Nat.le_refl _) hg⟩
theorem RkAt.set {w wr : World} {n g cap : Nat} {R : List Int} (h : RkAt w n R (.slice (some ⟨g, 0, none⟩) n cap) wr) (c : Nat) (x : Int) : RkAt w n (R.set c x) (.slice (some ⟨g, 0, none⟩) n cap) (wr.setCell ⟨g, c, none⟩ (.int .i64 x)) := by
  obtain ⟨h1, h2⟩ := h.1.stored c (.int .i64 x)
  rw [intsV_set] at h1
  exact ⟨h1, h.2.grown h2 h.2.size (fun j e => by cases e; exact (h.1.lt g rfl).1)⟩
def ranksO (D : List Dep) : List Int := (orderO D).getD []
def canO (D : List Dep) : Bool := (orderO D).isSome
theorem order_none {D : List Dep} (h : orderO D = none) : ranksO D = [] ∧ canO D = false := by simp [ranksO, canO, h]
theorem order_some {D : List Dep} {R : List Int} (h : orderO D = some R) : ranksO D = R ∧ canO D = true := by simp [ranksO, canO, h]
theorem ranksO_len (D : List Dep) : (ranksO D).length ≤ 128 := by
  cases h : orderO D with
  | none => rw [(order_none h).1]; simp
  | some R => rw [(order_some h).1, (order_is h).2.1]; exact Nat.le_refl _
end Go.Proofs.YtidilfakganooaaDoor
end

section
namespace Go.Proofs.YtidilfakganooaaDoor
open Go.ChangeShapes Go.WideShapes Go.ChangeAt Go.RowKit
set_option linter.unusedVariables false

/-- The least length of a cycle through one of the first channels, and the least of these channels. -/
def bestTo (D : List Dep) : Nat → Nat × Int
  | 0 => (0, -1)
  | c + 1 => if 0 < distD D c c ∧ ((bestTo D c).1 = 0 ∨ distD D c c < (bestTo D c).1) then (distD D c c, (c : Int)) else bestTo D c
theorem best_take {D : List Dep} {c : Nat} (h : 0 < distD D c c) (k : (bestTo D c).1 = 0 ∨ distD D c c < (bestTo D c).1) : bestTo D (c + 1) = (distD D c c, (c : Int)) := if_pos ⟨h, k⟩
theorem best_pass {D : List Dep} {c : Nat} (h : ¬ (0 < distD D c c ∧ ((bestTo D c).1 = 0 ∨ distD D c c < (bestTo D c).1))) : bestTo D (c + 1) = bestTo D c := if_neg h
def BestIs (D : List Dep) (c : Nat) : Prop :=
  ((bestTo D c).1 = 0 ∧ (bestTo D c).2 = -1 ∧ ∀ j, j < c → distD D j j = 0) ∨
  (∃ s, s < c ∧ (bestTo D c).2 = (s : Int) ∧ (bestTo D c).1 = distD D s s ∧ 1 ≤ distD D s s ∧ (∀ j, j < c → distD D j j = 0 ∨ distD D s s ≤ distD D j j) ∧ (∀ j, j < s → distD D j j = 0 ∨ distD D s s < distD D j j))
theorem best_is (D : List Dep) : ∀ c, BestIs D c
  | 0 => .inl ⟨rfl, rfl, fun j h => by omega⟩
  | c + 1 => by
    have ih := best_is D c
    by_cases h : 0 < distD D c c ∧ ((bestTo D c).1 = 0 ∨ distD D c c < (bestTo D c).1)
    · have e : bestTo D (c + 1) = (distD D c c, (c : Int)) := if_pos h
      unfold BestIs
      rw [e]
      refine .inr ⟨c, Nat.lt_succ_self _, rfl, rfl, h.1, fun j hj => ?_, fun j hj => ?_⟩
      · rcases Nat.lt_succ_iff_lt_or_eq.1 hj with hj | rfl
        · rcases ih with ⟨_, _, h3⟩ | ⟨s, _, _, h3, h4, h5, _⟩
          · exact .inl (h3 j hj)
          · have := h.2
            rcases h5 j hj with h6 | h6
            · exact .inl h6
            · right; omega
        · exact .inr (Nat.le_refl _)
      · rcases ih with ⟨_, _, h3⟩ | ⟨s, _, _, h3, h4, h5, _⟩
        · exact .inl (h3 j hj)
        · have := h.2
          rcases h5 j hj with h6 | h6
          · exact .inl h6
          · right; omega
    · have e : bestTo D (c + 1) = bestTo D c := if_neg h
      unfold BestIs
      rw [e]
      rcases ih with ⟨h1, h2, h3⟩ | ⟨s, h1, h2, h3, h4, h5, h6⟩
      · refine .inl ⟨h1, h2, fun j hj => ?_⟩
        rcases Nat.lt_succ_iff_lt_or_eq.1 hj with hj | rfl
        · exact h3 j hj
        · have : ¬ 0 < distD D j j := fun hp => h ⟨hp, .inl h1⟩
          omega
      · refine .inr ⟨s, by omega, h2, h3, h4, fun j hj => ?_, h6⟩
        rcases Nat.lt_succ_iff_lt_or_eq.1 hj with hj | rfl
        · exact h5 j hj
        · by_cases hp : 0 < distD D j j
          · have : ¬ distD D j j < (bestTo D j).1 := fun hl => h ⟨hp, .inr hl⟩
            right; omega
          · left; omega
/-- The next channel of the cycle: the least successor from which so many steps are left. -/
def candP (D : List Dep) (st left : Nat) (s : Int) : Bool := if left = 0 then decide (s = (st : Int)) else decide (s ≠ (st : Int)) && decide (distD D s.toNat st = left)
def nextP (D : List Dep) (st left u : Nat) : Nat := match (succD D (u : Int)).find? (candP D st left) with | some s => s.toNat | none => u
def atP (D : List Dep) (st b : Nat) : Nat → Nat
  | 0 => st
  | i + 1 => nextP D st (b - i - 1) (atP D st b i)
def cycP (D : List Dep) (st b : Nat) : List Int := (List.range b).map fun i => (atP D st b i : Int)
/-- The shortest cycle. -/
def cycG (D : List Dep) : List Int := if okD D = true then cycP D (bestTo D 128).2.toNat (bestTo D 128).1 else []
theorem cyc_bad {D : List Dep} (h : okD D = false) : cycG D = [] := by simp [cycG, h]
theorem cyc_ok {D : List Dep} (h : okD D = true) : cycG D = cycP D (bestTo D 128).2.toNat (bestTo D 128).1 := by simp [cycG, h]
theorem cyc_len (D : List Dep) (st b : Nat) : (cycP D st b).length = b := by simp [cycP]
theorem cyc_at {D : List Dep} {st b i : Nat} (h : i < b) : (cycP D st b).getD i 0 = (atP D st b i : Int) := by
  rw [List.getD_eq_getElem?_getD, cycP, List.getElem?_map, List.getElem?_range h]; rfl
/-- There is a next one. -/
theorem next_is {D : List Dep} (hD : okD D = true) {st left u : Nat} (h : distD D u st = left + 1) :
    edgeB D u (nextP D st left u) = true ∧ (left = 0 → nextP D st left u = st) ∧ (0 < left → nextP D st left u ≠ st ∧ distD D (nextP D st left u) st = left) := by
  have hw := dist_pos hD (a := u) (b := st) (by omega)
  rw [h] at hw
  have hex : ∃ s ∈ succD D (u : Int), candP D st left s = true := by
    obtain ⟨s, h1, h2⟩ := way_head hD hw
    refine ⟨(s : Int), edge_succ.1 h1, ?_⟩
    unfold candP
    split
    · rename_i h0
      subst h0
      rw [wayB_zero.1 h2]
      simp
    · rename_i h0
      have hst : s ≠ st := fun e => by
        subst e
        have := (dist_way hD (Nat.le_refl 1) ((way_one hD).2 h1)).2
        omega
      have h3 := dist_way hD (show 1 ≤ left by omega) h2
      have h4 : left ≤ distD D s st := by
        have h5 := dist_way hD (show 1 ≤ distD D s st + 1 by omega) (way_cons hD h1 (dist_pos hD h3.1))
        omega
      have h5 : (s : Int) ≠ (st : Int) := fun e => hst (by omega)
      simp only [Int.toNat_natCast]
      simp [h5]
      omega
  unfold nextP
  cases hf : (succD D (u : Int)).find? (candP D st left) with
  | none =>
    obtain ⟨s, hs, hc⟩ := hex
    have := List.find?_eq_none.1 hf s hs
    rw [hc] at this
    simp at this
  | some s =>
    have hs := List.mem_of_find?_eq_some hf
    have hc := List.find?_some hf
    have hr := succ_in hD hs
    have he : edgeB D u s.toNat = true := edge_succ.2 (by rw [Int.toNat_of_nonneg hr.1]; exact hs)
    refine ⟨he, fun h0 => ?_, fun h0 => ?_⟩
    · unfold candP at hc
      rw [if_pos h0] at hc
      have := of_decide_eq_true hc
      show s.toNat = st
      omega
    · unfold candP at hc
      rw [if_neg (by omega)] at hc
      simp only [Bool.and_eq_true, decide_eq_true_eq] at hc
      refine ⟨?_, hc.2⟩
      show s.toNat ≠ st
      have := hc.1
      omega
theorem path_dist {D : List Dep} (hD : okD D = true) {st b : Nat} (hb : distD D st st = b) : ∀ {i : Nat}, i < b → distD D (atP D st b i) st = b - i
  | 0, h => hb
  | i + 1, h => by
    have ih := path_dist hD hb (i := i) (by omega)
    have := (next_is hD (st := st) (left := b - i - 1) (u := atP D st b i) (by omega)).2.2 (by omega)
    rw [atP, this.2]
    omega
theorem path_edge {D : List Dep} (hD : okD D = true) {st b : Nat} (hb : distD D st st = b) {i : Nat} (h : i < b) : edgeB D (atP D st b i) (atP D st b (i + 1)) = true :=
  (next_is hD (st := st) (left := b - i - 1) (u := atP D st b i) (by have := path_dist hD hb h; omega)).1
theorem path_back {D : List Dep} (hD : okD D = true) {st b : Nat} (hb : distD D st st = b) (h : 1 ≤ b) : atP D st b b = st := by
  obtain ⟨i, rfl⟩ : ∃ i, b = i + 1 := ⟨b - 1, by omega⟩
  exact (next_is hD (st := st) (left := (i + 1) - i - 1) (u := atP D st (i + 1) i) (by have := path_dist hD hb (i := i) (by omega); omega)).2.1 (by omega)
theorem path_way {D : List Dep} (hD : okD D = true) {st b : Nat} (hb : distD D st st = b) : ∀ {i : Nat}, i ≤ b → wayB D st i (atP D st b i) = true
  | 0, _ => wayB_zero.2 rfl
  | i + 1, h => (wayB_next hD).2 ⟨_, path_way hD hb (i := i) (by omega), path_edge hD hb (by omega)⟩
theorem path_inj {D : List Dep} (hD : okD D = true) {st b : Nat} (hb : distD D st st = b) {i j : Nat} (hi : i < b) (hj : j < b) (h : atP D st b i = atP D st b j) : i = j := by
  have h1 := path_dist hD hb hi
  have h2 := path_dist hD hb hj
  rw [h] at h1
  omega
theorem path_lt {D : List Dep} (hD : okD D = true) {st b : Nat} (hb : distD D st st = b) {i : Nat} (h : i < b) : atP D st b i < 128 := (edge_lt hD (path_edge hD hb h)).1
/-- Each channel of the cycle is on no shorter one. -/
theorem path_self {D : List Dep} (hD : okD D = true) {st b : Nat} (hb : distD D st st = b) (hmin : ∀ j, j < 128 → distD D j j = 0 ∨ b ≤ distD D j j) {i : Nat} (h : i < b) : distD D (atP D st b i) (atP D st b i) = b := by
  have h1 := path_dist hD hb h
  have h2 := way_add hD (dist_pos hD (a := atP D st b i) (b := st) (by omega)) (path_way hD hb (Nat.le_of_lt h))
  have h3 := dist_way hD (by omega) h2
  rcases hmin _ (path_lt hD hb h) with h4 | h4
  · omega
  · omega

/-- The list has this element. -/
def hasD (D : List Dep) (x y : Int) : Bool := (List.range D.length).any fun i => decide ((atD D i).1 = x) && decide ((atD D i).2 = y)
theorem has_yes {D : List Dep} {x y : Int} {i : Nat} (hi : i < D.length) (h1 : (atD D i).1 = x) (h2 : (atD D i).2 = y) : hasD D x y = true := List.any_eq_true.2 ⟨i, List.mem_range.2 hi, by simp [h1, h2]⟩
theorem has_no {D : List Dep} {x y : Int} (h : ∀ i, i < D.length → ¬ ((atD D i).1 = x ∧ (atD D i).2 = y)) : hasD D x y = false := by
  unfold hasD
  rw [List.any_eq_false]
  intro i hi
  have := h i (List.mem_range.1 hi)
  simpa using this
theorem has_edge {D : List Dep} {a b : Nat} (h : edgeB D a b = true) : hasD D (a : Int) (b : Int) = true := by
  obtain ⟨k, hk, e⟩ := atD_ex (edge_iff.1 h)
  exact has_yes hk (by rw [e]) (by rw [e])
def cycAt (D : List Dep) (C : List Int) (i : Nat) : Bool := !inG (C.take i) (C.getD i 0) && hasD D (C.getD i 0) (C.getD ((i + 1) % C.length) 0)
/-- A cycle: no channel twice, and elements from each to the next one, and from the last to the first. -/
def isCycG (D : List Dep) (C : List Int) : Bool := okD D && (List.range C.length).all (cycAt D C) && decide (0 < C.length)
theorem isCyc_bad {D : List Dep} {C : List Int} (h : okD D = false) : isCycG D C = false := by simp [isCycG, h]
theorem isCyc_nil (D : List Dep) : isCycG D [] = false := by simp [isCycG]
theorem isCyc_no {D : List Dep} {C : List Int} {i : Nat} (hi : i < C.length) (h : cycAt D C i = false) : isCycG D C = false := by
  cases ho : isCycG D C with
  | false => rfl
  | true =>
    simp only [isCycG, Bool.and_eq_true, List.all_eq_true, List.mem_range] at ho
    rw [ho.1.2 i hi] at h
    cases h
theorem isCyc_yes {D : List Dep} {C : List Int} (hD : okD D = true) (h : ∀ i, i < C.length → cycAt D C i = true) : isCycG D C = decide (0 < C.length) := by
  have : (List.range C.length).all (cycAt D C) = true := by
    rw [List.all_eq_true]
    exact fun i hi => h i (List.mem_range.1 hi)
  simp [isCycG, hD, this]
theorem inG_none {L : List Int} {x : Int} (h : x ∉ L) : inG L x = false := by
  cases hi : inG L x with
  | false => rfl
  | true => exact absurd (List.contains_iff_mem.1 hi) h
theorem cycP_is {D : List Dep} (hD : okD D = true) {st b : Nat} (hb : distD D st st = b) (h1 : 1 ≤ b) : isCycG D (cycP D st b) = true := by
  rw [isCyc_yes hD (fun i hi => ?_), cyc_len]
  · exact decide_eq_true (by omega)
  · rw [cyc_len] at hi
    unfold cycAt
    rw [cyc_len, cyc_at hi]
    have hnin : inG ((cycP D st b).take i) (atP D st b i : Int) = false := inG_none fun hm => by
      obtain ⟨j, hj, e⟩ := List.getElem_of_mem hm
      rw [List.length_take, cyc_len] at hj
      rw [List.getElem_take] at e
      have hjb : j < b := by omega
      have e2 : (cycP D st b).getD j 0 = (atP D st b i : Int) := by
        rw [List.getD_eq_getElem?_getD, List.getElem?_eq_getElem (by rw [cyc_len]; exact hjb), e]; rfl
      rw [cyc_at hjb] at e2
      have := path_inj hD hb hjb hi (by omega)
      omega
    rw [hnin]
    have he := path_edge hD hb hi
    by_cases hlast : i + 1 = b
    · rw [hlast, Nat.mod_self, cyc_at (by omega)]
      rw [hlast, path_back hD hb h1] at he
      exact has_edge he
    · rw [Nat.mod_eq_of_lt (by omega), cyc_at (by omega)]
      exact has_edge he
/-- The shortest cycle: either there is none, or it is one, begins with its least channel, and each of its channels is on no shorter one. -/
theorem cyc_facts {D : List Dep} (hD : okD D = true) :
    (cycG D = [] ∧ ∀ c, c < 128 → distD D c c = 0) ∨
    (∃ st b, cycG D = cycP D st b ∧ st < 128 ∧ distD D st st = b ∧ 1 ≤ b ∧ (∀ j, j < 128 → distD D j j = 0 ∨ b ≤ distD D j j) ∧ (∀ i, i < b → st ≤ atP D st b i) ∧ isCycG D (cycG D) = true) := by
  rw [cyc_ok hD]
  rcases best_is D 128 with ⟨h1, h2, h3⟩ | ⟨s, h1, h2, h3, h4, h5, h6⟩
  · left
    rw [h1]
    exact ⟨rfl, h3⟩
  · right
    rw [h2, h3, Int.toNat_natCast]
    refine ⟨s, _, rfl, h1, rfl, h4, h5, fun i hi => ?_, cycP_is hD rfl h4⟩
    by_cases hlt : atP D s (distD D s s) i < s
    · have e := path_self hD rfl h5 hi
      rcases h6 _ hlt with h7 | h7
      · omega
      · omega
    · omega
/-- Whether there is a cycle. -/
def hasCyc (D : List Dep) : Bool := decide (0 < (cycG D).length)
theorem cycG_le (D : List Dep) : (cycG D).length ≤ 128 := by
  cases hD : okD D with
  | false => rw [cyc_bad hD]; simp
  | true =>
    rcases cyc_facts hD with ⟨h, _⟩ | ⟨st, b, h, _, hb, _⟩
    · rw [h]; simp
    · rw [h, cyc_len, ← hb]; exact dist_le hD st st
end Go.Proofs.YtidilfakganooaaDoor
end

section
namespace Go.Proofs.YtidilfakganooaaDoor
open Go.ChangeShapes Go.WideShapes Go.ChangeAt Go.RowKit
set_option linter.unusedVariables false

/-- A verdict: its code, its ranks, its cycle. -/
structure Verd where
  code : Int
  ranks : List Int
  cycle : List Int
def verdG (W H : Int) (L P : List Int) : Verd :=
  if tableG W H L P = true then (if canO (depG W H L P) = true then ⟨1, ranksO (depG W H L P), []⟩ else ⟨2, [], cycG (depG W H L P)⟩) else ⟨0, [], []⟩
section
variable {W H : Int} {L P : List Int}
theorem verd_bad (h : tableG W H L P = false) : verdG W H L P = ⟨0, [], []⟩ := if_neg (by simp [h])
theorem verd_safe (h : tableG W H L P = true) (k : canO (depG W H L P) = true) : verdG W H L P = ⟨1, ranksO (depG W H L P), []⟩ := by rw [verdG, if_pos h, if_pos k]
theorem verd_cyc (h : tableG W H L P = true) (k : canO (depG W H L P) = false) : verdG W H L P = ⟨2, [], cycG (depG W H L P)⟩ := by rw [verdG, if_pos h, if_neg (by simp [k])]
theorem verd_len : (verdG W H L P).ranks.length ≤ 128 ∧ (verdG W H L P).cycle.length ≤ 128 := by
  have h1 := ranksO_len (depG W H L P)
  have h2 := cycG_le (depG W H L P)
  unfold verdG
  split
  · split <;> exact ⟨by simp; try omega, by simp; try omega⟩
  · exact ⟨by simp, by simp⟩
theorem verd_code : (verdG W H L P).code = 0 ∨ (verdG W H L P).code = 1 ∨ (verdG W H L P).code = 2 := by
  unfold verdG
  split
  · split
    · exact .inr (.inl rfl)
    · exact .inr (.inr rfl)
  · exact .inl rfl
/-- Whether a verdict proves itself. -/
def provesG (W H : Int) (L P : List Int) (v : Verd) : Bool :=
  if v.code = 0 then !tableG W H L P && decide (v.ranks.length = 0) && decide (v.cycle.length = 0)
  else if v.code = 1 then tableG W H L P && isOrdO (depG W H L P) v.ranks && decide (v.cycle.length = 0)
  else if v.code = 2 then tableG W H L P && isCycG (depG W H L P) v.cycle && decide (v.ranks.length = 0)
  else false
theorem proves_bad {v : Verd} (h : v.code = 0) : provesG W H L P v = (!tableG W H L P && decide (v.ranks.length = 0) && decide (v.cycle.length = 0)) := if_pos h
theorem proves_safe {v : Verd} (h : v.code = 1) : provesG W H L P v = (tableG W H L P && isOrdO (depG W H L P) v.ranks && decide (v.cycle.length = 0)) := by rw [provesG, if_neg (by omega), if_pos h]
theorem proves_cyc {v : Verd} (h : v.code = 2) : provesG W H L P v = (tableG W H L P && isCycG (depG W H L P) v.cycle && decide (v.ranks.length = 0)) := by rw [provesG, if_neg (by omega), if_neg (by omega), if_pos h]
theorem proves_no {v : Verd} (h0 : v.code ≠ 0) (h1 : v.code ≠ 1) (h2 : v.code ≠ 2) : provesG W H L P v = false := by rw [provesG, if_neg h0, if_neg h1, if_neg h2]
/-- The found order is one; without one there is a cycle. -/
theorem dep_order (k : canO (depG W H L P) = true) : isOrdO (depG W H L P) (ranksO (depG W H L P)) = true := by
  cases ho : orderO (depG W H L P) with
  | none => rw [(order_none ho).2] at k; cases k
  | some R =>
    rw [(order_some ho).1]
    exact (order_is ho).2.2
theorem dep_cycle (k : canO (depG W H L P) = false) : isCycG (depG W H L P) (cycG (depG W H L P)) = true := by
  cases ho : orderO (depG W H L P) with
  | some R => rw [(order_some ho).2] at k; cases k
  | none =>
    obtain ⟨c, hc, h1⟩ := cycle_of depG_ok ho
    rcases cyc_facts (D := depG W H L P) depG_ok with ⟨_, h2⟩ | ⟨_, _, _, _, _, _, _, _, h2⟩
    · have := h2 c hc; omega
    · exact h2
theorem verd_proves : provesG W H L P (verdG W H L P) = true := by
  cases ht : tableG W H L P with
  | false => rw [verd_bad ht, proves_bad rfl, ht]; rfl
  | true =>
    cases hk : canO (depG W H L P) with
    | true => rw [verd_safe ht hk, proves_safe rfl, ht, dep_order hk]; rfl
    | false => rw [verd_cyc ht hk, proves_cyc rfl, ht, dep_cycle hk]; rfl
theorem verd_zero : (decide ((verdG W H L P).code = 0)) = !tableG W H L P := by
  cases ht : tableG W H L P with
  | false => rw [verd_bad ht]; rfl
  | true =>
    cases hk : canO (depG W H L P) with
    | true => rw [verd_safe ht hk]; rfl
    | false => rw [verd_cyc ht hk]; rfl
end
/-- Whether the table of a rule is safe. -/
def safeB (W H r : Int) : Bool := decide ((verdG W H [] (stdTab W H r)).code = 1)
theorem safe_yes {W H r : Int} (h : okG W H = true) (h1 : 1 ≤ r) (h3 : r ≤ 3) : safeB W H r = true := by
  obtain ⟨R, hR⟩ := safe_std h h1 h3
  unfold safeB
  rw [verd_safe (std_facts h h1 (by omega)).1 (order_some (show orderO (depG W H [] (stdTab W H r)) = some R from hR)).2]
  rfl
/-- The first safe rules. -/
def safeTo (W H : Int) (n : Nat) : List Int := ((List.range n).map fun i : Nat => (i : Int) + 1).filter (safeB W H)
def safeG (W H : Int) : List Int := if okG W H = true then safeTo W H 4 else []
theorem safeTo_zero (W H : Int) : safeTo W H 0 = [] := rfl
theorem safeTo_next (W H : Int) (n : Nat) : safeTo W H (n + 1) = if safeB W H ((n : Int) + 1) = true then safeTo W H n ++ [(n : Int) + 1] else safeTo W H n := by
  unfold safeTo
  rw [List.range_succ, List.map_append, List.filter_append]
  by_cases h : safeB W H ((n : Int) + 1) = true
  · rw [if_pos h]; simp [h]
  · rw [if_neg h]; simp [h]
theorem safeTo_len (W H : Int) : ∀ n, (safeTo W H n).length ≤ n
  | 0 => Nat.le_refl _
  | n + 1 => by
    have := safeTo_len W H n
    rw [safeTo_next]
    split <;> simp <;> omega
theorem safeG_len (W H : Int) : (safeG W H).length ≤ 4 := by
  unfold safeG
  split
  · exact safeTo_len W H 4
  · simp
theorem safe_mem {W H r : Int} (h : okG W H = true) (h1 : 1 ≤ r) (h4 : r ≤ 4) : r ∈ safeG W H ↔ safeB W H r = true := by
  unfold safeG safeTo
  rw [if_pos h, List.mem_filter, List.mem_map]
  constructor
  · exact fun k => k.2
  · exact fun k => ⟨⟨(r - 1).toNat, List.mem_range.2 (by omega), by omega⟩, k⟩
end Go.Proofs.YtidilfakganooaaDoor
end

section
namespace Go.Proofs.YtidilfakganooaaDoor
open Go.ChangeShapes Go.WideShapes Go.ChangeAt Go.RowKit
set_option linter.unusedVariables false

/-- The first one's block is not the second one's. -/
def Apart (v v' : Value) : Prop := ∀ g, v.ownBlock = some g → v'.ownBlock ≠ some g
theorem apart_none (v : Value) : Apart v (.slice none 0 0) := fun g _ e => by cases e
theorem none_apart (v : Value) : Apart (.slice none 0 0) v := fun g e => by cases e
theorem row_kept {w w' : World} {base : Nat} {v : Value} {n : Nat} {xs : List Value} {row : Option Nat} (h : w.ownsRow base 3 1 v n xs) (hg : w.grownBy w' row) (hne : ∀ g, row = some g → v.ownBlock ≠ some g) : w'.ownsRow base 3 1 v n xs :=
  h.kept hg (by
    cases hv : v.ownBlock with
    | none => exact .inl rfl
    | some k => exact .inr (fun e => hne k e.symm hv))
/-- The numbers of steps, the front, the next front, the successors. -/
structure Dp (w : World) (vd : Value) (X : List Int) (vf : Value) (F : List Int) (vn : Value) (N : List Int) (vs : Value) (S : List Int) (wr : World) : Prop where
  rd : wr.ownsRow w.heap.size 3 1 vd 128 (intsV X)
  rf : wr.ownsRow w.heap.size 3 1 vf F.length (intsV F)
  rn : wr.ownsRow w.heap.size 3 1 vn N.length (intsV N)
  rs : wr.ownsRow w.heap.size 3 1 vs S.length (intsV S)
  lb : Below w.heap.size w wr
  df : Apart vd vf
  dn : Apart vd vn
  ds : Apart vd vs
  nf : Apart vn vf
  ns : Apart vn vs
section
variable {w wr w' : World} {vd vf vn vs v : Value} {X F N S L : List Int}
theorem Dp.gb (h : Dp w vd X vf F vn N vs S wr) (hg : wr.grownBy w' none) : Dp w vd X vf F vn N vs S w' :=
  ⟨own_none h.rd hg, own_none h.rf hg, own_none h.rn hg, own_none h.rs hg, below_gb h.lb (Nat.le_refl _) hg, h.df, h.dn, h.ds, h.nf, h.ns⟩
theorem Dp.al (h : Dp w vd X vf F vn N vs S wr) (o : Obj) : Dp w vd X vf F vn N vs S (wr.alloc o) := h.gb (gb_alloc (gb_refl wr none) o)
/-- The successors of another channel. -/
theorem Dp.succ (h : Dp w vd X vf F vn N vs S wr) (ho : w'.ownsRow wr.heap.size 3 1 v L.length (intsV L)) (hb : Below wr.heap.size wr w') : Dp w vd X vf F vn N v L w' := by
  have k := h.gb (gb_of_below hb none)
  exact ⟨k.rd, k.rf, k.rn, own_less ho h.lb.size, k.lb, h.df, h.dn, fun g hg e => by have h1 := (h.rd.lt g hg).2; have h2 := (ho.lt g e).1; omega, h.nf, fun g hg e => by have h1 := (h.rn.lt g hg).2; have h2 := (ho.lt g e).1; omega⟩
theorem Dp.drop (h : Dp w vd X vf F vn N vs S wr) : Dp w vd X vf F vn N (.slice none 0 0) [] wr :=
  ⟨h.rd, h.rf, h.rn, World.ownsRow_nil _ _ _ _, h.lb, h.df, h.dn, apart_none _, h.nf, apart_none _⟩
/-- A new list behind the front. -/
theorem Dp.begin (h : Dp w vd X vf F vn N vs S wr) : Dp w vd X vf F (.slice (some ⟨wr.heap.size, 0, none⟩) 0 0) [] (.slice none 0 0) [] (wr.alloc (.cells #[] 3)) := by
  have k := h.al (.cells #[] 3)
  refine ⟨k.rd, k.rf, World.ownsRow_made (base := w.heap.size) (e := 3) (size := 1) wr #[] 0 h.lb.size (by decide) rfl, World.ownsRow_nil _ _ _ _, k.lb, h.df, fun g hg e => ?_, apart_none _, fun g hg e => ?_, apart_none _⟩
  · have h1 := (h.rd.lt g hg).2
    have h2 : wr.heap.size = g := Option.some.inj e
    omega
  · have h1 := (h.rf.lt g e).2
    have h2 : wr.heap.size = g := Option.some.inj hg
    omega
/-- The new list is the front. -/
theorem Dp.shift (h : Dp w vd X vf F vn N vs S wr) : Dp w vd X vn N (.slice none 0 0) [] (.slice none 0 0) [] wr :=
  ⟨h.rd, h.rn, World.ownsRow_nil _ _ _ _, World.ownsRow_nil _ _ _ _, h.lb, h.dn, apart_none _, apart_none _, none_apart _, none_apart _⟩
theorem Dp.store {g cap : Nat} (h : Dp w (.slice (some ⟨g, 0, none⟩) 128 cap) X vf F vn N vs S wr) (t : Nat) (x : Int) : Dp w (.slice (some ⟨g, 0, none⟩) 128 cap) (X.set t x) vf F vn N vs S (wr.setCell ⟨g, t, none⟩ (.int .i64 x)) := by
  obtain ⟨h1, h2⟩ := h.rd.stored t (.int .i64 x)
  rw [intsV_set] at h1
  refine ⟨h1, row_kept h.rf h2 ?_, row_kept h.rn h2 ?_, row_kept h.rs h2 ?_, h.lb.grown h2 h.lb.size (fun j e => by cases e; exact (h.rd.lt g rfl).1), h.df, h.dn, h.ds, h.nf, h.ns⟩
  · exact fun j e => by cases e; exact h.df g rfl
  · exact fun j e => by cases e; exact h.dn g rfl
  · exact fun j e => by cases e; exact h.ds g rfl
theorem Dp.app {g cap : Nat} {o : Obj} {x : Int} (h : Dp w vd X vf F vn N vs S wr) (ho : w'.ownsRow w.heap.size 3 1 (.slice (some ⟨g, 0, none⟩) (N.length + 1) cap) (N.length + 1) (intsV N ++ [.int .i64 x]))
    (hg : (wr.alloc o).grownBy w' vn.ownBlock) (hat : vn.ownBlock = some g ∨ g = (wr.alloc o).heap.size) : Dp w vd X vf F (.slice (some ⟨g, 0, none⟩) (N.length + 1) cap) (N ++ [x]) vs S w' := by
  have k := h.al o
  have hH : wr.heap.size < (wr.alloc o).heap.size := by rw [alloc_size]; omega
  refine ⟨row_kept k.rd hg (fun j e e2 => h.dn j e2 e), row_kept k.rf hg (fun j e => h.nf j e), by rw [List.length_append, intsV_append]; exact ho, row_kept k.rs hg (fun j e => h.ns j e), k.lb.grown hg k.lb.size (fun j e => (h.rn.lt j e).1), h.df, ?_, h.ds, ?_, ?_⟩
  · intro j e e2
    have e3 : g = j := Option.some.inj e2
    subst e3
    rcases hat with h1 | h1
    · exact h.dn g e h1
    · have := (h.rd.lt g e).2
      omega
  · intro j e e2
    have e3 : g = j := Option.some.inj e
    subst e3
    rcases hat with h1 | h1
    · exact h.nf g h1 e2
    · have := (h.rf.lt g e2).2
      omega
  · intro j e e2
    have e3 : g = j := Option.some.inj e
    subst e3
    rcases hat with h1 | h1
    · exact h.ns g h1 e2
    · have := (h.rs.lt g e2).2
      omega
end
end Go.Proofs.YtidilfakganooaaDoor
end

section
namespace Go.Proofs.YtidilfakganooaaDoor
open Go.ChangeShapes Go.WideShapes Go.ChangeAt Go.RowKit
set_option linter.unusedVariables false

/-- The two rows of a verdict: numbers R and C, apart from each other. -/
structure VRow (w : World) (base : Nat) (vr vc : Value) (a b : Nat) (R C : List Int) : Prop where
  r : w.ownsRow base 3 1 vr a (intsV R)
  c : w.ownsRow base 3 1 vc b (intsV C)
  ap : Apart vr vc
section
variable {w w' w1 : World} {base base2 a b a2 b2 : Nat} {vr vc ur uc : Value} {R C R2 C2 : List Int} {row row2 : Option Nat}
theorem VRow.gb (h : VRow w base vr vc a b R C) (hg : w.grownBy w' none) : VRow w' base vr vc a b R C := ⟨own_none h.r hg, own_none h.c hg, h.ap⟩
theorem VRow.bl (h : VRow w base vr vc a b R C) (hb : Below w.heap.size w w') : VRow w' base vr vc a b R C := h.gb (gb_of_below hb none)
theorem VRow.alloc (h : VRow w base vr vc a b R C) (o : Obj) : VRow (w.alloc o) base vr vc a b R C := h.gb (gb_alloc (gb_refl w none) o)
theorem VRow.drew (h : VRow w base vr vc a b R C) : VRow w.drew base vr vc a b R C := h.gb (gb_drew (gb_refl w none))
theorem VRow.less (h : VRow w base vr vc a b R C) (hb : base2 ≤ base) : VRow w base2 vr vc a b R C := ⟨own_less h.r hb, own_less h.c hb, h.ap⟩
theorem VRow.lt (h : VRow w base vr vc a b R C) (k : Nat) (hk : vr.ownBlock = some k ∨ vc.ownBlock = some k) : base ≤ k ∧ k < w.heap.size := by
  rcases hk with hk | hk
  · exact h.r.lt k hk
  · exact h.c.lt k hk
theorem VRow.kept (h : VRow w base vr vc a b R C) (hg : w.grownBy w' row) (hne : ∀ k, (vr.ownBlock = some k ∨ vc.ownBlock = some k) → row ≠ some k) : VRow w' base vr vc a b R C :=
  ⟨row_kept h.r hg (fun j e e2 => hne j (.inl e2) e), row_kept h.c hg (fun j e e2 => hne j (.inr e2) e), h.ap⟩
theorem VRow.kept2 (h : VRow w base vr vc a b R C) (hg : w.grownBy w1 ur.ownBlock) (hg2 : w1.grownBy w' uc.ownBlock) (hne : ∀ k j, (vr.ownBlock = some k ∨ vc.ownBlock = some k) → (ur.ownBlock = some j ∨ uc.ownBlock = some j) → k ≠ j) : VRow w' base vr vc a b R C :=
  (h.kept hg (fun k hk e => hne k k hk (.inl e) rfl)).kept hg2 (fun k hk e => hne k k hk (.inr e) rfl)
end
/-- A new verdict: two new rows apart from each other. -/
def NewV (v : Verd) (w : World) (e : Ending) (w' : World) : Prop :=
  ∃ vr vc, e = .returned (.agg #[.int .i64 v.code, vr, vc]) ∧ VRow w' w.heap.size vr vc v.ranks.length v.cycle.length v.ranks v.cycle ∧ Below w.heap.size w w'
/-- The boxes: a mesh, a table, a verdict. -/
def vdB (W H : Int) (A A2 : Option Addr) (n cap n2 c2 : Nat) (cs : Array Value) (w : World) : World := (twoI W H A A2 n cap n2 c2 w).alloc (.cells cs 34)
section
variable {W H : Int} {A A2 : Option Addr} {n cap n2 c2 : Nat} {cs : Array Value} {w wr w' : World}
theorem vdB_size : (vdB W H A A2 n cap n2 c2 cs w).heap.size = w.heap.size + 3 := by unfold vdB; rw [alloc_size, twoI_size]
theorem vdB_gb : w.grownBy (vdB W H A A2 n cap n2 c2 cs w) none := gb_alloc twoI_gb _
/-- The boxes as they are. -/
structure VdAt (W H : Int) (A A2 : Option Addr) (n cap n2 c2 : Nat) (cs : Array Value) (w wr : World) : Prop where
  m : Blk wr w.heap.size 37 (meshC W H A n cap)
  t : Blk wr (w.heap.size + 1) 30 #[.slice A2 n2 c2]
  v : Blk wr (w.heap.size + 2) 34 cs
  g : w.grownBy wr none
theorem vdAt_start (cs : Array Value) (w : World) : VdAt W H A A2 n cap n2 c2 cs w (vdB W H A A2 n cap n2 c2 cs w) := by
  have hv := Blk.new (twoI W H A A2 n cap n2 c2 w) 34 cs
  rw [twoI_size] at hv
  exact ⟨(twoI_mesh (gb_refl _ _)).alloc _, (twoI_table (gb_refl _ _)).alloc _, hv, vdB_gb⟩
theorem VdAt.gb (h : VdAt W H A A2 n cap n2 c2 cs w wr) (hg : wr.grownBy w' none) : VdAt W H A A2 n cap n2 c2 cs w w' := ⟨h.m.grown hg (by simp), h.t.grown hg (by simp), h.v.grown hg (by simp), gb_trans h.g hg⟩
theorem VdAt.sz (h : VdAt W H A A2 n cap n2 c2 cs w wr) : w.heap.size + 3 ≤ wr.heap.size := by have := h.v.lt; omega
theorem vd_gb (wr : World) (g : Nat) (c : Int) (vr vc : Value) : wr.grownBy (((wr.setCell ⟨g, 0, none⟩ (.int .i64 c)).setCell ⟨g, 1, none⟩ vr).setCell ⟨g, 2, none⟩ vc) (some g) := by
  have g1 := gb_setCell (gb_refl wr (some g)) (p := ⟨g, 0, none⟩) (.inl rfl) (.int .i64 c)
  have g2 := gb_setCell g1 (p := ⟨g, 1, none⟩) (.inl rfl) vr
  exact gb_setCell g2 (p := ⟨g, 2, none⟩) (.inl rfl) vc
/-- The verdict is written. -/
theorem vd_put {c : Int} {vr vc : Value} (h : VdAt W H A A2 n cap n2 c2 cs w wr) : Below w.heap.size w (((wr.setCell ⟨w.heap.size + 2, 0, none⟩ (.int .i64 c)).setCell ⟨w.heap.size + 2, 1, none⟩ vr).setCell ⟨w.heap.size + 2, 2, none⟩ vc) := by
  have h0 : Below w.heap.size w wr := gb_below_none h.g (Nat.le_refl _)
  have hg : wr.grownBy (((wr.setCell ⟨w.heap.size + 2, 0, none⟩ (.int .i64 c)).setCell ⟨w.heap.size + 2, 1, none⟩ vr).setCell ⟨w.heap.size + 2, 2, none⟩ vc) (some (w.heap.size + 2)) := vd_gb wr (w.heap.size + 2) c vr vc
  exact h0.grown hg (by have := h.sz; omega) (fun j e => by cases e; omega)
theorem vd_row {c : Int} {vr vc v : Value} {k B : Nat} {xs : List Value} (h : VdAt W H A A2 n cap n2 c2 cs w wr) (ho : wr.ownsRow B 3 1 v k xs) : (((wr.setCell ⟨w.heap.size + 2, 0, none⟩ (.int .i64 c)).setCell ⟨w.heap.size + 2, 1, none⟩ vr).setCell ⟨w.heap.size + 2, 2, none⟩ vc).ownsRow B 3 1 v k xs := by
  have hg : wr.grownBy (((wr.setCell ⟨w.heap.size + 2, 0, none⟩ (.int .i64 c)).setCell ⟨w.heap.size + 2, 1, none⟩ vr).setCell ⟨w.heap.size + 2, 2, none⟩ vc) (some (w.heap.size + 2)) := vd_gb wr (w.heap.size + 2) c vr vc
  exact row_kept ho hg (fun j e => by cases e; exact own_ne ho h.v (by decide))
/-- The cells of the verdict that was written. -/
theorem vd_cells {c : Int} {vr vc a b d : Value} (h : VdAt W H A A2 n cap n2 c2 #[a, b, d] w wr) : Blk (((wr.setCell ⟨w.heap.size + 2, 0, none⟩ (.int .i64 c)).setCell ⟨w.heap.size + 2, 1, none⟩ vr).setCell ⟨w.heap.size + 2, 2, none⟩ vc) (w.heap.size + 2) 34 #[.int .i64 c, vr, vc] := by
  have := ((h.v.set_ 0 (.int .i64 c)).set_ 1 vr).set_ 2 vc
  simpa using this
end
end Go.Proofs.YtidilfakganooaaDoor
end

section
namespace Go.Proofs.YtidilfakganooaaDoor
open Go.ChangeShapes Go.WideShapes Go.ChangeAt Go.RowKit
set_option linter.unusedVariables false

/-- An index, or -1. -/
def Idx (L : List Int) (c : Int) (w : World) (e : Ending) (w' : World) : Prop := ∃ k : Int, e = .returned (.int .i64 k) ∧ decide (0 ≤ k) = inG L c ∧ w = w'
theorem implIndex (A : Option Addr) (n cap B : Nat) (L : List Int) (c : Int) (w : World) (h : IntAt w B A n L) (hn : n ≤ 1000000000) :
    Calls Tryd.prog 79 #[.slice A n cap, .int .i64 c] w (Idx L c w) := by
  have hl := h.1
  have HI := Lib.hid h
  clear h
  go_enter Tryd.func79, Tryd.ntmps79
  go_wp2_with fail
  go_loop [8] (fun i => ∃ k : Nat, i = .int .i64 (k : Int) ∧ k ≤ n ∧ ∀ j, j < k → L.getD j 0 ≠ c) (fun i => n - (intOf i).toNat)
  case atStart => exact ⟨0, rfl, Nat.zero_le _, fun j h => by omega⟩
  case round =>
    obtain ⟨k, rfl, hk, hne⟩ := hrel
    have HNE := Lib.hid hne
    clear hne
    by_cases hlt : k < n
    · obtain ⟨b, off, rfl, hb, hc⟩ := HI.out.at k hlt
      obtain ⟨x, hx⟩ : ∃ x, L.getD k 0 = x := ⟨_, rfl⟩
      rw [hx] at hc
      have HX := Lib.hid hx
      clear hx
      by_cases hxc : x = c
      · subst hxc
        go_wp2_with fail
        go_ret
        exact ⟨_, rfl, by rw [inG_yes (by omega) HX.out]; exact decide_eq_true (by omega), rfl⟩
      · have hxb : (c == x) = false := by simpa using fun e => hxc e.symm
        have HXC := Lib.hid hxc
        clear hxc
        go_wp2_with fail
        go_round
        case rel => exact ⟨k + 1, by go_num, by omega, fun j hj => by
          rcases Nat.lt_succ_iff_lt_or_eq.1 hj with h1 | rfl
          · exact HNE.out j h1
          · rw [HX.out]; exact HXC.out⟩
        case measure => simp [intOf]; omega
    · obtain rfl : k = n := by omega
      go_wp2_with fail
      go_ret
      exact ⟨-1, rfl, by rw [inG_no (fun j hj => HNE.out j (by omega))]; rfl, rfl⟩

theorem implContains (A : Option Addr) (n cap B : Nat) (L : List Int) (c : Int) (b : Bool) (hb : inG L c = b) (w : World) (h : IntAt w B A n L) (hn : n ≤ 1000000000) :
    Calls Tryd.prog 57 #[.slice A n cap, .int .i64 c] w fun e w' => e = .returned (.bool b) ∧ w = w' := by
  have HC := Lib.hid (fun w h => implIndex A n cap B L c w h hn)
  have HI := Lib.hid h
  clear h
  go_enter Tryd.func57, Tryd.ntmps57
  go_wp2_with fail
  refine (HC.out _ HI.out).mono ?_
  rintro e w1 ⟨k, rfl, hk, rfl⟩
  rw [hb] at hk
  have HK := Lib.hid hk
  clear hk hb
  go_wp2_with fail
  go_ret
  exact ⟨ret_bool (by rw [← HK.out]), rfl⟩

end Go.Proofs.YtidilfakganooaaDoor
end

section
namespace Go.Proofs.YtidilfakganooaaDoor
open Go.ChangeShapes Go.WideShapes Go.ChangeAt Go.RowKit
set_option linter.unusedVariables false

theorem implConnects (W H : Int) (A : Option Addr) (n cap : Nat) (L : List Int) (c : Int) (b : Bool) (hcw : (Lit.int .i64 c).wf = true) (hb : hasChG W H L c = b) (w : World) (h : IntAt w w.heap.size A n L) (hn : n ≤ 1000000000) :
    Calls Tryd.prog 98 #[.agg #[.int .i64 W, .int .i64 H, .slice A n cap], .int .i64 c] w (RetB b w) := by
  obtain ⟨r, hr⟩ : ∃ r, endG W H c = r := ⟨_, rfl⟩
  have HE := Lib.hid (fun w => implEnd W H c r hcw hr w)
  have HI := Lib.hid h
  have hld := leads_end W H c
  rw [hr] at hld
  clear h hcw hr
  by_cases h0 : 0 ≤ r
  · obtain ⟨q, hq⟩ : ∃ q, inG L c = q := ⟨_, rfl⟩
    have hv : b = !q := by rw [← hb, hasChG, hld, decide_eq_true h0, hq]; rfl
    have HV := Lib.hid hv
    have hd : decide (r ≥ 0) = true := decide_eq_true h0
    have HF := Lib.hid (fun w h => implContains A n cap (w.heap.size) L c q hq w h hn)
    clear hv hld hb hq
    go_enter Tryd.func98, Tryd.ntmps98
    go_wp2_with fail
    refine (HE.out _).mono ?_
    rintro e w1 ⟨rfl, hg⟩
    have hbk := boxi_blk hg
    have a2 : w1.cell? ⟨w.heap.size, 2, none⟩ = some (.slice A n cap) := hbk.cell 2
    have hi := (HI.out.none (Nat.le_refl _) (boxi_gb hg)).more (B' := w1.heap.size) (boxi_gb hg).size
    have Hg := Lib.hid (boxi_gb hg)
    clear hg hbk
    go_wp2_with fail
    refine (HF.out _ hi).mono ?_
    rintro e w2 ⟨rfl, rfl⟩
    clear hi
    go_wp2_with fail
    go_ret
    exact ⟨ret_bool (by rw [HV.out]), Hg.out⟩
  · have hv : b = false := by rw [← hb, hasChG, hld, decide_eq_false h0]; rfl
    have hd : decide (r ≥ 0) = false := decide_eq_false h0
    have HV := Lib.hid hv
    clear hv hld hb
    go_enter Tryd.func98, Tryd.ntmps98
    go_wp2_with fail
    refine (HE.out _).mono ?_
    rintro e w1 ⟨rfl, hg⟩
    have Hg := Lib.hid (boxi_gb hg)
    clear hg
    go_wp2_with fail
    go_ret
    exact ⟨ret_bool (by rw [HV.out]), Hg.out⟩
end Go.Proofs.YtidilfakganooaaDoor
end

section
namespace Go.Proofs.YtidilfakganooaaDoor
open Go.ChangeShapes Go.WideShapes Go.ChangeAt Go.RowKit
set_option linter.unusedVariables false
set_option maxRecDepth 20000

theorem end_step {W H p : Int} {x : Nat} (h0 : 0 ≤ p) (h3 : p ≤ 3) : endG W H (4 * (x : Int) + p) = nextG W H x p := by
  unfold endG
  rw [Int.tdiv_eq_ediv_of_nonneg (by omega), Int.tmod_eq_emod_of_nonneg (by omega)]
  rw [show (4 * (x : Int) + p) / 4 = x by omega, show (4 * (x : Int) + p) % 4 = p by omega]

theorem ret_two {v : Value} {a b : Bool} (h : a = b) : Ending.returned (.tuple #[v, .bool a]) = Ending.returned (.tuple #[v, .bool b]) := by rw [h]
/-- A new list of numbers, and whether there is one. -/
def NewW (L : List Int) (b : Bool) (w : World) (e : Ending) (w' : World) : Prop :=
  ∃ v, e = .returned (.tuple #[v, .bool b]) ∧ w'.ownsRow w.heap.size 3 1 v L.length (intsV L) ∧ Below w.heap.size w w'
def lenW : Value → Nat | .slice _ n _ => n | _ => 0
/-- The walk has come to x. -/
def WalkTo (W H : Int) (A : Option Addr) (n cap : Nat) (L P : List Int) (z : Nat) (res : List Int) (rb : Bool) (w : World) (acc : List Int) (x : Nat) (v : Value) (wr : World) : Prop :=
  (x : Int) < countG W H ∧ acc.length ≤ cntN W H ∧ res = restG W H L P z acc (cntN W H + 1 - acc.length) x ∧ rb = restE W H L P z (cntN W H + 1 - acc.length) x ∧
  wr.ownsRow (w.heap.size + 1) 3 1 v acc.length (intsV acc) ∧ Below (w.heap.size + 1) (w.alloc (.cells (meshC W H A n cap) 37)) wr

theorem app_to {W H : Int} {A : Option Addr} {n cap : Nat} {w w4 w5 : World} {acc : List Int} {c : Int} {v v' : Value} {o : Obj} (hb : Below (w.heap.size + 1) (w.alloc (.cells (meshC W H A n cap) 37)) w4) (ho : w4.ownsRow (w.heap.size + 1) 3 1 v acc.length (intsV acc))
    (hown5 : w5.ownsRow (w.heap.size + 1) 3 1 v' (acc.length + 1) (intsV acc ++ [.int .i64 c])) (hg : (w4.alloc o).grownBy w5 v.ownBlock) :
    w5.ownsRow (w.heap.size + 1) 3 1 v' (acc ++ [c]).length (intsV (acc ++ [c])) ∧ Below (w.heap.size + 1) (w.alloc (.cells (meshC W H A n cap) 37)) w5 ∧ lenW v' = acc.length + 1 ∧
    w5.cell? ⟨w.heap.size, 0, none⟩ = some (.int .i64 W) ∧ w5.cell? ⟨w.heap.size, 1, none⟩ = some (.int .i64 H) := by
  have hsz : w.heap.size + 1 ≤ w4.heap.size := by have h1 := hb.size; simp at h1; exact h1
  have h1 : w5.ownsRow (w.heap.size + 1) 3 1 v' (acc ++ [c]).length (intsV (acc ++ [c])) := by rw [List.length_append, intsV_append]; exact hown5
  have h2 : Below (w.heap.size + 1) (w.alloc (.cells (meshC W H A n cap) 37)) w5 := (hb.alloc hsz _).grown hg (by simp; omega) (fun j hj => (ho.lt j hj).1)
  have tm := (Blk.new w 37 (meshC W H A n cap)).below h2 (by omega)
  refine ⟨h1, h2, ?_, tm.cell 0, tm.cell 1⟩
  obtain ⟨A', c', rfl, _⟩ := own_form h1
  simp [lenW]

set_option maxHeartbeats 1600000 in
theorem implWalk (W H : Int) (A : Option Addr) (n cap : Nat) (L P X : List Int) (g a z : Nat) (hL : WfL L) (w : World) (h : IntAt w w.heap.size A n L) (hn : n ≤ 1000000000)
    (hX : isPorts W H P X) (hb : Blk w g 134 (cellsX X)) (ha : (a : Int) < countG W H) (hz : (z : Int) < countG W H) :
    Calls Tryd.prog 86 #[.pointer (some ⟨g, 0, none⟩), .agg #[.int .i64 W, .int .i64 H, .slice A n cap], .int .i64 a, .int .i64 z] w (NewW (walkOf W H L P a z) (endsG W H L P a z) w) := by
  obtain ⟨i0, hi, hz0, hz1, hz2⟩ := info_parts info_int
  have HI := Lib.hid h
  have hg := hb.lt
  have HSQ := Lib.hid (fun (wr : World) (h : Below w.heap.size w wr) (x y : Nat) (hx : (x : Int) < countG W H) (hy : (y : Int) < countG W H) => show wr.cell? ⟨g, x * 16 + y, none⟩ = some (.int .i64 (portP (tabG (countG W H) P x y))) by
    have hc := countG_le W H
    rw [Nat.mul_comm x 16]
    exact ((hb.below h hg).cell (16 * x + y)).trans (cellsX_at (by rw [hX.1]; omega) (hX.2 x y hx hy)))
  obtain ⟨res, hres⟩ : ∃ res, walkOf W H L P a z = res := ⟨_, rfl⟩
  obtain ⟨rb, hrb⟩ : ∃ rb, endsG W H L P a z = rb := ⟨_, rfl⟩
  rw [hres, hrb]
  have hsz1 : (w.alloc (.cells (meshC W H A n cap) 37)).heap.size = w.heap.size + 1 := by simp
  have HX := Lib.hid (show WalkTo W H A n cap L P z res rb w [] a (.slice none 0 0) (w.alloc (.cells (meshC W H A n cap) 37)) from
    ⟨ha, Nat.zero_le _, by rw [← hres]; exact (rest_start a z).symm, by rw [← hrb]; rfl, World.ownsRow_nil _ _ _ _, Below.refl _ _⟩)
  have HS1 := Lib.hid hsz1
  have hki := cntN_int W H
  obtain ⟨k, hk⟩ : ∃ k, cntN W H = k := ⟨_, rfl⟩
  have hk1 := cntN_le W H
  rw [hk] at hki hk1
  have HN := Lib.hid (fun w => show Calls Tryd.prog 26 #[.agg #[.int .i64 W, .int .i64 H]] w (RetI (k : Int) none w) from hki ▸ implNodeCount W H w)
  have HKI := Lib.hid hki
  have HKK := Lib.hid hk
  have HZ := Lib.hid hz
  have ha16 : (a : Int) < 16 := by omega
  have hz16 : (z : Int) < 16 := by omega
  have hgne : ¬ g = w.heap.size := by omega
  have c0 := HSQ.out (w.alloc (.cells (meshC W H A n cap) 37)) (((Below.refl _ _)).alloc (Nat.le_refl _) _) a z ha hz
  obtain ⟨q, hq⟩ : ∃ q, portP (tabG (countG W H) P a z) = q := ⟨_, rfl⟩
  rw [hq] at c0
  have HQ := Lib.hid hq
  clear h hX hb hres hrb hsz1 hki hk ha hz hq
  unfold meshC at c0
  go_enter Tryd.func86, Tryd.ntmps86
  go_wp2_with fail
  clear c0
  go_loopw [10, 11, 12] (fun v s11 s12 wr => ∃ (acc : List Int) (x : Nat), s11 = .int .i64 (x : Int) ∧ s12 = .int .i64 (portP (tabG (countG W H) P x z)) ∧ WalkTo W H A n cap L P z res rb w acc x v wr) (fun v _ _ _ => 17 - lenW v)
  case atStart => exact ⟨[], a, rfl, by rw [HQ.out], HX.out⟩
  case round =>
    obtain ⟨acc, x, rfl, rfl, hx, hl, hre, hrb, hown, hbel⟩ := hrel
    rw [HKK.out] at hl hre hrb
    obtain ⟨Aq, capq, rfl, hAq⟩ := own_form hown
    have HOwn := Lib.hid hown
    have HBel := Lib.hid hbel
    have HBo := Lib.hid (below_box hbel)
    obtain ⟨f, hf⟩ : ∃ f, k + 1 - acc.length = f + 1 := ⟨k - acc.length, by omega⟩
    rw [hf] at hre hrb
    have HF := Lib.hid hf
    have HRE := Lib.hid hre
    have HRB := Lib.hid hrb
    have HXC := Lib.hid hx
    have hx16 : (x : Int) < 16 := by have := HKI.out; omega
    obtain ⟨t, ht⟩ : ∃ t, tabG (countG W H) P x z = t := ⟨_, rfl⟩
    rw [ht]
    have HT := Lib.hid ht
    have tm := (Blk.new w 37 (meshC W H A n cap)).below hbel (by omega)
    have a0 : wr.cell? ⟨w.heap.size, 0, none⟩ = some (.int .i64 W) := tm.cell 0
    have a1 : wr.cell? ⟨w.heap.size, 1, none⟩ = some (.int .i64 H) := tm.cell 1
    have a2 : wr.cell? ⟨w.heap.size, 2, none⟩ = some (.slice A n cap) := tm.cell 2
    have hsw : w.heap.size + 1 ≤ wr.heap.size := by have h1 := hbel.size; rw [HS1.out] at h1; exact h1
    clear hown hbel hre hrb hx hf ht tm hAq
    by_cases h4 : t = 4
    · subst h4
      have hp4 : portP 4 = 4 := rfl
      rw [hp4]
      clear a0 a1 a2
      by_cases hxz : x = z
      · subst hxz
        have hxb : ((x : Int) != (x : Int)) = false := by simp
        have HF2 := Lib.hid (HRE.out.trans (rest_end HT.out rfl))
        have HF3 := Lib.hid (HRB.out.trans (restE_end HT.out rfl))
        go_wp2_with fail
        go_ret2
        refine ⟨_, ret_two HF3.out.symm, ?_, HBo.out⟩
        rw [HF2.out]
        exact own_less HOwn.out (by omega)
      · have hne : (x : Int) ≠ (z : Int) := fun e => hxz (by exact_mod_cast e)
        have hxb : ((x : Int) != (z : Int)) = true := bne_iff_ne.2 hne
        have HF2 := Lib.hid (HRE.out.trans (rest_lost HT.out hne))
        have HF3 := Lib.hid (HRB.out.trans (restE_lost HT.out hne))
        clear hxz hne
        go_wp2_with fail
        go_ret2
        refine ⟨_, ret_two HF3.out.symm, ?_, HBo.out⟩
        rw [HF2.out]
        exact World.ownsRow_nil _ _ _ _
    · have H4 := Lib.hid h4
      have h4b : (portP t != 4) = true := bne_iff_ne.2 fun e => h4 (portP_four.1 e)
      obtain ⟨q, hq⟩ : ∃ q, portP t = q := ⟨_, rfl⟩
      have hqb := portP_bounds t
      rw [hq] at h4b hqb ⊢
      by_cases h0 : q < 0
      · have hst : stepsG W H L x t = false := by
          have hs : ¬ (0 ≤ t ∧ t ≤ 3) := fun e => by rw [portP_in e.1 (by omega)] at hq; omega
          simp only [stepsG, Bool.and_eq_false_iff, decide_eq_false_iff_not]; exact .inl hs
        have HF2 := Lib.hid (HRE.out.trans (rest_bad HT.out H4.out hst))
        have HF3 := Lib.hid (HRB.out.trans (restE_bad HT.out H4.out hst))
        have e1 : wrap64 (4 * (x : Int)) = 4 * (x : Int) := IntWalk.wrap64_in _ (by omega)
        have e2 : wrap64 (4 * (x : Int) + q) = 4 * (x : Int) + q := IntWalk.wrap64_in _ (by omega)
        clear hst hq h4 a0 a1 a2
        go_wp2_with fail
        go_ret2
        refine ⟨_, ret_two HF3.out.symm, ?_, HBo.out⟩
        rw [HF2.out]
        exact World.ownsRow_nil _ _ _ _
      · have hqt : t = q := portP_in_of hq (by omega)
        subst hqt
        have ht3 : t ≤ 3 := by omega
        have e1 : wrap64 (4 * (x : Int)) = 4 * (x : Int) := IntWalk.wrap64_in _ (by omega)
        have e2 : wrap64 (4 * (x : Int) + t) = 4 * (x : Int) + t := IntWalk.wrap64_in _ (by omega)
        have hcw : (Lit.int .i64 (4 * (x : Int) + t)).wf = true := WalkArith.wf_i64 (by omega)
        have hi2 := (HI.out.below HBo.out).more (B' := wr.heap.size) (by omega)
        have TM := Lib.hid ((Blk.new w 37 (meshC W H A n cap)).below HBel.out (by omega))
        cases hc : hasChG W H L (4 * (x : Int) + t) with
        | false =>
          have hst : stepsG W H L x t = false := by simp [stepsG, hc]
          have HF2 := Lib.hid (HRE.out.trans (rest_bad HT.out H4.out hst))
          have HF3 := Lib.hid (HRB.out.trans (restE_bad HT.out H4.out hst))
          have HC := Lib.hid (fun w h => implConnects W H A n cap L (4 * (x : Int) + t) false hcw hc w h hn)
          clear hst hq h4 hc hcw
          go_wp2_with fail
          refine (HC.out _ hi2).mono ?_
          rintro e w3 ⟨rfl, hg3⟩
          have G3 := Lib.hid (below_gb HBo.out (Nat.le_refl _) hg3)
          clear hg3 hi2 a0 a1 a2
          go_wp2_with fail
          go_ret2
          refine ⟨_, ret_two HF3.out.symm, ?_, G3.out⟩
          rw [HF2.out]
          exact World.ownsRow_nil _ _ _ _
        | true =>
          have hst : stepsG W H L x t = true := by simp only [stepsG, hc, Bool.and_true, decide_eq_true_eq]; omega
          have HF2 := Lib.hid (HRE.out.trans (rest_go HT.out H4.out hst))
          have HF3 := Lib.hid (HRB.out.trans (restE_go HT.out H4.out hst))
          have HC := Lib.hid (fun w h => implConnects W H A n cap L (4 * (x : Int) + t) true hcw hc w h hn)
          obtain ⟨y, hy⟩ : ∃ y : Nat, nextG W H x t = (y : Int) := ⟨(nextG W H x t).toNat, (Int.toNat_of_nonneg (hasG_iff.1 (step_has hst)).1).symm⟩
          have hyk := (hasG_iff.1 (step_has hst)).2
          rw [hy] at hyk
          have HE := Lib.hid (fun w => implEnd W H (4 * (x : Int) + t) y hcw (by rw [end_step (by omega) ht3, hy]) w)
          have HY := Lib.hid hy
          have HYK := Lib.hid hyk
          clear hst hq h4 hc hcw hy hyk
          go_wp2_with fail
          refine (HC.out _ hi2).mono ?_
          rintro e w3 ⟨rfl, hg3⟩
          have G3 := Lib.hid hg3
          have tm3 := TM.out.grown hg3 (by simp)
          have d0 : w3.cell? ⟨w.heap.size, 0, none⟩ = some (.int .i64 W) := tm3.cell 0
          have d1 : w3.cell? ⟨w.heap.size, 1, none⟩ = some (.int .i64 H) := tm3.cell 1
          clear hg3 hi2 a0 a1 a2 tm3
          go_wp2_with fail
          refine (HN.out _).mono ?_
          rintro e w4 ⟨rfl, hg4⟩
          have G4 := Lib.hid (gb_trans G3.out hg4)
          have TM4 := Lib.hid (TM.out.grown G4.out (by simp))
          clear hg4 d0 d1
          by_cases hlk : acc.length = k
          · have hf0 : f = 0 := by have := HF.out; omega
            have hlb : ((acc.length : Int) == (k : Int)) = true := beq_iff_eq.2 (by omega)
            have G5 := Lib.hid (below_gb HBo.out (Nat.le_refl _) G4.out)
            have HG2 := Lib.hid (show res = [] by rw [HF2.out, hf0]; rfl)
            have HG3 := Lib.hid (show rb = false by rw [HF3.out, hf0]; rfl)
            clear hlk hf0
            go_wp2_with fail
            go_ret2
            refine ⟨_, ret_two HG3.out.symm, ?_, G5.out⟩
            rw [HG2.out]
            exact World.ownsRow_nil _ _ _ _
          · have hlb : ((acc.length : Int) == (k : Int)) = false := beq_false_of_ne (by omega)
            have hown1 := own_none HOwn.out G4.out
            have hsz4 : w.heap.size + 1 ≤ w4.heap.size := Nat.le_trans hsw G4.out.size
            have b3' := Lib.hid (show ∀ u ∈ [Value.int .i64 (4 * (x : Int) + t)], u.oneCell' = true by simp [Value.oneCell'])
            have b4' := Lib.hid (show acc.length + 1 ≤ maxLen by unfold maxLen; omega)
            have HLK := Lib.hid (show acc.length < k by omega)
            have HB4 := Lib.hid (below_gb HBel.out (by rw [HS1.out]; exact Nat.le_refl _) G4.out)
            clear hlk
            go_wp2_with (at_builtin; refine wpList_append_own _ rfl _ _ 27 rfl (w.heap.size + 1) 3 i0 (.int .i64 0) 1 8 Tryd.underlying27 hi hz0 hz1 hz2 rfl (by decide) _ acc.length _ rfl (hown1.alloc _) ⟨w4.heap.size, 0, none⟩ 1 1 [.int .i64 (4 * (x : Int) + t)] rfl rfl (World.news_of_block (cs := #[.int .i64 (4 * (x : Int) + t)]) (t := 3) (fr := (0, 0)) (heap_alloc_new w4 _)) b3'.out b4'.out (by omega) (by simp; omega) ?_; intro v' w5 hown5 hgrow5 _; obtain ⟨ho5, hb5, hlv, a0, a1⟩ := app_to HB4.out hown1 hown5 hgrow5; have HO5 := Lib.hid ho5; have HB5 := Lib.hid hb5; have HLV := Lib.hid hlv; clear ho5 hb5 hlv hown5 hgrow5 hown1)
            refine (HE.out _).mono ?_
            rintro e w6 ⟨rfl, hg6⟩
            have G6 := Lib.hid hg6
            have HB6 := Lib.hid (below_gb HB5.out (by rw [HS1.out]; exact Nat.le_refl _) hg6)
            have c6 := HSQ.out w6 (below_box HB6.out) y z HYK.out HZ.out
            have y16 : (y : Int) < 16 := by have := HYK.out; have := HKI.out; omega
            obtain ⟨q6, hq6⟩ : ∃ q, portP (tabG (countG W H) P y z) = q := ⟨_, rfl⟩
            rw [hq6] at c6
            have HQ6 := Lib.hid hq6
            clear hg6 a0 a1 hq6
            go_wp2_with fail
            go_roundw
            case rel => exact ⟨acc ++ [4 * (x : Int) + t], y, rfl, by rw [HQ6.out], HYK.out, by rw [HKK.out, List.length_append]; exact HLK.out, by rw [HF2.out, HY.out, HKK.out]; congr 1; have := HF.out; simp; omega, by rw [HF3.out, HY.out, HKK.out]; congr 1; have := HF.out; simp; omega, own_none HO5.out G6.out, HB6.out⟩
            case measure => rw [HLV.out]; simp [lenW]; omega
end Go.Proofs.YtidilfakganooaaDoor
end

section
namespace Go.Proofs.YtidilfakganooaaDoor
open Go.ChangeShapes Go.WideShapes Go.ChangeAt Go.RowKit
set_option linter.unusedVariables false
variable {W H : Int} {L P : List Int}

theorem pairW_at {k x y : Nat} (hk : cntN W H = k) (hy : y < k) : pairW W H L P (x * k + y) = walkOf W H L P x y := by
  have hki := cntN_int W H
  subst hk
  have e1 : ((x * cntN W H + y : Nat) : Int) / countG W H = x := by rw [← hki, ← Int.natCast_ediv, pair_div hy]
  have e2 : ((x * cntN W H + y : Nat) : Int) % countG W H = y := by rw [← hki, ← Int.natCast_emod, pair_mod hy]
  rw [pairW, e1, e2]
theorem walkG_valid {a b : Int} (h : tableG W H L P = true) (ha : hasG W H a = true) (hb : hasG W H b = true) : walkG W H L P a b = walkOf W H L P a b := by
  have hs := tableG_sized h
  unfold walkG
  by_cases e : a = b
  · subst e
    have he := tableG_entry h ha ha
    rw [entry_same, decide_eq_true_eq] at he
    rw [if_neg (by simp), walkOf, walkF_end he rfl]
    rfl
  · rw [if_pos ⟨by simp [askG, hs, ha, hb], e⟩]
theorem sqG_cnt {k : Nat} (hk : cntN W H = k) : sqG W H = k * k := by subst hk; rfl
end Go.Proofs.YtidilfakganooaaDoor
end

section
namespace Go.Proofs.YtidilfakganooaaDoor
open Go.ChangeShapes Go.WideShapes Go.ChangeAt Go.RowKit
set_option linter.unusedVariables false
set_option maxRecDepth 20000

theorem info_lists : (Tryd.prog.info? 27).map (fun i => (i.zero, i.size, i.bytes)) = some (some (.slice none 0 0), 1, 24) := by kernel_rfl
/-- A row of lists: element k is a row of the caller's own that holds the numbers of F k. -/
def ListsAt (w : World) (base : Nat) (v : Value) (N : Nat) (F : Nat → List Int) : Prop :=
  ∃ vs : List Value, w.ownsRow base 27 1 v N vs ∧ ∀ k, k < N → ∃ A c, vs[k]? = some (.slice A (F k).length c) ∧ w.ownsRow base 3 1 (.slice A (F k).length c) (F k).length (intsV (F k))
section
variable {w w' : World} {base : Nat} {v v' : Value} {N : Nat} {F : Nat → List Int}
theorem ListsAt.nil (w : World) (base : Nat) (F : Nat → List Int) : ListsAt w base (.slice none 0 0) 0 F := ⟨[], World.ownsRow_nil _ _ _ _, fun k h => by omega⟩
theorem ListsAt.gb (h : ListsAt w base v N F) (hg : w.grownBy w' none) : ListsAt w' base v N F := by
  obtain ⟨vs, ho, hi⟩ := h
  refine ⟨vs, own_none ho hg, fun k hk => ?_⟩
  obtain ⟨A, c, h1, h2⟩ := hi k hk
  exact ⟨A, c, h1, own_none h2 hg⟩
theorem ListsAt.below (h : ListsAt w base v N F) (hb : Below w.heap.size w w') : ListsAt w' base v N F := h.gb (gb_of_below hb none)
theorem ListsAt.less {b : Nat} (h : ListsAt w base v N F) (hb : b ≤ base) : ListsAt w b v N F := by
  obtain ⟨vs, ho, hi⟩ := h
  refine ⟨vs, own_less ho hb, fun k hk => ?_⟩
  obtain ⟨A, c, h1, h2⟩ := hi k hk
  exact ⟨A, c, h1, own_less h2 hb⟩
theorem ListsAt.form (h : ListsAt w base v N F) : ∃ A c, v = .slice A N c ∧ (0 < N → ∃ g, A = some ⟨g, 0, none⟩) := by obtain ⟨vs, ho, _⟩ := h; exact own_form ho
/-- A row of numbers does not lie where the row of lists lies. -/
theorem own_two {A : Option Addr} {n c k : Nat} {L : List Int} {vs : List Value} (h : w.ownsRow base 27 1 v N vs) (h2 : w.ownsRow base 3 1 (.slice A n c) k (intsV L)) : (Value.slice A n c).ownBlock = none ∨ (Value.slice A n c).ownBlock ≠ v.ownBlock := by
  rcases h2.2 with ⟨h3, _⟩ | ⟨g2, c2, cur2, h3, _, hg2, _⟩
  · rw [h3]; exact .inl rfl
  · right
    rw [h3]
    rcases h.2 with ⟨h4, _⟩ | ⟨g, c4, cur, h4, _, hg, _⟩
    · rw [h4]; intro e; cases e
    · rw [h4]
      intro e
      have e2 : g2 = g := Option.some.inj e
      subst e2
      rw [hg] at hg2
      have e3 := Option.some.inj hg2
      injection e3 with _ e4 _
      exact absurd e4 (by decide)
/-- One list more. -/
theorem ListsAt.app {A : Option Addr} {c : Nat} {o : Obj} {vs : List Value} {w4 : World} (ho : w.ownsRow base 27 1 v N vs) (hi : ∀ k, k < N → ∃ A c, vs[k]? = some (.slice A (F k).length c) ∧ w.ownsRow base 3 1 (.slice A (F k).length c) (F k).length (intsV (F k)))
    (h2 : w.ownsRow base 3 1 (.slice A (F N).length c) (F N).length (intsV (F N))) (ho4 : w4.ownsRow base 27 1 v' (N + 1) (vs ++ [.slice A (F N).length c])) (hg : (w.alloc o).grownBy w4 v.ownBlock) : ListsAt w4 base v' (N + 1) F := by
  have hvs : vs.length = N := by have := ho.1; omega
  have key : ∀ {A : Option Addr} {n c k : Nat} {L : List Int}, w.ownsRow base 3 1 (.slice A n c) k (intsV L) → w4.ownsRow base 3 1 (.slice A n c) k (intsV L) := fun h => (h.alloc o).kept hg (own_two ho h)
  refine ⟨_, ho4, fun k hk => ?_⟩
  rcases Nat.lt_succ_iff_lt_or_eq.1 hk with h | rfl
  · obtain ⟨A, c, h3, h4⟩ := hi k h
    exact ⟨A, c, by rw [List.getElem?_append_left (by omega)]; exact h3, key h4⟩
  · exact ⟨A, c, by rw [List.getElem?_append_right (by omega), hvs, Nat.sub_self]; rfl, key h2⟩
/-- One list of a row. -/
theorem ListsAt.at {A : Option Addr} {n c : Nat} (h : ListsAt w base (.slice A n c) N F) (k : Nat) (hk : k < N) : ∃ g B d, A = some ⟨g, 0, none⟩ ∧ w.cell? ⟨g, k, none⟩ = some (.slice B (F k).length d) ∧ w.ownsRow base 3 1 (.slice B (F k).length d) (F k).length (intsV (F k)) := by
  obtain ⟨vs, ho, hi⟩ := h
  obtain ⟨B, d, h1, h2⟩ := hi k hk
  obtain ⟨A', c', e, hA⟩ := own_form ho
  obtain ⟨g, hg⟩ := hA (by omega)
  simp only [Value.slice.injEq] at e
  obtain ⟨rfl, rfl, rfl⟩ := e
  subst hg
  exact ⟨g, B, d, rfl, by rw [ho.cellAt k (by omega)]; exact h1, h2⟩
theorem one_slice (A : Option Addr) (n c : Nat) : ∀ u ∈ [Value.slice A n c], u.oneCell' = true := by simp [Value.oneCell']
end
/-- A new row of lists. -/
def NewL (N : Nat) (F : Nat → List Int) (w : World) (e : Ending) (w' : World) : Prop :=
  ∃ v, e = .returned v ∧ ListsAt w' w.heap.size v N F ∧ Below w.heap.size w w'
/-- How many walks there are. -/
def wlkN (W H : Int) (L P : List Int) : Nat := if tableG W H L P then sqG W H else 0
theorem wlkN_no {W H : Int} {L P : List Int} (h : tableG W H L P = false) : wlkN W H L P = 0 := if_neg (by simp [h])
theorem wlkN_yes {W H : Int} {L P : List Int} (h : tableG W H L P = true) : wlkN W H L P = sqG W H := if_pos h
/-- The square of ports in its block, and the row of walks so far. -/
def WksAt (W H : Int) (A A2 : Option Addr) (n cap n2 c2 : Nat) (L P : List Int) (w : World) (g1 j : Nat) (v : Value) (wr : World) : Prop :=
  Blk wr g1 134 (cellsX (portsX W H P P.length)) ∧ ListsAt wr (w.heap.size + 2) v j (pairW W H L P) ∧ w.heap.size + 2 ≤ g1 ∧ Below (w.heap.size + 2) (twoI W H A A2 n cap n2 c2 w) wr
section
variable {W H : Int} {A A2 : Option Addr} {n cap n2 c2 : Nat} {L P : List Int} {w wr w' : World} {g1 j : Nat} {v : Value}
theorem WksAt.gb (h : WksAt W H A A2 n cap n2 c2 L P w g1 j v wr) (hg : wr.grownBy w' none) : WksAt W H A A2 n cap n2 c2 L P w g1 j v w' :=
  ⟨h.1.grown hg (by simp), h.2.1.gb hg, h.2.2.1, below_gb h.2.2.2 (by rw [twoI_size]; exact Nat.le_refl _) hg⟩
theorem twoI_bm (h : Below (w.heap.size + 2) (twoI W H A A2 n cap n2 c2 w) wr) : Blk wr w.heap.size 37 (meshC W H A n cap) :=
  ((Blk.new w 37 (meshC W H A n cap)).alloc _).below h (by omega)
theorem twoI_bo (h : Below (w.heap.size + 2) (twoI W H A A2 n cap n2 c2 w) wr) : Below w.heap.size w wr :=
  (gb_below_none twoI_gb (Nat.le_refl _)).trans (h.mono (by omega))
theorem twoI_bs (h : Below (w.heap.size + 2) (twoI W H A A2 n cap n2 c2 w) wr) : w.heap.size + 2 ≤ wr.heap.size := by have := h.size; rw [twoI_size] at this; exact this
theorem WksAt.cells (h : WksAt W H A A2 n cap n2 c2 L P w g1 j v wr) : wr.cell? ⟨w.heap.size, 0, none⟩ = some (.int .i64 W) ∧ wr.cell? ⟨w.heap.size, 1, none⟩ = some (.int .i64 H) ∧ wr.cell? ⟨w.heap.size, 2, none⟩ = some (.slice A n cap) :=
  ⟨(twoI_bm h.2.2.2).cell 0, (twoI_bm h.2.2.2).cell 1, (twoI_bm h.2.2.2).cell 2⟩
end
set_option maxHeartbeats 1600000 in
theorem implWalksOf (W H : Int) (A A2 : Option Addr) (n cap n2 c2 : Nat) (L P : List Int) (hL : WfL L) (w : World) (h : IntAt w w.heap.size A n L) (h2 : IntAt w w.heap.size A2 n2 P) (hn : n ≤ 1000000000) (hn2 : n2 ≤ 1000000000) :
    Calls Tryd.prog 65 #[.agg #[.int .i64 W, .int .i64 H, .slice A n cap], .agg #[.slice A2 n2 c2]] w (NewL (wlkN W H L P) (pairW W H L P) w) := by
  obtain ⟨i0, hi, hz0, hz1, hz2⟩ := info_parts info_lists
  have HI := Lib.hid h
  have HT1 := Lib.hid (h.twoI (W := W) (H := H) (A := A) (A2 := A2) (n := n) (cap := cap) (n2 := n2) (c2 := c2))
  have HT2 := Lib.hid (h2.twoI (W := W) (H := H) (A := A) (A2 := A2) (n := n) (cap := cap) (n2 := n2) (c2 := c2))
  have TZ := Lib.hid (twoI_size (W := W) (H := H) (A := A) (A2 := A2) (n := n) (cap := cap) (n2 := n2) (c2 := c2) (w := w))
  clear h h2
  obtain ⟨N, hN⟩ : ∃ N, wlkN W H L P = N := ⟨_, rfl⟩
  rw [hN]
  have HNN := Lib.hid hN
  clear hN
  cases hs : sizedG W H L P with
  | false =>
    have HPO := Lib.hid (fun w h h2 => implPortsNo W H A A2 n cap n2 c2 L P hL w h h2 hn hn2 hs)
    have HR := Lib.hid (HNN.out.symm.trans (wlkN_no (tableG_unsized hs)))
    clear hs hL
    go_enter Tryd.func65, Tryd.ntmps65
    go_wp2_with fail
    refine (HPO.out _ HT1.out HT2.out).mono ?_
    rintro e w1 ⟨rfl, hg⟩
    have HG1 := Lib.hid (show (twoI W H A A2 n cap n2 c2 w).grownBy w1 none from hg)
    clear hg
    go_wp2_with (refine wpList_storeX rfl (.tmp 5) _ rfl w1.heap.size zerosX zerosX rfl rfl (new_square w1) zerosX_length zerosX_length ?_; intro w2 hb2 hg2; have HG2 := Lib.hid (gb_square HG1.out hg2); clear hb2 hg2)
    go_ret
    exact ⟨_, rfl, by rw [HR.out]; exact ListsAt.nil _ _ _, gb_below_none (twoI_old HG2.out) (Nat.le_refl _)⟩
  | true =>
    have HPO := Lib.hid (fun w h h2 => implPortsYes W H A A2 n cap n2 c2 L P hL w h h2 hn hn2 hs)
    have HPX := Lib.hid (portsX_is hs)
    have hki := cntN_int W H
    obtain ⟨k, hk⟩ : ∃ k, cntN W H = k := ⟨_, rfl⟩
    have hk1 := cntN_le W H
    rw [hk] at hki hk1
    have HN := Lib.hid (fun w => show Calls Tryd.prog 26 #[.agg #[.int .i64 W, .int .i64 H]] w (RetI (k : Int) none w) from hki ▸ implNodeCount W H w)
    have HW := Lib.hid (fun (x y : Nat) (hx : x < k) (hy : y < k) w g h hb => implWalk W H A n cap L P (portsX W H P P.length) g x y hL w h hn HPX.out hb (by omega) (by omega))
    have HAT := Lib.hid (fun (x y : Nat) (hy : y < k) => pairW_at (L := L) (P := P) hk (x := x) hy)
    have HS := Lib.hid hs
    have HKI := Lib.hid hki
    have HKK := Lib.hid hk
    have HSQ := Lib.hid (sqG_cnt hk)
    clear hs hL hki hk
    go_enter Tryd.func65, Tryd.ntmps65
    go_wp2_with fail
    refine (HPO.out _ HT1.out HT2.out).mono ?_
    rintro e w1 ⟨rfl, hg⟩
    have HG1 := Lib.hid (show (twoI W H A A2 n cap n2 c2 w).grownBy w1 none from hg)
    clear hg
    go_wp2_with (refine wpList_storeX rfl (.tmp 5) _ rfl w1.heap.size zerosX (portsX W H P P.length) rfl rfl (new_square w1) zerosX_length (sqTo_length _ _ _) ?_; intro w2 hb2 hg2; have HX2 := Lib.hid (show WksAt W H A A2 n cap n2 c2 L P w w1.heap.size 0 (.slice none 0 0) w2 from ⟨hb2, ListsAt.nil _ _ _, twoI_le HG1.out, gb_below_none (gb_square HG1.out hg2) (by rw [TZ.out]; exact Nat.le_refl _)⟩); obtain ⟨a0, a1, _⟩ := HX2.out.cells; clear hb2 hg2)
    refine (HN.out _).mono ?_
    rintro e w3 ⟨rfl, hg3⟩
    have HX3 := Lib.hid (HX2.out.gb hg3)
    obtain ⟨g1, hg1⟩ : ∃ g, w1.heap.size = g := ⟨_, rfl⟩
    rw [hg1] at HX3
    clear a0 a1 hg3
    go_wp2_with fail
    (try rw [hg1])
    clear hg1
    go_loopw [7, 23] (fun v i wr => ∃ x : Nat, i = .int .i64 (x : Int) ∧ x ≤ k ∧ pairsTo W H L P x 0 ∧ WksAt W H A A2 n cap n2 c2 L P w g1 (x * k) v wr) (fun _ i _ => 17 - (intOf i).toNat)
    case atStart => exact ⟨0, rfl, Nat.zero_le _, pairs_zero, by rw [Nat.zero_mul]; exact HX3.out⟩
    case round =>
      obtain ⟨x, rfl, hxk, hpairs, hx⟩ := hrel
      have HP0 := Lib.hid hpairs
      have HX4 := Lib.hid hx
      obtain ⟨a0, a1, _⟩ := hx.cells
      clear hpairs hx
      by_cases hlt : x < k
      · have HXK := Lib.hid hlt
        have hx16 : (x : Int) < 16 := by omega
        go_wp2_with fail
        refine (HN.out _).mono ?_
        rintro e w4 ⟨rfl, hg4⟩
        have HX5 := Lib.hid (HX4.out.gb hg4)
        clear hg4 a0 a1
        go_wp2_with fail
        go_loopw [7, 29] (fun v i wr => ∃ y : Nat, i = .int .i64 (y : Int) ∧ y ≤ k ∧ pairsTo W H L P x y ∧ WksAt W H A A2 n cap n2 c2 L P w g1 (x * k + y) v wr) (fun _ i _ => 17 - (intOf i).toNat)
        case atStart => exact ⟨0, rfl, Nat.zero_le _, HP0.out, HX5.out⟩
        case round =>
          obtain ⟨y, rfl, hyk, hpairs, hy⟩ := hrel
          have HP1 := Lib.hid hpairs
          have HX6 := Lib.hid hy
          clear hpairs hy
          by_cases hlt2 : y < k
          · have hy16 : (y : Int) < 16 := by omega
            obtain ⟨a0, a1, a2⟩ := HX6.out.cells
            have hi2 := (HI.out.below (twoI_bo HX6.out.2.2.2)).more (B' := wr.heap.size) (twoI_bo HX6.out.2.2.2).size
            have HE := Lib.hid (ends_entry (W := W) (H := H) (L := L) (P := P) x y)
            obtain ⟨j, hj⟩ : ∃ j, x * k + y = j := ⟨_, rfl⟩
            have hj9 : j ≤ 256 := by
              have h1 : x * k ≤ 15 * 16 := Nat.mul_le_mul (by omega) (by omega)
              omega
            obtain ⟨R, hR⟩ : ∃ R, walkOf W H L P x y = R := ⟨_, rfl⟩
            have HF := Lib.hid (show pairW W H L P j = R by rw [← hj, ← hR]; exact HAT.out x y hlt2)
            have HW6 := Lib.hid (HW.out x y HXK.out hlt2 _ _ hi2 HX6.out.1)
            rw [hR] at HW6
            have HJ := Lib.hid hj
            rw [hj] at HX6
            clear hi2 hj hR
            go_wp2_with fail
            refine HW6.out.mono ?_
            rintro e w6 ⟨vq, rfl, ho6, hb6⟩
            have HX7 := Lib.hid (HX6.out.gb (gb_of_below hb6 none))
            obtain ⟨Aq, capq, rfl, _⟩ := own_form ho6
            have HO6 := Lib.hid (own_less ho6 (twoI_bs HX6.out.2.2.2))
            rw [HE.out]
            clear a0 a1 a2 ho6 hb6
            cases he : entryG W H L P x y with
            | false =>
              have hf := tableG_no (W := W) (H := H) (L := L) (P := P) (a := x) (b := y) (by rw [← HKI.out]; omega) (by rw [← HKI.out]; omega) he
              have HR := Lib.hid (HNN.out.symm.trans (wlkN_no hf))
              clear hf he
              go_wp2_with fail
              go_ret
              exact ⟨_, rfl, by rw [HR.out]; exact ListsAt.nil _ _ _, twoI_bo HX7.out.2.2.2⟩
            | true =>
              have HPn := Lib.hid (pairs_next HP1.out he)
              clear he
              obtain ⟨vs, hvo, hvi⟩ := HX7.out.2.1
              obtain ⟨Av, cv, rfl, _⟩ := own_form hvo
              have HVO := Lib.hid hvo
              have HVI := Lib.hid hvi
              have b3 := Lib.hid (one_slice Aq R.length capq)
              have b4 := Lib.hid (show j + 1 ≤ maxLen by unfold maxLen; omega)
              have b5 := Lib.hid (twoI_bs HX7.out.2.2.2)
              clear hvo hvi
              go_wp2_with (at_builtin; refine wpList_append_own _ rfl _ _ 105 rfl (w.heap.size + 2) 27 i0 (.slice none 0 0) 1 24 Tryd.underlying105 hi hz0 hz1 hz2 rfl (by decide) _ j _ rfl (HVO.out.alloc _) ⟨w6.heap.size, 0, none⟩ 1 1 [.slice Aq R.length capq] rfl rfl (World.news_of_block (cs := #[.slice Aq R.length capq]) (t := 27) (fr := (0, 0)) (heap_alloc_new w6 _)) b3.out b4.out (by omega) (by have := b5.out; simp; omega) ?_; intro v' w7 hown7 hgrow7 _)
              have HX8 := Lib.hid (show WksAt W H A A2 n cap n2 c2 L P w g1 (x * k + (y + 1)) v' w7 from by
                have h5 := HX7.out
                rw [← Nat.add_assoc, HJ.out]
                have hF := HF.out
                refine ⟨(h5.1.alloc _).grown hgrow7 (fun e => own_ne HVO.out h5.1 (by decide) e.symm), ?_, h5.2.2.1, (h5.2.2.2.alloc b5.out _).grown hgrow7 (by have := b5.out; simp; omega) (fun q hq => (HVO.out.lt q hq).1)⟩
                exact ListsAt.app (F := pairW W H L P) HVO.out HVI.out (by rw [hF]; exact HO6.out) (by rw [hF]; exact hown7) hgrow7)
              clear hown7 hgrow7
              go_wp2_with fail
              go_roundw
              case rel => exact ⟨y + 1, by go_num, by omega, HPn.out, HX8.out⟩
              case measure => simp [intOf]; omega
          · obtain rfl : y = k := by omega
            have HPr := Lib.hid (pairs_row HP1.out HKI.out)
            go_wp2_with fail
            go_roundw
            case rel => exact ⟨x + 1, by go_num, by omega, HPr.out, by rw [Nat.add_mul, Nat.one_mul]; exact HX6.out⟩
            case measure => simp [intOf]; omega
      · obtain rfl : x = k := by omega
        have hf := tableG_yes HS.out HP0.out HKI.out
        have HR := Lib.hid (show N = x * x by rw [← HNN.out, wlkN_yes hf, HSQ.out])
        clear a0 a1 hf
        go_wp2_with fail
        go_ret
        exact ⟨_, rfl, by rw [HR.out]; exact HX4.out.2.1.less (by omega), twoI_bo HX4.out.2.2.2⟩
end Go.Proofs.YtidilfakganooaaDoor
end

section
namespace Go.Proofs.YtidilfakganooaaDoor
open Go.ChangeShapes Go.WideShapes Go.ChangeAt Go.RowKit
set_option linter.unusedVariables false
set_option maxRecDepth 20000

theorem sqG_pos {W H : Int} {L P : List Int} (h : tableG W H L P = true) : 0 < sqG W H := by
  have hok := (meshG_ok (sizedG_mesh (tableG_sized h)).1).1
  obtain ⟨h1, _, h3, _⟩ := okG_iff.1 hok
  have hc : countG W H = W * H := by simp [countG, hok]
  have hp : 0 < W * H := Int.mul_pos (by omega) (by omega)
  have : 0 < (countG W H).toNat := by rw [hc]; omega
  exact Nat.mul_pos this this
theorem twoI_new {W H : Int} {A A2 : Option Addr} {n cap n2 c2 : Nat} {w w1 : World} (h : Below (twoI W H A A2 n cap n2 c2 w).heap.size (twoI W H A A2 n cap n2 c2 w) w1) : (twoI W H A A2 n cap n2 c2 w).grownBy w1 none := gb_of_below h none
theorem wlkN_small (W H : Int) (L P : List Int) : wlkN W H L P ≤ 256 := by
  unfold wlkN
  split
  · have h := cntN_le W H
    exact Nat.mul_le_mul h h
  · exact Nat.zero_le _

theorem implTableOk (W H : Int) (A A2 : Option Addr) (n cap n2 c2 : Nat) (L P : List Int) (hL : WfL L) (w : World) (h : IntAt w w.heap.size A n L) (h2 : IntAt w w.heap.size A2 n2 P) (hn : n ≤ 1000000000) (hn2 : n2 ≤ 1000000000) :
    Calls Tryd.prog 43 #[.agg #[.int .i64 W, .int .i64 H, .slice A n cap], .agg #[.slice A2 n2 c2]] w (RetB (tableG W H L P) w) := by
  have HT1 := Lib.hid (h.twoI (W := W) (H := H) (A := A) (A2 := A2) (n := n) (cap := cap) (n2 := n2) (c2 := c2))
  have HT2 := Lib.hid (h2.twoI (W := W) (H := H) (A := A) (A2 := A2) (n := n) (cap := cap) (n2 := n2) (c2 := c2))
  have HWK := Lib.hid (fun w h h2 => implWalksOf W H A A2 n cap n2 c2 L P hL w h h2 hn hn2)
  clear h h2 hL
  cases ht : tableG W H L P with
  | false =>
    rw [wlkN_no ht] at HWK
    clear ht
    go_enter Tryd.func43, Tryd.ntmps43
    go_wp2_with fail
    refine (HWK.out _ HT1.out HT2.out).mono ?_
    rintro e w1 ⟨va, rfl, hl1, hb1⟩
    obtain ⟨Aw, cw, rfl, _⟩ := hl1.form
    have G1 := Lib.hid (twoI_old (twoI_new hb1))
    clear hl1 hb1
    go_wp2_with fail
    go_ret
    exact ⟨ret_bool (by simp), G1.out⟩
  | true =>
    rw [wlkN_yes ht] at HWK
    have hp := sqG_pos ht
    obtain ⟨N, hN⟩ : ∃ N, sqG W H = N := ⟨_, rfl⟩
    rw [hN] at HWK hp
    clear ht hN
    go_enter Tryd.func43, Tryd.ntmps43
    go_wp2_with fail
    refine (HWK.out _ HT1.out HT2.out).mono ?_
    rintro e w1 ⟨va, rfl, hl1, hb1⟩
    obtain ⟨Aw, cw, rfl, _⟩ := hl1.form
    have G1 := Lib.hid (twoI_old (twoI_new hb1))
    clear hl1 hb1
    go_wp2_with fail
    go_ret
    exact ⟨ret_bool (by simp <;> omega), G1.out⟩
end Go.Proofs.YtidilfakganooaaDoor
end

section
namespace Go.Proofs.YtidilfakganooaaDoor
open Go.ChangeShapes Go.WideShapes Go.ChangeAt Go.RowKit
set_option linter.unusedVariables false

def depC (D : List Dep) : List Int := D.flatMap fun d => [d.1, d.2]
def depV (D : List Dep) : List Value := intsV (depC D)
theorem depC_nil : depC [] = [] := rfl
theorem depC_cons (d : Dep) (D : List Dep) : depC (d :: D) = d.1 :: d.2 :: depC D := rfl
theorem depC_append (D E : List Dep) : depC (D ++ E) = depC D ++ depC E := by simp [depC]
theorem depC_length (D : List Dep) : (depC D).length = D.length * 2 := by
  induction D with
  | nil => rfl
  | cons d D ih => rw [depC_cons, List.length_cons, List.length_cons, ih, List.length_cons]; omega
theorem depC_at : ∀ (D : List Dep) (k : Nat), k < D.length → (depC D)[k * 2]? = some (atD D k).1 ∧ (depC D)[k * 2 + 1]? = some (atD D k).2
  | [], k, h => by simp at h
  | d :: D, 0, h => ⟨rfl, rfl⟩
  | d :: D, k + 1, h => by
    have ih := depC_at D k (by simpa using h)
    have e1 : (k + 1) * 2 = k * 2 + 1 + 1 := by omega
    rw [depC_cons, e1]
    exact ih
theorem depC_take (D : List Dep) (i : Nat) : depC (D.take i) = (depC D).take (i * 2) := by
  induction D generalizing i with
  | nil => simp [depC_nil]
  | cons d D ih =>
    cases i with
    | zero => simp [depC_nil]
    | succ i =>
      have e1 : (i + 1) * 2 = i * 2 + 1 + 1 := by omega
      rw [List.take_succ_cons, depC_cons, depC_cons, e1, List.take_succ_cons, List.take_succ_cons, ih]
theorem depC_drop (D : List Dep) (i : Nat) : depC (D.drop i) = (depC D).drop (i * 2) := by
  induction D generalizing i with
  | nil => simp [depC_nil]
  | cons d D ih =>
    cases i with
    | zero => simp
    | succ i =>
      have e1 : (i + 1) * 2 = i * 2 + 1 + 1 := by omega
      rw [List.drop_succ_cons, depC_cons, e1, List.drop_succ_cons, List.drop_succ_cons, ih]
theorem depV_append (D E : List Dep) : depV (D ++ E) = depV D ++ depV E := by rw [depV, depC_append, intsV_append]; rfl
theorem depV_length (D : List Dep) : (depV D).length = D.length * 2 := by rw [depV, intsV_length, depC_length]
theorem depV_one (x y : Int) : depV [(x, y)] = [.int .i64 x, .int .i64 y] := rfl
theorem depV_take (D : List Dep) (i : Nat) : depV (D.take i) = (depV D).take (i * 2) := by rw [depV, depC_take, depV, intsV, intsV, List.map_take]
theorem depV_drop (D : List Dep) (i : Nat) : depV (D.drop i) = (depV D).drop (i * 2) := by rw [depV, depC_drop, depV, intsV, intsV, List.map_drop]
theorem depV_at (D : List Dep) (k : Nat) (h : k < D.length) : (depV D)[k * 2]? = some (.int .i64 (atD D k).1) ∧ (depV D)[k * 2 + 1]? = some (.int .i64 (atD D k).2) := by
  obtain ⟨h1, h2⟩ := depC_at D k h
  simp [depV, intsV, h1, h2]
theorem depV_one1 (D : List Dep) : ∀ v ∈ depV D, v.oneCell' = true := by
  intro v hv
  simp only [depV, intsV, List.mem_map] at hv
  obtain ⟨x, _, rfl⟩ := hv
  rfl

/-- The slice's n elements are those of D, in a block below B. -/
def DepAt (w : World) (B : Nat) (A : Option Addr) (n : Nat) (D : List Dep) : Prop :=
  D.length = n ∧ (0 < n → ∃ b off, A = some ⟨b, off, none⟩ ∧ b < B ∧ ∀ k, k < n → w.cell? ⟨b, off + k * 2, none⟩ = some (.int .i64 (atD D k).1) ∧ w.cell? ⟨b, off + k * 2 + 1, none⟩ = some (.int .i64 (atD D k).2))
section
variable {w w' : World} {B B' n : Nat} {A : Option Addr} {D : List Dep}
theorem DepAt.keep (h : DepAt w B A n D) (hk : ∀ p : Addr, p.block < B → w'.cell? p = w.cell? p) : DepAt w' B A n D := ⟨h.1, fun hn => by
  obtain ⟨b, off, hA, hb, hc⟩ := h.2 hn
  exact ⟨b, off, hA, hb, fun k hk' => ⟨(hk _ hb).trans (hc k hk').1, (hk _ hb).trans (hc k hk').2⟩⟩⟩
theorem DepAt.more (h : DepAt w B A n D) (hB : B ≤ B') : DepAt w B' A n D := ⟨h.1, fun hn => by
  obtain ⟨b, off, hA, hb, hc⟩ := h.2 hn
  exact ⟨b, off, hA, by omega, hc⟩⟩
theorem DepAt.grown {row : Option Nat} (h : DepAt w B A n D) (hB : B ≤ w.heap.size) (hg : w.grownBy w' row) (hr : ∀ k, row = some k → B ≤ k) : DepAt w' B A n D :=
  h.keep fun p hp => World.cell?_of_block (hg.block p.block (by omega) (fun e => by have := hr _ e.symm; omega))
theorem DepAt.none (h : DepAt w B A n D) (hB : B ≤ w.heap.size) (hg : w.grownBy w' none) : DepAt w' B A n D := h.grown hB hg (fun k e => by cases e)
theorem DepAt.below (h : DepAt w B A n D) (hb : Below B w w') : DepAt w' B A n D := h.keep fun p hp => World.cell?_of_block (hb.block p.block hp)
theorem DepAt.nil (w : World) (B : Nat) (A : Option Addr) : DepAt w B A 0 [] := ⟨rfl, fun h => by omega⟩
/-- One element. -/
theorem DepAt.at (h : DepAt w B A n D) (k : Nat) (hk : k < n) : ∃ b off, A = some ⟨b, off, Option.none⟩ ∧ b < B ∧ w.cell? ⟨b, off + k * 2, Option.none⟩ = some (.int .i64 (atD D k).1) ∧ w.cell? ⟨b, off + k * 2 + 1, Option.none⟩ = some (.int .i64 (atD D k).2) := by
  obtain ⟨b, off, hA, hb, hc⟩ := h.2 (by omega)
  exact ⟨b, off, hA, hb, hc k hk⟩
end
theorem dep_cell {w : World} {base n g cap : Nat} {D : List Dep} (h : w.ownsRow base 97 2 (.slice (some ⟨g, 0, none⟩) n cap) n (depV D)) (k : Nat) (hk : k < D.length) :
    w.cell? ⟨g, k * 2, none⟩ = some (.int .i64 (atD D k).1) ∧ w.cell? ⟨g, k * 2 + 1, none⟩ = some (.int .i64 (atD D k).2) := by
  have hl := h.1
  rw [depV_length] at hl
  obtain ⟨h1, h2⟩ := depV_at D k hk
  exact ⟨(h.cellAt (k * 2) (by omega)).trans h1, (h.cellAt (k * 2 + 1) (by omega)).trans h2⟩
theorem own_dep_length {w : World} {base n : Nat} {v : Value} {D : List Dep} (h : w.ownsRow base 97 2 v n (depV D)) : D.length = n := by
  have := h.1
  rw [depV_length] at this
  omega
theorem depAt_own {w : World} {base n B cap : Nat} {A : Option Addr} {D : List Dep} (h : w.ownsRow base 97 2 (.slice A n cap) n (depV D)) (hB : w.heap.size ≤ B) : DepAt w B A n D :=
  ⟨own_dep_length h, fun hn => by
    have hl := own_dep_length h
    obtain ⟨A', cap', hv, ha⟩ := own_form h
    obtain ⟨g, hg⟩ := ha hn
    obtain ⟨rfl, rfl⟩ : A = A' ∧ cap = cap' := by injection hv with h1 h2 h3; exact ⟨h1, h3⟩
    subst hg
    exact ⟨g, 0, rfl, by have := (h.lt g rfl).2; omega, fun k hk => by rw [Nat.zero_add]; exact dep_cell h k (by omega)⟩⟩
/-- A new list of dependencies. -/
def NewD (D : List Dep) (w : World) (e : Ending) (w' : World) : Prop :=
  ∃ v, e = .returned v ∧ w'.ownsRow w.heap.size 97 2 v D.length (depV D) ∧ Below w.heap.size w w'
theorem own_nilD {D : List Dep} (h : D = []) (w : World) (base : Nat) : w.ownsRow base 97 2 (.slice none 0 0) D.length (depV D) := by subst h; exact World.ownsRow_nil _ _ _ _
def depX (d : Dep) : Value := .agg #[.int .i64 d.1, .int .i64 d.2]
/-- A dependency in a box of the callee's own. -/
def boxD (d : Dep) (w : World) : World := w.alloc (.cells #[.int .i64 d.1, .int .i64 d.2] 97)
theorem boxD_gb (d : Dep) (w : World) : w.grownBy (boxD d w) none := gb_alloc (gb_refl _ _) _
theorem boxD_blk (d : Dep) (w : World) : Blk (boxD d w) w.heap.size 97 #[.int .i64 d.1, .int .i64 d.2] := Blk.new w 97 #[.int .i64 d.1, .int .i64 d.2]
theorem info_dep : (Tryd.prog.info? 97).map (fun i => (i.zero, i.size, i.bytes)) = some (some (.agg #[.int .i64 0, .int .i64 0]), 2, 16) := by kernel_rfl
end Go.Proofs.YtidilfakganooaaDoor
end

section
namespace Go.Proofs.YtidilfakganooaaDoor
open Go.ChangeShapes Go.WideShapes Go.ChangeAt Go.RowKit
set_option linter.unusedVariables false
set_option maxRecDepth 20000

theorem gb_dr {a b : World} {row : Option Nat} (h : a.drew.grownBy b row) : a.grownBy b row := ⟨h.os, h.tape, h.output, h.size, h.block⟩
theorem cell_more {w : World} {p : Addr} {v : Value} (h : w.cell? p = some v) (o : Obj) : (w.alloc o).cell? p = some v := (gb_alloc (gb_refl w none) o).cell h (by simp)
theorem libNaN (x : Int) (w : World) : Calls Tryd.prog 94 #[.int .i64 x] w (RetB false w) := by
  go_enter Tryd.func94, Tryd.ntmps94
  go_wp2_with fail
  go_ret
  exact ⟨by simp, gb_refl _ _⟩
theorem libCompare (x y : Int) (w : World) : Calls Tryd.prog 81 #[.int .i64 x, .int .i64 y] w (RetI (cmpI x y) none w) := by
  have N1 := Lib.hid (fun w => libNaN x w)
  have N2 := Lib.hid (fun w => libNaN y w)
  rcases Int.lt_trichotomy x y with h | h | h
  · have hr : cmpI x y = -1 := if_pos h
    have HR := Lib.hid hr
    clear hr
    go_enter Tryd.func81, Tryd.ntmps81
    go_wp2_with fail
    refine (N1.out _).mono ?_
    rintro e w1 ⟨rfl, hg1⟩
    have G1 := Lib.hid hg1
    clear hg1
    go_wp2_with fail
    refine (N2.out _).mono ?_
    rintro e w2 ⟨rfl, hg2⟩
    have G2 := Lib.hid (gb_trans G1.out hg2)
    clear hg2
    go_wp2_with fail
    go_ret
    exact ⟨by rw [HR.out]; rfl, G2.out⟩
  · have hr : cmpI x y = 0 := cmpI_zero.2 h
    have HR := Lib.hid hr
    subst h
    clear hr
    go_enter Tryd.func81, Tryd.ntmps81
    go_wp2_with fail
    refine (N1.out _).mono ?_
    rintro e w1 ⟨rfl, hg1⟩
    have G1 := Lib.hid hg1
    clear hg1
    go_wp2_with fail
    refine (N2.out _).mono ?_
    rintro e w2 ⟨rfl, hg2⟩
    have G2 := Lib.hid (gb_trans G1.out hg2)
    clear hg2
    go_wp2_with fail
    go_ret
    exact ⟨by rw [HR.out]; rfl, G2.out⟩
  · have hr : cmpI x y = 1 := by unfold cmpI; rw [if_neg (by omega), if_pos h]
    have HR := Lib.hid hr
    have hn : ¬ x < y := by omega
    clear hr
    go_enter Tryd.func81, Tryd.ntmps81
    go_wp2_with fail
    refine (N1.out _).mono ?_
    rintro e w1 ⟨rfl, hg1⟩
    have G1 := Lib.hid hg1
    clear hg1
    go_wp2_with fail
    refine (N2.out _).mono ?_
    rintro e w2 ⟨rfl, hg2⟩
    have G2 := Lib.hid (gb_trans G1.out hg2)
    clear hg2
    go_wp2_with fail
    go_ret
    exact ⟨by rw [HR.out]; rfl, G2.out⟩

/-- cmp.Or of two numbers. -/
theorem libOr (g : Nat) (x y : Int) (w : World) (h0 : w.cell? ⟨g, 0, none⟩ = some (.int .i64 x)) (h1 : w.cell? ⟨g, 1, none⟩ = some (.int .i64 y)) :
    Calls Tryd.prog 80 #[.slice (some ⟨g, 0, none⟩) 2 2] w (RetI (if x ≠ 0 then x else y) none w) := by
  by_cases hx : x = 0
  · subst hx
    by_cases hy : y = 0
    · subst hy
      have H0 := Lib.hid h0
      have H1 := Lib.hid h1
      clear h0 h1
      go_enter Tryd.func80, Tryd.ntmps80
      go_wp2_with fail
      go_loopw [8] (fun i wr => ∃ k m : Nat, i = .int .i64 (k : Int) ∧ k ≤ 2 ∧ wr = w.drewN m) (fun i _ => 2 - (intOf i).toNat)
      case atStart => exact ⟨0, 0, rfl, by omega, rfl⟩
      case round =>
        obtain ⟨k, m, rfl, hk, rfl⟩ := hrel
        have e0 : (w.drewN m).cell? ⟨g, 0, none⟩ = some (.int .i64 0) := H0.out
        have e1 : (w.drewN m).cell? ⟨g, 1, none⟩ = some (.int .i64 0) := H1.out
        rcases (show k = 0 ∨ k = 1 ∨ k = 2 by omega) with rfl | rfl | rfl
        · go_wp2_with fail
          go_roundw
          case rel => exact ⟨1, _, rfl, by omega, rfl⟩
          case measure => simp [intOf]
        · go_wp2_with fail
          go_roundw
          case rel => exact ⟨2, _, rfl, by omega, rfl⟩
          case measure => simp [intOf]
        · go_wp2_with fail
          go_ret
          exact ⟨by simp, gb_drewN (gb_refl _ _) _⟩
    · have H0 := Lib.hid h0
      have H1 := Lib.hid h1
      clear h0 h1
      go_enter Tryd.func80, Tryd.ntmps80
      go_wp2_with fail
      go_loopw [8] (fun i wr => ∃ k m : Nat, i = .int .i64 (k : Int) ∧ k ≤ 1 ∧ wr = w.drewN m) (fun i _ => 2 - (intOf i).toNat)
      case atStart => exact ⟨0, 0, rfl, by omega, rfl⟩
      case round =>
        obtain ⟨k, m, rfl, hk, rfl⟩ := hrel
        have e0 : (w.drewN m).cell? ⟨g, 0, none⟩ = some (.int .i64 0) := H0.out
        have e1 : (w.drewN m).cell? ⟨g, 1, none⟩ = some (.int .i64 y) := H1.out
        rcases (show k = 0 ∨ k = 1 by omega) with rfl | rfl
        · go_wp2_with fail
          go_roundw
          case rel => exact ⟨1, _, rfl, by omega, rfl⟩
          case measure => simp [intOf]
        · go_wp2_with fail
          go_ret
          exact ⟨by simp, gb_drewN (gb_refl _ _) _⟩
  · have H0 := Lib.hid h0
    have H1 := Lib.hid h1
    clear h0 h1
    go_enter Tryd.func80, Tryd.ntmps80
    go_wp2_with fail
    go_loopw [8] (fun i wr => ∃ m : Nat, i = .int .i64 0 ∧ wr = w.drewN m) (fun i _ => 2 - (intOf i).toNat)
    case atStart => exact ⟨0, rfl, rfl⟩
    case round =>
      obtain ⟨m, rfl, rfl⟩ := hrel
      have e0 : (w.drewN m).cell? ⟨g, 0, none⟩ = some (.int .i64 x) := H0.out
      go_wp2_with fail
      go_ret
      exact ⟨by simp, gb_drewN (gb_refl _ _) _⟩

abbrev twoD (a b : Dep) (w : World) : World := (w.alloc (.cells #[.int .i64 a.1, .int .i64 a.2] 97)).alloc (.cells #[.int .i64 b.1, .int .i64 b.2] 97)
theorem twoD_a (a b : Dep) (w : World) : Blk (twoD a b w) w.heap.size 97 #[.int .i64 a.1, .int .i64 a.2] := (Blk.new w 97 #[.int .i64 a.1, .int .i64 a.2]).alloc _
theorem twoD_b (a b : Dep) (w : World) : Blk (twoD a b w) (w.heap.size + 1) 97 #[.int .i64 b.1, .int .i64 b.2] := by
  have h := Blk.new (w.alloc (.cells #[.int .i64 a.1, .int .i64 a.2] 97)) 97 #[.int .i64 b.1, .int .i64 b.2]
  rw [alloc_size] at h
  exact h
theorem twoD_gb (a b : Dep) (w : World) : w.grownBy (twoD a b w) none := gb_alloc (gb_alloc (gb_refl _ _) _) _

theorem or_c0 (w : World) (x y : Value) (t : TypeId) : (w.alloc (.cells #[x, y] t)).cell? ⟨w.heap.size, 0, none⟩ = some x := by rw [World.cell?_alloc_at (w := w) #[x, y] t w.heap.size 0 rfl]; rfl
theorem or_c1 (w : World) (x y : Value) (t : TypeId) : (w.alloc (.cells #[x, y] t)).cell? ⟨w.heap.size, 1, none⟩ = some y := by rw [World.cell?_alloc_at (w := w) #[x, y] t w.heap.size 1 rfl]; rfl
theorem libOrD (a b : Dep) (r : Int) (hr : cmpD a b = r) (w : World) :
    Calls Tryd.prog 80 #[.slice (some ⟨w.heap.size, 0, none⟩) 2 2] (w.alloc (.cells #[.int .i64 (cmpI a.1 b.1), .int .i64 (cmpI a.2 b.2)] 3)) (RetI r none (w.alloc (.cells #[.int .i64 (cmpI a.1 b.1), .int .i64 (cmpI a.2 b.2)] 3))) := by
  subst hr
  exact libOr w.heap.size (cmpI a.1 b.1) (cmpI a.2 b.2) _ (or_c0 w _ _ _) (or_c1 w _ _ _)
theorem implCompare (a b : Dep) (w : World) : Calls Tryd.prog 59 #[.agg #[.int .i64 a.1, .int .i64 a.2], .agg #[.int .i64 b.1, .int .i64 b.2]] w (RetI (cmpD a b) none w) := by
  have C1 := Lib.hid (fun w => libCompare a.1 b.1 w)
  have C2 := Lib.hid (fun w => libCompare a.2 b.2 w)
  obtain ⟨r, hr⟩ : ∃ r, cmpD a b = r := ⟨_, rfl⟩
  have CO := Lib.hid (fun (w : World) => libOrD a b r hr w)
  rw [hr]
  clear hr
  have TA := Lib.hid (twoD_a a b w)
  have TB := Lib.hid (twoD_b a b w)
  have TG := Lib.hid (twoD_gb a b w)
  obtain ⟨a1, a2⟩ := a
  obtain ⟨b1, b2⟩ := b
  have a0 : (twoD (a1, a2) (b1, b2) w).cell? ⟨w.heap.size, 0, none⟩ = some (.int .i64 a1) := TA.out.cell 0
  have a3 : (twoD (a1, a2) (b1, b2) w).cell? ⟨w.heap.size, 1, none⟩ = some (.int .i64 a2) := TA.out.cell 1
  have b0 : (twoD (a1, a2) (b1, b2) w).cell? ⟨w.heap.size + 1, 0, none⟩ = some (.int .i64 b1) := TB.out.cell 0
  have b3 : (twoD (a1, a2) (b1, b2) w).cell? ⟨w.heap.size + 1, 1, none⟩ = some (.int .i64 b2) := TB.out.cell 1
  have G0 := Lib.hid (gb_refl (twoD (a1, a2) (b1, b2) w) none)
  obtain ⟨B, hB⟩ : ∃ B, w.heap.size = B := ⟨_, rfl⟩
  rw [hB] at a0 a3 b0 b3
  go_enter Tryd.func59, Tryd.ntmps59
  go_wp2_with fail
  go_region_held3 (fun w' => w'.cell? ⟨B, 0, none⟩ = some (.int .i64 a1) ∧ w'.cell? ⟨B, 1, none⟩ = some (.int .i64 a2) ∧ w'.cell? ⟨B + 1, 0, none⟩ = some (.int .i64 b1) ∧ w'.cell? ⟨B + 1, 1, none⟩ = some (.int .i64 b2))
    (first | exact ⟨a0, a3, b0, b3⟩ | exact ⟨d0, d1, d2, d3⟩ | exact ⟨k0, k1, k2, k3⟩ | exact ⟨f0, f1, f2, f3⟩ | exact ⟨cell_more f0 _, cell_more f1 _, cell_more f2 _, cell_more f3 _⟩ | fail)
    (first
      | (go_at_call 81; (with_reducible refine (C1.out _).mono ?_); rintro e w4 ⟨rfl, hg4⟩; have h4 := gb_dr hg4; have d0 := h4.cell a0 (by simp); have d1 := h4.cell a3 (by simp); have d2 := h4.cell b0 (by simp); have d3 := h4.cell b3 (by simp); have G4 := Lib.hid h4; clear h4 hg4)
      | (go_at_call 81; (with_reducible refine (C2.out _).mono ?_); rintro e w5 ⟨rfl, hg5⟩; have h5 := hg5; have f0 := h5.cell d0 (by simp); have f1 := h5.cell d1 (by simp); have f2 := h5.cell d2 (by simp); have f3 := h5.cell d3 (by simp); have G5 := Lib.hid h5; clear h5 hg5)
      | (go_at_call 80; (with_reducible refine (CO.out _).mono ?_); rintro e w6 ⟨rfl, hg6⟩; have k0 := hg6.cell (cell_more f0 _) (by simp); have k1 := hg6.cell (cell_more f1 _) (by simp); have k2 := hg6.cell (cell_more f2 _) (by simp); have k3 := hg6.cell (cell_more f3 _) (by simp); have G6 := Lib.hid hg6; clear hg6)
      | fail)
  all_goals
    have G7 := Lib.hid (gb_trans TG.out (gb_trans G4.out (gb_trans G5.out (gb_trans (gb_alloc (gb_refl _ _) _) G6.out))))
    clear k0 k1 k2 k3 f0 f1 f2 f3 d0 d1 d2 d3 a0 a3 b0 b3 G4 G5 G6
    go_wp2_with fail
    go_ret
    exact ⟨rfl, G7.out⟩
end Go.Proofs.YtidilfakganooaaDoor
end

section
namespace Go.Proofs.YtidilfakganooaaDoor
open Go.ChangeShapes Go.WideShapes Go.ChangeAt Go.RowKit
set_option linter.unusedVariables false
set_option maxRecDepth 20000

/-- Where d belongs, and whether it is there. -/
def RetBs (D : List Dep) (d : Dep) (w : World) (e : Ending) (w' : World) : Prop :=
  e = .returned (.tuple #[.int .i64 (lowN D d : Nat), .bool (decide (d ∈ D))]) ∧ w.grownBy w' none
/-- The search has come to lo and hi. -/
def srchD (D : List Dep) (d : Dep) (lo hi : Nat) : Prop := lo ≤ hi ∧ hi ≤ D.length ∧ (∀ t, t < lo → ltD (atD D t) d = true) ∧ (∀ t, hi ≤ t → t < D.length → ltD (atD D t) d = false)
theorem srch_up {D : List Dep} (hD : ascD D) {d : Dep} {lo hi i : Nat} (h : srchD D d lo hi) (hi1 : i < hi) (hlt : ltD (atD D i) d = true) : srchD D d (i + 1) hi :=
  ⟨hi1, h.2.1, fun t ht => by
    rcases Nat.lt_or_eq_of_le (Nat.le_of_lt_succ ht) with h1 | h1
    · exact ltD_trans (asc_at hD h1 (by have := h.2.1; omega)) hlt
    · rw [h1]; exact hlt, h.2.2.2⟩
theorem srch_down {D : List Dep} (hD : ascD D) {d : Dep} {lo hi i : Nat} (h : srchD D d lo hi) (h1 : lo ≤ i) (h2 : i < hi) (hlt : ltD (atD D i) d = false) : srchD D d lo i :=
  ⟨h1, by have := h.2.1; omega, h.2.2.1, fun t ht htn => by
    rcases Nat.lt_or_eq_of_le ht with h3 | h3
    · cases h4 : ltD (atD D t) d with
      | false => rfl
      | true => rw [ltD_trans (asc_at hD h3 htn) h4] at hlt; cases hlt
    · rw [← h3]; exact hlt⟩
theorem srch_end {D : List Dep} {d : Dep} {lo : Nat} (h : srchD D d lo lo) : lowN D d = lo := lowN_of h.2.1 h.2.2.1 (fun hlt => h.2.2.2 lo (Nat.le_refl _) hlt)

theorem ret_bs {D : List Dep} {d : Dep} {k : Nat} {b : Bool} (h : lowN D d = k) (hb : b = decide (d ∈ D)) : Ending.returned (.tuple #[.int .i64 (k : Int), .bool b]) = .returned (.tuple #[.int .i64 (lowN D d : Nat), .bool (decide (d ∈ D))]) := by rw [h, hb]
theorem libSearch (A : Option Addr) (n cap : Nat) (D : List Dep) (d : Dep) (hD : ascD D) (w : World) (h : DepAt w w.heap.size A n D) (hn : n ≤ 4000000000) :
    Calls Tryd.prog 58 #[.slice A n cap, .agg #[.int .i64 d.1, .int .i64 d.2], .func (.func 59) #[] #[]] w (RetBs D d w) := by
  have HI := Lib.hid h
  have hl := h.1
  have HC := Lib.hid (fun (a : Dep) w => implCompare a d w)
  have BG := Lib.hid (boxD_gb d w)
  have BB := Lib.hid (boxD_blk d w)
  have HASC := Lib.hid hD
  have HTI := Lib.hid (there_iff hD (d := d))
  have eg : ∀ args w, (callFunc 59 args).run Tryd.prog w = .ok (.enter 59 args) w := fun args w => Tryd.call59 args w
  clear h hD
  go_enter Tryd.func58, Tryd.ntmps58
  go_wp2_with fail
  go_loopw [9, 10] (fun i j wr => ∃ lo hi : Nat, i = .int .i64 (lo : Int) ∧ j = .int .i64 (hi : Int) ∧ srchD D d lo hi ∧ (boxD d w).grownBy wr none) (fun i j _ => (intOf j).toNat - (intOf i).toNat)
  case atStart => exact ⟨0, n, rfl, rfl, ⟨Nat.zero_le _, by omega, fun t ht => by omega, fun t h1 h2 => by omega⟩, gb_refl _ _⟩
  case round =>
    obtain ⟨lo, hi, rfl, rfl, hs, hg⟩ := hrel
    have HS := Lib.hid hs
    have HG := Lib.hid hg
    have bb := BB.out.grown hg (by simp)
    have t0 : wr.cell? ⟨w.heap.size, 0, none⟩ = some (.int .i64 d.1) := bb.cell 0
    have t1 : wr.cell? ⟨w.heap.size, 1, none⟩ = some (.int .i64 d.2) := bb.cell 1
    have hlh := hs.1
    have hhn := hs.2.1
    have hai := HI.out.none (Nat.le_refl _) (gb_trans BG.out hg)
    clear bb hs hg
    by_cases hlt : lo < hi
    · obtain ⟨m, hm⟩ : ∃ m, (lo + hi) / 2 = m := ⟨_, rfl⟩
      have hmi : ((lo : Int) + (hi : Int)) / 2 = (m : Int) := by omega
      obtain ⟨b, off, rfl, hb, c0, c1⟩ := hai.at m (by omega)
      obtain ⟨x, hx⟩ : ∃ x, atD D m = x := ⟨_, rfl⟩
      rw [hx] at c0 c1
      have m0 : (0 : Int) ≤ (m : Int) := by omega
      have m1 : (m : Int) < (n : Int) := by omega
      have HX := Lib.hid hx
      have HM := Lib.hid (show lo ≤ m ∧ m < hi by omega)
      clear hx hm hai
      obtain ⟨r, hr⟩ : ∃ r, cmpD x d = r := ⟨_, rfl⟩
      have HX2 := Lib.hid (fun w => show Calls _ _ _ w (RetI r none w) from hr ▸ HC.out x w)
      by_cases hc : r < 0
      · have HL := Lib.hid (cmpD_neg.1 (show cmpD x d < 0 by omega))
        clear hr
        go_wp2_with fail
        go_region_held3 (fun w' => w'.cell? ⟨w.heap.size, 0, none⟩ = some (.int .i64 d.1) ∧ w'.cell? ⟨w.heap.size, 1, none⟩ = some (.int .i64 d.2) ∧ w'.cell? ⟨b, off + m * 2, none⟩ = some (.int .i64 x.1) ∧ w'.cell? ⟨b, off + m * 2 + 1, none⟩ = some (.int .i64 x.2))
          (first | exact ⟨t0, t1, c0, c1⟩ | exact ⟨d0, d1, d2, d3⟩ | fail)
          (first
            | (go_at_fn 59; (with_reducible refine (HX2.out _).mono ?_); rintro e w4 ⟨rfl, hg4⟩; have h4 := gb_dr hg4; have d0 := h4.cell t0 (by simp); have d1 := h4.cell t1 (by simp); have d2 := h4.cell c0 (by simp); have d3 := h4.cell c1 (by simp); have G4 := Lib.hid (gb_trans HG.out h4); clear h4 hg4)
            | fail)
        all_goals
          clear d0 d1 d2 d3 t0 t1 c0 c1
          go_wp2_with fail
          go_roundw
          case rel => exact ⟨m + 1, hi, by go_num, rfl, srch_up HASC.out HS.out HM.out.2 (by rw [HX.out]; exact HL.out), G4.out⟩
          case measure => have := HM.out; simp [intOf]; omega
      · have HL := Lib.hid (show ltD x d = false by
          cases h : ltD x d with
          | false => rfl
          | true => have := cmpD_neg.2 h; omega)
        clear hr
        go_wp2_with fail
        go_region_held3 (fun w' => w'.cell? ⟨w.heap.size, 0, none⟩ = some (.int .i64 d.1) ∧ w'.cell? ⟨w.heap.size, 1, none⟩ = some (.int .i64 d.2) ∧ w'.cell? ⟨b, off + m * 2, none⟩ = some (.int .i64 x.1) ∧ w'.cell? ⟨b, off + m * 2 + 1, none⟩ = some (.int .i64 x.2))
          (first | exact ⟨t0, t1, c0, c1⟩ | exact ⟨d0, d1, d2, d3⟩ | fail)
          (first
            | (go_at_fn 59; (with_reducible refine (HX2.out _).mono ?_); rintro e w4 ⟨rfl, hg4⟩; have h4 := gb_dr hg4; have d0 := h4.cell t0 (by simp); have d1 := h4.cell t1 (by simp); have d2 := h4.cell c0 (by simp); have d3 := h4.cell c1 (by simp); have G4 := Lib.hid (gb_trans HG.out h4); clear h4 hg4)
            | fail)
        all_goals
          clear d0 d1 d2 d3 t0 t1 c0 c1
          go_wp2_with fail
          go_roundw
          case rel => exact ⟨lo, m, rfl, rfl, srch_down HASC.out HS.out HM.out.1 HM.out.2 (by rw [HX.out]; exact HL.out), G4.out⟩
          case measure => have := HM.out; simp [intOf]; omega
    · obtain rfl : hi = lo := by omega
      have hlow := srch_end HS.out
      by_cases hin : hi < n
      · obtain ⟨b, off, rfl, hb, c0, c1⟩ := hai.at hi hin
        obtain ⟨x, hx⟩ : ∃ x, atD D hi = x := ⟨_, rfl⟩
        rw [hx] at c0 c1
        obtain ⟨r, hr⟩ : ∃ r, cmpD x d = r := ⟨_, rfl⟩
        have HX2 := Lib.hid (fun w => show Calls _ _ _ w (RetI r none w) from hr ▸ HC.out x w)
        have hrd : decide (r = 0) = decide (d ∈ D) := decide_eq_decide.2 (by
          rw [← hr, cmpD_zero, HTI.out, hlow, hx]
          exact ⟨fun e => ⟨by omega, e⟩, fun e => e.2⟩)
        have HRD := Lib.hid hrd
        have HLOW := Lib.hid hlow
        have m0 : (0 : Int) ≤ (hi : Int) := by omega
        have m1 : (hi : Int) < (n : Int) := by omega
        have hd : decide ((hi : Int) < (n : Int)) = true := decide_eq_true m1
        clear hx hr hlow hrd hai hlt hin
        go_wp2_with fail
        go_region_held3 (fun w' => w'.cell? ⟨w.heap.size, 0, none⟩ = some (.int .i64 d.1) ∧ w'.cell? ⟨w.heap.size, 1, none⟩ = some (.int .i64 d.2) ∧ w'.cell? ⟨b, off + hi * 2, none⟩ = some (.int .i64 x.1) ∧ w'.cell? ⟨b, off + hi * 2 + 1, none⟩ = some (.int .i64 x.2))
          (first | exact ⟨t0, t1, c0, c1⟩ | exact ⟨d0, d1, d2, d3⟩ | fail)
          (first
            | (go_at_fn 59; (with_reducible refine (HX2.out _).mono ?_); rintro e w4 ⟨rfl, hg4⟩; have h4 := gb_dr hg4; have d0 := h4.cell t0 (by simp); have d1 := h4.cell t1 (by simp); have d2 := h4.cell c0 (by simp); have d3 := h4.cell c1 (by simp); have G4 := Lib.hid (gb_trans HG.out h4); clear h4 hg4)
            | fail)
        all_goals
          clear d0 d1 d2 d3 t0 t1 c0 c1
          go_wp2_with fail
          go_ret2
          exact ⟨ret_bs HLOW.out HRD.out, gb_trans BG.out G4.out⟩
      · have hd : decide ((hi : Int) < (n : Int)) = false := decide_eq_false (by omega)
        have hno : ¬ d ∈ D := fun h => by have := (HTI.out.1 h).1; omega
        have HN := Lib.hid hno
        have HLOW := Lib.hid hlow
        clear hno hlow hai
        go_wp2_with fail
        go_quiet (fail)
        all_goals
          go_wp2_with fail
          go_ret2
          exact ⟨ret_bs HLOW.out (decide_eq_false HN.out).symm, gb_trans BG.out (gb_drewN HG.out _)⟩
end Go.Proofs.YtidilfakganooaaDoor
end
