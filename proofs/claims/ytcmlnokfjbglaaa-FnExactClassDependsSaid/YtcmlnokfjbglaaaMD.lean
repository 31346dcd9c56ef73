/- What is proved here: the tables of the rules xy, yx and west have an order of their dependencies on every grid; nothing of the program; the names of verdicts as texts; nothing of the program; a row of ranks of the call's own, and the two answers of an order of channels; nothing of the program; the shortest cycle of dependencies as mathematics: the least channel on one of the least length, the way from it back to it, and that this is a cycle that cannot be shortened; nothing of the program; verdicts as mathematics: the verdict on a table, that it proves itself, and the safe rules; nothing of the program; two classes as mathematics: the merged dependencies of a table and of another one shifted by 64, that they have an order exactly if both have one, and the verdict on both; nothing of the program; whether the model finds a node in a grid; only new blocks are written; what the model's NodeAt returns, for all arguments; only new blocks are written; what the model's NextNode, Opposite, PortName and its test of a channel return, for all arguments; only new blocks are written; what the model's search in a list returns, for all arguments; nothing is written; what the model's MeshOk, its search in a list and its test of a channel of a mesh return, for all arguments; only new blocks are written; what the model's test of a channel of a mesh returns, for all arguments; only new blocks are written; what the model's test of a table's size returns, for all arguments; only new blocks are written; what the model's walk of a table returns for a table of the right size; only new blocks are written; what holds of the two boxes that the model's functions on tables lay; what the model's TableOk returns, for all arguments; only new blocks are written; the model's TableOk with its answer named, and a small fact on draws; only new blocks are written; what the model's DependsOf returns, for all arguments; only new blocks are written; what the model's SuccessorsOf and ShiftDepends return; only new blocks are written; what the model's ShiftDepends returns; only new blocks are written; the model's classes: whether both tables are valid, and their dependencies; only new blocks are written; what the program's TableOk returns, for all arguments; only new blocks are written; whether the program says that both tables of a pair are valid; only new blocks are written; the exact law on ClassesOk answers true, for every argument; only new blocks are written; a slice of numbers inside an argument can be read; nothing of the program; a mesh that came in as an argument is two numbers and a slice of numbers that can be read; nothing of the program; a table that came in as an argument is a slice of numbers that can be read; nothing of the program; a pair of tables that came in as an argument is two slices of numbers that can be read; nothing of the program; what the laws' marks in a list and their search for marks do; the laws' marks on a table; only the marked row and new blocks are written; the laws' helper that looks for the marks in a table's list; only new blocks are written; the laws' marks on pairs of tables and what is held of them; nothing of the program. -/
import Derived.Test.YtcmlnokfjbglaaaMC
import Derived.Deep.RegionHeld3
import Derived.Deep.RegionLaw
import Derived.Deep.Cut
import Derived.Lib.SmallJoins
section
namespace Go.Proofs.Ytcmlnokfjbglaaa
open Go.ChangeShapes Go.WideShapes Go.ChangeAt Go.RowKit
set_option linter.unusedVariables false

/-- Numbers that rise along the ways of the rules xy, yx and west. -/
def rkS (W H r c : Int) : Int :=
  if r = 1 then (if c % 4 = 1 then c / 4 % W else if c % 4 = 3 then W - 1 - c / 4 % W else if c % 4 = 2 then 10 + c / 4 / W else 10 + H - 1 - c / 4 / W)
  else if r = 2 then (if c % 4 = 2 then c / 4 / W else if c % 4 = 0 then H - 1 - c / 4 / W else if c % 4 = 1 then 10 + c / 4 % W else 10 + W - 1 - c / 4 % W)
  else (if c % 4 = 3 then W - 1 - c / 4 % W else if c % 4 = 2 then 10 + c / 4 / W else if c % 4 = 0 then 10 + H - 1 - c / 4 / W else 20 + c / 4 % W)
def riseW (f : Int → Int) : List Int → Bool
  | [] => true
  | a :: t => (match t with | [] => true | b :: _ => decide (f a < f b)) && riseW f t
def stdRise (W H r : Int) : Bool := (List.range (sqG W H)).all fun i => riseW (rkS W H r) (pairW W H [] (stdTab W H r) i)
theorem srs_111 : stdRise 1 1 1 = true := by decide +kernel
theorem srs_112 : stdRise 1 1 2 = true := by decide +kernel
theorem srs_113 : stdRise 1 1 3 = true := by decide +kernel
theorem srs_121 : stdRise 1 2 1 = true := by decide +kernel
theorem srs_122 : stdRise 1 2 2 = true := by decide +kernel
theorem srs_123 : stdRise 1 2 3 = true := by decide +kernel
theorem srs_131 : stdRise 1 3 1 = true := by decide +kernel
theorem srs_132 : stdRise 1 3 2 = true := by decide +kernel
theorem srs_133 : stdRise 1 3 3 = true := by decide +kernel
theorem srs_141 : stdRise 1 4 1 = true := by decide +kernel
theorem srs_142 : stdRise 1 4 2 = true := by decide +kernel
theorem srs_143 : stdRise 1 4 3 = true := by decide +kernel
theorem srs_211 : stdRise 2 1 1 = true := by decide +kernel
theorem srs_212 : stdRise 2 1 2 = true := by decide +kernel
theorem srs_213 : stdRise 2 1 3 = true := by decide +kernel
theorem srs_221 : stdRise 2 2 1 = true := by decide +kernel
theorem srs_222 : stdRise 2 2 2 = true := by decide +kernel
theorem srs_223 : stdRise 2 2 3 = true := by decide +kernel
theorem srs_231 : stdRise 2 3 1 = true := by decide +kernel
theorem srs_232 : stdRise 2 3 2 = true := by decide +kernel
theorem srs_233 : stdRise 2 3 3 = true := by decide +kernel
theorem srs_241 : stdRise 2 4 1 = true := by decide +kernel
theorem srs_242 : stdRise 2 4 2 = true := by decide +kernel
theorem srs_243 : stdRise 2 4 3 = true := by decide +kernel
theorem srs_311 : stdRise 3 1 1 = true := by decide +kernel
theorem srs_312 : stdRise 3 1 2 = true := by decide +kernel
theorem srs_313 : stdRise 3 1 3 = true := by decide +kernel
theorem srs_321 : stdRise 3 2 1 = true := by decide +kernel
theorem srs_322 : stdRise 3 2 2 = true := by decide +kernel
theorem srs_323 : stdRise 3 2 3 = true := by decide +kernel
theorem srs_331 : stdRise 3 3 1 = true := by decide +kernel
theorem srs_332 : stdRise 3 3 2 = true := by decide +kernel
theorem srs_333 : stdRise 3 3 3 = true := by decide +kernel
theorem srs_341 : stdRise 3 4 1 = true := by decide +kernel
theorem srs_342 : stdRise 3 4 2 = true := by decide +kernel
theorem srs_343 : stdRise 3 4 3 = true := by decide +kernel
theorem srs_411 : stdRise 4 1 1 = true := by decide +kernel
theorem srs_412 : stdRise 4 1 2 = true := by decide +kernel
theorem srs_413 : stdRise 4 1 3 = true := by decide +kernel
theorem srs_421 : stdRise 4 2 1 = true := by decide +kernel
theorem srs_422 : stdRise 4 2 2 = true := by decide +kernel
theorem srs_423 : stdRise 4 2 3 = true := by decide +kernel
theorem srs_431 : stdRise 4 3 1 = true := by decide +kernel
theorem srs_432 : stdRise 4 3 2 = true := by decide +kernel
theorem srs_433 : stdRise 4 3 3 = true := by decide +kernel
theorem srs_441 : stdRise 4 4 1 = true := by decide +kernel
theorem srs_442 : stdRise 4 4 2 = true := by decide +kernel
theorem srs_443 : stdRise 4 4 3 = true := by decide +kernel
theorem std_rise {W H r : Int} (h : okG W H = true) (h1 : 1 ≤ r) (h3 : r ≤ 3) : stdRise W H r = true := by
  obtain ⟨hW, hH⟩ := okG_cases h
  have hr : r = 1 ∨ r = 2 ∨ r = 3 := by omega
  rcases hW with rfl | rfl | rfl | rfl <;> rcases hH with rfl | rfl | rfl | rfl <;> rcases hr with rfl | rfl | rfl
  · exact srs_111
  · exact srs_112
  · exact srs_113
  · exact srs_121
  · exact srs_122
  · exact srs_123
  · exact srs_131
  · exact srs_132
  · exact srs_133
  · exact srs_141
  · exact srs_142
  · exact srs_143
  · exact srs_211
  · exact srs_212
  · exact srs_213
  · exact srs_221
  · exact srs_222
  · exact srs_223
  · exact srs_231
  · exact srs_232
  · exact srs_233
  · exact srs_241
  · exact srs_242
  · exact srs_243
  · exact srs_311
  · exact srs_312
  · exact srs_313
  · exact srs_321
  · exact srs_322
  · exact srs_323
  · exact srs_331
  · exact srs_332
  · exact srs_333
  · exact srs_341
  · exact srs_342
  · exact srs_343
  · exact srs_411
  · exact srs_412
  · exact srs_413
  · exact srs_421
  · exact srs_422
  · exact srs_423
  · exact srs_431
  · exact srs_432
  · exact srs_433
  · exact srs_441
  · exact srs_442
  · exact srs_443
theorem rise_at {f : Int → Int} : ∀ {T : List Int}, riseW f T = true → ∀ j, j + 1 < T.length → f (T.getD j 0) < f (T.getD (j + 1) 0)
  | [], _, j, hj => by simp at hj
  | [a], _, j, hj => by simp at hj
  | a :: b :: t, h, 0, _ => by
    simp only [riseW, Bool.and_eq_true, decide_eq_true_eq] at h
    exact h.1
  | a :: b :: t, h, j + 1, hj => by
    rw [riseW, Bool.and_eq_true] at h
    exact rise_at (T := b :: t) h.2 j (by simpa using hj)
/-- What rises along all elements rises along the ways. -/
theorem rank_way {D : List Dep} (hD : okD D = true) {f : Int → Int} (hf : ∀ d ∈ D, f d.1 < f d.2) {a : Nat} : ∀ {n b : Nat}, 1 ≤ n → wayB D a n b = true → f (a : Int) < f (b : Int)
  | 0, b, hn, _ => by omega
  | n + 1, b, _, h => by
    obtain ⟨u, h1, h2⟩ := (wayB_next hD).1 h
    have h3 : f (u : Int) < f (b : Int) := hf _ (edge_iff.1 h2)
    by_cases hn : 1 ≤ n
    · exact Int.lt_trans (rank_way hD hf hn h1) h3
    · obtain rfl : n = 0 := by omega
      rw [wayB_zero.1 h1] at h3
      exact h3
theorem order_of_rank {D : List Dep} (hD : okD D = true) {f : Int → Int} (hf : ∀ d ∈ D, f d.1 < f d.2) : ∃ R, orderO D = some R := by
  cases ho : orderO D with
  | some R => exact ⟨R, rfl⟩
  | none =>
    obtain ⟨c, _, hc⟩ := cycle_of hD ho
    have := rank_way hD hf hc (dist_pos hD hc)
    omega
/-- The dependencies of the table of a rule. -/
def depS (W H r : Int) : List Dep := depG W H [] (stdTab W H r)
theorem safe_std {W H r : Int} (h : okG W H = true) (h1 : 1 ≤ r) (h3 : r ≤ 3) : ∃ R, orderO (depS W H r) = some R := by
  unfold depS
  refine order_of_rank depG_ok (f := rkS W H r) fun d hd => ?_
  rw [depG_yes (std_facts h h1 (by omega)).1] at hd
  obtain ⟨i, j, hi, hj, rfl⟩ := mem_allD hd
  have := std_rise h h1 h3
  simp only [stdRise, List.all_eq_true, List.mem_range] at this
  exact rise_at (this i hi) j hj
end Go.Proofs.Ytcmlnokfjbglaaa
end

section
namespace Go.Proofs.Ytcmlnokfjbglaaa
open Go.ChangeShapes Go.WideShapes Go.ChangeAt Go.RowKit
set_option linter.unusedVariables false

/-- bad, safe, cyclic. -/
def nameV (c : Int) : ByteArray := if c = 0 then ⟨#[98, 97, 100]⟩ else if c = 1 then ⟨#[115, 97, 102, 101]⟩ else if c = 2 then ⟨#[99, 121, 99, 108, 105, 99]⟩ else ⟨#[]⟩
theorem nameV_0 : nameV 0 = ⟨#[98, 97, 100]⟩ := rfl
theorem nameV_1 : nameV 1 = ⟨#[115, 97, 102, 101]⟩ := rfl
theorem nameV_2 : nameV 2 = ⟨#[99, 121, 99, 108, 105, 99]⟩ := rfl
theorem nameV_no {c : Int} (h0 : c ≠ 0) (h1 : c ≠ 1) (h2 : c ≠ 2) : nameV c = ⟨#[]⟩ := by rw [nameV, if_neg h0, if_neg h1, if_neg h2]
end Go.Proofs.Ytcmlnokfjbglaaa
end

section
namespace Go.Proofs.Ytcmlnokfjbglaaa
open Go.ChangeShapes Go.WideShapes Go.ChangeAt Go.RowKit
set_option linter.unusedVariables false

/-- The row of ranks, above all that was there. -/
def RkAt (w : World) (n : Nat) (R : List Int) (v : Value) (wr : World) : Prop := wr.ownsRow w.heap.size 3 1 v n (intsV R) ∧ Below w.heap.size w wr
theorem RkAt.gb {w wr w' : World} {n : Nat} {R : List Int} {v : Value} (h : RkAt w n R v wr) (hg : wr.grownBy w' none) : RkAt w n R v w' := ⟨own_none h.1 hg, below_gb h.2 (Nat.le_refl _) hg⟩
theorem RkAt.set {w wr : World} {n g cap : Nat} {R : List Int} (h : RkAt w n R (.slice (some ⟨g, 0, none⟩) n cap) wr) (c : Nat) (x : Int) : RkAt w n (R.set c x) (.slice (some ⟨g, 0, none⟩) n cap) (wr.setCell ⟨g, c, none⟩ (.int .i64 x)) := by
  obtain ⟨h1, h2⟩ := h.1.stored c (.int .i64 x)
  rw [intsV_set] at h1
  exact ⟨h1, h.2.grown h2 h.2.size (fun j e => by cases e; exact (h.1.lt g rfl).1)⟩
def ranksO (D : List Dep) : List Int := (orderO D).getD []
def canO (D : List Dep) : Bool := (orderO D).isSome
theorem order_none {D : List Dep} (h : orderO D = none) : ranksO D = [] ∧ canO D = false := by simp [ranksO, canO, h]
theorem order_some {D : List Dep} {R : List Int} (h : orderO D = some R) : ranksO D = R ∧ canO D = true := by simp [ranksO, canO, h]
theorem ranksO_len (D : List Dep) : (ranksO D).length ≤ 128 := by
  cases h : orderO D with
  | none => rw [(order_none h).1]; simp
  | some R => rw [(order_some h).1, (order_is h).2.1]; exact Nat.le_refl _
end Go.Proofs.Ytcmlnokfjbglaaa
end

section
namespace Go.Proofs.Ytcmlnokfjbglaaa
open Go.ChangeShapes Go.WideShapes Go.ChangeAt Go.RowKit
set_option linter.unusedVariables false

/-- The least length of a cycle through one of the first channels, and the least of these channels. -/
def bestTo (D : List Dep) : Nat → Nat × Int
  | 0 => (0, -1)
  | c + 1 => if 0 < distD D c c ∧ ((bestTo D c).1 = 0 ∨ distD D c c < (bestTo D c).1) then (distD D c c, (c : Int)) else bestTo D c
theorem best_take {D : List Dep} {c : Nat} (h : 0 < distD D c c) (k : (bestTo D c).1 = 0 ∨ distD D c c < (bestTo D c).1) : bestTo D (c + 1) = (distD D c c, (c : Int)) := if_pos ⟨h, k⟩
theorem best_pass {D : List Dep} {c : Nat} (h : ¬ (0 < distD D c c ∧ ((bestTo D c).1 = 0 ∨ distD D c c < (bestTo D c).1))) : bestTo D (c + 1) = bestTo D c := if_neg h
def BestIs (D : List Dep) (c : Nat) : Prop :=
  ((bestTo D c).1 = 0 ∧ (bestTo D c).2 = -1 ∧ ∀ j, j < c → distD D j j = 0) ∨
  (∃ s, s < c ∧ (bestTo D c).2 = (s : Int) ∧ (bestTo D c).1 = distD D s s ∧ 1 ≤ distD D s s ∧ (∀ j, j < c → distD D j j = 0 ∨ distD D s s ≤ distD D j j) ∧ (∀ j, j < s → distD D j j = 0 ∨ distD D s s < distD D j j))
theorem best_is (D : List Dep) : ∀ c, BestIs D c
  | 0 => .inl ⟨rfl, rfl, fun j h => by omega⟩
  | c + 1 => by
    have ih := best_is D c
    by_cases h : 0 < distD D c c ∧ ((bestTo D c).1 = 0 ∨ distD D c c < (bestTo D c).1)
    · have e : bestTo D (c + 1) = (distD D c c, (c : Int)) := if_pos h
      unfold BestIs
      rw [e]
      refine .inr ⟨c, Nat.lt_succ_self _, rfl, rfl, h.1, fun j hj => ?_, fun j hj => ?_⟩
      · rcases Nat.lt_succ_iff_lt_or_eq.1 hj with hj | rfl
        · rcases ih with ⟨_, _, h3⟩ | ⟨s, _, _, h3, h4, h5, _⟩
          · exact .inl (h3 j hj)
          · have := h.2
            rcases h5 j hj with h6 | h6
            · exact .inl h6
            · right; omega
        · exact .inr (Nat.le_refl _)
      · rcases ih with ⟨_, _, h3⟩ | ⟨s, _, _, h3, h4, h5, _⟩
        · exact .inl (h3 j hj)
        · have := h.2
          rcases h5 j hj with h6 | h6
          · exact .inl h6
          · right; omega
    · have e : bestTo D (c + 1) = bestTo D c := if_neg h
      unfold BestIs
      rw [e]
      rcases ih with ⟨h1, h2, h3⟩ | ⟨s, h1, h2, h3, h4, h5, h6⟩
      · refine .inl ⟨h1, h2, fun j hj => ?_⟩
        rcases Nat.lt_succ_iff_lt_or_eq.1 hj with hj | rfl
        · exact h3 j hj
        · have : ¬ 0 < distD D j j := fun hp => h ⟨hp, .inl h1⟩
          omega
      · refine .inr ⟨s, by omega, h2, h3, h4, fun j hj => ?_, h6⟩
        rcases Nat.lt_succ_iff_lt_or_eq.1 hj with hj | rfl
        · exact h5 j hj
        · by_cases hp : 0 < distD D j j
          · have : ¬ distD D j j < (bestTo D j).1 := fun hl => h ⟨hp, .inr hl⟩
            right; omega
          · left; omega
/-- The next channel of the cycle: the least successor from which so many steps are left. -/
def candP (D : List Dep) (st left : Nat) (s : Int) : Bool := if left = 0 then decide (s = (st : Int)) else decide (s ≠ (st : Int)) && decide (distD D s.toNat st = left)
def nextP (D : List Dep) (st left u : Nat) : Nat := match (succD D (u : Int)).find? (candP D st left) with | some s => s.toNat | none => u
def atP (D : List Dep) (st b : Nat) : Nat → Nat
  | 0 => st
  | i + 1 => nextP D st (b - i - 1) (atP D st b i)
def cycP (D : List Dep) (st b : Nat) : List Int := (List.range b).map fun i => (atP D st b i : Int)
/-- The shortest cycle. -/
def cycG (D : List Dep) : List Int := if okD D = true then cycP D (bestTo D 128).2.toNat (bestTo D 128).1 else []
theorem cyc_bad {D : List Dep} (h : okD D = false) : cycG D = [] := by simp [cycG, h]
theorem cyc_ok {D : List Dep} (h : okD D = true) : cycG D = cycP D (bestTo D 128).2.toNat (bestTo D 128).1 := by simp [cycG, h]
theorem cyc_len (D : List Dep) (st b : Nat) : (cycP D st b).length = b := by simp [cycP]
theorem cyc_at {D : List Dep} {st b i : Nat} (h : i < b) : (cycP D st b).getD i 0 = (atP D st b i : Int) := by
  rw [List.getD_eq_getElem?_getD, cycP, List.getElem?_map, List.getElem?_range h]; rfl
/-- There is a next one. -/
theorem next_is {D : List Dep} (hD : okD D = true) {st left u : Nat} (h : distD D u st = left + 1) :
    edgeB D u (nextP D st left u) = true ∧ (left = 0 → nextP D st left u = st) ∧ (0 < left → nextP D st left u ≠ st ∧ distD D (nextP D st left u) st = left) := by
  have hw := dist_pos hD (a := u) (b := st) (by omega)
  rw [h] at hw
  have hex : ∃ s ∈ succD D (u : Int), candP D st left s = true := by
    obtain ⟨s, h1, h2⟩ := way_head hD hw
    refine ⟨(s : Int), edge_succ.1 h1, ?_⟩
    unfold candP
    split
    · rename_i h0
      subst h0
      rw [wayB_zero.1 h2]
      simp
    · rename_i h0
      have hst : s ≠ st := fun e => by
        subst e
        have := (dist_way hD (Nat.le_refl 1) ((way_one hD).2 h1)).2
        omega
      have h3 := dist_way hD (show 1 ≤ left by omega) h2
      have h4 : left ≤ distD D s st := by
        have h5 := dist_way hD (show 1 ≤ distD D s st + 1 by omega) (way_cons hD h1 (dist_pos hD h3.1))
        omega
      have h5 : (s : Int) ≠ (st : Int) := fun e => hst (by omega)
      simp only [Int.toNat_natCast]
      simp [h5]
      omega
  unfold nextP
  cases hf : (succD D (u : Int)).find? (candP D st left) with
  | none =>
    obtain ⟨s, hs, hc⟩ := hex
    have := List.find?_eq_none.1 hf s hs
    rw [hc] at this
    simp at this
  | some s =>
    have hs := List.mem_of_find?_eq_some hf
    have hc := List.find?_some hf
    have hr := succ_in hD hs
    have he : edgeB D u s.toNat = true := edge_succ.2 (by rw [Int.toNat_of_nonneg hr.1]; exact hs)
    refine ⟨he, fun h0 => ?_, fun h0 => ?_⟩
    · unfold candP at hc
      rw [if_pos h0] at hc
      have := of_decide_eq_true hc
      show s.toNat = st
      omega
    · unfold candP at hc
      rw [if_neg (by omega)] at hc
      simp only [Bool.and_eq_true, decide_eq_true_eq] at hc
      refine ⟨?_, hc.2⟩
      show s.toNat ≠ st
      have := hc.1
      omega
theorem path_dist {D : List Dep} (hD : okD D = true) {st b : Nat} (hb : distD D st st = b) : ∀ {i : Nat}, i < b → distD D (atP D st b i) st = b - i
  | 0, h => hb
  | i + 1, h => by
    have ih := path_dist hD hb (i := i) (by omega)
    have := (next_is hD (st := st) (left := b - i - 1) (u := atP D st b i) (by omega)).2.2 (by omega)
    rw [atP, this.2]
    omega
theorem path_edge {D : List Dep} (hD : okD D = true) {st b : Nat} (hb : distD D st st = b) {i : Nat} (h : i < b) : edgeB D (atP D st b i) (atP D st b (i + 1)) = true :=
  (next_is hD (st := st) (left := b - i - 1) (u := atP D st b i) (by have := path_dist hD hb h; omega)).1
theorem path_back {D : List Dep} (hD : okD D = true) {st b : Nat} (hb : distD D st st = b) (h : 1 ≤ b) : atP D st b b = st := by
  obtain ⟨i, rfl⟩ : ∃ i, b = i + 1 := ⟨b - 1, by omega⟩
  exact (next_is hD (st := st) (left := (i + 1) - i - 1) (u := atP D st (i + 1) i) (by have := path_dist hD hb (i := i) (by omega); omega)).2.1 (by omega)
theorem path_way {D : List Dep} (hD : okD D = true) {st b : Nat} (hb : distD D st st = b) : ∀ {i : Nat}, i ≤ b → wayB D st i (atP D st b i) = true
  | 0, _ => wayB_zero.2 rfl
  | i + 1, h => (wayB_next hD).2 ⟨_, path_way hD hb (i := i) (by omega), path_edge hD hb (by omega)⟩
theorem path_inj {D : List Dep} (hD : okD D = true) {st b : Nat} (hb : distD D st st = b) {i j : Nat} (hi : i < b) (hj : j < b) (h : atP D st b i = atP D st b j) : i = j := by
  have h1 := path_dist hD hb hi
  have h2 := path_dist hD hb hj
  rw [h] at h1
  omega
theorem path_lt {D : List Dep} (hD : okD D = true) {st b : Nat} (hb : distD D st st = b) {i : Nat} (h : i < b) : atP D st b i < 128 := (edge_lt hD (path_edge hD hb h)).1
/-- Each channel of the cycle is on no shorter one. -/
theorem path_self {D : List Dep} (hD : okD D = true) {st b : Nat} (hb : distD D st st = b) (hmin : ∀ j, j < 128 → distD D j j = 0 ∨ b ≤ distD D j j) {i : Nat} (h : i < b) : distD D (atP D st b i) (atP D st b i) = b := by
  have h1 := path_dist hD hb h
  have h2 := way_add hD (dist_pos hD (a := atP D st b i) (b := st) (by omega)) (path_way hD hb (Nat.le_of_lt h))
  have h3 := dist_way hD (by omega) h2
  rcases hmin _ (path_lt hD hb h) with h4 | h4
  · omega
  · omega

/-- The list has this element. -/
def hasD (D : List Dep) (x y : Int) : Bool := (List.range D.length).any fun i => decide ((atD D i).1 = x) && decide ((atD D i).2 = y)
theorem has_yes {D : List Dep} {x y : Int} {i : Nat} (hi : i < D.length) (h1 : (atD D i).1 = x) (h2 : (atD D i).2 = y) : hasD D x y = true := List.any_eq_true.2 ⟨i, List.mem_range.2 hi, by simp [h1, h2]⟩
theorem has_no {D : List Dep} {x y : Int} (h : ∀ i, i < D.length → ¬ ((atD D i).1 = x ∧ (atD D i).2 = y)) : hasD D x y = false := by
  unfold hasD
  rw [List.any_eq_false]
  intro i hi
  have := h i (List.mem_range.1 hi)
  simpa using this
theorem has_edge {D : List Dep} {a b : Nat} (h : edgeB D a b = true) : hasD D (a : Int) (b : Int) = true := by
  obtain ⟨k, hk, e⟩ := atD_ex (edge_iff.1 h)
  exact has_yes hk (by rw [e]) (by rw [e])
def cycAt (D : List Dep) (C : List Int) (i : Nat) : Bool := !inG (C.take i) (C.getD i 0) && hasD D (C.getD i 0) (C.getD ((i + 1) % C.length) 0)
/-- A cycle: no channel twice, and elements from each to the next one, and from the last to the first. -/
def isCycG (D : List Dep) (C : List Int) : Bool := okD D && (List.range C.length).all (cycAt D C) && decide (0 < C.length)
theorem isCyc_bad {D : List Dep} {C : List Int} (h : okD D = false) : isCycG D C = false := by simp [isCycG, h]
theorem isCyc_nil (D : List Dep) : isCycG D [] = false := by simp [isCycG]
theorem isCyc_no {D : List Dep} {C : List Int} {i : Nat} (hi : i < C.length) (h : cycAt D C i = false) : isCycG D C = false := by
  cases ho : isCycG D C with
  | false => rfl
  | true =>
    simp only [isCycG, Bool.and_eq_true, List.all_eq_true, List.mem_range] at ho
    rw [ho.1.2 i hi] at h
    cases h
theorem isCyc_yes {D : List Dep} {C : List Int} (hD : okD D = true) (h : ∀ i, i < C.length → cycAt D C i = true) : isCycG D C = decide (0 < C.length) := by
  have : (List.range C.length).all (cycAt D C) = true := by
    rw [List.all_eq_true]
    exact fun i hi => h i (List.mem_range.1 hi)
  simp [isCycG, hD, this]
theorem inG_none {L : List Int} {x : Int} (h : x ∉ L) : inG L x = false := by
  cases hi : inG L x with
  | false => rfl
  | true => exact absurd (List.contains_iff_mem.1 hi) h
theorem cycP_is {D : List Dep} (hD : okD D = true) {st b : Nat} (hb : distD D st st = b) (h1 : 1 ≤ b) : isCycG D (cycP D st b) = true := by
  rw [isCyc_yes hD (fun i hi => ?_), cyc_len]
  · exact decide_eq_true (by omega)
  · rw [cyc_len] at hi
    unfold cycAt
    rw [cyc_len, cyc_at hi]
    have hnin : inG ((cycP D st b).take i) (atP D st b i : Int) = false := inG_none fun hm => by
      obtain ⟨j, hj, e⟩ := List.getElem_of_mem hm
      rw [List.length_take, cyc_len] at hj
      rw [List.getElem_take] at e
      have hjb : j < b := by omega
      have e2 : (cycP D st b).getD j 0 = (atP D st b i : Int) := by
        rw [List.getD_eq_getElem?_getD, List.getElem?_eq_getElem (by rw [cyc_len]; exact hjb), e]; rfl
      rw [cyc_at hjb] at e2
      have := path_inj hD hb hjb hi (by omega)
      omega
    rw [hnin]
    have he := path_edge hD hb hi
    by_cases hlast : i + 1 = b
    · rw [hlast, Nat.mod_self, cyc_at (by omega)]
      rw [hlast, path_back hD hb h1] at he
      exact has_edge he
    · rw [Nat.mod_eq_of_lt (by omega), cyc_at (by omega)]
      exact has_edge he
/-- The shortest cycle: either there is none, or it is one, begins with its least channel, and each of its channels is on no shorter one. -/
theorem cyc_facts {D : List Dep} (hD : okD D = true) :
    (cycG D = [] ∧ ∀ c, c < 128 → distD D c c = 0) ∨
    (∃ st b, cycG D = cycP D st b ∧ st < 128 ∧ distD D st st = b ∧ 1 ≤ b ∧ (∀ j, j < 128 → distD D j j = 0 ∨ b ≤ distD D j j) ∧ (∀ i, i < b → st ≤ atP D st b i) ∧ isCycG D (cycG D) = true) := by
  rw [cyc_ok hD]
  rcases best_is D 128 with ⟨h1, h2, h3⟩ | ⟨s, h1, h2, h3, h4, h5, h6⟩
  · left
    rw [h1]
    exact ⟨rfl, h3⟩
  · right
    rw [h2, h3, Int.toNat_natCast]
    refine ⟨s, _, rfl, h1, rfl, h4, h5, fun i hi => ?_, cycP_is hD rfl h4⟩
    by_cases hlt : atP D s (distD D s s) i < s
    · have e := path_self hD rfl h5 hi
      rcases h6 _ hlt with h7 | h7
      · omega
      · omega
    · omega
/-- Whether there is a cycle. -/
def hasCyc (D : List Dep) : Bool := decide (0 < (cycG D).length)
theorem cycG_le (D : List Dep) : (cycG D).length ≤ 128 := by
  cases hD : okD D with
  | false => rw [cyc_bad hD]; simp
  | true =>
    rcases cyc_facts hD with ⟨h, _⟩ | ⟨st, b, h, _, hb, _⟩
    · rw [h]; simp
    · rw [h, cyc_len, ← hb]; exact dist_le hD st st
end Go.Proofs.Ytcmlnokfjbglaaa
end

section
namespace Go.Proofs.Ytcmlnokfjbglaaa
open Go.ChangeShapes Go.WideShapes Go.ChangeAt Go.RowKit
set_option linter.unusedVariables false

/-- A verdict: its code, its ranks, its cycle. -/
structure Verd where
  code : Int
  ranks : List Int
  cycle : List Int
def verdG (W H : Int) (L P : List Int) : Verd :=
  if tableG W H L P = true then (if canO (depG W H L P) = true then ⟨1, ranksO (depG W H L P), []⟩ else ⟨2, [], cycG (depG W H L P)⟩) else ⟨0, [], []⟩
section
variable {W H : Int} {L P : List Int}
theorem verd_bad (h : tableG W H L P = false) : verdG W H L P = ⟨0, [], []⟩ := if_neg (by simp [h])
theorem verd_safe (h : tableG W H L P = true) (k : canO (depG W H L P) = true) : verdG W H L P = ⟨1, ranksO (depG W H L P), []⟩ := by rw [verdG, if_pos h, if_pos k]
theorem verd_cyc (h : tableG W H L P = true) (k : canO (depG W H L P) = false) : verdG W H L P = ⟨2, [], cycG (depG W H L P)⟩ := by rw [verdG, if_pos h, if_neg (by simp [k])]
theorem verd_len : (verdG W H L P).ranks.length ≤ 128 ∧ (verdG W H L P).cycle.length ≤ 128 := by
  have h1 := ranksO_len (depG W H L P)
  have h2 := cycG_le (depG W H L P)
  unfold verdG
  split
  · split <;> exact ⟨by simp; try omega, by simp; try omega⟩
  · exact ⟨by simp, by simp⟩
theorem verd_code : (verdG W H L P).code = 0 ∨ (verdG W H L P).code = 1 ∨ (verdG W H L P).code = 2 := by
  unfold verdG
  split
  · split
    · exact .inr (.inl rfl)
    · exact .inr (.inr rfl)
  · exact .inl rfl
/-- Whether a verdict proves itself. -/
def provesG (W H : Int) (L P : List Int) (v : Verd) : Bool :=
  if v.code = 0 then !tableG W H L P && decide (v.ranks.length = 0) && decide (v.cycle.length = 0)
  else if v.code = 1 then tableG W H L P && isOrdO (depG W H L P) v.ranks && decide (v.cycle.length = 0)
  else if v.code = 2 then tableG W H L P && isCycG (depG W H L P) v.cycle && decide (v.ranks.length = 0)
  else false
theorem proves_bad {v : Verd} (h : v.code = 0) : provesG W H L P v = (!tableG W H L P && decide (v.ranks.length = 0) && decide (v.cycle.length = 0)) := if_pos h
theorem proves_safe {v : Verd} (h : v.code = 1) : provesG W H L P v = (tableG W H L P && isOrdO (depG W H L P) v.ranks && decide (v.cycle.length = 0)) := by rw [provesG, if_neg (by omega), if_pos h]
theorem proves_cyc {v : Verd} (h : v.code = 2) : provesG W H L P v = (tableG W H L P && isCycG (depG W H L P) v.cycle && decide (v.ranks.length = 0)) := by rw [provesG, if_neg (by omega), if_neg (by omega), if_pos h]
theorem proves_no {v : Verd} (h0 : v.code ≠ 0) (h1 : v.code ≠ 1) (h2 : v.code ≠ 2) : provesG W H L P v = false := by rw [provesG, if_neg h0, if_neg h1, if_neg h2]
/-- The found order is one; without one there is a cycle. -/
theorem dep_order (k : canO (depG W H L P) = true) : isOrdO (depG W H L P) (ranksO (depG W H L P)) = true := by
  cases ho : orderO (depG W H L P) with
  | none => rw [(order_none ho).2] at k; cases k
  | some R =>
    rw [(order_some ho).1]
    exact (order_is ho).2.2
theorem dep_cycle (k : canO (depG W H L P) = false) : isCycG (depG W H L P) (cycG (depG W H L P)) = true := by
  cases ho : orderO (depG W H L P) with
  | some R => rw [(order_some ho).2] at k; cases k
  | none =>
    obtain ⟨c, hc, h1⟩ := cycle_of depG_ok ho
    rcases cyc_facts (D := depG W H L P) depG_ok with ⟨_, h2⟩ | ⟨_, _, _, _, _, _, _, _, h2⟩
    · have := h2 c hc; omega
    · exact h2
theorem verd_proves : provesG W H L P (verdG W H L P) = true := by
  cases ht : tableG W H L P with
  | false => rw [verd_bad ht, proves_bad rfl, ht]; rfl
  | true =>
    cases hk : canO (depG W H L P) with
    | true => rw [verd_safe ht hk, proves_safe rfl, ht, dep_order hk]; rfl
    | false => rw [verd_cyc ht hk, proves_cyc rfl, ht, dep_cycle hk]; rfl
theorem verd_zero : (decide ((verdG W H L P).code = 0)) = !tableG W H L P := by
  cases ht : tableG W H L P with
  | false => rw [verd_bad ht]; rfl
  | true =>
    cases hk : canO (depG W H L P) with
    | true => rw [verd_safe ht hk]; rfl
    | false => rw [verd_cyc ht hk]; rfl
end
/-- Whether the table of a rule is safe. -/
def safeB (W H r : Int) : Bool := decide ((verdG W H [] (stdTab W H r)).code = 1)
theorem safe_yes {W H r : Int} (h : okG W H = true) (h1 : 1 ≤ r) (h3 : r ≤ 3) : safeB W H r = true := by
  obtain ⟨R, hR⟩ := safe_std h h1 h3
  unfold safeB
  rw [verd_safe (std_facts h h1 (by omega)).1 (order_some (show orderO (depG W H [] (stdTab W H r)) = some R from hR)).2]
  rfl
/-- The first safe rules. -/
def safeTo (W H : Int) (n : Nat) : List Int := ((List.range n).map fun i : Nat => (i : Int) + 1).filter (safeB W H)
def safeG (W H : Int) : List Int := if okG W H = true then safeTo W H 4 else []
theorem safeTo_zero (W H : Int) : safeTo W H 0 = [] := rfl
theorem safeTo_next (W H : Int) (n : Nat) : safeTo W H (n + 1) = if safeB W H ((n : Int) + 1) = true then safeTo W H n ++ [(n : Int) + 1] else safeTo W H n := by
  unfold safeTo
  rw [List.range_succ, List.map_append, List.filter_append]
  by_cases h : safeB W H ((n : Int) + 1) = true
  · rw [if_pos h]; simp [h]
  · rw [if_neg h]; simp [h]
theorem safeTo_len (W H : Int) : ∀ n, (safeTo W H n).length ≤ n
  | 0 => Nat.le_refl _
  | n + 1 => by
    have := safeTo_len W H n
    rw [safeTo_next]
    split <;> simp <;> omega
theorem safeG_len (W H : Int) : (safeG W H).length ≤ 4 := by
  unfold safeG
  split
  · exact safeTo_len W H 4
  · simp
theorem safe_mem {W H r : Int} (h : okG W H = true) (h1 : 1 ≤ r) (h4 : r ≤ 4) : r ∈ safeG W H ↔ safeB W H r = true := by
  unfold safeG safeTo
  rw [if_pos h, List.mem_filter, List.mem_map]
  constructor
  · exact fun k => k.2
  · exact fun k => ⟨⟨(r - 1).toNat, List.mem_range.2 (by omega), by omega⟩, k⟩
end Go.Proofs.Ytcmlnokfjbglaaa
end

section
namespace Go.Proofs.Ytcmlnokfjbglaaa
open Go.ChangeShapes Go.WideShapes Go.ChangeAt Go.RowKit
set_option linter.unusedVariables false

/-- All ends lie below 64. -/
def lowE (D : List Dep) : Prop := ∀ d ∈ D, 0 ≤ d.1 ∧ d.1 < 64 ∧ 0 ≤ d.2 ∧ d.2 < 64
def joinD (A B : List Dep) : List Dep := A ++ moveD B 64
theorem mem_move {B : List Dep} {z : Int} {d : Dep} : d ∈ moveD B z ↔ (d.1 - z, d.2 - z) ∈ B := by
  unfold moveD
  rw [List.mem_map]
  constructor
  · rintro ⟨e, he, rfl⟩
    have : ((e.1 + z - z, e.2 + z - z) : Dep) = e := Prod.ext (by simp) (by simp)
    simp only [this]
    exact he
  · intro h
    exact ⟨_, h, Prod.ext (by simp) (by simp)⟩
theorem move_asc {B : List Dep} {z : Int} (h : ascD B) : ascD (moveD B z) := by
  unfold moveD ascD
  rw [List.pairwise_map]
  refine h.imp fun {a b} hab => ?_
  rw [ltD_iff] at hab ⊢
  simp only
  omega
section
variable {A B : List Dep}
theorem join_asc (hA : ascD A) (hB : ascD B) (la : lowE A) (lb : lowE B) : ascD (joinD A B) := by
  refine List.pairwise_append.2 ⟨hA, move_asc hB, fun x hx y hy => ?_⟩
  have h1 := la x hx
  have h2 := lb _ (mem_move.1 hy)
  simp only at h2
  rw [ltD_iff]
  omega
theorem join_ok (hA : okD A = true) (hB : okD B = true) (la : lowE A) (lb : lowE B) : okD (joinD A B) = true :=
  okD_of (join_asc (okD_asc hA) (okD_asc hB) la lb) fun d hd => by
    rcases List.mem_append.1 hd with h | h
    · exact okD_in hA h
    · have h2 := lb _ (mem_move.1 h)
      simp only at h2
      rw [inD_iff]
      omega
theorem move_okL (hB : okD B = true) (lb : lowE B) : okD (moveD B 64) = true :=
  okD_of (move_asc (okD_asc hB)) fun d hd => by
    have h2 := lb _ (mem_move.1 hd)
    simp only at h2
    rw [inD_iff]
    omega
theorem shift_low (hB : okD B = true) (lb : lowE B) : shiftD B 64 = moveD B 64 := shift_yes hB (by decide) (move_okL hB lb)
theorem merge_low (hA : okD A = true) (hB : okD B = true) (la : lowE A) (lb : lowE B) : mergeD A (moveD B 64) = joinD A B := by
  rw [merge_yes hA (move_okL hB lb)]
  refine asc_ext _ _ (insAll_asc (okD_asc hA) _) (join_asc (okD_asc hA) (okD_asc hB) la lb) fun x => ?_
  rw [mem_insAll, joinD, List.mem_append]
theorem join_length : (joinD A B).length = A.length + B.length := by rw [joinD, List.length_append, move_length]
/-- An order exists exactly if there is no cycle. -/
theorem canO_iff {D : List Dep} (hD : okD D = true) : canO D = true ↔ ∀ c n : Nat, 1 ≤ n → wayB D c n c = false := by
  constructor
  · intro h c n hn
    cases ho : orderO D with
    | none => rw [(order_none ho).2] at h; cases h
    | some R =>
      have h0 := ord_acyclic ho c
      cases hw : wayB D c n c with
      | false => rfl
      | true => have := dist_way hD hn hw; omega
  · intro h
    cases ho : orderO D with
    | some R => exact (order_some ho).2
    | none =>
      obtain ⟨c, _, hc⟩ := cycle_of hD ho
      have := dist_pos hD hc
      rw [h c _ hc] at this
      cases this
theorem join_edge (la : lowE A) (lb : lowE B) {a b : Nat} : edgeB (joinD A B) a b = true ↔ (edgeB A a b = true ∧ a < 64 ∧ b < 64) ∨ (64 ≤ a ∧ 64 ≤ b ∧ edgeB B (a - 64) (b - 64) = true) := by
  rw [edge_iff, joinD, List.mem_append, mem_move, edge_iff, edge_iff]
  constructor
  · rintro (h | h)
    · have := la _ h
      simp only at this
      exact .inl ⟨h, by omega, by omega⟩
    · have := lb _ h
      simp only at this
      refine .inr ⟨by omega, by omega, ?_⟩
      rw [show ((a - 64 : Nat) : Int) = (a : Int) - 64 by omega, show ((b - 64 : Nat) : Int) = (b : Int) - 64 by omega]
      exact h
  · rintro (h | ⟨h1, h2, h⟩)
    · exact .inl h.1
    · refine .inr ?_
      rw [show ((a - 64 : Nat) : Int) = (a : Int) - 64 by omega, show ((b - 64 : Nat) : Int) = (b : Int) - 64 by omega] at h
      exact h
theorem join_way_low (hA : okD A = true) (hB : okD B = true) (la : lowE A) (lb : lowE B) {a : Nat} (ha : a < 64) : ∀ {n b : Nat}, wayB (joinD A B) a n b = true → wayB A a n b = true ∧ b < 64
  | 0, b, h => by have e := wayB_zero.1 h; exact ⟨wayB_zero.2 e, by omega⟩
  | n + 1, b, h => by
    obtain ⟨u, h1, h2⟩ := (wayB_next (join_ok hA hB la lb)).1 h
    obtain ⟨h3, h4⟩ := join_way_low hA hB la lb ha h1
    rcases (join_edge la lb).1 h2 with h5 | h5
    · exact ⟨(wayB_next hA).2 ⟨u, h3, h5.1⟩, h5.2.2⟩
    · omega
theorem join_way_high (hA : okD A = true) (hB : okD B = true) (la : lowE A) (lb : lowE B) {a : Nat} (ha : 64 ≤ a) : ∀ {n b : Nat}, wayB (joinD A B) a n b = true → wayB B (a - 64) n (b - 64) = true ∧ 64 ≤ b
  | 0, b, h => by have e := wayB_zero.1 h; exact ⟨wayB_zero.2 (by omega), by omega⟩
  | n + 1, b, h => by
    obtain ⟨u, h1, h2⟩ := (wayB_next (join_ok hA hB la lb)).1 h
    obtain ⟨h3, h4⟩ := join_way_high hA hB la lb ha h1
    rcases (join_edge la lb).1 h2 with h5 | h5
    · omega
    · exact ⟨(wayB_next hB).2 ⟨u - 64, h3, h5.2.2⟩, h5.2.1⟩
theorem way_join_low (hA : okD A = true) (hB : okD B = true) (la : lowE A) (lb : lowE B) {a : Nat} : ∀ {n b : Nat}, wayB A a n b = true → wayB (joinD A B) a n b = true
  | 0, b, h => wayB_zero.2 (wayB_zero.1 h)
  | n + 1, b, h => by
    obtain ⟨u, h1, h2⟩ := (wayB_next hA).1 h
    have h3 := la _ (edge_iff.1 h2)
    simp only at h3
    exact (wayB_next (join_ok hA hB la lb)).2 ⟨u, way_join_low hA hB la lb h1, (join_edge la lb).2 (.inl ⟨h2, by omega, by omega⟩)⟩
theorem way_join_high (hA : okD A = true) (hB : okD B = true) (la : lowE A) (lb : lowE B) {a : Nat} : ∀ {n b : Nat}, wayB B a n b = true → wayB (joinD A B) (a + 64) n (b + 64) = true
  | 0, b, h => wayB_zero.2 (by have := wayB_zero.1 h; omega)
  | n + 1, b, h => by
    obtain ⟨u, h1, h2⟩ := (wayB_next hB).1 h
    exact (wayB_next (join_ok hA hB la lb)).2 ⟨u + 64, way_join_high hA hB la lb h1, (join_edge la lb).2 (.inr ⟨by omega, by omega, by rw [Nat.add_sub_cancel, Nat.add_sub_cancel]; exact h2⟩)⟩
/-- Both are safe exactly if the merged dependencies have an order. -/
theorem join_can (hA : okD A = true) (hB : okD B = true) (la : lowE A) (lb : lowE B) : canO (joinD A B) = (canO A && canO B) := by
  rw [Bool.eq_iff_iff, Bool.and_eq_true, canO_iff (join_ok hA hB la lb), canO_iff hA, canO_iff hB]
  constructor
  · intro h
    refine ⟨fun c n hn => ?_, fun c n hn => ?_⟩
    · cases hw : wayB A c n c with
      | false => rfl
      | true => have := way_join_low hA hB la lb hw; rw [h c n hn] at this; cases this
    · cases hw : wayB B c n c with
      | false => rfl
      | true => have := way_join_high hA hB la lb hw; rw [h _ n hn] at this; cases this
  · rintro ⟨h1, h2⟩ c n hn
    cases hw : wayB (joinD A B) c n c with
    | false => rfl
    | true =>
      by_cases hc : c < 64
      · have := (join_way_low hA hB la lb hc hw).1; rw [h1 c n hn] at this; cases this
      · have := (join_way_high hA hB la lb (by omega) hw).1; rw [h2 _ n hn] at this; cases this
end
theorem depG_low {W H : Int} {L P : List Int} : lowE (depG W H L P) := fun d hd => depG_in hd
/-- Both tables are valid. -/
def clsOk (W H : Int) (L P Q : List Int) : Bool := tableG W H L P && tableG W H L Q
theorem clsOk_no1 {W H : Int} {L P Q : List Int} (h : tableG W H L P = false) : clsOk W H L P Q = false := by simp [clsOk, h]
theorem clsOk_no2 {W H : Int} {L P Q : List Int} (h : tableG W H L Q = false) : clsOk W H L P Q = false := by simp [clsOk, h]
theorem clsOk_yes {W H : Int} {L P Q : List Int} (h : tableG W H L P = true) (k : tableG W H L Q = true) : clsOk W H L P Q = true := by simp [clsOk, h, k]
theorem clsOk_both {W H : Int} {L P Q : List Int} (h : clsOk W H L P Q = true) : tableG W H L P = true ∧ tableG W H L Q = true := by simpa [clsOk] using h
/-- The dependencies of the virtual channels. -/
def clsD (W H : Int) (L P Q : List Int) : List Dep := if clsOk W H L P Q = true then mergeD (depG W H L P) (shiftD (depG W H L Q) 64) else []
section
variable {W H : Int} {L P Q : List Int}
theorem clsD_no (h : clsOk W H L P Q = false) : clsD W H L P Q = [] := if_neg (by simp [h])
theorem clsD_yes (h : clsOk W H L P Q = true) : clsD W H L P Q = mergeD (depG W H L P) (shiftD (depG W H L Q) 64) := if_pos h
theorem clsD_join (h : clsOk W H L P Q = true) : clsD W H L P Q = joinD (depG W H L P) (depG W H L Q) := by
  rw [clsD_yes h, shift_low depG_ok depG_low, merge_low depG_ok depG_ok depG_low depG_low]
theorem clsD_ok : okD (clsD W H L P Q) = true := by
  cases h : clsOk W H L P Q with
  | false => rw [clsD_no h]; rfl
  | true => rw [clsD_join h]; exact join_ok depG_ok depG_ok depG_low depG_low
theorem clsD_len : (clsD W H L P Q).length ≤ 8192 := by
  cases h : clsOk W H L P Q with
  | false => rw [clsD_no h]; simp
  | true =>
    rw [clsD_join h, join_length]
    have h1 := depG_len (W := W) (H := H) (L := L) (P := P)
    have h2 := depG_len (W := W) (H := H) (L := L) (P := Q)
    omega
theorem clsD_can (h : clsOk W H L P Q = true) : canO (clsD W H L P Q) = (canO (depG W H L P) && canO (depG W H L Q)) := by
  rw [clsD_join h, join_can depG_ok depG_ok depG_low depG_low]
/-- The verdict on two classes. -/
def verdC (W H : Int) (L P Q : List Int) : Verd :=
  if clsOk W H L P Q = true then (if canO (clsD W H L P Q) = true then ⟨1, ranksO (clsD W H L P Q), []⟩ else ⟨2, [], cycG (clsD W H L P Q)⟩) else ⟨0, [], []⟩
theorem verdC_bad (h : clsOk W H L P Q = false) : verdC W H L P Q = ⟨0, [], []⟩ := if_neg (by simp [h])
theorem verdC_safe (h : clsOk W H L P Q = true) (k : canO (clsD W H L P Q) = true) : verdC W H L P Q = ⟨1, ranksO (clsD W H L P Q), []⟩ := by rw [verdC, if_pos h, if_pos k]
theorem verdC_cyc (h : clsOk W H L P Q = true) (k : canO (clsD W H L P Q) = false) : verdC W H L P Q = ⟨2, [], cycG (clsD W H L P Q)⟩ := by rw [verdC, if_pos h, if_neg (by simp [k])]
theorem verdC_len : (verdC W H L P Q).ranks.length ≤ 128 ∧ (verdC W H L P Q).cycle.length ≤ 128 := by
  have h1 := ranksO_len (clsD W H L P Q)
  have h2 := cycG_le (clsD W H L P Q)
  unfold verdC
  split
  · split <;> exact ⟨by simp; try omega, by simp; try omega⟩
  · exact ⟨by simp, by simp⟩
/-- Two classes are safe exactly if both tables are. -/
theorem verdC_code (h : clsOk W H L P Q = true) : decide ((verdC W H L P Q).code = 1) = (decide ((verdG W H L P).code = 1) && decide ((verdG W H L Q).code = 1)) := by
  have hc := clsD_can h
  obtain ⟨h1, h2⟩ := clsOk_both h
  cases ha : canO (depG W H L P) with
  | true =>
    rw [verd_safe h1 ha]
    cases hb : canO (depG W H L Q) with
    | true => rw [verd_safe h2 hb, verdC_safe h (by rw [hc, ha, hb]; rfl)]; rfl
    | false => rw [verd_cyc h2 hb, verdC_cyc h (by rw [hc, ha, hb]; rfl)]; rfl
  | false =>
    rw [verd_cyc h1 ha, verdC_cyc h (by rw [hc, ha]; rfl)]
    rfl
end
/-- The rules xy and yx on classes of their own are safe. -/
theorem split_safe {W H : Int} (h : okG W H = true) : clsOk W H [] (stdTab W H 1) (stdTab W H 2) = true ∧ (verdC W H [] (stdTab W H 1) (stdTab W H 2)).code = 1 := by
  have h1 := safe_yes h (r := 1) (by omega) (by omega)
  have h2 := safe_yes h (r := 2) (by omega) (by omega)
  have ho : clsOk W H [] (stdTab W H 1) (stdTab W H 2) = true := clsOk_yes (std_facts h (by omega) (by omega)).1 (std_facts h (by omega) (by omega)).1
  have hv := verdC_code ho
  unfold safeB at h1 h2
  rw [h1, h2] at hv
  exact ⟨ho, by simpa using hv⟩
end Go.Proofs.Ytcmlnokfjbglaaa
end

section
namespace Go.Proofs.Ytcmlnokfjbglaaa
open Go.ChangeShapes Go.WideShapes Go.ChangeAt Go.RowKit
set_option linter.unusedVariables false

theorem specHas (W H n : Int) (w : World) :
    Calls Try.prog 135 #[.agg #[.int .i64 W, .int .i64 H], .int .i64 n] w (RetB (hasG W H n) w) := by
  obtain ⟨k, hk⟩ : ∃ k, countG W H = k := ⟨_, rfl⟩
  have hl := countG_le W H
  rw [hk] at hl
  obtain ⟨hl0, hl1⟩ := hl
  go_enter Try.func135, Try.ntmps135
  go_wp2_with fail
  refine (specNodeCount W H _).mono ?_
  rintro e w1 ⟨rfl, hg⟩
  rw [hk]
  go_wp2_with fail
  refine (specInV n 0 _ (hasG W H n) (by unfold hasG; rw [hk]; exact decide_eq_decide.2 (by omega)) _).mono ?_
  rintro e w2 ⟨rfl, rfl⟩
  go_wp2_with fail
  go_ret
  exact ⟨rfl, box_gb hg⟩
theorem specHasV (W H n : Int) (b : Bool) (h : hasG W H n = b) (w : World) :
    Calls Try.prog 135 #[.agg #[.int .i64 W, .int .i64 H], .int .i64 n] w (RetB b w) := h ▸ specHas W H n w
end Go.Proofs.Ytcmlnokfjbglaaa
end

section
namespace Go.Proofs.Ytcmlnokfjbglaaa
open Go.ChangeShapes Go.WideShapes Go.ChangeAt Go.RowKit
set_option linter.unusedVariables false

theorem specNodeAt (W H x y : Int) (w : World) :
    Calls Try.prog 136 #[.agg #[.int .i64 W, .int .i64 H], .int .i64 x, .int .i64 y] w (RetI (atG W H x y) none w) := by
  cases hok : okG W H with
  | true =>
    obtain ⟨hW, hH⟩ := okG_cases hok
    by_cases hx : 0 ≤ x ∧ x ≤ W - 1
    · by_cases hy : 0 ≤ y ∧ y ≤ H - 1
      · rcases hW with rfl | rfl | rfl | rfl
        all_goals
          go_enter Try.func136, Try.ntmps136
          go_wp2_with fail
          refine (specGridOk _ H _).mono ?_
          rintro e w1 ⟨rfl, hg⟩
          have hb := box_blk hg
          have c0 := hb.cell 0
          have c1 := hb.cell 1
          have Hg := Lib.hid hg
          clear hg hb
          simp at c0 c1
          rw [hok]
          go_wp2_with fail
          refine (specInV x 0 _ true (by simp; omega) _).mono ?_
          rintro e w2 ⟨rfl, rfl⟩
          go_wp2_with fail
          refine (specInV y 0 _ true (by simp; omega) _).mono ?_
          rintro e w2 ⟨rfl, rfl⟩
          go_wp2_with fail
          go_ret
          exact ⟨ret_int64 (by unfold atG; rw [if_pos ⟨hok, by omega⟩] <;> omega), box_gb Hg.out⟩
      · go_enter Try.func136, Try.ntmps136
        go_wp2_with fail
        refine (specGridOk _ H _).mono ?_
        rintro e w1 ⟨rfl, hg⟩
        have hb := box_blk hg
        have c0 := hb.cell 0
        have c1 := hb.cell 1
        have Hg := Lib.hid hg
        clear hg hb
        simp at c0 c1
        rw [hok]
        go_wp2_with fail
        refine (specInV x 0 _ true (by simp; omega) _).mono ?_
        rintro e w2 ⟨rfl, rfl⟩
        go_wp2_with fail
        refine (specInV y 0 _ false (by simp; omega) _).mono ?_
        rintro e w2 ⟨rfl, rfl⟩
        go_wp2_with fail
        go_ret
        exact ⟨ret_int64 (by unfold atG; rw [if_neg (by rintro ⟨_, _⟩; omega)]), box_gb Hg.out⟩
    · go_enter Try.func136, Try.ntmps136
      go_wp2_with fail
      refine (specGridOk _ H _).mono ?_
      rintro e w1 ⟨rfl, hg⟩
      have hb := box_blk hg
      have c0 := hb.cell 0
      have c1 := hb.cell 1
      have Hg := Lib.hid hg
      clear hg hb
      simp at c0 c1
      rw [hok]
      go_wp2_with fail
      refine (specInV x 0 _ false (by simp; omega) _).mono ?_
      rintro e w2 ⟨rfl, rfl⟩
      go_wp2_with fail
      go_ret
      exact ⟨ret_int64 (by unfold atG; rw [if_neg (by rintro ⟨_, _⟩; omega)]), box_gb Hg.out⟩
  | false =>
    go_enter Try.func136, Try.ntmps136
    go_wp2_with fail
    refine (specGridOk W H _).mono ?_
    rintro e w1 ⟨rfl, hg⟩
    rw [hok]
    go_wp2_with fail
    go_ret
    exact ⟨ret_int64 (by unfold atG; rw [if_neg (by rintro ⟨h, _⟩; rw [hok] at h; cases h)]), box_gb hg⟩
end Go.Proofs.Ytcmlnokfjbglaaa
end

section
namespace Go.Proofs.Ytcmlnokfjbglaaa
open Go.ChangeShapes Go.WideShapes Go.ChangeAt Go.RowKit
set_option linter.unusedVariables false

theorem specNodeAtV (W H x y n : Int) (h : atG W H x y = n) (w : World) :
    Calls Try.prog 136 #[.agg #[.int .i64 W, .int .i64 H], .int .i64 x, .int .i64 y] w (RetI n none w) := h ▸ specNodeAt W H x y w

theorem specNextNode (W H n p : Int) (w : World) :
    Calls Try.prog 120 #[.agg #[.int .i64 W, .int .i64 H], .int .i64 n, .int .i64 p] w (RetI (nextG W H n p) none w) := by
  cases hh : hasG W H n with
  | true =>
    obtain ⟨hW, hH⟩ := okG_cases (hasG_ok hh).1
    obtain ⟨h0, h1⟩ := hasG_le hh
    have hq := row_wrap h0 h1 hW
    obtain ⟨a0, a1, a2, a3, a4⟩ := place_of hh
    have hW1 : 1 ≤ W := by omega
    have hW2 : W ≤ 4 := by omega
    have hH2 : H ≤ 4 := by omega
    have hN : nextG W H n p = (if p = 0 then atG W H (n % W) (n / W - 1) else if p = 1 then atG W H (n % W + 1) (n / W) else if p = 2 then atG W H (n % W) (n / W + 1) else if p = 3 then atG W H (n % W - 1) (n / W) else if p = 4 then n else -1) := by simp [nextG, hh]
    obtain ⟨x, hx⟩ : ∃ x, n % W = x := ⟨_, rfl⟩
    obtain ⟨y, hy⟩ : ∃ y, n / W = y := ⟨_, rfl⟩
    rw [hx, hy] at hN
    rw [hx] at a0 a1
    rw [hy] at a2 a3 hq
    obtain ⟨r, hr⟩ : ∃ r, nextG W H n p = r := ⟨_, rfl⟩
    rw [hr] at hN ⊢
    have hd : n.tdiv W = y := by rw [Int.tdiv_eq_ediv_of_nonneg h0]; exact hy
    clear a4 hW hH hr hq
    by_cases p0 : p = 0
    · subst p0
      simp at hN
      go_enter Try.func120, Try.ntmps120
      go_wp2_with fail
      refine (specHas W H n _).mono ?_
      rintro e w1 ⟨rfl, hg⟩
      have hb := box_blk hg
      have c0 := hb.cell 0
      have c1 := hb.cell 1
      have Hg := Lib.hid (box_gb hg)
      clear hg hb
      simp at c0 c1
      rw [hh]
      go_wp2_with fail
      simp only [hx]
      refine (specNodeAtV W H (x) (y - 1) r hN.symm _).mono ?_
      rintro e w2 ⟨rfl, hg2⟩
      have Hg2 := Lib.hid hg2
      clear hg2
      go_wp2_with fail
      go_ret
      exact ⟨ret_int64 hN.symm, gb_trans Hg.out Hg2.out⟩
    by_cases p1 : p = 1
    · subst p1
      simp at hN
      go_enter Try.func120, Try.ntmps120
      go_wp2_with fail
      refine (specHas W H n _).mono ?_
      rintro e w1 ⟨rfl, hg⟩
      have hb := box_blk hg
      have c0 := hb.cell 0
      have c1 := hb.cell 1
      have Hg := Lib.hid (box_gb hg)
      clear hg hb
      simp at c0 c1
      rw [hh]
      go_wp2_with fail
      simp only [hx]
      refine (specNodeAtV W H (x + 1) (y) r hN.symm _).mono ?_
      rintro e w2 ⟨rfl, hg2⟩
      have Hg2 := Lib.hid hg2
      clear hg2
      go_wp2_with fail
      go_ret
      exact ⟨ret_int64 hN.symm, gb_trans Hg.out Hg2.out⟩
    by_cases p2 : p = 2
    · subst p2
      simp at hN
      go_enter Try.func120, Try.ntmps120
      go_wp2_with fail
      refine (specHas W H n _).mono ?_
      rintro e w1 ⟨rfl, hg⟩
      have hb := box_blk hg
      have c0 := hb.cell 0
      have c1 := hb.cell 1
      have Hg := Lib.hid (box_gb hg)
      clear hg hb
      simp at c0 c1
      rw [hh]
      go_wp2_with fail
      simp only [hx]
      refine (specNodeAtV W H (x) (y + 1) r hN.symm _).mono ?_
      rintro e w2 ⟨rfl, hg2⟩
      have Hg2 := Lib.hid hg2
      clear hg2
      go_wp2_with fail
      go_ret
      exact ⟨ret_int64 hN.symm, gb_trans Hg.out Hg2.out⟩
    by_cases p3 : p = 3
    · subst p3
      simp at hN
      go_enter Try.func120, Try.ntmps120
      go_wp2_with fail
      refine (specHas W H n _).mono ?_
      rintro e w1 ⟨rfl, hg⟩
      have hb := box_blk hg
      have c0 := hb.cell 0
      have c1 := hb.cell 1
      have Hg := Lib.hid (box_gb hg)
      clear hg hb
      simp at c0 c1
      rw [hh]
      go_wp2_with fail
      simp only [hx]
      refine (specNodeAtV W H (x - 1) (y) r hN.symm _).mono ?_
      rintro e w2 ⟨rfl, hg2⟩
      have Hg2 := Lib.hid hg2
      clear hg2
      go_wp2_with fail
      go_ret
      exact ⟨ret_int64 hN.symm, gb_trans Hg.out Hg2.out⟩
    by_cases p4 : p = 4
    · subst p4
      simp at hN
      go_enter Try.func120, Try.ntmps120
      go_wp2_with fail
      refine (specHas W H n _).mono ?_
      rintro e w1 ⟨rfl, hg⟩
      have hb := box_blk hg
      have c0 := hb.cell 0
      have c1 := hb.cell 1
      have Hg := Lib.hid (box_gb hg)
      clear hg hb
      simp at c0 c1
      rw [hh]
      go_wp2_with fail
      go_ret
      exact ⟨ret_int64 hN.symm, Hg.out⟩
    simp [p0, p1, p2, p3, p4] at hN
    have q0 : (p == 0) = false := by simpa using p0
    have q1 : (p == 1) = false := by simpa using p1
    have q2 : (p == 2) = false := by simpa using p2
    have q3 : (p == 3) = false := by simpa using p3
    have q4 : (p == 4) = false := by simpa using p4
    clear p0 p1 p2 p3 p4
    · skip
      go_enter Try.func120, Try.ntmps120
      go_wp2_with fail
      refine (specHas W H n _).mono ?_
      rintro e w1 ⟨rfl, hg⟩
      have hb := box_blk hg
      have c0 := hb.cell 0
      have c1 := hb.cell 1
      have Hg := Lib.hid (box_gb hg)
      clear hg hb
      simp at c0 c1
      rw [hh]
      go_wp2_with fail
      go_ret
      exact ⟨ret_int64 hN.symm, Hg.out⟩
  | false =>
    go_enter Try.func120, Try.ntmps120
    go_wp2_with fail
    refine (specHas W H n _).mono ?_
    rintro e w1 ⟨rfl, hg⟩
    rw [hh]
    go_wp2_with fail
    go_ret
    exact ⟨ret_int64 (by simp [nextG, hh]), box_gb hg⟩

theorem specNextNodeV (W H n p r : Int) (h : nextG W H n p = r) (w : World) :
    Calls Try.prog 120 #[.agg #[.int .i64 W, .int .i64 H], .int .i64 n, .int .i64 p] w (RetI r none w) := h ▸ specNextNode W H n p w
theorem specNodeCountV (W H k : Int) (h : countG W H = k) (w : World) :
    Calls Try.prog 99 #[.agg #[.int .i64 W, .int .i64 H]] w (RetI k none w) := h ▸ specNodeCount W H w

theorem specLeads (W H c : Int) (w : World) :
    Calls Try.prog 133 #[.agg #[.int .i64 W, .int .i64 H], .int .i64 c] w (RetB (leadsG W H c) w) := by
  obtain ⟨k, hk⟩ : ∃ k, countG W H = k := ⟨_, rfl⟩
  obtain ⟨hk0, hk1⟩ := countG_le W H
  rw [hk] at hk0 hk1
  have hL : leadsG W H c = decide (0 ≤ c ∧ c < 4 * k ∧ 0 ≤ nextG W H (c / 4) (c % 4)) := by rw [leadsG, hk]
  by_cases hc : 0 ≤ c ∧ c ≤ 4 * k - 1
  · have hb : decide (0 ≤ c ∧ c ≤ 4 * k - 1) = true := decide_eq_true hc
    obtain ⟨hc0, hc1⟩ := hc
    have hcN : c ≤ 63 := by omega
    obtain ⟨r, hr⟩ : ∃ r, nextG W H (c / 4) (c % 4) = r := ⟨_, rfl⟩
    have hd : c.tdiv 4 = c / 4 := Int.tdiv_eq_ediv_of_nonneg hc0
    have hm : c.tmod 4 = c % 4 := Int.tmod_eq_emod_of_nonneg hc0
    have hL2 : leadsG W H c = decide (0 ≤ r) := by rw [hL, hr]; exact decide_eq_decide.2 ⟨fun h => h.2.2, fun h => ⟨hc0, by omega, h⟩⟩
    have HL := Lib.hid hL2
    clear hL hL2
    go_enter Try.func133, Try.ntmps133
    go_wp2_with fail
    refine (specNodeCountV W H k hk _).mono ?_
    rintro e w1 ⟨rfl, hg⟩
    have hb1 := box_blk hg
    have c0 := hb1.cell 0
    have c1 := hb1.cell 1
    have Hg := Lib.hid (box_gb hg)
    clear hg hb1
    simp at c0 c1
    go_wp2_with fail
    refine (specInV c 0 _ true hb _).mono ?_
    rintro e w2 ⟨rfl, rfl⟩
    go_wp2_with fail
    refine (specNextNodeV W H (c / 4) (c % 4) r hr _).mono ?_
    rintro e w3 ⟨rfl, hg3⟩
    have Hg3 := Lib.hid hg3
    clear hg3
    go_wp2_with fail
    go_ret
    exact ⟨ret_bool (by rw [HL.out]), gb_trans Hg.out Hg3.out⟩
  · have hb : decide (0 ≤ c ∧ c ≤ 4 * k - 1) = false := decide_eq_false hc
    have hL2 : leadsG W H c = false := by rw [hL]; exact decide_eq_false (fun h => hc ⟨h.1, by omega⟩)
    clear hc hL
    go_enter Try.func133, Try.ntmps133
    go_wp2_with fail
    refine (specNodeCountV W H k hk _).mono ?_
    rintro e w1 ⟨rfl, hg⟩
    have Hg := Lib.hid (box_gb hg)
    clear hg
    go_wp2_with fail
    refine (specInV c 0 _ false hb _).mono ?_
    rintro e w2 ⟨rfl, rfl⟩
    go_wp2_with fail
    go_ret
    exact ⟨ret_bool (by rw [hL2]), Hg.out⟩

theorem specLeadsV (W H c : Int) (b : Bool) (h : leadsG W H c = b) (w : World) :
    Calls Try.prog 133 #[.agg #[.int .i64 W, .int .i64 H], .int .i64 c] w (RetB b w) := h ▸ specLeads W H c w
end Go.Proofs.Ytcmlnokfjbglaaa
end

section
namespace Go.Proofs.Ytcmlnokfjbglaaa
open Go.ChangeShapes Go.WideShapes Go.ChangeAt Go.RowKit
set_option linter.unusedVariables false
set_option linter.unusedSimpArgs false

theorem specFind (A : Option Addr) (n cap B : Nat) (L : List Int) (c : Int) (w : World) (h : IntAt w B A n L) (hn : n ≤ 1000000000) :
    Calls Try.prog 134 #[.slice A n cap, .int .i64 c] w fun e w' => e = .returned (.bool (inG L c)) ∧ w = w' := by
  have hl := h.1
  have HI := Lib.hid h
  clear h
  go_enter Try.func134, Try.ntmps134
  go_wp2_with fail
  go_loop [5] (fun i => ∃ k : Nat, i = .int .i64 (k : Int) ∧ k ≤ n ∧ ∀ j, j < k → L.getD j 0 ≠ c) (fun i => n - (intOf i).toNat)
  case atStart => exact ⟨0, rfl, Nat.zero_le _, fun j h => by omega⟩
  case round =>
    obtain ⟨k, rfl, hk, hne⟩ := hrel
    have HNE := Lib.hid hne
    clear hne
    by_cases hlt : k < n
    · obtain ⟨b, off, rfl, hb, hc⟩ := HI.out.at k hlt
      obtain ⟨x, hx⟩ : ∃ x, L.getD k 0 = x := ⟨_, rfl⟩
      rw [hx] at hc
      have HX := Lib.hid hx
      clear hx
      by_cases hxc : x = c
      · subst hxc
        go_wp2_with fail
        go_ret
        exact ⟨ret_bool (inG_yes (by omega) HX.out).symm, rfl⟩
      · have hxb : (x == c) = false := by simpa using hxc
        have HXC := Lib.hid hxc
        clear hxc
        go_wp2_with fail
        go_round
        case rel => exact ⟨k + 1, by go_num, by omega, fun j hj => by
          rcases Nat.lt_succ_iff_lt_or_eq.1 hj with h1 | rfl
          · exact HNE.out j h1
          · rw [HX.out]; exact HXC.out⟩
        case measure => simp [intOf]; omega
    · obtain rfl : k = n := by omega
      go_wp2_with fail
      go_ret
      exact ⟨ret_bool (inG_no (fun j hj => HNE.out j (by omega))).symm, rfl⟩
theorem specFindV (A : Option Addr) (n cap B : Nat) (L : List Int) (c : Int) (b : Bool) (hb : inG L c = b) (w : World) (h : IntAt w B A n L) (hn : n ≤ 1000000000) :
    Calls Try.prog 134 #[.slice A n cap, .int .i64 c] w fun e w' => e = .returned (.bool b) ∧ w = w' := hb ▸ specFind A n cap B L c w h hn
end Go.Proofs.Ytcmlnokfjbglaaa
end

section
namespace Go.Proofs.Ytcmlnokfjbglaaa
open Go.ChangeShapes Go.WideShapes Go.ChangeAt Go.RowKit
set_option linter.unusedVariables false
set_option linter.unusedSimpArgs false

theorem gb_undraw {a b : World} {row : Option Nat} (h : a.drew.grownBy b row) : a.grownBy b row := ⟨h.os, h.tape, h.output, h.size, h.block⟩

set_option maxHeartbeats 3200000 in
theorem specMeshOk (W H : Int) (A : Option Addr) (n cap : Nat) (L : List Int) (w : World) (h : IntAt w w.heap.size A n L) (hn : n ≤ 1000000000) :
    Calls Try.prog 118 #[.agg #[.int .i64 W, .int .i64 H, .slice A n cap]] w (RetB (meshG W H L) w) := by
  have hl := h.1
  have HI := Lib.hid h
  clear h
  cases hok : okG W H with
  | false =>
    go_enter Try.func118, Try.ntmps118
    go_wp2_with fail
    refine (specGridOk W H _).mono ?_
    rintro e w1 ⟨rfl, hg⟩
    rw [hok]
    go_wp2_with fail
    go_ret
    exact ⟨ret_bool (meshG_bad hok).symm, box_gb hg⟩
  | true =>
    go_enter Try.func118, Try.ntmps118
    go_wp2_with fail
    refine (specGridOk W H _).mono ?_
    rintro e w1 ⟨rfl, hg⟩
    have HM := Lib.hid (show MeshAt W H L A n cap w 0 w1 from ⟨goodTo_zero W H L, hg⟩)
    clear hg
    rw [hok]
    go_wp2_with fail
    go_loopw [3] (fun i wr => ∃ k : Nat, i = .int .i64 (k : Int) ∧ k ≤ n ∧ MeshAt W H L A n cap w k wr) (fun i _ => n - (intOf i).toNat)
    case atStart => exact ⟨0, rfl, Nat.zero_le _, HM.out⟩
    case round =>
      obtain ⟨k, rfl, hk, hgood, hg⟩ := hrel
      have HGo := Lib.hid hgood
      have HG := Lib.hid hg
      have hbk := box_blk hg
      have HBK := Lib.hid hbk
      have a0 : wr.cell? ⟨w.heap.size, 0, none⟩ = some (.int .i64 W) := hbk.cell 0
      have a1 : wr.cell? ⟨w.heap.size, 1, none⟩ = some (.int .i64 H) := hbk.cell 1
      have a2 : wr.cell? ⟨w.heap.size, 2, none⟩ = some (.slice A n cap) := hbk.cell 2
      have hia := HI.out.none (Nat.le_refl _) (box_gb hg)
      have HIA := Lib.hid hia
      clear hg hgood hbk
      by_cases hlt : k < n
      · obtain ⟨b, off, rfl, hb, hc⟩ := hia.at k hlt
        obtain ⟨x, hx⟩ : ∃ x, L.getD k 0 = x := ⟨_, rfl⟩
        rw [hx] at hc
        clear hia
        have hk0 : (0 : Int) ≤ (k : Int) := by omega
        have hk1 : (k : Int) < (n : Int) := by omega
        cases hld : leadsG W H x with
        | false =>
          have HBad := Lib.hid (meshG_no (by omega) (goodAt_lead hx hld))
          have CL := Lib.hid (fun w => specLeadsV W H x false hld w)
          clear hx hld
          go_wp2_with fail
          refine wp_region_held_drew (S := (fun w' => w'.cell? ⟨w.heap.size, 0, none⟩ = some (.int .i64 W) ∧ w'.cell? ⟨w.heap.size, 1, none⟩ = some (.int .i64 H) ∧ w'.cell? ⟨w.heap.size, 2, none⟩ = some (.slice (some ⟨b, off, none⟩) n cap) ∧ w'.cell? ⟨b, off + k, none⟩ = some (.int .i64 x))) (by kernel_rfl) (⟨a0, a1, a2, hc⟩) (fun hHeld => ?_)
          refine wpAnyH_take (i := 0) (v := ?_) rfl (by kernel_rfl) (by kernel_rfl) (by kernel_rfl) (fun _ _ _ h => h) (Or.inl ⟨by rfl, ?_⟩) (by assumption) ?_
          rotate_left
          · intro wq hSw; (try dsimp only at hSw); go_simp; (try with_reducible rfl)
          simp only [List.getElem_toArray, List.getElem_cons_succ, List.getElem_cons_zero, Act.put, List.setIfInBounds_toArray, List.set_cons_zero, List.set_cons_succ]
          refine wpAnyH_take (i := 1) (v := ?_) rfl (by kernel_rfl) (by kernel_rfl) (by kernel_rfl) (fun _ _ _ h => h) (Or.inl ⟨by rfl, ?_⟩) (by assumption) ?_
          rotate_left
          · intro wq hSw; (try dsimp only at hSw); go_simp; (try with_reducible rfl)
          simp only [List.getElem_toArray, List.getElem_cons_succ, List.getElem_cons_zero, Act.put, List.setIfInBounds_toArray, List.set_cons_zero, List.set_cons_succ]
          refine wpAnyH_take (i := 2) (v := ?_) rfl (by kernel_rfl) (by kernel_rfl) (by kernel_rfl) (fun _ _ _ h => h) (Or.inl ⟨by rfl, ?_⟩) (by assumption) ?_
          rotate_left
          · intro wq hSw; (try dsimp only at hSw); go_simp; (try with_reducible rfl)
          simp only [List.getElem_toArray, List.getElem_cons_succ, List.getElem_cons_zero, Act.put, List.setIfInBounds_toArray, List.set_cons_zero, List.set_cons_succ]
          refine wpAnyH_take (i := 3) (v := ?_) rfl (by kernel_rfl) (by kernel_rfl) (by kernel_rfl) (fun _ _ _ h => h) (Or.inl ⟨by rfl, ?_⟩) (by assumption) ?_
          rotate_left
          · intro wq hSw; (try dsimp only at hSw); go_simp; (try with_reducible rfl)
          simp only [List.getElem_toArray, List.getElem_cons_succ, List.getElem_cons_zero, Act.put, List.setIfInBounds_toArray, List.set_cons_zero, List.set_cons_succ]
          refine wpAnyH_take (i := 4) (v := ?_) rfl (by kernel_rfl) (by kernel_rfl) (by kernel_rfl) (fun _ _ _ h => h) (Or.inl ⟨by rfl, ?_⟩) (by assumption) ?_
          rotate_left
          · intro wq hSw; (try dsimp only at hSw); go_simp; (try with_reducible rfl)
          simp only [List.getElem_toArray, List.getElem_cons_succ, List.getElem_cons_zero, Act.put, List.setIfInBounds_toArray, List.set_cons_zero, List.set_cons_succ]
          refine wpAnyH_take (i := 5) (v := ?_) rfl (by kernel_rfl) (by kernel_rfl) (by kernel_rfl) (fun _ _ _ h => h) (Or.inl ⟨by rfl, ?_⟩) (by assumption) ?_
          rotate_left
          · intro wq hSw; (try dsimp only at hSw); go_simp; (try with_reducible rfl)
          simp only [List.getElem_toArray, List.getElem_cons_succ, List.getElem_cons_zero, Act.put, List.setIfInBounds_toArray, List.set_cons_zero, List.set_cons_succ]
          refine wpAnyH_take (i := 6) (v := ?_) rfl (by kernel_rfl) (by kernel_rfl) (by kernel_rfl) (fun _ _ _ h => h) (Or.inl ⟨by rfl, ?_⟩) (by assumption) ?_
          rotate_left
          · intro wq hSw; (try dsimp only at hSw); go_simp; (try with_reducible rfl)
          simp only [List.getElem_toArray, List.getElem_cons_succ, List.getElem_cons_zero, Act.put, List.setIfInBounds_toArray, List.set_cons_zero, List.set_cons_succ]
          refine wpAnyH_ready (rs := [7]) (by kernel_rfl) (by simp) ?_
          refine AllReadyH.cons rfl (fun K hK => ?_) AllReadyH.nil
          go_simp
          (with_reducible refine (CL.out _).mono ?_); rintro e w2 ⟨rfl, hg2⟩; have hg3 := gb_trans HG.out (gb_undraw hg2); have kk := box_blk hg3; have d0 : w2.cell? ⟨w.heap.size, 0, none⟩ = some (.int .i64 W) := kk.cell 0; have d1 : w2.cell? ⟨w.heap.size, 1, none⟩ = some (.int .i64 H) := kk.cell 1; have d2 : w2.cell? ⟨w.heap.size, 2, none⟩ = some (.slice (some ⟨b, off, none⟩) n cap) := kk.cell 2; have dc := (hg2.cell hc (by simp)); have HG3 := Lib.hid hg3; clear hg2 hg3 kk
          try go_wp2_with fail
          refine hK.out _ _ (⟨d0, d1, d2, dc⟩) (fun hHeld => ?_)
          clear hK K
          try simp only [List.getElem_toArray, List.getElem_cons_succ, List.getElem_cons_zero, Act.put, List.setIfInBounds_toArray, List.set_cons_zero, List.set_cons_succ]
          refine wpAnyH_take (i := 8) (v := ?_) rfl (by kernel_rfl) (by kernel_rfl) (by kernel_rfl) (fun _ _ _ h => h) (Or.inl ⟨by rfl, ?_⟩) (by assumption) ?_
          rotate_left
          · intro wq hSw; (try dsimp only at hSw); go_simp; (try with_reducible rfl)
          simp only [List.getElem_toArray, List.getElem_cons_succ, List.getElem_cons_zero, Act.put, List.setIfInBounds_toArray, List.set_cons_zero, List.set_cons_succ]
          refine wpAnyH_take (i := 9) (v := ?_) rfl (by kernel_rfl) (by kernel_rfl) (by kernel_rfl) (fun _ _ _ h => h) (Or.inl ⟨by rfl, ?_⟩) (by assumption) ?_
          rotate_left
          · intro wq hSw; (try dsimp only at hSw); go_simp; (try with_reducible rfl)
          simp only [List.getElem_toArray, List.getElem_cons_succ, List.getElem_cons_zero, Act.put, List.setIfInBounds_toArray, List.set_cons_zero, List.set_cons_succ]
          refine wpAnyH_take (i := 10) (v := undef) rfl (by kernel_rfl) (by kernel_rfl) (by kernel_rfl) (fun _ _ _ h => h) (Or.inr ⟨by rfl, rfl⟩) (by assumption) ?_
          simp only [List.getElem_toArray, List.getElem_cons_succ, List.getElem_cons_zero, Act.put, List.setIfInBounds_toArray, List.set_cons_zero, List.set_cons_succ]
          refine wpAnyH_take (i := 11) (v := undef) rfl (by kernel_rfl) (by kernel_rfl) (by kernel_rfl) (fun _ _ _ h => h) (Or.inr ⟨by rfl, rfl⟩) (by assumption) ?_
          simp only [List.getElem_toArray, List.getElem_cons_succ, List.getElem_cons_zero, Act.put, List.setIfInBounds_toArray, List.set_cons_zero, List.set_cons_succ]
          refine wpAnyH_take (i := 12) (v := undef) rfl (by kernel_rfl) (by kernel_rfl) (by kernel_rfl) (fun _ _ _ h => h) (Or.inr ⟨by rfl, rfl⟩) (by assumption) ?_
          simp only [List.getElem_toArray, List.getElem_cons_succ, List.getElem_cons_zero, Act.put, List.setIfInBounds_toArray, List.set_cons_zero, List.set_cons_succ]
          refine wpAnyH_take (i := 13) (v := undef) rfl (by kernel_rfl) (by kernel_rfl) (by kernel_rfl) (fun _ _ _ h => h) (Or.inr ⟨by rfl, rfl⟩) (by assumption) ?_
          simp only [List.getElem_toArray, List.getElem_cons_succ, List.getElem_cons_zero, Act.put, List.setIfInBounds_toArray, List.set_cons_zero, List.set_cons_succ]
          refine wpAnyH_take (i := 14) (v := undef) rfl (by kernel_rfl) (by kernel_rfl) (by kernel_rfl) (fun _ _ _ h => h) (Or.inr ⟨by rfl, rfl⟩) (by assumption) ?_
          simp only [List.getElem_toArray, List.getElem_cons_succ, List.getElem_cons_zero, Act.put, List.setIfInBounds_toArray, List.set_cons_zero, List.set_cons_succ]
          refine wpAnyH_take (i := 15) (v := undef) rfl (by kernel_rfl) (by kernel_rfl) (by kernel_rfl) (fun _ _ _ h => h) (Or.inr ⟨by rfl, rfl⟩) (by assumption) ?_
          simp only [List.getElem_toArray, List.getElem_cons_succ, List.getElem_cons_zero, Act.put, List.setIfInBounds_toArray, List.set_cons_zero, List.set_cons_succ]
          refine wpAnyH_take (i := 16) (v := undef) rfl (by kernel_rfl) (by kernel_rfl) (by kernel_rfl) (fun _ _ _ h => h) (Or.inr ⟨by rfl, rfl⟩) (by assumption) ?_
          simp only [List.getElem_toArray, List.getElem_cons_succ, List.getElem_cons_zero, Act.put, List.setIfInBounds_toArray, List.set_cons_zero, List.set_cons_succ]
          refine wpAnyH_take (i := 17) (v := undef) rfl (by kernel_rfl) (by kernel_rfl) (by kernel_rfl) (fun _ _ _ h => h) (Or.inr ⟨by rfl, rfl⟩) (by assumption) ?_
          simp only [List.getElem_toArray, List.getElem_cons_succ, List.getElem_cons_zero, Act.put, List.setIfInBounds_toArray, List.set_cons_zero, List.set_cons_succ]
          refine wpAnyH_take (i := 18) (v := undef) rfl (by kernel_rfl) (by kernel_rfl) (by kernel_rfl) (fun _ _ _ h => h) (Or.inr ⟨by rfl, rfl⟩) (by assumption) ?_
          simp only [List.getElem_toArray, List.getElem_cons_succ, List.getElem_cons_zero, Act.put, List.setIfInBounds_toArray, List.set_cons_zero, List.set_cons_succ]
          refine wpAnyH_take (i := 19) (v := undef) rfl (by kernel_rfl) (by kernel_rfl) (by kernel_rfl) (fun _ _ _ h => h) (Or.inr ⟨by rfl, rfl⟩) (by assumption) ?_
          simp only [List.getElem_toArray, List.getElem_cons_succ, List.getElem_cons_zero, Act.put, List.setIfInBounds_toArray, List.set_cons_zero, List.set_cons_succ]
          refine wpAnyH_take (i := 20) (v := undef) rfl (by kernel_rfl) (by kernel_rfl) (by kernel_rfl) (fun _ _ _ h => h) (Or.inr ⟨by rfl, rfl⟩) (by assumption) ?_
          simp only [List.getElem_toArray, List.getElem_cons_succ, List.getElem_cons_zero, Act.put, List.setIfInBounds_toArray, List.set_cons_zero, List.set_cons_succ]
          refine wpAnyH_take (i := 21) (v := undef) rfl (by kernel_rfl) (by kernel_rfl) (by kernel_rfl) (fun _ _ _ h => h) (Or.inr ⟨by rfl, rfl⟩) (by assumption) ?_
          simp only [List.getElem_toArray, List.getElem_cons_succ, List.getElem_cons_zero, Act.put, List.setIfInBounds_toArray, List.set_cons_zero, List.set_cons_succ]
          refine wpAnyH_take (i := 22) (v := undef) rfl (by kernel_rfl) (by kernel_rfl) (by kernel_rfl) (fun _ _ _ h => h) (Or.inr ⟨by rfl, rfl⟩) (by assumption) ?_
          simp only [List.getElem_toArray, List.getElem_cons_succ, List.getElem_cons_zero, Act.put, List.setIfInBounds_toArray, List.set_cons_zero, List.set_cons_succ]
          refine wpAnyH_take (i := 23) (v := undef) rfl (by kernel_rfl) (by kernel_rfl) (by kernel_rfl) (fun _ _ _ h => h) (Or.inr ⟨by rfl, rfl⟩) (by assumption) ?_
          simp only [List.getElem_toArray, List.getElem_cons_succ, List.getElem_cons_zero, Act.put, List.setIfInBounds_toArray, List.set_cons_zero, List.set_cons_succ]
          refine wpAnyH_take (i := 24) (v := undef) rfl (by kernel_rfl) (by kernel_rfl) (by kernel_rfl) (fun _ _ _ h => h) (Or.inr ⟨by rfl, rfl⟩) (by assumption) ?_
          simp only [List.getElem_toArray, List.getElem_cons_succ, List.getElem_cons_zero, Act.put, List.setIfInBounds_toArray, List.set_cons_zero, List.set_cons_succ]
          refine wpAnyH_take (i := 25) (v := undef) rfl (by kernel_rfl) (by kernel_rfl) (by kernel_rfl) (fun _ _ _ h => h) (Or.inr ⟨by rfl, rfl⟩) (by assumption) ?_
          simp only [List.getElem_toArray, List.getElem_cons_succ, List.getElem_cons_zero, Act.put, List.setIfInBounds_toArray, List.set_cons_zero, List.set_cons_succ]
          refine wpAnyH_take (i := 26) (v := ?_) rfl (by kernel_rfl) (by kernel_rfl) (by kernel_rfl) (fun _ _ _ h => h) (Or.inl ⟨by rfl, ?_⟩) (by assumption) ?_
          rotate_left
          · intro wq hSw; (try dsimp only at hSw); go_simp; (try with_reducible rfl)
          simp only [List.getElem_toArray, List.getElem_cons_succ, List.getElem_cons_zero, Act.put, List.setIfInBounds_toArray, List.set_cons_zero, List.set_cons_succ]
          refine wpAnyH_done (by kernel_rfl) ?_ _
          go_wp2_with fail
          go_ret
          exact ⟨ret_bool HBad.out.symm, box_gb HG3.out⟩
        | true =>
          have CL := Lib.hid (fun w => specLeadsV W H x true hld w)
          cases k with
          | zero =>
            have HNx := Lib.hid (goodTo_succ HGo.out (goodAt_first hx hld))
            clear hx hld
            rw [Nat.add_zero] at hc
            go_wp2_with fail
            refine wp_region_held_drew (S := (fun w' => w'.cell? ⟨w.heap.size, 0, none⟩ = some (.int .i64 W) ∧ w'.cell? ⟨w.heap.size, 1, none⟩ = some (.int .i64 H) ∧ w'.cell? ⟨w.heap.size, 2, none⟩ = some (.slice (some ⟨b, off, none⟩) n cap) ∧ w'.cell? ⟨b, off, none⟩ = some (.int .i64 x))) (by kernel_rfl) (⟨a0, a1, a2, hc⟩) (fun hHeld => ?_)
            refine wpAnyH_take (i := 0) (v := ?_) rfl (by kernel_rfl) (by kernel_rfl) (by kernel_rfl) (fun _ _ _ h => h) (Or.inl ⟨by rfl, ?_⟩) (by assumption) ?_
            rotate_left
            · intro wq hSw; (try dsimp only at hSw); go_simp; (try with_reducible rfl)
            simp only [List.getElem_toArray, List.getElem_cons_succ, List.getElem_cons_zero, Act.put, List.setIfInBounds_toArray, List.set_cons_zero, List.set_cons_succ]
            refine wpAnyH_take (i := 1) (v := ?_) rfl (by kernel_rfl) (by kernel_rfl) (by kernel_rfl) (fun _ _ _ h => h) (Or.inl ⟨by rfl, ?_⟩) (by assumption) ?_
            rotate_left
            · intro wq hSw; (try dsimp only at hSw); go_simp; (try with_reducible rfl)
            simp only [List.getElem_toArray, List.getElem_cons_succ, List.getElem_cons_zero, Act.put, List.setIfInBounds_toArray, List.set_cons_zero, List.set_cons_succ]
            refine wpAnyH_take (i := 2) (v := ?_) rfl (by kernel_rfl) (by kernel_rfl) (by kernel_rfl) (fun _ _ _ h => h) (Or.inl ⟨by rfl, ?_⟩) (by assumption) ?_
            rotate_left
            · intro wq hSw; (try dsimp only at hSw); go_simp; (try with_reducible rfl)
            simp only [List.getElem_toArray, List.getElem_cons_succ, List.getElem_cons_zero, Act.put, List.setIfInBounds_toArray, List.set_cons_zero, List.set_cons_succ]
            refine wpAnyH_take (i := 3) (v := ?_) rfl (by kernel_rfl) (by kernel_rfl) (by kernel_rfl) (fun _ _ _ h => h) (Or.inl ⟨by rfl, ?_⟩) (by assumption) ?_
            rotate_left
            · intro wq hSw; (try dsimp only at hSw); go_simp; (try with_reducible rfl)
            simp only [List.getElem_toArray, List.getElem_cons_succ, List.getElem_cons_zero, Act.put, List.setIfInBounds_toArray, List.set_cons_zero, List.set_cons_succ]
            refine wpAnyH_take (i := 4) (v := ?_) rfl (by kernel_rfl) (by kernel_rfl) (by kernel_rfl) (fun _ _ _ h => h) (Or.inl ⟨by rfl, ?_⟩) (by assumption) ?_
            rotate_left
            · intro wq hSw; (try dsimp only at hSw); go_simp; (try with_reducible rfl)
            simp only [List.getElem_toArray, List.getElem_cons_succ, List.getElem_cons_zero, Act.put, List.setIfInBounds_toArray, List.set_cons_zero, List.set_cons_succ]
            refine wpAnyH_take (i := 5) (v := ?_) rfl (by kernel_rfl) (by kernel_rfl) (by kernel_rfl) (fun _ _ _ h => h) (Or.inl ⟨by rfl, ?_⟩) (by assumption) ?_
            rotate_left
            · intro wq hSw; (try dsimp only at hSw); go_simp; (try with_reducible rfl)
            simp only [List.getElem_toArray, List.getElem_cons_succ, List.getElem_cons_zero, Act.put, List.setIfInBounds_toArray, List.set_cons_zero, List.set_cons_succ]
            refine wpAnyH_take (i := 6) (v := ?_) rfl (by kernel_rfl) (by kernel_rfl) (by kernel_rfl) (fun _ _ _ h => h) (Or.inl ⟨by rfl, ?_⟩) (by assumption) ?_
            rotate_left
            · intro wq hSw; (try dsimp only at hSw); go_simp; (try with_reducible rfl)
            simp only [List.getElem_toArray, List.getElem_cons_succ, List.getElem_cons_zero, Act.put, List.setIfInBounds_toArray, List.set_cons_zero, List.set_cons_succ]
            refine wpAnyH_ready (rs := [7]) (by kernel_rfl) (by simp) ?_
            refine AllReadyH.cons rfl (fun K hK => ?_) AllReadyH.nil
            go_simp
            (with_reducible refine (CL.out _).mono ?_); rintro e w2 ⟨rfl, hg2⟩; have hg3 := gb_trans HG.out (gb_undraw hg2); have kk := box_blk hg3; have d0 : w2.cell? ⟨w.heap.size, 0, none⟩ = some (.int .i64 W) := kk.cell 0; have d1 : w2.cell? ⟨w.heap.size, 1, none⟩ = some (.int .i64 H) := kk.cell 1; have d2 : w2.cell? ⟨w.heap.size, 2, none⟩ = some (.slice (some ⟨b, off, none⟩) n cap) := kk.cell 2; have dc := (hg2.cell hc (by simp)); have HG3 := Lib.hid hg3; clear hg2 hg3 kk
            try go_wp2_with fail
            refine hK.out _ _ (⟨d0, d1, d2, dc⟩) (fun hHeld => ?_)
            clear hK K
            try simp only [List.getElem_toArray, List.getElem_cons_succ, List.getElem_cons_zero, Act.put, List.setIfInBounds_toArray, List.set_cons_zero, List.set_cons_succ]
            refine wpAnyH_take (i := 8) (v := ?_) rfl (by kernel_rfl) (by kernel_rfl) (by kernel_rfl) (fun _ _ _ h => h) (Or.inl ⟨by rfl, ?_⟩) (by assumption) ?_
            rotate_left
            · intro wq hSw; (try dsimp only at hSw); go_simp; (try with_reducible rfl)
            simp only [List.getElem_toArray, List.getElem_cons_succ, List.getElem_cons_zero, Act.put, List.setIfInBounds_toArray, List.set_cons_zero, List.set_cons_succ]
            refine wpAnyH_take (i := 9) (v := ?_) rfl (by kernel_rfl) (by kernel_rfl) (by kernel_rfl) (fun _ _ _ h => h) (Or.inl ⟨by rfl, ?_⟩) (by assumption) ?_
            rotate_left
            · intro wq hSw; (try dsimp only at hSw); go_simp; (try with_reducible rfl)
            simp only [List.getElem_toArray, List.getElem_cons_succ, List.getElem_cons_zero, Act.put, List.setIfInBounds_toArray, List.set_cons_zero, List.set_cons_succ]
            refine wpAnyH_take (i := 10) (v := ?_) rfl (by kernel_rfl) (by kernel_rfl) (by kernel_rfl) (fun _ _ _ h => h) (Or.inl ⟨by rfl, ?_⟩) (by assumption) ?_
            rotate_left
            · intro wq hSw; (try dsimp only at hSw); go_simp; (try with_reducible rfl)
            simp only [List.getElem_toArray, List.getElem_cons_succ, List.getElem_cons_zero, Act.put, List.setIfInBounds_toArray, List.set_cons_zero, List.set_cons_succ]
            refine wpAnyH_take (i := 11) (v := ?_) rfl (by kernel_rfl) (by kernel_rfl) (by kernel_rfl) (fun _ _ _ h => h) (Or.inl ⟨by rfl, ?_⟩) (by assumption) ?_
            rotate_left
            · intro wq hSw; (try dsimp only at hSw); go_simp; (try with_reducible rfl)
            simp only [List.getElem_toArray, List.getElem_cons_succ, List.getElem_cons_zero, Act.put, List.setIfInBounds_toArray, List.set_cons_zero, List.set_cons_succ]
            refine wpAnyH_take (i := 12) (v := ?_) rfl (by kernel_rfl) (by kernel_rfl) (by kernel_rfl) (fun _ _ _ h => h) (Or.inl ⟨by rfl, ?_⟩) (by assumption) ?_
            rotate_left
            · intro wq hSw; (try dsimp only at hSw); go_simp; (try with_reducible rfl)
            simp only [List.getElem_toArray, List.getElem_cons_succ, List.getElem_cons_zero, Act.put, List.setIfInBounds_toArray, List.set_cons_zero, List.set_cons_succ]
            refine wpAnyH_take (i := 13) (v := undef) rfl (by kernel_rfl) (by kernel_rfl) (by kernel_rfl) (fun _ _ _ h => h) (Or.inr ⟨by rfl, rfl⟩) (by assumption) ?_
            simp only [List.getElem_toArray, List.getElem_cons_succ, List.getElem_cons_zero, Act.put, List.setIfInBounds_toArray, List.set_cons_zero, List.set_cons_succ]
            refine wpAnyH_take (i := 14) (v := undef) rfl (by kernel_rfl) (by kernel_rfl) (by kernel_rfl) (fun _ _ _ h => h) (Or.inr ⟨by rfl, rfl⟩) (by assumption) ?_
            simp only [List.getElem_toArray, List.getElem_cons_succ, List.getElem_cons_zero, Act.put, List.setIfInBounds_toArray, List.set_cons_zero, List.set_cons_succ]
            refine wpAnyH_take (i := 15) (v := undef) rfl (by kernel_rfl) (by kernel_rfl) (by kernel_rfl) (fun _ _ _ h => h) (Or.inr ⟨by rfl, rfl⟩) (by assumption) ?_
            simp only [List.getElem_toArray, List.getElem_cons_succ, List.getElem_cons_zero, Act.put, List.setIfInBounds_toArray, List.set_cons_zero, List.set_cons_succ]
            refine wpAnyH_take (i := 16) (v := undef) rfl (by kernel_rfl) (by kernel_rfl) (by kernel_rfl) (fun _ _ _ h => h) (Or.inr ⟨by rfl, rfl⟩) (by assumption) ?_
            simp only [List.getElem_toArray, List.getElem_cons_succ, List.getElem_cons_zero, Act.put, List.setIfInBounds_toArray, List.set_cons_zero, List.set_cons_succ]
            refine wpAnyH_take (i := 17) (v := undef) rfl (by kernel_rfl) (by kernel_rfl) (by kernel_rfl) (fun _ _ _ h => h) (Or.inr ⟨by rfl, rfl⟩) (by assumption) ?_
            simp only [List.getElem_toArray, List.getElem_cons_succ, List.getElem_cons_zero, Act.put, List.setIfInBounds_toArray, List.set_cons_zero, List.set_cons_succ]
            refine wpAnyH_take (i := 18) (v := undef) rfl (by kernel_rfl) (by kernel_rfl) (by kernel_rfl) (fun _ _ _ h => h) (Or.inr ⟨by rfl, rfl⟩) (by assumption) ?_
            simp only [List.getElem_toArray, List.getElem_cons_succ, List.getElem_cons_zero, Act.put, List.setIfInBounds_toArray, List.set_cons_zero, List.set_cons_succ]
            refine wpAnyH_take (i := 19) (v := undef) rfl (by kernel_rfl) (by kernel_rfl) (by kernel_rfl) (fun _ _ _ h => h) (Or.inr ⟨by rfl, rfl⟩) (by assumption) ?_
            simp only [List.getElem_toArray, List.getElem_cons_succ, List.getElem_cons_zero, Act.put, List.setIfInBounds_toArray, List.set_cons_zero, List.set_cons_succ]
            refine wpAnyH_take (i := 20) (v := undef) rfl (by kernel_rfl) (by kernel_rfl) (by kernel_rfl) (fun _ _ _ h => h) (Or.inr ⟨by rfl, rfl⟩) (by assumption) ?_
            simp only [List.getElem_toArray, List.getElem_cons_succ, List.getElem_cons_zero, Act.put, List.setIfInBounds_toArray, List.set_cons_zero, List.set_cons_succ]
            refine wpAnyH_take (i := 21) (v := undef) rfl (by kernel_rfl) (by kernel_rfl) (by kernel_rfl) (fun _ _ _ h => h) (Or.inr ⟨by rfl, rfl⟩) (by assumption) ?_
            simp only [List.getElem_toArray, List.getElem_cons_succ, List.getElem_cons_zero, Act.put, List.setIfInBounds_toArray, List.set_cons_zero, List.set_cons_succ]
            refine wpAnyH_take (i := 22) (v := undef) rfl (by kernel_rfl) (by kernel_rfl) (by kernel_rfl) (fun _ _ _ h => h) (Or.inr ⟨by rfl, rfl⟩) (by assumption) ?_
            simp only [List.getElem_toArray, List.getElem_cons_succ, List.getElem_cons_zero, Act.put, List.setIfInBounds_toArray, List.set_cons_zero, List.set_cons_succ]
            refine wpAnyH_take (i := 23) (v := undef) rfl (by kernel_rfl) (by kernel_rfl) (by kernel_rfl) (fun _ _ _ h => h) (Or.inr ⟨by rfl, rfl⟩) (by assumption) ?_
            simp only [List.getElem_toArray, List.getElem_cons_succ, List.getElem_cons_zero, Act.put, List.setIfInBounds_toArray, List.set_cons_zero, List.set_cons_succ]
            refine wpAnyH_take (i := 24) (v := undef) rfl (by kernel_rfl) (by kernel_rfl) (by kernel_rfl) (fun _ _ _ h => h) (Or.inr ⟨by rfl, rfl⟩) (by assumption) ?_
            simp only [List.getElem_toArray, List.getElem_cons_succ, List.getElem_cons_zero, Act.put, List.setIfInBounds_toArray, List.set_cons_zero, List.set_cons_succ]
            refine wpAnyH_take (i := 25) (v := ?_) rfl (by kernel_rfl) (by kernel_rfl) (by kernel_rfl) (fun _ _ _ h => h) (Or.inl ⟨by rfl, ?_⟩) (by assumption) ?_
            rotate_left
            · intro wq hSw; (try dsimp only at hSw); go_simp; (try with_reducible rfl)
            simp only [List.getElem_toArray, List.getElem_cons_succ, List.getElem_cons_zero, Act.put, List.setIfInBounds_toArray, List.set_cons_zero, List.set_cons_succ]
            refine wpAnyH_take (i := 26) (v := ?_) rfl (by kernel_rfl) (by kernel_rfl) (by kernel_rfl) (fun _ _ _ h => h) (Or.inl ⟨by rfl, ?_⟩) (by assumption) ?_
            rotate_left
            · intro wq hSw; (try dsimp only at hSw); go_simp; (try with_reducible rfl)
            simp only [List.getElem_toArray, List.getElem_cons_succ, List.getElem_cons_zero, Act.put, List.setIfInBounds_toArray, List.set_cons_zero, List.set_cons_succ]
            refine wpAnyH_done (by kernel_rfl) ?_ _
            go_wp2_with fail
            go_roundw
            case rel => exact ⟨1, by go_num, by omega, HNx.out, HG3.out⟩
            case measure => simp [intOf] <;> omega
          | succ j =>
            obtain ⟨b', off', hbe, _, hc2⟩ := HIA.out.at j (by omega)
            obtain ⟨rfl, rfl⟩ : b = b' ∧ off = off' := by injection hbe with h1; injection h1 with h2 h3; exact ⟨h2, h3⟩
            obtain ⟨y, hy⟩ : ∃ y, L.getD j 0 = y := ⟨_, rfl⟩
            rw [hy] at hc2
            have hga := goodAt_next hx hy hld
            have e1 : IntKind.i64.wrap ((j : Int) + 1 - 1) = (j : Int) := by rw [Int.add_sub_cancel]; exact IntWalk.i64_in _ (by omega)
            have e2 : IntKind.i64.wrap (((j + 1 : Nat) : Int) - 1) = (j : Int) := by rw [IntWalk.i64_in _ (by omega)]; omega
            have e3 : IntKind.i64.wrap (j : Int) = (j : Int) := IntWalk.i64_in _ (by omega)
            have j0 : (0 : Int) ≤ (j : Int) := by omega
            have j1 : (j : Int) < (n : Int) := by omega
            have j2 : (0 : Int) ≤ (j : Int) + 1 := by omega
            have j3 : (j : Int) + 1 < (n : Int) := by omega
            have j4 : ((j : Int) + 1).toNat = j + 1 := by omega
            by_cases hyx : y < x
            · have hle : decide (x ≤ y) = false := decide_eq_false (by omega)
              have hgd : goodAt W H L (j + 1) = true := by rw [hga]; exact decide_eq_true hyx
              have HNx := Lib.hid (goodTo_succ HGo.out hgd)
              clear hx hy hld hbe hga hgd hyx
              go_wp2_with fail
              first
              | go_region_held3 (fun w' => w'.cell? ⟨w.heap.size, 0, none⟩ = some (.int .i64 W) ∧ w'.cell? ⟨w.heap.size, 1, none⟩ = some (.int .i64 H) ∧ w'.cell? ⟨w.heap.size, 2, none⟩ = some (.slice (some ⟨b, off, none⟩) n cap) ∧ w'.cell? ⟨b, off + (j + 1), none⟩ = some (.int .i64 x) ∧ w'.cell? ⟨b, off + j, none⟩ = some (.int .i64 y))
                  (first | exact ⟨a0, a1, a2, hc, hc2⟩ | exact ⟨d0, d1, d2, dc, dc2⟩)
                  (first | (go_at_call 133; (with_reducible refine (CL.out _).mono ?_); rintro e w2 ⟨rfl, hg2⟩; have hg3 := gb_trans HG.out (gb_undraw hg2); have kk := box_blk hg3; have d0 : w2.cell? ⟨w.heap.size, 0, none⟩ = some (.int .i64 W) := kk.cell 0; have d1 : w2.cell? ⟨w.heap.size, 1, none⟩ = some (.int .i64 H) := kk.cell 1; have d2 : w2.cell? ⟨w.heap.size, 2, none⟩ = some (.slice (some ⟨b, off, none⟩) n cap) := kk.cell 2; have dc := (hg2.cell hc (by simp)); have dc2 := (hg2.cell hc2 (by simp)); have HG3 := Lib.hid hg3; clear hg2 hg3 kk) | fail)
              | fail "held"
              all_goals
                go_wp2_with fail
                go_roundw
                case rel => exact ⟨j + 2, by go_num, by omega, HNx.out, HG3.out⟩
                case measure => simp [intOf] <;> omega
            · have hle : decide (x ≤ y) = true := decide_eq_true (by omega)
              have hgd : goodAt W H L (j + 1) = false := by rw [hga]; exact decide_eq_false hyx
              have HBad := Lib.hid (meshG_no (i := j + 1) (by omega) hgd)
              clear hx hy hld hbe hga hgd hyx
              go_wp2_with fail
              first
              | go_region_held3 (fun w' => w'.cell? ⟨w.heap.size, 0, none⟩ = some (.int .i64 W) ∧ w'.cell? ⟨w.heap.size, 1, none⟩ = some (.int .i64 H) ∧ w'.cell? ⟨w.heap.size, 2, none⟩ = some (.slice (some ⟨b, off, none⟩) n cap) ∧ w'.cell? ⟨b, off + (j + 1), none⟩ = some (.int .i64 x) ∧ w'.cell? ⟨b, off + j, none⟩ = some (.int .i64 y))
                  (first | exact ⟨a0, a1, a2, hc, hc2⟩ | exact ⟨d0, d1, d2, dc, dc2⟩)
                  (first | (go_at_call 133; (with_reducible refine (CL.out _).mono ?_); rintro e w2 ⟨rfl, hg2⟩; have hg3 := gb_trans HG.out (gb_undraw hg2); have kk := box_blk hg3; have d0 : w2.cell? ⟨w.heap.size, 0, none⟩ = some (.int .i64 W) := kk.cell 0; have d1 : w2.cell? ⟨w.heap.size, 1, none⟩ = some (.int .i64 H) := kk.cell 1; have d2 : w2.cell? ⟨w.heap.size, 2, none⟩ = some (.slice (some ⟨b, off, none⟩) n cap) := kk.cell 2; have dc := (hg2.cell hc (by simp)); have dc2 := (hg2.cell hc2 (by simp)); have HG3 := Lib.hid hg3; clear hg2 hg3 kk) | fail)
              | fail "held"
              all_goals
                go_wp2_with fail
                go_ret
                exact ⟨ret_bool HBad.out.symm, box_gb HG3.out⟩
      · obtain rfl : k = n := by omega
        clear hia
        go_wp2_with fail
        go_ret
        exact ⟨ret_bool (meshG_yes hok (by rw [hl]; exact HGo.out)).symm, box_gb HG.out⟩
end Go.Proofs.Ytcmlnokfjbglaaa
end

section
namespace Go.Proofs.Ytcmlnokfjbglaaa
open Go.ChangeShapes Go.WideShapes Go.ChangeAt Go.RowKit
set_option linter.unusedVariables false

theorem specMeshOkV (W H : Int) (A : Option Addr) (n cap : Nat) (L : List Int) (b : Bool) (hb : meshG W H L = b) (w : World) (h : IntAt w w.heap.size A n L) (hn : n ≤ 1000000000) :
    Calls Try.prog 118 #[.agg #[.int .i64 W, .int .i64 H, .slice A n cap]] w (RetB b w) := hb ▸ specMeshOk W H A n cap L w h hn

theorem specHasCh (W H : Int) (A : Option Addr) (n cap : Nat) (L : List Int) (c : Int) (w : World) (h : IntAt w w.heap.size A n L) (hn : n ≤ 1000000000) :
    Calls Try.prog 119 #[.agg #[.int .i64 W, .int .i64 H, .slice A n cap], .int .i64 c] w (RetB (hasChG W H L c) w) := by
  have HI := Lib.hid h
  clear h
  cases hld : leadsG W H c with
  | false =>
    go_enter Try.func119, Try.ntmps119
    go_wp2_with fail
    refine (specLeadsV W H c false hld _).mono ?_
    rintro e w1 ⟨rfl, hg⟩
    have Hg := Lib.hid (box_gb hg)
    clear hg
    go_wp2_with fail
    go_ret
    exact ⟨ret_bool (by simp [hasChG, hld]), Hg.out⟩
  | true =>
    obtain ⟨b, hb⟩ : ∃ b, inG L c = b := ⟨_, rfl⟩
    have hr : hasChG W H L c = !b := by simp [hasChG, hld, hb]
    have HR := Lib.hid hr
    clear hr
    go_enter Try.func119, Try.ntmps119
    go_wp2_with fail
    refine (specLeadsV W H c true hld _).mono ?_
    rintro e w1 ⟨rfl, hg⟩
    have hbk := box_blk hg
    have a2 := hbk.cell 2
    simp at a2
    have hi := HI.out.none (Nat.le_refl _) (box_gb hg)
    have Hg := Lib.hid (box_gb hg)
    clear hg hbk
    go_wp2_with fail
    refine (specFindV A n cap w.heap.size L c b hb _ hi hn).mono ?_
    rintro e w2 ⟨rfl, rfl⟩
    clear hi
    go_wp2_with fail
    go_ret
    exact ⟨ret_bool (by rw [HR.out]), Hg.out⟩

theorem specHasChV (W H : Int) (A : Option Addr) (n cap : Nat) (L : List Int) (c : Int) (b : Bool) (hb : hasChG W H L c = b) (w : World) (h : IntAt w w.heap.size A n L) (hn : n ≤ 1000000000) :
    Calls Try.prog 119 #[.agg #[.int .i64 W, .int .i64 H, .slice A n cap], .int .i64 c] w (RetB b w) := hb ▸ specHasCh W H A n cap L c w h hn
end Go.Proofs.Ytcmlnokfjbglaaa
end

section
namespace Go.Proofs.Ytcmlnokfjbglaaa
open Go.ChangeShapes Go.WideShapes Go.ChangeAt Go.RowKit
set_option linter.unusedVariables false

theorem specSized (W H : Int) (A A2 : Option Addr) (n cap n2 c2 : Nat) (L P : List Int) (b : Bool) (hb : sizedG W H L P = b) (w : World) (h : IntAt w w.heap.size A n L) (hn : n ≤ 1000000000) (hp : P.length = n2) (hn2 : n2 ≤ 1000000000) :
    Calls Try.prog 98 #[.agg #[.int .i64 W, .int .i64 H, .slice A n cap], .agg #[.slice A2 n2 c2]] w (RetB b w) := by
  have HI := Lib.hid h
  clear h
  obtain ⟨k, hk⟩ : ∃ k, countG W H = k := ⟨_, rfl⟩
  obtain ⟨hk0, hk1⟩ := countG_le W H
  rw [hk] at hk0 hk1
  obtain ⟨m0, m1⟩ := sq_bounds hk0 hk1
  have hsz : sizedG W H L P = (meshG W H L && decide ((n2 : Int) = k * k)) := by rw [sizedG, hk, hp]
  have hw : wrap64 (k * k) = k * k := IntWalk.wrap64_in _ (by omega)
  have HN := Lib.hid (fun w => specNodeCountV W H k hk w)
  rw [hb] at hsz
  clear hk hk0 hk1 m0 m1 hp hb
  cases hm : meshG W H L with
  | false =>
    have HM := Lib.hid (fun w h => specMeshOkV W H A n cap L false hm w h hn)
    have hf : b = false := by rw [hsz, hm]; rfl
    have HF := Lib.hid hf
    clear hm hf hsz hw
    go_enter Try.func98, Try.ntmps98
    go_wp2_with fail
    refine (HN.out _).mono ?_
    rintro e w1 ⟨rfl, hg⟩
    obtain ⟨k1, k2, g1⟩ := box2 hg
    have a0 : w1.cell? ⟨w.heap.size, 0, none⟩ = some (.int .i64 W) := k1.cell 0
    have a1 : w1.cell? ⟨w.heap.size, 1, none⟩ = some (.int .i64 H) := k1.cell 1
    have a2 : w1.cell? ⟨w.heap.size, 2, none⟩ = some (.slice A n cap) := k1.cell 2
    have hi := (HI.out.none (Nat.le_refl _) g1).more (B' := w1.heap.size) g1.size
    have G1 := Lib.hid g1
    clear hg k1 k2 g1
    go_wp2_with fail
    refine (HM.out _ hi).mono ?_
    rintro e w2 ⟨rfl, hg2⟩
    have G2 := Lib.hid (gb_trans G1.out hg2)
    clear hg2 hi
    go_wp2_with fail
    go_ret
    exact ⟨ret_bool HF.out.symm, G2.out⟩
  | true =>
    have HM := Lib.hid (fun w h => specMeshOkV W H A n cap L true hm w h hn)
    have hf : b = decide ((n2 : Int) = k * k) := by rw [hsz, hm]; rfl
    have HF := Lib.hid hf
    have HW := Lib.hid hw
    clear hm hf hsz hw
    go_enter Try.func98, Try.ntmps98
    go_wp2_with fail
    refine (HN.out _).mono ?_
    rintro e w1 ⟨rfl, hg⟩
    obtain ⟨k1, k2, g1⟩ := box2 hg
    have a0 : w1.cell? ⟨w.heap.size, 0, none⟩ = some (.int .i64 W) := k1.cell 0
    have a1 : w1.cell? ⟨w.heap.size, 1, none⟩ = some (.int .i64 H) := k1.cell 1
    have a2 : w1.cell? ⟨w.heap.size, 2, none⟩ = some (.slice A n cap) := k1.cell 2
    have hi := (HI.out.none (Nat.le_refl _) g1).more (B' := w1.heap.size) g1.size
    have G1 := Lib.hid g1
    have K2 := Lib.hid k2
    clear hg k1 k2 g1
    go_wp2_with fail
    refine (HM.out _ hi).mono ?_
    rintro e w2 ⟨rfl, hg2⟩
    have b0 : w2.cell? ⟨w.heap.size + 1, 0, none⟩ = some (.slice A2 n2 c2) := (K2.out.grown hg2 (by simp)).cell 0
    have G2 := Lib.hid (gb_trans G1.out hg2)
    clear hg2 hi a0 a1 a2
    go_wp2_with fail
    go_ret
    exact ⟨ret_bool (by rw [HF.out]; simp only [HW.out]; rfl), G2.out⟩
end Go.Proofs.Ytcmlnokfjbglaaa
end

section
namespace Go.Proofs.Ytcmlnokfjbglaaa
open Go.ChangeShapes Go.WideShapes Go.ChangeAt Go.RowKit
set_option linter.unusedVariables false
set_option maxRecDepth 20000

/-- A mesh and a table as blocks. -/
def twoB (W H : Int) (A A2 : Option Addr) (n cap n2 c2 : Nat) (w : World) : World := (w.alloc (.cells (meshC W H A n cap) 30)).alloc (.cells #[.slice A2 n2 c2] 32)
section
variable {W H : Int} {A A2 : Option Addr} {n cap n2 c2 : Nat} {w wr : World}
theorem twoB_size : (twoB W H A A2 n cap n2 c2 w).heap.size = w.heap.size + 2 := by unfold twoB; rw [alloc_size, alloc_size]
theorem twoB_below : Below w.heap.size w (twoB W H A A2 n cap n2 c2 w) := ((Below.refl _ _).alloc (Nat.le_refl _) _).alloc (by rw [alloc_size]; omega) _
theorem twoB_mesh (h : Below (w.heap.size + 2) (twoB W H A A2 n cap n2 c2 w) wr) : Blk wr w.heap.size 30 (meshC W H A n cap) :=
  ((Blk.new w 30 (meshC W H A n cap)).alloc _).below h (by omega)
theorem twoB_table (h : Below (w.heap.size + 2) (twoB W H A A2 n cap n2 c2 w) wr) : Blk wr (w.heap.size + 1) 32 #[.slice A2 n2 c2] := by
  have := Blk.new (w.alloc (.cells (meshC W H A n cap) 30)) 32 #[.slice A2 n2 c2]
  rw [alloc_size] at this
  exact this.below h (by omega)
theorem twoB_old (h : Below (w.heap.size + 2) (twoB W H A A2 n cap n2 c2 w) wr) : Below w.heap.size w wr :=
  twoB_below.trans (h.mono (by omega))
theorem twoB_le (h : Below (w.heap.size + 2) (twoB W H A A2 n cap n2 c2 w) wr) : w.heap.size + 2 ≤ wr.heap.size := by have := h.size; rw [twoB_size] at this; exact this
end
theorem new_nil {w wr : World} (h : Below w.heap.size w wr) : (wr.alloc (.cells #[] 3)).ownsRow w.heap.size 3 1 (.slice (some ⟨wr.heap.size, 0, none⟩) 0 0) 0 [] ∧ Below w.heap.size w (wr.alloc (.cells #[] 3)) :=
  ⟨World.ownsRow_made (base := w.heap.size) (e := 3) (size := 1) wr #[] 0 h.size (by decide) rfl, h.alloc h.size _⟩

def lenV : Value → Nat | .slice _ n _ => n | _ => 0
def WalkAt (W H : Int) (A A2 : Option Addr) (n cap n2 c2 : Nat) (w : World) (acc : List Int) (v : Value) (wr : World) : Prop :=
  wr.ownsRow (w.heap.size + 2) 3 1 v acc.length (intsV acc) ∧ Below (w.heap.size + 2) (twoB W H A A2 n cap n2 c2 w) wr

theorem WalkAt.app {W H : Int} {A A2 : Option Addr} {n cap n2 c2 : Nat} {w w3 w4 : World} {acc : List Int} {x : Int} {v v' : Value} {o : Obj} (hb : Below (w.heap.size + 2) (twoB W H A A2 n cap n2 c2 w) w3) (ho : w3.ownsRow (w.heap.size + 2) 3 1 v acc.length (intsV acc))
    (hown4 : w4.ownsRow (w.heap.size + 2) 3 1 v' (acc.length + 1) (intsV acc ++ [.int .i64 x])) (hg : (w3.alloc o).grownBy w4 v.ownBlock) :
    WalkAt W H A A2 n cap n2 c2 w (acc ++ [x]) v' w4 ∧ lenV v' = acc.length + 1 ∧ w4.cell? ⟨w.heap.size, 0, none⟩ = some (.int .i64 W) ∧ w4.cell? ⟨w.heap.size, 1, none⟩ = some (.int .i64 H) := by
  have hX : WalkAt W H A A2 n cap n2 c2 w (acc ++ [x]) v' w4 :=
    ⟨by rw [List.length_append, intsV_append]; exact hown4, (hb.alloc (twoB_le hb) _).grown hg (by have := twoB_le hb; simp; omega) (fun j hj => (ho.lt j hj).1)⟩
  refine ⟨hX, ?_, (twoB_mesh hX.2).cell 0, (twoB_mesh hX.2).cell 1⟩
  obtain ⟨A', c', rfl, _⟩ := own_form hX.1
  simp [lenV]

set_option maxHeartbeats 1600000 in
theorem specWalk (W H : Int) (A A2 : Option Addr) (n cap n2 c2 : Nat) (L P : List Int) (a z : Int) (w : World) (h : IntAt w w.heap.size A n L) (h2 : IntAt w w.heap.size A2 n2 P) (hn : n ≤ 1000000000) (hn2 : n2 ≤ 1000000000)
    (hs : sizedG W H L P = true) (ha : hasG W H a = true) (hz : hasG W H z = true) :
    Calls Try.prog 100 #[.agg #[.int .i64 W, .int .i64 H, .slice A n cap], .agg #[.slice A2 n2 c2], .int .i64 a, .int .i64 z] w (NewI (walkOf W H L P a z) w) := by
  obtain ⟨i0, hi, hz0, hz1, hz2⟩ := info_parts info_int
  have hp := h2.1
  have HI := Lib.hid h
  have HP := Lib.hid h2
  clear h h2
  obtain ⟨k, hk⟩ : ∃ k, countG W H = k := ⟨_, rfl⟩
  obtain ⟨hk0, hk1⟩ := countG_le W H
  rw [hk] at hk0 hk1
  have hsq := (sizedG_mesh hs).2
  rw [hp, hk] at hsq
  have HSQ := Lib.hid hsq
  have HN := Lib.hid (fun w => specNodeCountV W H k hk w)
  have HK := Lib.hid hk
  have hzz := hasG_iff.1 hz
  rw [hk] at hzz
  have HZ := Lib.hid hzz
  have HA := Lib.hid ha
  have HRS := Lib.hid (show walkOf W H L P a z = restG W H L P z [] (k.toNat + 1) a by rw [← hk]; exact (rest_start a z).symm)
  obtain ⟨res, hres⟩ : ∃ res, walkOf W H L P a z = res := ⟨_, rfl⟩
  rw [hres] at HRS ⊢
  have hown0 : ((twoB W H A A2 n cap n2 c2 w).alloc (.cells #[] 3)).ownsRow (w.heap.size + 2) 3 1 (.slice (some ⟨w.heap.size + 2, 0, none⟩) 0 0) 0 [] := by
    have := World.ownsRow_made (base := w.heap.size + 2) (e := 3) (size := 1) (twoB W H A A2 n cap n2 c2 w) #[] 0 (by rw [twoB_size]; exact Nat.le_refl _) (by decide) rfl
    rwa [twoB_size] at this
  have HO0 := Lib.hid hown0
  have HB0 := Lib.hid (show Below (w.heap.size + 2) (twoB W H A A2 n cap n2 c2 w) ((twoB W H A A2 n cap n2 c2 w).alloc (.cells #[] 3)) from (Below.refl _ _).alloc (by rw [twoB_size]; exact Nat.le_refl _) _)
  clear hk hs ha hz hsq hzz hres hown0 hp
  go_enter Try.func100, Try.ntmps100
  go_wp2_with fail
  refine (HN.out _).mono ?_
  rintro e w1 ⟨rfl, hg⟩
  have HX := Lib.hid (show WalkAt W H A A2 n cap n2 c2 w [] (.slice (some ⟨w.heap.size + 2, 0, none⟩) 0 0) w1 from
    ⟨own_none HO0.out hg, below_gb HB0.out (by rw [twoB_size]; exact Nat.le_refl _) hg⟩)
  clear hg
  go_wp2_with fail
  go_loopw [9, 11] (fun v i wr => ∃ (acc : List Int) (x : Int), i = .int .i64 x ∧ (acc.length : Int) ≤ k + 1 ∧ hasG W H x = true ∧ res = restG W H L P z acc (k.toNat + 1 - acc.length) x ∧ WalkAt W H A A2 n cap n2 c2 w acc v wr) (fun v _ _ => 17 - lenV v)
  case atStart => exact ⟨[], a, rfl, by simp; omega, HA.out, HRS.out, HX.out⟩
  case round =>
    obtain ⟨acc, x, rfl, hl, hx, hre, hown, hbel⟩ := hrel
    obtain ⟨Aq, capq, rfl, hAq⟩ := own_form hown
    have HOwn := Lib.hid hown
    have HBel := Lib.hid hbel
    have hl17 : acc.length ≤ 17 := by omega
    have tb := twoB_table hbel
    have b0 : wr.cell? ⟨w.heap.size + 1, 0, none⟩ = some (.slice A2 n2 c2) := tb.cell 0
    have hsw := twoB_le hbel
    have hbo := twoB_old hbel
    have HX := Lib.hid hx
    have HRE := Lib.hid hre
    have HAQ := Lib.hid hAq
    obtain ⟨x0, x1⟩ := hasG_iff.1 hx
    rw [HK.out] at x1
    clear hown hbel tb hx hre hAq
    by_cases hlt : (acc.length : Int) ≤ k
    · obtain ⟨t0, t1⟩ := tab_at HSQ.out x0 x1 HZ.out.1 HZ.out.2
      obtain ⟨j, hj⟩ : ∃ j : Nat, x * k + z = (j : Int) := ⟨(x * k + z).toNat, (Int.toNat_of_nonneg t0).symm⟩
      have hjn : j < n2 := by omega
      have hak := Int.mul_nonneg x0 hk0
      have hz0 := HZ.out.1
      have e1 : wrap64 (x * k) = x * k := IntWalk.wrap64_in _ (by omega)
      have e2 : wrap64 (x * k + z) = (j : Int) := by rw [hj]; exact IntWalk.wrap64_in _ (by omega)
      obtain ⟨b, off, rfl, hbB, hcell⟩ := (HP.out.below hbo).at j hjn
      obtain ⟨p, hpp⟩ : ∃ p, P.getD j 0 = p := ⟨_, rfl⟩
      rw [hpp] at hcell
      have htab : tabG (countG W H) P x z = p := by unfold tabG; rw [HK.out, hj, Int.toNat_natCast]; exact hpp
      obtain ⟨f, hf⟩ : ∃ f, k.toNat + 1 - acc.length = f + 1 := ⟨k.toNat - acc.length, by omega⟩
      have hre := HRE.out
      rw [hf] at hre
      have HF := Lib.hid hf
      have HT := Lib.hid htab
      have HRE2 := Lib.hid hre
      have HHJ := Lib.hid hj
      have x16 : x ≤ 15 := by omega
      have HBO := Lib.hid hbo
      have j0 : (0 : Int) ≤ (j : Int) := by omega
      have j1 : (j : Int) < (n2 : Int) := by omega
      clear hj hpp htab hf hre t0 t1 hak hz0 hbo
      by_cases h4 : p = 4
      · subst h4
        by_cases hxz : x = z
        · have hxb : (x != z) = false := by simpa using hxz
          have HF2 := Lib.hid (HRE2.out.trans (rest_end HT.out hxz))
          clear hxz
          go_wp2_with fail
          go_ret
          refine ⟨_, rfl, ?_, HBO.out⟩
          rw [HF2.out]
          exact own_less HOwn.out (by omega)
        · have hxb : (x != z) = true := by simpa using hxz
          have HF2 := Lib.hid (HRE2.out.trans (rest_lost HT.out hxz))
          clear hxz
          go_wp2_with fail
          go_ret
          obtain ⟨o, b⟩ := new_nil HBO.out
          refine ⟨_, rfl, ?_, b⟩
          rw [HF2.out]
          exact o
      · have h4b : (p == 4) = false := by simpa using h4
        have H4 := Lib.hid h4
        clear h4
        by_cases h03 : 0 ≤ p ∧ p ≤ 3
        · have HIN := Lib.hid (fun w => specInV p 0 3 true (decide_eq_true h03) w)
          obtain ⟨p0, p3⟩ := h03
          have hi2 := (HI.out.below HBO.out).more (B' := wr.heap.size) (by omega)
          have tm := twoB_mesh HBel.out
          have a0 : wr.cell? ⟨w.heap.size, 0, none⟩ = some (.int .i64 W) := tm.cell 0
          have a1 : wr.cell? ⟨w.heap.size, 1, none⟩ = some (.int .i64 H) := tm.cell 1
          have a2 : wr.cell? ⟨w.heap.size, 2, none⟩ = some (.slice A n cap) := tm.cell 2
          have TM := Lib.hid tm
          clear tm
          cases hc : hasChG W H L (4 * x + p) with
          | false =>
            have HC := Lib.hid (fun w h => specHasChV W H A n cap L (4 * x + p) false hc w h hn)
            have HF2 := Lib.hid (HRE2.out.trans (rest_bad HT.out H4.out (by simp [stepsG, hc])))
            clear hc
            go_wp2_with fail
            refine (HIN.out _).mono ?_
            rintro e w2 ⟨rfl, rfl⟩
            go_wp2_with fail
            refine (HC.out _ hi2).mono ?_
            rintro e w3 ⟨rfl, hg3⟩
            have G3 := Lib.hid (gb_below_none hg3 (Nat.le_trans HBO.out.size (Nat.le_refl _)))
            clear hg3 hi2
            go_wp2_with fail
            go_ret
            obtain ⟨o, b⟩ := new_nil (HBO.out.trans G3.out)
            refine ⟨_, rfl, ?_, b⟩
            rw [HF2.out]
            exact o
          | true =>
            have hst : stepsG W H L x p = true := by simp [stepsG, hc, p0, p3]
            have HC := Lib.hid (fun w h => specHasChV W H A n cap L (4 * x + p) true hc w h hn)
            have HF2 := Lib.hid (HRE2.out.trans (rest_go HT.out H4.out hst))
            have HNX := Lib.hid (step_has hst)
            obtain ⟨y, hy⟩ : ∃ y, nextG W H x p = y := ⟨_, rfl⟩
            rw [hy] at HF2 HNX
            have HNN := Lib.hid (fun w => specNextNodeV W H x p y hy w)
            clear hc hst hy
            go_wp2_with fail
            refine (HIN.out _).mono ?_
            rintro e w2 ⟨rfl, rfl⟩
            go_wp2_with fail
            refine (HC.out _ hi2).mono ?_
            rintro e w3 ⟨rfl, hg3⟩
            have G3 := Lib.hid hg3
            have hown1 := own_none HOwn.out hg3
            have hsz1 : w.heap.size + 2 ≤ w3.heap.size := Nat.le_trans hsw hg3.size
            have b3' := Lib.hid (show ∀ u ∈ [Value.int .i64 (4 * x + p)], u.oneCell' = true by simp [Value.oneCell'])
            have b4' := Lib.hid (show acc.length + 1 ≤ maxLen by unfold maxLen; omega)
            clear hg3 hi2 a0 a1 a2 b0
            go_wp2_with (at_builtin; refine wpList_append_own _ rfl _ _ 28 rfl (w.heap.size + 2) 3 i0 (.int .i64 0) 1 8 Try.underlying28 hi hz0 hz1 hz2 rfl (by decide) _ acc.length _ rfl (hown1.alloc _) ⟨w3.heap.size, 0, none⟩ 1 1 [.int .i64 (4 * x + p)] rfl rfl (World.news_of_block (cs := #[.int .i64 (4 * x + p)]) (t := 3) (fr := (0, 0)) (heap_alloc_new w3 _)) b3'.out b4'.out (by omega) (by simp; omega) ?_; intro v' w4 hown4 hgrow4 _; obtain ⟨xa, xl, a0, a1⟩ := WalkAt.app (below_gb HBel.out (by rw [twoB_size]; exact Nat.le_refl _) G3.out) hown1 hown4 hgrow4; have HXA := Lib.hid xa; have HLV := Lib.hid xl; clear xa xl hown4 hgrow4)
            refine (HNN.out _).mono ?_
            rintro e w5 ⟨rfl, hg5⟩
            have G5 := Lib.hid hg5
            clear hg5 a0 a1
            go_wp2_with fail
            go_roundw
            case rel => exact ⟨acc ++ [4 * x + p], y, rfl, by simp; omega, HNX.out, by rw [HF2.out]; congr 1; have := HF.out; simp; omega, own_none HXA.out.1 G5.out, below_gb HXA.out.2 (by rw [twoB_size]; exact Nat.le_refl _) G5.out⟩
            case measure => rw [HLV.out]; simp [lenV]; omega
        · have HIN := Lib.hid (fun w => specInV p 0 3 false (decide_eq_false h03) w)
          have HF2 := Lib.hid (HRE2.out.trans (rest_bad HT.out H4.out (by simp [stepsG]; intro u v; exact absurd ⟨u, v⟩ h03)))
          clear h03
          go_wp2_with fail
          refine (HIN.out _).mono ?_
          rintro e w2 ⟨rfl, rfl⟩
          go_wp2_with fail
          go_ret
          obtain ⟨o, b⟩ := new_nil HBO.out
          refine ⟨_, rfl, ?_, b⟩
          rw [HF2.out]
          exact o
    · have hf : k.toNat + 1 - acc.length = 0 := by omega
      have hre := HRE.out
      rw [hf, rest_zero] at hre
      have HF2 := Lib.hid hre
      have HBO := Lib.hid hbo
      clear hf hre hbo
      go_wp2_with fail
      go_ret
      obtain ⟨o, b⟩ := new_nil HBO.out
      refine ⟨_, rfl, ?_, b⟩
      rw [HF2.out]
      exact o
end Go.Proofs.Ytcmlnokfjbglaaa
end

section
namespace Go.Proofs.Ytcmlnokfjbglaaa
open Go.ChangeShapes Go.WideShapes Go.ChangeAt Go.RowKit
set_option linter.unusedVariables false
set_option maxRecDepth 20000

theorem IntAt.two {w : World} {A A2 B : Option Addr} {n cap n2 c2 m : Nat} {W H : Int} {L : List Int} (h : IntAt w w.heap.size B m L) : IntAt (twoB W H A A2 n cap n2 c2 w) (twoB W H A A2 n cap n2 c2 w).heap.size B m L :=
  (h.below twoB_below).more (by rw [twoB_size]; omega)
theorem IntAt.old {w wr : World} {A A2 B : Option Addr} {n cap n2 c2 m : Nat} {W H : Int} {L : List Int} (h : IntAt w w.heap.size B m L) (hb : Below (w.heap.size + 2) (twoB W H A A2 n cap n2 c2 w) wr) : IntAt wr wr.heap.size B m L :=
  (h.below (twoB_old hb)).more (by have := twoB_le hb; omega)
theorem NewI.old {w wr w' : World} {A A2 : Option Addr} {n cap n2 c2 : Nat} {W H : Int} {L : List Int} {v : Value} (hb : Below (w.heap.size + 2) (twoB W H A A2 n cap n2 c2 w) wr) (ho : w'.ownsRow wr.heap.size 3 1 v L.length (intsV L)) (hw : Below wr.heap.size wr w') : NewI L w (.returned v) w' :=
  ⟨v, rfl, own_less ho (by have := twoB_le hb; omega), (twoB_old hb).trans (hw.mono (by have := twoB_le hb; omega))⟩
theorem below_two {w w1 : World} {A A2 : Option Addr} {n cap n2 c2 : Nat} {W H : Int} (h : (twoB W H A A2 n cap n2 c2 w).grownBy w1 none) : Below (w.heap.size + 2) (twoB W H A A2 n cap n2 c2 w) w1 := gb_below_none h (by rw [twoB_size]; exact Nat.le_refl _)
theorem below_then {w wr w1 : World} {A A2 : Option Addr} {n cap n2 c2 : Nat} {W H : Int} (hb : Below (w.heap.size + 2) (twoB W H A A2 n cap n2 c2 w) wr) (h : wr.grownBy w1 none) : Below (w.heap.size + 2) (twoB W H A A2 n cap n2 c2 w) w1 := below_gb hb (by rw [twoB_size]; exact Nat.le_refl _) h
end Go.Proofs.Ytcmlnokfjbglaaa
end

section
namespace Go.Proofs.Ytcmlnokfjbglaaa
open Go.ChangeShapes Go.WideShapes Go.ChangeAt Go.RowKit
set_option linter.unusedVariables false
set_option maxRecDepth 20000

def TabAt (W H : Int) (A A2 : Option Addr) (n cap n2 c2 : Nat) (L P : List Int) (w : World) (a b : Nat) (wr : World) : Prop :=
  pairsTo W H L P a b ∧ Below (w.heap.size + 2) (twoB W H A A2 n cap n2 c2 w) wr
theorem specTableOk (W H : Int) (A A2 : Option Addr) (n cap n2 c2 : Nat) (L P : List Int) (w : World) (h : IntAt w w.heap.size A n L) (h2 : IntAt w w.heap.size A2 n2 P) (hn : n ≤ 1000000000) (hn2 : n2 ≤ 1000000000) :
    Calls Try.prog 68 #[.agg #[.int .i64 W, .int .i64 H, .slice A n cap], .agg #[.slice A2 n2 c2]] w (RetB (tableG W H L P) w) := by
  have hp := h2.1
  have HI := Lib.hid h
  have HP := Lib.hid h2
  have HT := Lib.hid (show IntAt (twoB W H A A2 n cap n2 c2 w) (twoB W H A A2 n cap n2 c2 w).heap.size A n L from h.two)
  clear h h2
  cases hs : sizedG W H L P with
  | false =>
    have HS := Lib.hid (fun w h => specSized W H A A2 n cap n2 c2 L P false hs w h hn hp hn2)
    have HF := Lib.hid (tableG_unsized hs)
    clear hs
    go_enter Try.func68, Try.ntmps68
    go_wp2_with fail
    refine (HS.out _ HT.out).mono ?_
    rintro e w1 ⟨rfl, hg⟩
    have G1 := Lib.hid (box2 hg).2.2
    clear hg
    go_wp2_with fail
    go_ret
    exact ⟨ret_bool HF.out.symm, G1.out⟩
  | true =>
    have HS := Lib.hid (fun w h => specSized W H A A2 n cap n2 c2 L P true hs w h hn hp hn2)
    obtain ⟨k, hk⟩ : ∃ k, countG W H = k := ⟨_, rfl⟩
    obtain ⟨hk0, hk1⟩ := countG_le W H
    rw [hk] at hk0 hk1
    have hsq := (sizedG_mesh hs).2
    rw [hp, hk] at hsq
    have HSQ := Lib.hid hsq
    have HN := Lib.hid (fun w => specNodeCountV W H k hk w)
    have HK := Lib.hid hk
    have HSZ := Lib.hid hs
    clear hk hs hsq hp
    go_enter Try.func68, Try.ntmps68
    go_wp2_with fail
    refine (HS.out _ HT.out).mono ?_
    rintro e w1 ⟨rfl, hg⟩
    have B1 := Lib.hid (below_two hg)
    clear hg
    have a0 : w1.cell? ⟨w.heap.size, 0, none⟩ = some (.int .i64 W) := (twoB_mesh B1.out).cell 0
    have a1 : w1.cell? ⟨w.heap.size, 1, none⟩ = some (.int .i64 H) := (twoB_mesh B1.out).cell 1
    go_wp2_with fail
    refine (HN.out _).mono ?_
    rintro e w2 ⟨rfl, hg⟩
    have X2 := Lib.hid (show TabAt W H A A2 n cap n2 c2 L P w 0 0 w2 from ⟨pairs_zero, below_then B1.out hg⟩)
    clear hg a0 a1
    go_wp2_with fail
    go_loopw [6] (fun i wr => ∃ x : Nat, i = .int .i64 (x : Int) ∧ (x : Int) ≤ k ∧ TabAt W H A A2 n cap n2 c2 L P w x 0 wr) (fun i _ => 17 - (intOf i).toNat)
    case atStart => exact ⟨0, rfl, by omega, X2.out⟩
    case round =>
      obtain ⟨x, rfl, hx, hpr, hbel⟩ := hrel
      have HX := Lib.hid (show TabAt W H A A2 n cap n2 c2 L P w x 0 wr from ⟨hpr, hbel⟩)
      have BX := Lib.hid hbel
      clear hpr hbel
      by_cases hlt : (x : Int) < k
      · go_wp2_with fail
        go_loopw [7] (fun i ws => ∃ y : Nat, i = .int .i64 (y : Int) ∧ (y : Int) ≤ k ∧ TabAt W H A A2 n cap n2 c2 L P w x y ws) (fun i _ => 17 - (intOf i).toNat)
        case atStart => exact ⟨0, rfl, by omega, HX.out⟩
        case round =>
          obtain ⟨y, rfl, hy, hpr, hbel⟩ := hrel
          have HPR := Lib.hid hpr
          have BY := Lib.hid hbel
          clear hpr hbel
          by_cases hly : (y : Int) < k
          · by_cases hxy : x = y
            · subst hxy
              obtain ⟨t0, t1⟩ := tab_at HSQ.out (Int.natCast_nonneg x) hlt (Int.natCast_nonneg x) hlt
              obtain ⟨j, hj⟩ : ∃ j : Nat, (x : Int) * k + x = (j : Int) := ⟨((x : Int) * k + x).toNat, (Int.toNat_of_nonneg t0).symm⟩
              have hjn : j < n2 := by omega
              have hak := Int.mul_nonneg (Int.natCast_nonneg x) hk0
              have e1 : wrap64 ((x : Int) * k) = (x : Int) * k := IntWalk.wrap64_in _ (by omega)
              have e2 : wrap64 ((x : Int) * k + x) = (j : Int) := by rw [hj]; exact IntWalk.wrap64_in _ (by omega)
              have hold := twoB_old BY.out
              obtain ⟨b, off, rfl, hbB, hcell⟩ := (HP.out.below hold).at j hjn
              obtain ⟨p, hpp⟩ : ∃ p, P.getD j 0 = p := ⟨_, rfl⟩
              rw [hpp] at hcell
              have htab : tabG (countG W H) P x x = p := by unfold tabG; rw [HK.out, hj, Int.toNat_natCast]; exact hpp
              have hen := entry_same (W := W) (H := H) (L := L) (P := P) (a := (x : Int))
              rw [htab] at hen
              have j0 : (0 : Int) ≤ (j : Int) := by omega
              have j1 : (j : Int) < (n2 : Int) := by omega
              have b0 : wr.cell? ⟨w.heap.size + 1, 0, none⟩ = some (.slice (some ⟨b, off, none⟩) n2 c2) := (twoB_table BY.out).cell 0
              by_cases h4 : p = 4
              · have hb4 : (p != 4) = false := by simpa using h4
                have HE := Lib.hid (pairs_next HPR.out (hen.trans (decide_eq_true h4)))
                clear hj hpp htab hen h4 t0 t1 hak hold
                go_wp2_with fail
                go_roundw
                case rel => exact ⟨x + 1, by go_num, by omega, HE.out, BY.out⟩
                case measure => simp [intOf]; omega
              · have hb4 : (p != 4) = true := by simpa using h4
                have HE := Lib.hid (tableG_no (W := W) (H := H) (L := L) (P := P) (a := x) (b := x) (by rw [HK.out]; exact hlt) (by rw [HK.out]; exact hlt) (hen.trans (decide_eq_false h4)))
                clear hj hpp htab hen h4 t0 t1 hak hold
                go_wp2_with fail
                go_ret
                exact ⟨ret_bool HE.out.symm, gb_of_below (twoB_old BY.out) none⟩
            · have hb1 : ((x : Int) == (y : Int)) = false := by simp; omega
              have hb2 : ((x : Int) != (y : Int)) = true := by simp; omega
              have hax : hasG W H (x : Int) = true := hasG_iff.2 ⟨by omega, by rw [HK.out]; exact hlt⟩
              have hay : hasG W H (y : Int) = true := hasG_iff.2 ⟨by omega, by rw [HK.out]; exact hly⟩
              have HWK := Lib.hid (fun w h h2 => specWalk W H A A2 n cap n2 c2 L P x y w h h2 hn hn2 HSZ.out hax hay)
              have hen := entry_two (W := W) (H := H) (L := L) (P := P) (a := (x : Int)) (b := (y : Int)) (by omega)
              have HEN := Lib.hid hen
              have a0 : wr.cell? ⟨w.heap.size, 0, none⟩ = some (.int .i64 W) := (twoB_mesh BY.out).cell 0
              have a1 : wr.cell? ⟨w.heap.size, 1, none⟩ = some (.int .i64 H) := (twoB_mesh BY.out).cell 1
              have a2 : wr.cell? ⟨w.heap.size, 2, none⟩ = some (.slice A n cap) := (twoB_mesh BY.out).cell 2
              have b0 : wr.cell? ⟨w.heap.size + 1, 0, none⟩ = some (.slice A2 n2 c2) := (twoB_table BY.out).cell 0
              have hi2 := HI.out.old BY.out
              have hp2 := HP.out.old BY.out
              clear hen hax hay
              go_wp2_with fail
              refine (HWK.out _ hi2 hp2).mono ?_
              rintro e w4 ⟨v, rfl, o4, b4⟩
              obtain ⟨A4, c4, rfl, _⟩ := own_form o4
              have B4 := Lib.hid (below_then BY.out (gb_of_below b4 none))
              obtain ⟨wl, hwl⟩ : ∃ q, walkOf W H L P x y = q := ⟨_, rfl⟩
              rw [hwl] at HEN
              have hlen : wl.length ≤ 16 := by rw [← hwl]; exact walkOf_len _ _
              clear o4 b4 hi2 hp2 a0 a1 a2 b0
              rw [hwl]
              clear hwl
              cases wl with
              | nil =>
                have HE := Lib.hid (tableG_no (W := W) (H := H) (L := L) (P := P) (a := x) (b := y) (by rw [HK.out]; exact hlt) (by rw [HK.out]; exact hly) (HEN.out.trans rfl))
                simp only [List.length_nil]
                go_wp2_with fail
                go_ret
                exact ⟨ret_bool HE.out.symm, gb_of_below (twoB_old B4.out) none⟩
              | cons c cs =>
                have HE := Lib.hid (pairs_next HPR.out (HEN.out.trans rfl))
                obtain ⟨q, hq⟩ : ∃ q, (c :: cs).length = q := ⟨_, rfl⟩
                have hq0 : ((q : Int) == 0) = false := by rw [← hq]; simp; omega
                rw [hq] at hlen ⊢
                clear hq
                go_wp2_with fail
                go_roundw
                case rel => exact ⟨y + 1, by go_num, by omega, HE.out, B4.out⟩
                case measure => simp [intOf]; omega
          · obtain ⟨e1, e2⟩ : (y : Int) = k ∧ True := ⟨by omega, trivial⟩
            have HE := Lib.hid (pairs_row HPR.out (by rw [HK.out]; exact e1))
            clear e1 e2
            go_wp2_with fail
            go_roundw
            case rel => exact ⟨x + 1, by go_num, by omega, HE.out, BY.out⟩
            case measure => simp [intOf]; omega
      · have hxk : (x : Int) = k := by omega
        have HE := Lib.hid (tableG_yes HSZ.out HX.out.1 (by rw [HK.out]; exact hxk))
        clear hxk
        go_wp2_with fail
        go_ret
        exact ⟨ret_bool HE.out.symm, gb_of_below (twoB_old BX.out) none⟩
end Go.Proofs.Ytcmlnokfjbglaaa
end

section
namespace Go.Proofs.Ytcmlnokfjbglaaa
open Go.ChangeShapes Go.WideShapes Go.ChangeAt Go.RowKit
set_option linter.unusedVariables false

theorem specTableOkV (W H : Int) (A A2 : Option Addr) (n cap n2 c2 : Nat) (L P : List Int) (b : Bool) (hb : tableG W H L P = b) (w : World) (h : IntAt w w.heap.size A n L) (h2 : IntAt w w.heap.size A2 n2 P) (hn : n ≤ 1000000000) (hn2 : n2 ≤ 1000000000) :
    Calls Try.prog 68 #[.agg #[.int .i64 W, .int .i64 H, .slice A n cap], .agg #[.slice A2 n2 c2]] w (RetB b w) := hb ▸ specTableOk W H A A2 n cap n2 c2 L P w h h2 hn hn2
theorem below_undrew3 {B : Nat} {a b : World} (h : Below B a.drew b) : Below B a b := ⟨h.os, h.tape, h.output, h.size, h.block⟩
end Go.Proofs.Ytcmlnokfjbglaaa
end

section
namespace Go.Proofs.Ytcmlnokfjbglaaa
open Go.ChangeShapes Go.WideShapes Go.ChangeAt Go.RowKit
set_option linter.unusedVariables false
set_option maxRecDepth 20000

/-- The list so far, above the boxes of the mesh and the table. -/
def DsS (W H : Int) (A A2 : Option Addr) (n cap n2 c2 : Nat) (w : World) (D : List Dep) (v : Value) (wr : World) : Prop := DvAt (w.heap.size + 2) (twoB W H A A2 n cap n2 c2 w) D v wr
section
variable {W H : Int} {A A2 : Option Addr} {n cap n2 c2 : Nat} {w wr w' : World} {D D' : List Dep} {v v' : Value}
theorem DsS.gb (h : DsS W H A A2 n cap n2 c2 w D v wr) (hg : wr.grownBy w' none) : DsS W H A A2 n cap n2 c2 w D v w' := DvAt.gb h hg
theorem DsS.cells (h : DsS W H A A2 n cap n2 c2 w D v wr) : wr.cell? ⟨w.heap.size, 0, none⟩ = some (.int .i64 W) ∧ wr.cell? ⟨w.heap.size, 1, none⟩ = some (.int .i64 H) ∧ wr.cell? ⟨w.heap.size, 2, none⟩ = some (.slice A n cap) ∧ wr.cell? ⟨w.heap.size + 1, 0, none⟩ = some (.slice A2 n2 c2) :=
  ⟨(twoB_mesh h.2.2.2).cell 0, (twoB_mesh h.2.2.2).cell 1, (twoB_mesh h.2.2.2).cell 2, (twoB_table h.2.2.2).cell 0⟩
theorem DsS.new (h : DsS W H A A2 n cap n2 c2 w D v wr) {E : List Dep} (hE : D = E) : NewD E w (.returned v) wr := by
  subst hE
  exact ⟨v, rfl, own_less h.2.1 (by omega), twoB_old h.2.2.2⟩
end

set_option maxHeartbeats 1600000 in
theorem specDependsOf (W H : Int) (A A2 : Option Addr) (n cap n2 c2 : Nat) (L P : List Int) (w : World) (h : IntAt w w.heap.size A n L) (h2 : IntAt w w.heap.size A2 n2 P) (hn : n ≤ 1000000000) (hn2 : n2 ≤ 1000000000) :
    Calls Try.prog 77 #[.agg #[.int .i64 W, .int .i64 H, .slice A n cap], .agg #[.slice A2 n2 c2]] w (NewD (depG W H L P) w) := by
  have X0 := Lib.hid (show DsS W H A A2 n cap n2 c2 w [] _ _ from DvAt.start (B := w.heap.size + 2) (twoB W H A A2 n cap n2 c2 w) (by rw [twoB_size]; exact Nat.le_refl _))
  rw [twoB_size] at X0
  have HI := Lib.hid h
  have HP := Lib.hid h2
  have HT := Lib.hid (h.old X0.out.2.2.2)
  have HT2 := Lib.hid (h2.old X0.out.2.2.2)
  clear h h2
  cases ht : tableG W H L P with
  | false =>
    have HS := Lib.hid (fun w h h2 => specTableOkV W H A A2 n cap n2 c2 L P false ht w h h2 hn hn2)
    have HF := Lib.hid (depG_no ht)
    clear ht
    go_enter Try.func77, Try.ntmps77
    go_wp2_with fail
    refine (HS.out _ HT.out HT2.out).mono ?_
    rintro e w1 ⟨rfl, hg⟩
    have X1 := Lib.hid (X0.out.gb hg)
    clear hg
    go_wp2_with fail
    go_ret
    exact X1.out.new HF.out.symm
  | true =>
    have HS := Lib.hid (fun w h h2 => specTableOkV W H A A2 n cap n2 c2 L P true ht w h h2 hn hn2)
    have HF := Lib.hid (depG_yes ht)
    obtain ⟨k, hk⟩ : ∃ k, countG W H = k := ⟨_, rfl⟩
    obtain ⟨hk0, hk1⟩ := countG_le W H
    have hsq := sq_int W H
    have hsq2 := sqG_le (W := W) (H := H)
    rw [hk] at hk0 hk1 hsq
    obtain ⟨m0, m1⟩ := sq_bounds hk0 hk1
    have HSQ := Lib.hid hsq
    have hw : wrap64 (k * k) = k * k := IntWalk.wrap64_in _ (by omega)
    have HN := Lib.hid (fun w => specNodeCountV W H k hk w)
    have HK := Lib.hid hk
    have HSZ := Lib.hid (tableG_sized ht)
    clear hk ht hsq
    go_enter Try.func77, Try.ntmps77
    go_wp2_with fail
    refine (HS.out _ HT.out HT2.out).mono ?_
    rintro e w1 ⟨rfl, hg⟩
    have X1 := Lib.hid (X0.out.gb hg)
    obtain ⟨a0, a1, a2, a3⟩ := X1.out.cells
    clear hg
    go_wp2_with fail
    refine (HN.out _).mono ?_
    rintro e w2 ⟨rfl, hg⟩
    have X2 := Lib.hid (show DsS W H A A2 n cap n2 c2 w (allD W H L P 0) _ w2 from X1.out.gb hg)
    clear hg a0 a1 a2 a3
    go_wp2_with fail
    go_loopw [5, 7] (fun v i wr => ∃ x : Nat, i = .int .i64 (x : Int) ∧ (x : Int) ≤ k * k ∧ DsS W H A A2 n cap n2 c2 w (allD W H L P x) v wr) (fun _ i _ => 257 - (intOf i).toNat)
    case atStart => exact ⟨0, rfl, by omega, X2.out⟩
    case round =>
      obtain ⟨x, rfl, hx, hxx⟩ := hrel
      have X3 := Lib.hid hxx
      obtain ⟨gv0, cv0, rfl⟩ := hxx.1
      clear hxx
      by_cases hlt : (x : Int) < k * k
      · obtain ⟨hax, hay⟩ := pair_at (W := W) (H := H) (i := x) (by have := HSQ.out; omega)
        have hk1' : 1 ≤ k := by
          rcases Int.lt_or_le k 1 with h | h
          · have : k = 0 := by omega
            subst this; omega
          · exact h
        obtain ⟨u, hu⟩ : ∃ u, (x : Int) / countG W H = u := ⟨_, rfl⟩
        obtain ⟨y, hy⟩ : ∃ y, (x : Int) % countG W H = y := ⟨_, rfl⟩
        obtain ⟨R, hR⟩ : ∃ R, pairW W H L P x = R := ⟨_, rfl⟩
        have hRN := pairW_len (W := W) (H := H) (L := L) (P := P) x
        have HAN := Lib.hid (allD_next hR)
        have HASC := Lib.hid (fun j => insAll_asc (allD_asc (W := W) (H := H) (L := L) (P := P) x) (wayD R j))
        have HLEN := Lib.hid (fun j hj => ins_len (W := W) (H := H) (L := L) (P := P) (k := x) (j := j) (R := R) (by have := HSQ.out; omega) hj)
        rw [hR] at hRN
        have hRw : walkOf W H L P u y = R := by rw [← hR, pairW, hu, hy]
        rw [hu] at hax
        rw [hy] at hay
        have hu15 := hasG_le hax
        have hy15 := hasG_le hay
        rw [HK.out] at hu hy
        have q1 : (x : Int).tdiv k = u := by rw [Int.tdiv_eq_ediv_of_nonneg (by omega)]; exact hu
        have q2 : (x : Int).tmod k = y := by rw [Int.tmod_eq_emod_of_nonneg (by omega)]; exact hy
        have q3 : IntKind.i64.wrap u = u := IntWalk.i64_in _ (by omega)
        have q4 : IntKind.i64.wrap y = y := IntWalk.i64_in _ (by omega)
        have q5 : (k == 0) = false := by simp; omega
        have q6 : k ≠ 0 := by omega
        have HWK := Lib.hid (fun w h h2 => hRw ▸ specWalk W H A A2 n cap n2 c2 L P u y w h h2 hn hn2 HSZ.out hax hay)
        obtain ⟨a0, a1, a2, a3⟩ := X3.out.cells
        have HI2 : Hid (IntAt wr.drew wr.drew.heap.size A n L) := (HI.out.old X3.out.2.2.2 : IntAt wr wr.heap.size A n L)
        have HP2 : Hid (IntAt wr.drew wr.drew.heap.size A2 n2 P) := (HP.out.old X3.out.2.2.2 : IntAt wr wr.heap.size A2 n2 P)
        obtain ⟨N, hN⟩ : ∃ N, R.length = N := ⟨_, rfl⟩
        have HN2 := Lib.hid hN
        obtain ⟨D, hD⟩ : ∃ D, allD W H L P x = D := ⟨_, rfl⟩
        rw [hD] at X3 HAN HASC HLEN
        rw [hD]
        have HLE := Lib.hid (show w.heap.size + 2 ≤ wr.heap.size from X3.out.le)
        clear hax hay hu hy hR hRw hD
        go_wp2_with fail
        go_region_held3 (fun w' => w'.cell? ⟨w.heap.size, 0, none⟩ = some (.int .i64 W) ∧ w'.cell? ⟨w.heap.size, 1, none⟩ = some (.int .i64 H) ∧ w'.cell? ⟨w.heap.size, 2, none⟩ = some (.slice A n cap) ∧ w'.cell? ⟨w.heap.size + 1, 0, none⟩ = some (.slice A2 n2 c2))
          (first | exact ⟨a0, a1, a2, a3⟩ | exact ⟨d0, d1, d2, d3⟩)
          (first
            | (go_at_call 100; (with_reducible refine (HWK.out _ HI2.out HP2.out).mono ?_); rintro e w4 ⟨v, rfl, o4, b4⟩; have X4 := Lib.hid (X3.out.gb (gb_of_below (below_undrew3 b4) none)); obtain ⟨d0, d1, d2, d3⟩ := X4.out.cells; have O4 := Lib.hid (own_less o4 HLE.out); obtain ⟨AR, capR, rfl, har⟩ := own_form o4; have HAR := Lib.hid har; clear o4 b4 har; rw [hN])
            | fail)
        all_goals
          have X6 := Lib.hid (show DsS W H A A2 n cap n2 c2 w (insAll D (wayD R 0)) _ w4 from X4.out)
          rw [hN] at O4 HAR hRN
          clear d0 d1 d2 d3 hN X4 q1 q2 q3 q4 q5 q6 a0 a1 a2 a3
          go_wp2_with fail
          go_loopw [5, 9] (fun v i ws => ∃ j : Nat, i = .int .i64 ((j : Int) + 1) ∧ j ≤ N - 1 ∧ DsS W H A A2 n cap n2 c2 w (insAll D (wayD R j)) v ws ∧ ws.ownsRow (w.heap.size + 2) 3 1 (.slice AR N capR) N (intsV R)) (fun _ i _ => 17 - (intOf i).toNat)
          case atStart => exact ⟨0, rfl, Nat.zero_le _, X6.out, O4.out⟩
          case round =>
            obtain ⟨j, rfl, hj, hx, ho⟩ := hrel
            have X7 := Lib.hid hx
            have O7 := Lib.hid ho
            obtain ⟨gv, cv, rfl⟩ := hx.1
            clear hx ho
            by_cases hlt3 : j + 1 < N
            · have hl3 : (j : Int) + 1 < (N : Int) := by omega
              obtain ⟨gr, hgr⟩ := HAR.out (by omega)
              subst hgr
              obtain ⟨x1, hx1⟩ : ∃ z, R.getD j 0 = z := ⟨_, rfl⟩
              obtain ⟨x2, hx2⟩ : ∃ z, R.getD (j + 1) 0 = z := ⟨_, rfl⟩
              have c1 := ints_cell O7.out j x1 (by rw [← hx1, List.getD, List.getElem?_eq_getElem (by rw [HN2.out]; omega)]; rfl) HN2.out
              have c2' := ints_cell O7.out (j + 1) x2 (by rw [← hx2, List.getD, List.getElem?_eq_getElem (by rw [HN2.out]; omega)]; rfl) HN2.out
              have hwn := Lib.hid (ins_way (D := D) hx1 hx2)
              obtain ⟨E, hE⟩ : ∃ E, insAll D (wayD R j) = E := ⟨_, rfl⟩
              have hEA := HASC.out j
              have hEL := HLEN.out j (by omega)
              rw [hE] at X7 hwn hEA hEL
              rw [hE]
              have HA := Lib.hid (fun (w' : World) (h : w'.ownsRow (w.heap.size + 2) 39 2 (.slice (some ⟨gv, 0, none⟩) E.length cv) E.length (depV E)) (hb : w.heap.size + 2 ≤ w'.heap.size) => specPut (w.heap.size + 2) E.length gv cv E (x1, x2) hEA w' h hb (by omega))
              obtain ⟨m, hm⟩ : ∃ m : Nat, j + 1 = m := ⟨_, rfl⟩
              have hmi : (j : Int) + 1 = (m : Int) := by omega
              rw [hm] at c2'
              have j0 : (0 : Int) ≤ (j : Int) := by omega
              have j1 : (j : Int) < (N : Int) := by omega
              have j2 : (0 : Int) ≤ (m : Int) := by omega
              have j3 : (m : Int) < (N : Int) := by omega
              have e2 : IntKind.i64.wrap ((m : Int) - 1) = (j : Int) := by rw [IntWalk.i64_in _ (by omega)]; omega
              have HMM := Lib.hid (And.intro hm hlt3)
              rw [hmi]
              clear hx1 hx2 hl3 hlt3 hmi hm hE hEA hEL
              go_wp2_with fail
              go_region_held3 (fun w' => w'.cell? ⟨gr, j, none⟩ = some (.int .i64 x1) ∧ w'.cell? ⟨gr, m, none⟩ = some (.int .i64 x2))
                (first | exact ⟨c1, c2'⟩ | exact ⟨d1, d2⟩ | fail)
                (first
                  | (go_at_call 63; (with_reducible refine (HA.out _ ?_ ?_).mono ?_); exact own_none X7.out.2.1 (gb_drew (gb_refl _ _)); exact X7.out.le; rintro e w7 ⟨g7, q7, rfl, ho7, hg7⟩; have d1 := (gb_drP hg7).cell c1 (by simp); have d2 := (gb_drP hg7).cell c2' (by simp))
                  | fail)
              all_goals
                have X8 := Lib.hid (show DsS W H A A2 n cap n2 c2 w (insAll D (wayD R (j + 1))) _ w7 from ⟨⟨g7, q7, by rw [← hwn.out]⟩, by rw [← hwn.out]; exact ho7, X7.out.2.2.1, below_gb X7.out.2.2.2 X7.out.2.2.1 (gb_drP hg7)⟩)
                have O8 := Lib.hid (own_none O7.out (gb_drP hg7))
                clear ho7 hg7 d1 d2 c1 c2'
                go_wp2_with fail
                go_roundw
                case rel => exact ⟨j + 1, by have hm := HMM.out.1; go_num, by have := HMM.out.2; omega, X8.out, O8.out⟩
                case measure => have hm := HMM.out; simp [intOf]; omega
            · obtain rfl : j = N - 1 := by omega
              have hl3 : ¬ ((N - 1 : Nat) : Int) + 1 < (N : Int) := by omega
              have X8 := Lib.hid (show DsS W H A A2 n cap n2 c2 w (allD W H L P (x + 1)) _ _ from by
                rw [← HAN.out, HN2.out]
                exact X7.out)
              clear X7 O7
              go_wp2_with fail
              go_roundw
              case rel => exact ⟨x + 1, by go_num, by omega, X8.out⟩
              case measure => simp [intOf]; omega
      · have hxk : x = sqG W H := by have := HSQ.out; omega
        have HR := Lib.hid (show allD W H L P x = depG W H L P by rw [HF.out, hxk])
        clear hxk
        go_wp2_with fail
        go_ret
        exact X3.out.new HR.out
end Go.Proofs.Ytcmlnokfjbglaaa
end

section
namespace Go.Proofs.Ytcmlnokfjbglaaa
open Go.ChangeShapes Go.WideShapes Go.ChangeAt Go.RowKit
set_option linter.unusedVariables false
set_option maxRecDepth 20000

theorem specSuccessors (A : Option Addr) (n cap : Nat) (D : List Dep) (c : Int) (w : World) (h : DepAt w w.heap.size A n D) (hn : n ≤ 1000000000) :
    Calls Try.prog 102 #[.slice A n cap, .int .i64 c] w (NewI (succD D c) w) := by
  obtain ⟨i0, hi, hz0, hz1, hz2⟩ := info_parts info_int
  have HI := Lib.hid h
  have hl := h.1
  have HALL := Lib.hid (show succD (D.take n) c = succD D c by rw [← hl]; exact succ_all D c)
  have HST := Lib.hid (own_empty (L := succD (D.take 0) c) rfl (Below.refl w.heap.size w))
  clear h
  go_enter Try.func102, Try.ntmps102
  go_wp2_with fail
  go_loopw [5, 6] (fun v i wr => ∃ k : Nat, i = .int .i64 (k : Int) ∧ k ≤ n ∧ wr.ownsRow w.heap.size 3 1 v (succD (D.take k) c).length (intsV (succD (D.take k) c)) ∧ Below w.heap.size w wr) (fun _ i _ => n - (intOf i).toNat)
  case atStart => exact ⟨0, rfl, Nat.zero_le _, HST.out.1, HST.out.2⟩
  case round =>
    obtain ⟨k, rfl, hk, ho, hb⟩ := hrel
    have HB := Lib.hid hb
    have HO := Lib.hid ho
    have hai := HI.out.below hb
    obtain ⟨Ao, co, rfl, _⟩ := own_form ho
    clear ho hb
    by_cases hlt : k < n
    · obtain ⟨b1, off, rfl, hb1, c0, c1⟩ := hai.at k hlt
      obtain ⟨x, hx⟩ : ∃ x, atD D k = x := ⟨_, rfl⟩
      rw [hx] at c0 c1
      have k0 : (0 : Int) ≤ (k : Int) := by omega
      have k1 : (k : Int) < (n : Int) := by omega
      have hkl : k < D.length := by omega
      have hlen : (succD (D.take k) c).length ≤ k := Nat.le_trans (succ_length _ _) (by simp; omega)
      clear hai
      by_cases hc : x.1 = c
      · have HE := Lib.hid (succ_yes (c := c) hkl (by rw [hx]; exact hc))
        rw [hx] at HE
        subst hc
        have hsz1 : w.heap.size ≤ wr.heap.size := HB.out.size
        have b3' := Lib.hid (show ∀ u ∈ [Value.int .i64 x.2], u.oneCell' = true by simp [Value.oneCell'])
        have b4' := Lib.hid (show (succD (D.take k) x.1).length + 1 ≤ maxLen by unfold maxLen; omega)
        go_wp2_with (at_builtin; refine wpList_append_own _ rfl _ _ 28 rfl w.heap.size 3 i0 (.int .i64 0) 1 8 Try.underlying28 hi hz0 hz1 hz2 rfl (by decide) _ (succD (D.take k) x.1).length _ rfl (HO.out.alloc _) ⟨wr.heap.size, 0, none⟩ 1 1 [.int .i64 x.2] rfl rfl (World.news_of_block (cs := #[.int .i64 x.2]) (t := 3) (fr := (0, 0)) (heap_alloc_new wr _)) b3'.out b4'.out (by omega) (by simp; omega) ?_; intro v' w4 hown4 hgrow4 _)
        have X4 := Lib.hid (show w4.ownsRow w.heap.size 3 1 v' (succD (D.take (k + 1)) x.1).length (intsV (succD (D.take (k + 1)) x.1)) ∧ Below w.heap.size w w4 from by
          refine ⟨by rw [HE.out, List.length_append, intsV_append]; exact hown4, ?_⟩
          exact (HB.out.alloc HB.out.size _).grown hgrow4 (by have := HB.out.size; simp; omega) (fun j hj => (HO.out.lt j hj).1))
        clear hown4 hgrow4 c0 c1 hx
        go_wp2_with fail
        go_roundw
        case rel => exact ⟨k + 1, by go_num, by omega, X4.out.1, X4.out.2⟩
        case measure => simp [intOf]; omega
      · have HE := Lib.hid (succ_no (c := c) hkl (by rw [hx]; exact hc))
        clear hx
        go_wp2_with fail
        go_roundw
        case rel => exact ⟨k + 1, by go_num, by omega, by rw [HE.out]; exact HO.out, HB.out⟩
        case measure => simp [intOf]; omega
    · obtain rfl : k = n := by omega
      clear hai
      go_wp2_with fail
      go_ret
      refine ⟨_, rfl, ?_, HB.out⟩
      have h3 := HO.out
      rw [HALL.out] at h3 ⊢
      exact h3

end Go.Proofs.Ytcmlnokfjbglaaa
end

section
namespace Go.Proofs.Ytcmlnokfjbglaaa
open Go.ChangeShapes Go.WideShapes Go.ChangeAt Go.RowKit
set_option linter.unusedVariables false
set_option maxRecDepth 20000

theorem okD_at_in {D : List Dep} (h : okD D = true) {k : Nat} (hk : k < D.length) : 0 ≤ (atD D k).1 ∧ (atD D k).1 ≤ 127 ∧ 0 ≤ (atD D k).2 ∧ (atD D k).2 ≤ 127 := inD_iff.1 (okD_in h (atD_mem hk))
/-- The list that is built; nothing below it is touched. -/
def SfAt (w : World) (k : Nat) (D : List Dep) (v : Value) (wr : World) : Prop := wr.ownsRow w.heap.size 39 2 v k (depV D) ∧ Below w.heap.size w wr
theorem SfAt.gb {w wr w' : World} {k : Nat} {D : List Dep} {v : Value} (h : SfAt w k D v wr) (hg : wr.grownBy w' none) : SfAt w k D v w' := ⟨own_none h.1 hg, below_gb h.2 (Nat.le_refl _) hg⟩
theorem SfAt.start (w : World) : SfAt w 0 [] (.slice (some ⟨w.heap.size, 0, none⟩) 0 0) (w.alloc (.cells #[] 39)) := ⟨own_madeD w (Nat.le_refl _), (Below.refl _ _).alloc (Nat.le_refl _) _⟩
theorem specShift (A : Option Addr) (n cap : Nat) (D : List Dep) (z : Int) (w : World) (h : DepAt w w.heap.size A n D) (hn : n ≤ 1000000000) :
    Calls Try.prog 78 #[.slice A n cap, .int .i64 z] w (NewD (shiftD D z) w) := by
  obtain ⟨i0, hi, hz0, hz1, hz2⟩ := info_parts info_dep
  have HI := Lib.hid h
  have hl := h.1
  have X0 := Lib.hid (SfAt.start w)
  have HOKS := Lib.hid (fun (A' : Option Addr) (c' : Nat) (E : List Dep) (w' : World) (h' : DepAt w' w'.heap.size A' n E) => specDependsOk A' n c' E w' h' (by omega))
  have HOK := Lib.hid (fun (w' : World) (hb : Below w.heap.size w w') => specDependsOk A n cap D w' ((h.below hb).more hb.size) (by omega))
  have HZI := Lib.hid (fun (b : Bool) (hb : decide (-1000 ≤ z ∧ z ≤ 1000) = b) w => specInV z (-1000) 1000 b hb w)
  clear h
  cases hok : okD D with
  | false =>
    rw [shift_no1 hok]
    rw [hok] at HOK
    clear hok
    go_enter Try.func78, Try.ntmps78
    go_wp2_with fail
    refine (HOK.out _ X0.out.2).mono ?_
    rintro e w1 ⟨rfl, hg1⟩
    have X1 := Lib.hid (X0.out.gb hg1)
    clear hg1
    go_wp2_with fail
    go_ret
    exact ⟨_, rfl, X1.out.1, X1.out.2⟩
  | true =>
    rw [hok] at HOK
    cases hz : inS z with
    | false =>
      rw [shift_no2 hz]
      have HZ := Lib.hid (fun w => HZI.out false hz w)
      clear hok hz
      go_enter Try.func78, Try.ntmps78
      go_wp2_with fail
      refine (HOK.out _ X0.out.2).mono ?_
      rintro e w1 ⟨rfl, hg1⟩
      have X1 := Lib.hid (X0.out.gb hg1)
      clear hg1
      go_wp2_with fail
      refine (HZ.out _).mono ?_
      rintro e w2 ⟨rfl, rfl⟩
      go_wp2_with fail
      go_ret
      exact ⟨_, rfl, X1.out.1, X1.out.2⟩
    | true =>
      have HIN := Lib.hid (fun k (hk : k < D.length) => okD_at_in hok hk)
      have HS := Lib.hid (shift_no3 (D := D) (z := z))
      have HY := Lib.hid (shift_yes (D := D) (z := z) hok hz)
      have HZ := Lib.hid (fun w => HZI.out true hz w)
      unfold inS at hz
      obtain ⟨z1, z2⟩ := of_decide_eq_true hz
      obtain ⟨S, hS⟩ : ∃ S, shiftD D z = S := ⟨_, rfl⟩
      rw [hS] at HS HY
      rw [hS]
      clear hok hz hS
      go_enter Try.func78, Try.ntmps78
      go_wp2_with fail
      refine (HOK.out _ X0.out.2).mono ?_
      rintro e w1 ⟨rfl, hg1⟩
      have X1 := Lib.hid (show SfAt w 0 (moveD (D.take 0) z) _ w1 from X0.out.gb hg1)
      clear hg1
      go_wp2_with fail
      refine (HZ.out _).mono ?_
      rintro e w2 ⟨rfl, rfl⟩
      go_wp2_with fail
      go_loopw [5, 6] (fun v i wr => ∃ k : Nat, i = .int .i64 (k : Int) ∧ k ≤ n ∧ SfAt w k (moveD (D.take k) z) v wr) (fun _ i _ => n - (intOf i).toNat)
      case atStart => exact ⟨0, rfl, Nat.zero_le _, X1.out⟩
      case round =>
        obtain ⟨k, rfl, hk, hx⟩ := hrel
        have X2 := Lib.hid hx
        have hai := HI.out.below hx.2
        obtain ⟨Ao, co, rfl, _⟩ := own_form hx.1
        clear hx
        by_cases hlt : k < n
        · obtain ⟨b1, off, rfl, hb1, c0, c1⟩ := hai.at k hlt
          obtain ⟨x, hx⟩ : ∃ x, atD D k = x := ⟨_, rfl⟩
          have hin := HIN.out k (by omega)
          have HE := Lib.hid (move_next (D := D) z (k := k) (by omega))
          rw [hx] at c0 c1 hin HE
          have k0 : (0 : Int) ≤ (k : Int) := by omega
          have k1 : (k : Int) < (n : Int) := by omega
          obtain ⟨x1, x2, x3, x4⟩ := hin
          have q1 : IntKind.i64.wrap (x.1 + z) = x.1 + z := IntWalk.i64_in _ (by omega)
          have q2 : IntKind.i64.wrap (x.2 + z) = x.2 + z := IntWalk.i64_in _ (by omega)
          have b3 : ∀ u ∈ [Value.int .i64 (x.1 + z), Value.int .i64 (x.2 + z)], u.oneCell' = true := by simp [Value.oneCell']
          have b4 : k + 1 ≤ maxLen := by unfold maxLen; omega
          have b5 : (k + 1) * 16 ≤ 140737488355328 := by omega
          have o4 : (wr.drew.alloc (.cells #[.int .i64 (x.1 + z), .int .i64 (x.2 + z)] 39)).ownsRow w.heap.size 39 2 (.slice Ao k co) k (depV (moveD (D.take k) z)) := (own_none X2.out.1 (gb_drew (gb_refl wr none))).alloc _
          have s4 : w.heap.size ≤ (wr.drew.alloc (.cells #[.int .i64 (x.1 + z), .int .i64 (x.2 + z)] 39)).heap.size := by rw [alloc_size]; exact Nat.le_succ_of_le X2.out.2.size
          clear hai hx
          go_wp2_with fail
          go_region_law
            (first
              | (refine step_append_lies _ (by rfl) _ _ _ (by rfl) w.heap.size 39 i0 _ 2 16 Try.underlying24 hi hz0 hz1 hz2 rfl (by omega) (.slice Ao k co) k (depV (moveD (D.take k) z)) (by rfl) o4
                  ⟨wr.heap.size, 0, none⟩ 1 1 [.int .i64 (x.1 + z), .int .i64 (x.2 + z)] (by rfl) (by rfl) (World.news_of_block (cs := #[.int .i64 (x.1 + z), .int .i64 (x.2 + z)]) (t := 39) (fr := (0, 0)) (heap_alloc_new wr.drew _)) b3
                  (by omega) b4 b5 s4 (wr.heap.size + 1) (by simp) ?_; intro g4 cap4 w5 hown5 hgrow5 hat5 hltg5; have X5 := Lib.hid (show SfAt w (k + 1) (moveD (D.take (k + 1)) z) _ w5 from ⟨by rw [HE.out, depV_append]; exact hown5, ((below_gb X2.out.2 (Nat.le_refl _) (gb_drew (gb_refl wr none))).alloc X2.out.2.size _).grown hgrow5 s4 (fun j hj => (X2.out.1.lt j hj).1)⟩); clear hown5 hgrow5 hat5 hltg5)
              | fail)
          all_goals
            clear c0 c1 o4 s4 q1 q2
            go_wp2_with fail
            go_roundw
            case rel => exact ⟨k + 1, by go_num, by omega, X5.out⟩
            case measure => simp [intOf]; omega
        · obtain rfl : k = n := by omega
          rw [show D.take k = D from by rw [← hl]; exact List.take_length] at X2
          have HOM := HOKS.out Ao co (moveD D z) wr (depAt_own X2.out.1 (Nat.le_refl _))
          cases hm : okD (moveD D z) with
          | false =>
            have hr := HS.out hm
            subst hr
            rw [hm] at HOM
            have HOM2 := Lib.hid HOM
            clear HOM hm hai
            go_wp2_with fail
            refine HOM2.out.mono ?_
            rintro e w2 ⟨rfl, hg2⟩
            have X3 := Lib.hid (X2.out.gb hg2)
            clear hg2
            go_wp2_with fail
            go_ret
            exact ⟨_, rfl, own_emptyD rfl X3.out.2⟩
          | true =>
            have hr := HY.out hm
            rw [hm] at HOM
            have HOM2 := Lib.hid HOM
            have HR := Lib.hid hr
            clear HOM hm hai hr
            go_wp2_with fail
            refine HOM2.out.mono ?_
            rintro e w2 ⟨rfl, hg2⟩
            have X3 := Lib.hid (X2.out.gb hg2)
            clear hg2
            go_wp2_with fail
            go_ret
            exact ⟨_, rfl, by rw [HR.out, move_length, hl]; exact X3.out.1, X3.out.2⟩
end Go.Proofs.Ytcmlnokfjbglaaa
end

section
namespace Go.Proofs.Ytcmlnokfjbglaaa
open Go.ChangeShapes Go.WideShapes Go.ChangeAt Go.RowKit
set_option linter.unusedVariables false
set_option maxRecDepth 20000

theorem specClassesOk (W H : Int) (A AP AQ : Option Addr) (n cap nP cP nQ cQ : Nat) (L P Q : List Int) (w : World) (h : IntAt w w.heap.size A n L) (hP : IntAt w w.heap.size AP nP P) (hQ : IntAt w w.heap.size AQ nQ Q) (hn : n ≤ 1000000000) (hnP : nP ≤ 1000000000) (hnQ : nQ ≤ 1000000000) :
    Calls Try.prog 30 #[.agg #[.int .i64 W, .int .i64 H, .slice A n cap], .agg #[.slice AP nP cP, .slice AQ nQ cQ]] w (RetB (clsOk W H L P Q) w) := by
  have X0 := Lib.hid (clAt_start (W := W) (H := H) (A := A) (AP := AP) (AQ := AQ) (n := n) (cap := cap) (nP := nP) (cP := cP) (nQ := nQ) (cQ := cQ) (w := w))
  have HI := Lib.hid h
  have HP := Lib.hid hP
  have HQ := Lib.hid hQ
  cases ha : tableG W H L P with
  | false =>
    have HA := Lib.hid (specTableOkV W H A AP n cap nP cP L P false ha _ (X0.out.at h) (X0.out.at hP) hn hnP)
    have HR := Lib.hid (clsOk_no1 (Q := Q) ha)
    clear h hP hQ ha
    go_enter Try.func30, Try.ntmps30
    go_wp2_with fail
    refine HA.out.mono ?_
    rintro e w1 ⟨rfl, hg⟩
    have X1 := Lib.hid (X0.out.gb hg)
    clear hg
    go_wp2_with fail
    go_ret
    exact ⟨ret_bool HR.out.symm, X1.out.g⟩
  | true =>
    obtain ⟨b, hb⟩ : ∃ b, tableG W H L Q = b := ⟨_, rfl⟩
    have HA := Lib.hid (specTableOkV W H A AP n cap nP cP L P true ha _ (X0.out.at h) (X0.out.at hP) hn hnP)
    have HB := Lib.hid (fun w h hQ => specTableOkV W H A AQ n cap nQ cQ L Q b hb w h hQ hn hnQ)
    have HR := Lib.hid (show clsOk W H L P Q = b by rw [clsOk, ha, hb]; rfl)
    clear h hP hQ ha hb
    go_enter Try.func30, Try.ntmps30
    go_wp2_with fail
    refine HA.out.mono ?_
    rintro e w1 ⟨rfl, hg⟩
    have X1 := Lib.hid (X0.out.gb hg)
    have m0 : w1.cell? ⟨w.heap.size, 0, none⟩ = some (.int .i64 W) := X1.out.m.cell 0
    have m1 : w1.cell? ⟨w.heap.size, 1, none⟩ = some (.int .i64 H) := X1.out.m.cell 1
    have m2 : w1.cell? ⟨w.heap.size, 2, none⟩ = some (.slice A n cap) := X1.out.m.cell 2
    have t1 : w1.cell? ⟨w.heap.size + 1, 1, none⟩ = some (.slice AQ nQ cQ) := X1.out.t.cell 1
    clear hg
    go_wp2_with fail
    refine (HB.out _ (X1.out.at HI.out) (X1.out.at HQ.out)).mono ?_
    rintro e w2 ⟨rfl, hg⟩
    have X2 := Lib.hid (X1.out.gb hg)
    clear hg m0 m1 m2 t1
    go_wp2_with fail
    go_ret
    exact ⟨ret_bool HR.out.symm, X2.out.g⟩
theorem specClassesOkV (W H : Int) (A AP AQ : Option Addr) (n cap nP cP nQ cQ : Nat) (L P Q : List Int) (b : Bool) (hb : clsOk W H L P Q = b) (w : World) (h : IntAt w w.heap.size A n L) (hP : IntAt w w.heap.size AP nP P) (hQ : IntAt w w.heap.size AQ nQ Q) (hn : n ≤ 1000000000) (hnP : nP ≤ 1000000000) (hnQ : nQ ≤ 1000000000) :
    Calls Try.prog 30 #[.agg #[.int .i64 W, .int .i64 H, .slice A n cap], .agg #[.slice AP nP cP, .slice AQ nQ cQ]] w (RetB b w) := hb ▸ specClassesOk W H A AP AQ n cap nP cP nQ cQ L P Q w h hP hQ hn hnP hnQ
end Go.Proofs.Ytcmlnokfjbglaaa
end

section
namespace Go.Proofs.Ytcmlnokfjbglaaa
open Go.ChangeShapes Go.WideShapes Go.ChangeAt Go.RowKit
set_option linter.unusedVariables false
set_option maxRecDepth 20000

theorem sqG_pos {W H : Int} {L P : List Int} (h : tableG W H L P = true) : 0 < sqG W H := by
  have hok := (meshG_ok (sizedG_mesh (tableG_sized h)).1).1
  obtain ⟨h1, _, h3, _⟩ := okG_iff.1 hok
  have hc : countG W H = W * H := by simp [countG, hok]
  have hp : 0 < W * H := Int.mul_pos (by omega) (by omega)
  have : 0 < (countG W H).toNat := by rw [hc]; omega
  exact Nat.mul_pos this this
theorem twoI_new {W H : Int} {A A2 : Option Addr} {n cap n2 c2 : Nat} {w w1 : World} (h : Below (twoI W H A A2 n cap n2 c2 w).heap.size (twoI W H A A2 n cap n2 c2 w) w1) : (twoI W H A A2 n cap n2 c2 w).grownBy w1 none := gb_of_below h none
theorem wlkN_small (W H : Int) (L P : List Int) : wlkN W H L P ≤ 256 := by
  unfold wlkN
  split
  · have h := cntN_le W H
    exact Nat.mul_le_mul h h
  · exact Nat.zero_le _

theorem implTableOk (W H : Int) (A A2 : Option Addr) (n cap n2 c2 : Nat) (L P : List Int) (hL : WfL L) (w : World) (h : IntAt w w.heap.size A n L) (h2 : IntAt w w.heap.size A2 n2 P) (hn : n ≤ 1000000000) (hn2 : n2 ≤ 1000000000) :
    Calls Try.prog 60 #[.agg #[.int .i64 W, .int .i64 H, .slice A n cap], .agg #[.slice A2 n2 c2]] w (RetB (tableG W H L P) w) := by
  have HT1 := Lib.hid (h.twoI (W := W) (H := H) (A := A) (A2 := A2) (n := n) (cap := cap) (n2 := n2) (c2 := c2))
  have HT2 := Lib.hid (h2.twoI (W := W) (H := H) (A := A) (A2 := A2) (n := n) (cap := cap) (n2 := n2) (c2 := c2))
  have HWK := Lib.hid (fun w h h2 => implWalksOf W H A A2 n cap n2 c2 L P hL w h h2 hn hn2)
  clear h h2 hL
  cases ht : tableG W H L P with
  | false =>
    rw [wlkN_no ht] at HWK
    clear ht
    go_enter Try.func60, Try.ntmps60
    go_wp2_with fail
    refine (HWK.out _ HT1.out HT2.out).mono ?_
    rintro e w1 ⟨va, rfl, hl1, hb1⟩
    obtain ⟨Aw, cw, rfl, _⟩ := hl1.form
    have G1 := Lib.hid (twoI_old (twoI_new hb1))
    clear hl1 hb1
    go_wp2_with fail
    go_ret
    exact ⟨ret_bool (by simp), G1.out⟩
  | true =>
    rw [wlkN_yes ht] at HWK
    have hp := sqG_pos ht
    obtain ⟨N, hN⟩ : ∃ N, sqG W H = N := ⟨_, rfl⟩
    rw [hN] at HWK hp
    clear ht hN
    go_enter Try.func60, Try.ntmps60
    go_wp2_with fail
    refine (HWK.out _ HT1.out HT2.out).mono ?_
    rintro e w1 ⟨va, rfl, hl1, hb1⟩
    obtain ⟨Aw, cw, rfl, _⟩ := hl1.form
    have G1 := Lib.hid (twoI_old (twoI_new hb1))
    clear hl1 hb1
    go_wp2_with fail
    go_ret
    exact ⟨ret_bool (by simp <;> omega), G1.out⟩
end Go.Proofs.Ytcmlnokfjbglaaa
end

section
namespace Go.Proofs.Ytcmlnokfjbglaaa
open Go.ChangeShapes Go.WideShapes Go.ChangeAt Go.RowKit
set_option linter.unusedVariables false
set_option maxRecDepth 20000

theorem implTableOkV (W H : Int) (A A2 : Option Addr) (n cap n2 c2 : Nat) (L P : List Int) (b : Bool) (hb : tableG W H L P = b) (hL : WfL L) (w : World) (h : IntAt w w.heap.size A n L) (h2 : IntAt w w.heap.size A2 n2 P) (hn : n ≤ 1000000000) (hn2 : n2 ≤ 1000000000) :
    Calls Try.prog 60 #[.agg #[.int .i64 W, .int .i64 H, .slice A n cap], .agg #[.slice A2 n2 c2]] w (RetB b w) := hb ▸ implTableOk W H A A2 n cap n2 c2 L P hL w h h2 hn hn2
theorem implClassesOk (W H : Int) (A AP AQ : Option Addr) (n cap nP cP nQ cQ : Nat) (L P Q : List Int) (hL : WfL L) (w : World) (h : IntAt w w.heap.size A n L) (hP : IntAt w w.heap.size AP nP P) (hQ : IntAt w w.heap.size AQ nQ Q) (hn : n ≤ 1000000000) (hnP : nP ≤ 1000000000) (hnQ : nQ ≤ 1000000000) :
    Calls Try.prog 20 #[.agg #[.int .i64 W, .int .i64 H, .slice A n cap], .agg #[.slice AP nP cP, .slice AQ nQ cQ]] w (RetB (clsOk W H L P Q) w) := by
  have X0 := Lib.hid (clAt_start (W := W) (H := H) (A := A) (AP := AP) (AQ := AQ) (n := n) (cap := cap) (nP := nP) (cP := cP) (nQ := nQ) (cQ := cQ) (w := w))
  have HI := Lib.hid h
  have HP := Lib.hid hP
  have HQ := Lib.hid hQ
  cases ha : tableG W H L P with
  | false =>
    have HA := Lib.hid (implTableOkV W H A AP n cap nP cP L P false ha hL _ (X0.out.at h) (X0.out.at hP) hn hnP)
    have HR := Lib.hid (clsOk_no1 (Q := Q) ha)
    clear h hP hQ ha hL
    go_enter Try.func20, Try.ntmps20
    go_wp2_with fail
    refine HA.out.mono ?_
    rintro e w1 ⟨rfl, hg⟩
    have X1 := Lib.hid (X0.out.gb hg)
    clear hg
    go_wp2_with fail
    go_ret
    exact ⟨ret_bool HR.out.symm, X1.out.g⟩
  | true =>
    obtain ⟨b, hb⟩ : ∃ b, tableG W H L Q = b := ⟨_, rfl⟩
    have HA := Lib.hid (implTableOkV W H A AP n cap nP cP L P true ha hL _ (X0.out.at h) (X0.out.at hP) hn hnP)
    have HB := Lib.hid (fun w h hQ => implTableOkV W H A AQ n cap nQ cQ L Q b hb hL w h hQ hn hnQ)
    have HR := Lib.hid (show clsOk W H L P Q = b by rw [clsOk, ha, hb]; rfl)
    clear h hP hQ ha hb hL
    go_enter Try.func20, Try.ntmps20
    go_wp2_with fail
    refine HA.out.mono ?_
    rintro e w1 ⟨rfl, hg⟩
    have X1 := Lib.hid (X0.out.gb hg)
    have m0 : w1.cell? ⟨w.heap.size, 0, none⟩ = some (.int .i64 W) := X1.out.m.cell 0
    have m1 : w1.cell? ⟨w.heap.size, 1, none⟩ = some (.int .i64 H) := X1.out.m.cell 1
    have m2 : w1.cell? ⟨w.heap.size, 2, none⟩ = some (.slice A n cap) := X1.out.m.cell 2
    have t1 : w1.cell? ⟨w.heap.size + 1, 1, none⟩ = some (.slice AQ nQ cQ) := X1.out.t.cell 1
    clear hg
    go_wp2_with fail
    refine (HB.out _ (X1.out.at HI.out) (X1.out.at HQ.out)).mono ?_
    rintro e w2 ⟨rfl, hg⟩
    have X2 := Lib.hid (X1.out.gb hg)
    clear hg m0 m1 m2 t1
    go_wp2_with fail
    go_ret
    exact ⟨ret_bool HR.out.symm, X2.out.g⟩
theorem implClassesOkV (W H : Int) (A AP AQ : Option Addr) (n cap nP cP nQ cQ : Nat) (L P Q : List Int) (hL : WfL L) (b : Bool) (hb : clsOk W H L P Q = b) (w : World) (h : IntAt w w.heap.size A n L) (hP : IntAt w w.heap.size AP nP P) (hQ : IntAt w w.heap.size AQ nQ Q) (hn : n ≤ 1000000000) (hnP : nP ≤ 1000000000) (hnQ : nQ ≤ 1000000000) :
    Calls Try.prog 20 #[.agg #[.int .i64 W, .int .i64 H, .slice A n cap], .agg #[.slice AP nP cP, .slice AQ nQ cQ]] w (RetB b w) := hb ▸ implClassesOk W H A AP AQ n cap nP cP nQ cQ L P Q hL w h hP hQ hn hnP hnQ
end Go.Proofs.Ytcmlnokfjbglaaa
end

section
namespace Go.Proofs.Ytcmlnokfjbglaaa
open Go.ChangeShapes Go.WideShapes Go.ChangeAt Go.RowKit
set_option linter.unusedVariables false
set_option maxRecDepth 20000

set_option maxHeartbeats 6400000 in
theorem walk_FnExactClassesOk (S0a : Int) (S0b : Int) (A0a : Option Addr) (n0a c0a : Nat) (L0a : List Int) (A1a : Option Addr) (n1a c1a : Nat) (L1a : List Int) (A1b : Option Addr) (n1b c1b : Nat) (L1b : List Int) (w : World) (hwS0a : (Lit.int .i64 S0a).wf = true) (hwS0b : (Lit.int .i64 S0b).wf = true) (hncA0a : n0a ≤ c0a) (hcmA0a : c0a ≤ maxLen) (hA0a : IntAt w w.heap.size A0a n0a L0a) (hlA0a : ∀ x ∈ L0a, (Lit.int .i64 x).wf = true) (hncA1a : n1a ≤ c1a) (hcmA1a : c1a ≤ maxLen) (hA1a : IntAt w w.heap.size A1a n1a L1a) (hlA1a : ∀ x ∈ L1a, (Lit.int .i64 x).wf = true) (hncA1b : n1b ≤ c1b) (hcmA1b : c1b ≤ maxLen) (hA1b : IntAt w w.heap.size A1b n1b L1b) (hlA1b : ∀ x ∈ L1b, (Lit.int .i64 x).wf = true) :
    Calls Try.prog 6 #[.agg #[.int .i64 S0a, .int .i64 S0b, .slice A0a n0a c0a], .agg #[.slice A1a n1a c1a, .slice A1b n1b c1b]] w fun e w' => e = .returned (.bool true) ∧ Below w.heap.size w w' := by
  have h9A0a : n0a ≤ 9223372036854775807 := Nat.le_trans hncA0a (Nat.le_trans hcmA0a (by decide))
  have hLA0a := hA0a.1
  have HA0a := Lib.hid (hA0a)
  have HWF0 := Lib.hid (show WfL L0a from hlA0a)
  have HWS0a := Lib.hid (hwS0a)
  have HWS0b := Lib.hid (hwS0b)
  have h9A1a : n1a ≤ 9223372036854775807 := Nat.le_trans hncA1a (Nat.le_trans hcmA1a (by decide))
  have hLA1a := hA1a.1
  have HA1a := Lib.hid (hA1a)
  have HWXA1a := Lib.hid (hlA1a)
  have h9A1b : n1b ≤ 9223372036854775807 := Nat.le_trans hncA1b (Nat.le_trans hcmA1b (by decide))
  have hLA1b := hA1b.1
  have HA1b := Lib.hid (hA1b)
  have HWXA1b := Lib.hid (hlA1b)
  clear hncA0a hcmA0a hA0a hlA0a hwS0a hwS0b hncA1a hcmA1a hA1a hlA1a hncA1b hcmA1b hA1b hlA1b
  subst hLA0a
  subst hLA1a
  subst hLA1b
  by_cases hbig0 : (1048576 : Int) < (L0a.length : Int)
  · skip
    go_enter Try.func6, Try.ntmps6
    go_wp2_with fail
    have ke0 := (Blk.new w 58 #[.int .i64 S0a, .int .i64 S0b, .slice A0a L0a.length c0a]).alloc (.cells #[.slice A1a L1a.length c1a, .slice A1b L1b.length c1b] 61)
    have ke1 := Blk.new (w.alloc (.cells #[.int .i64 S0a, .int .i64 S0b, .slice A0a L0a.length c0a] 58)) 61 #[.slice A1a L1a.length c1a, .slice A1b L1b.length c1b]
    have ge := gb_alloc (gb_alloc (gb_refl w none) (.cells #[.int .i64 S0a, .int .i64 S0b, .slice A0a L0a.length c0a] 58)) (.cells #[.slice A1a L1a.length c1a, .slice A1b L1b.length c1b] 61)
    simp only [alloc_size] at ke1
    generalize ((w.alloc (.cells #[.int .i64 S0a, .int .i64 S0b, .slice A0a L0a.length c0a] 58)).alloc (.cells #[.slice A1a L1a.length c1a, .slice A1b L1b.length c1b] 61)) = we at *
    have KE0 : Hid (Blk we (w.heap.size) 58 #[.int .i64 S0a, .int .i64 S0b, .slice A0a L0a.length c0a]) := Lib.hid (ke0)
    have KE1 : Hid (Blk we (w.heap.size + 1) 61 #[.slice A1a L1a.length c1a, .slice A1b L1b.length c1b]) := Lib.hid (ke1)
    have GE := Lib.hid (ge)
    have RZ0 := Lib.hid (Chg.refl 0 0 we)
    clear ge ke0 ke1
    have a0_0 : we.cell? ⟨w.heap.size, 0, none⟩ = some (.int .i64 S0a) := (KE0.out.nx (RZ0.out)).cell 0
    have a0_1 : we.cell? ⟨w.heap.size, 1, none⟩ = some (.int .i64 S0b) := (KE0.out.nx (RZ0.out)).cell 1
    have a0_2 : we.cell? ⟨w.heap.size, 2, none⟩ = some (.slice A0a L0a.length c0a) := (KE0.out.nx (RZ0.out)).cell 2
    refine (lawsSzMesh _ _ _ _ _ _ _ h9A0a (by omega) (by omega)).mono ?_
    rintro e wz1 ⟨rfl, hg⟩
    rw [if_pos hbig0]
    have RZ1 := Lib.hid (RZ0.out.gb hg)
    clear hg a0_0 a0_1 a0_2
    go_wp2_with fail
    go_ret
    exact ⟨rfl, (gb_below_none GE.out (Nat.le_refl _)).trans (RZ1.out.below (.inr (Nat.le_refl _)) GE.out.size)⟩
  have hnA0a : L0a.length ≤ 1048576 := by omega
  obtain ⟨q1, hq1⟩ : ∃ q : Int, (1048576 : Int) - (L0a.length : Int) = q := ⟨_, rfl⟩
  have hqa1 : ¬ q1 < 0 := by omega
  have hqb1 : q1 ≤ 1048576 := by omega
  by_cases hbig1 : q1 < (L1a.length : Int) + (L1b.length : Int)
  · skip
    go_enter Try.func6, Try.ntmps6
    go_wp2_with fail
    have ke0 := (Blk.new w 58 #[.int .i64 S0a, .int .i64 S0b, .slice A0a L0a.length c0a]).alloc (.cells #[.slice A1a L1a.length c1a, .slice A1b L1b.length c1b] 61)
    have ke1 := Blk.new (w.alloc (.cells #[.int .i64 S0a, .int .i64 S0b, .slice A0a L0a.length c0a] 58)) 61 #[.slice A1a L1a.length c1a, .slice A1b L1b.length c1b]
    have ge := gb_alloc (gb_alloc (gb_refl w none) (.cells #[.int .i64 S0a, .int .i64 S0b, .slice A0a L0a.length c0a] 58)) (.cells #[.slice A1a L1a.length c1a, .slice A1b L1b.length c1b] 61)
    simp only [alloc_size] at ke1
    generalize ((w.alloc (.cells #[.int .i64 S0a, .int .i64 S0b, .slice A0a L0a.length c0a] 58)).alloc (.cells #[.slice A1a L1a.length c1a, .slice A1b L1b.length c1b] 61)) = we at *
    have KE0 : Hid (Blk we (w.heap.size) 58 #[.int .i64 S0a, .int .i64 S0b, .slice A0a L0a.length c0a]) := Lib.hid (ke0)
    have KE1 : Hid (Blk we (w.heap.size + 1) 61 #[.slice A1a L1a.length c1a, .slice A1b L1b.length c1b]) := Lib.hid (ke1)
    have GE := Lib.hid (ge)
    have RZ0 := Lib.hid (Chg.refl 0 0 we)
    clear ge ke0 ke1
    have a0_0 : we.cell? ⟨w.heap.size, 0, none⟩ = some (.int .i64 S0a) := (KE0.out.nx (RZ0.out)).cell 0
    have a0_1 : we.cell? ⟨w.heap.size, 1, none⟩ = some (.int .i64 S0b) := (KE0.out.nx (RZ0.out)).cell 1
    have a0_2 : we.cell? ⟨w.heap.size, 2, none⟩ = some (.slice A0a L0a.length c0a) := (KE0.out.nx (RZ0.out)).cell 2
    refine (lawsSzMesh _ _ _ _ _ _ _ h9A0a (by omega) (by omega)).mono ?_
    rintro e wz1 ⟨rfl, hg⟩
    rw [if_neg (by omega), hq1]
    have RZ1 := Lib.hid (RZ0.out.gb hg)
    clear hg a0_0 a0_1 a0_2 hq1
    have a1_0 : wz1.cell? ⟨w.heap.size + 1, 0, none⟩ = some (.slice A1a L1a.length c1a) := (KE1.out.nx (RZ1.out)).cell 0
    have a1_1 : wz1.cell? ⟨w.heap.size + 1, 1, none⟩ = some (.slice A1b L1b.length c1b) := (KE1.out.nx (RZ1.out)).cell 1
    go_wp2_with fail
    refine (lawsSzClasses _ _ _ _ _ _ _ _ h9A1a h9A1b (by omega) (by omega)).mono ?_
    rintro e wz2 ⟨rfl, hg⟩
    rw [if_pos hbig1]
    have RZ2 := Lib.hid (RZ1.out.gb hg)
    clear hg a1_0 a1_1
    go_wp2_with fail
    go_ret
    exact ⟨rfl, (gb_below_none GE.out (Nat.le_refl _)).trans (RZ2.out.below (.inr (Nat.le_refl _)) GE.out.size)⟩
  have hnA1a : L1a.length ≤ 1048576 := by omega
  have hnA1b : L1b.length ≤ 1048576 := by omega
  obtain ⟨q2, hq2⟩ : ∃ q : Int, q1 - (L1a.length : Int) - (L1b.length : Int) = q := ⟨_, rfl⟩
  have hqa2 : ¬ q2 < 0 := by omega
  have hqb2 : q2 ≤ 1048576 := by omega
  go_enter Try.func6, Try.ntmps6
  go_wp2_with fail
  have ke0 := (Blk.new w 58 #[.int .i64 S0a, .int .i64 S0b, .slice A0a L0a.length c0a]).alloc (.cells #[.slice A1a L1a.length c1a, .slice A1b L1b.length c1b] 61)
  have ke1 := Blk.new (w.alloc (.cells #[.int .i64 S0a, .int .i64 S0b, .slice A0a L0a.length c0a] 58)) 61 #[.slice A1a L1a.length c1a, .slice A1b L1b.length c1b]
  have ge := gb_alloc (gb_alloc (gb_refl w none) (.cells #[.int .i64 S0a, .int .i64 S0b, .slice A0a L0a.length c0a] 58)) (.cells #[.slice A1a L1a.length c1a, .slice A1b L1b.length c1b] 61)
  simp only [alloc_size] at ke1
  generalize ((w.alloc (.cells #[.int .i64 S0a, .int .i64 S0b, .slice A0a L0a.length c0a] 58)).alloc (.cells #[.slice A1a L1a.length c1a, .slice A1b L1b.length c1b] 61)) = we at *
  have KE0 : Hid (Blk we (w.heap.size) 58 #[.int .i64 S0a, .int .i64 S0b, .slice A0a L0a.length c0a]) := Lib.hid (ke0)
  have KE1 : Hid (Blk we (w.heap.size + 1) 61 #[.slice A1a L1a.length c1a, .slice A1b L1b.length c1b]) := Lib.hid (ke1)
  have GE := Lib.hid (ge)
  have RZ0 := Lib.hid (Chg.refl 0 0 we)
  clear ge ke0 ke1
  have a0_0 : we.cell? ⟨w.heap.size, 0, none⟩ = some (.int .i64 S0a) := (KE0.out.nx (RZ0.out)).cell 0
  have a0_1 : we.cell? ⟨w.heap.size, 1, none⟩ = some (.int .i64 S0b) := (KE0.out.nx (RZ0.out)).cell 1
  have a0_2 : we.cell? ⟨w.heap.size, 2, none⟩ = some (.slice A0a L0a.length c0a) := (KE0.out.nx (RZ0.out)).cell 2
  refine (lawsSzMesh _ _ _ _ _ _ _ h9A0a (by omega) (by omega)).mono ?_
  rintro e wz1 ⟨rfl, hg⟩
  rw [if_neg (by omega), hq1]
  have RZ1 := Lib.hid (RZ0.out.gb hg)
  clear hg a0_0 a0_1 a0_2 hq1
  have a1_0 : wz1.cell? ⟨w.heap.size + 1, 0, none⟩ = some (.slice A1a L1a.length c1a) := (KE1.out.nx (RZ1.out)).cell 0
  have a1_1 : wz1.cell? ⟨w.heap.size + 1, 1, none⟩ = some (.slice A1b L1b.length c1b) := (KE1.out.nx (RZ1.out)).cell 1
  go_wp2_with fail
  refine (lawsSzClasses _ _ _ _ _ _ _ _ h9A1a h9A1b (by omega) (by omega)).mono ?_
  rintro e wz2 ⟨rfl, hg⟩
  rw [if_neg (by omega), hq2]
  have RZ2 := Lib.hid (RZ1.out.gb hg)
  clear hg a1_0 a1_1 hq2
  go_wp2_with fail
  clear hqa1 hqb1 hbig0 hqa2 hqb2 hbig1
  obtain ⟨res, hres⟩ : ∃ r, clsOk S0a S0b L0a L1a L1b = r := ⟨_, rfl⟩
  have HSP := Lib.hid (fun (A0a : Option Addr) (n0a c0a : Nat) (A1a : Option Addr) (n1a c1a : Nat) (A1b : Option Addr) (n1b c1b : Nat) (w : World) (hA0a : IntAt w w.heap.size A0a n0a L0a) (hA1a : IntAt w w.heap.size A1a n1a L1a) (hA1b : IntAt w w.heap.size A1b n1b L1b) (hnA0a : n0a ≤ 1000000000) (hnA1a : n1a ≤ 1000000000) (hnA1b : n1b ≤ 1000000000) (hcA0a : n0a ≤ c0a) (hcA1a : n1a ≤ c1a) (hcA1b : n1b ≤ c1b) => show Calls Try.prog 30 #[.agg #[.int .i64 S0a, .int .i64 S0b, .slice A0a n0a c0a], .agg #[.slice A1a n1a c1a, .slice A1b n1b c1b]] w (RetB res w) from hres ▸ specClassesOk S0a S0b A0a A1a A1b n0a c0a n1a c1a n1b c1b L0a L1a L1b w hA0a hA1a hA1b hnA0a hnA1a hnA1b)
  have HIM := Lib.hid (fun (A0a : Option Addr) (n0a c0a : Nat) (A1a : Option Addr) (n1a c1a : Nat) (A1b : Option Addr) (n1b c1b : Nat) (w : World) (hA0a : IntAt w w.heap.size A0a n0a L0a) (hA1a : IntAt w w.heap.size A1a n1a L1a) (hA1b : IntAt w w.heap.size A1b n1b L1b) (hnA0a : n0a ≤ 1000000000) (hnA1a : n1a ≤ 1000000000) (hnA1b : n1b ≤ 1000000000) (hcA0a : n0a ≤ c0a) (hcA1a : n1a ≤ c1a) (hcA1b : n1b ≤ c1b) => show Calls Try.prog 20 #[.agg #[.int .i64 S0a, .int .i64 S0b, .slice A0a n0a c0a], .agg #[.slice A1a n1a c1a, .slice A1b n1b c1b]] w (RetB res w) from hres ▸ implClassesOk S0a S0b A0a A1a A1b n0a c0a n1a c1a n1b c1b L0a L1a L1b HWF0.out w hA0a hA1a hA1b hnA0a hnA1a hnA1b)
  clear hres
  have BE := Lib.hid (gb_below_none GE.out (Nat.le_refl _))
  have RDA0a := Lib.hid (fun (w' : World) (hq : Chg 0 0 we w') => HA0a.out.chg BE.out hq (.inr (Nat.le_refl _)))
  have RDA1a := Lib.hid (fun (w' : World) (hq : Chg 0 0 we w') => HA1a.out.chg BE.out hq (.inr (Nat.le_refl _)))
  have RDA1b := Lib.hid (fun (w' : World) (hq : Chg 0 0 we w') => HA1b.out.chg BE.out hq (.inr (Nat.le_refl _)))
  have KPw := Lib.hid (fun (w' : World) (hq : Chg 0 0 we w') => (show w'.cell? ⟨w.heap.size, 0, none⟩ = some (.int .i64 S0a) ∧ w'.cell? ⟨w.heap.size, 1, none⟩ = some (.int .i64 S0b) ∧ w'.cell? ⟨w.heap.size, 2, none⟩ = some (.slice A0a L0a.length c0a) ∧ w'.cell? ⟨w.heap.size + 1, 0, none⟩ = some (.slice A1a L1a.length c1a) ∧ w'.cell? ⟨w.heap.size + 1, 1, none⟩ = some (.slice A1b L1b.length c1b) from ⟨(KE0.out.nx hq).cell 0, (KE0.out.nx hq).cell 1, (KE0.out.nx hq).cell 2, (KE1.out.nx hq).cell 0, (KE1.out.nx hq).cell 1⟩))
  go_region_held3 (fun w' => w'.cell? ⟨w.heap.size, 0, none⟩ = some (.int .i64 S0a) ∧ w'.cell? ⟨w.heap.size, 1, none⟩ = some (.int .i64 S0b) ∧ w'.cell? ⟨w.heap.size, 2, none⟩ = some (.slice A0a L0a.length c0a) ∧ w'.cell? ⟨w.heap.size + 1, 0, none⟩ = some (.slice A1a L1a.length c1a) ∧ w'.cell? ⟨w.heap.size + 1, 1, none⟩ = some (.slice A1b L1b.length c1b))
    (first | with_reducible exact KPw.out _ (RZ2.out) | with_reducible exact KPw.out _ (RZ2.out.dr) | with_reducible exact KPw.out _ (R1.out) | with_reducible exact KPw.out _ (R2.out) | with_reducible exact KPw.out _ (R3.out) | fail)
    (first
      | (go_at_call 31; (with_reducible refine (lawsToMesh _ _ _ _ _ _ _ (RDA0a.out _ (RZ2.out.dr)) hnA0a).mono ?_); rintro e w1 ⟨gw0, rfl, ow0, bw0⟩; have R1 : Hid (Chg 0 0 we w1) := Lib.hid ((RZ2.out.dr).bl bw0); have Q1 := Lib.hid (chg_gb 0 0 (gb_of_below bw0 none)); have F1 := Lib.hid (fix_row ow0); clear bw0 ow0)
      | (go_at_call 32; (with_reducible refine (lawsToClasses _ _ _ _ _ _ _ _ _ (RDA1a.out _ (R1.out)) (RDA1b.out _ (R1.out)) hnA1a hnA1b).mono ?_); rintro e w2 ⟨pw1, qw1, rfl, ow1, bw1⟩; obtain ⟨Arw1, crw1, rfl, _⟩ := own_form ow1.r; obtain ⟨Acw1, ccw1, rfl, _⟩ := own_form ow1.c; have R2 : Hid (Chg 0 0 we w2) := Lib.hid ((R1.out).bl bw1); have Q2 := Lib.hid (chg_gb 0 0 (gb_of_below bw1 none)); have F2 := Lib.hid (fix_vrow ow1); clear bw1 ow1)
      | (go_at_call 30; (with_reducible refine (HSP.out _ _ _ _ _ _ _ _ _ _ (intAt_own ((F1.out.nx Q2.out).here) rfl (Nat.le_refl _)) (intAt_own (F2.out.here.r) rfl (Nat.le_refl _)) (intAt_own (F2.out.here.c) rfl (Nat.le_refl _)) (by omega) (by omega) (by omega) (own_cap ((F1.out.nx Q2.out).here)).1 (own_cap (F2.out.here.r)).1 (own_cap (F2.out.here.c)).1).mono ?_); rintro e w3 ⟨rfl, bw⟩; have R3 : Hid (Chg 0 0 we w3) := Lib.hid ((R2.out).gb bw); have Q3 := Lib.hid (chg_gb 0 0 bw); clear bw)
      | fail)
  all_goals
    have HS0 := Lib.hid ((R3.out).size)
    have a0_0 : w3.cell? ⟨w.heap.size, 0, none⟩ = some (.int .i64 S0a) := (KE0.out.nx (R3.out)).cell 0
    have a0_1 : w3.cell? ⟨w.heap.size, 1, none⟩ = some (.int .i64 S0b) := (KE0.out.nx (R3.out)).cell 1
    have a0_2 : w3.cell? ⟨w.heap.size, 2, none⟩ = some (.slice A0a L0a.length c0a) := (KE0.out.nx (R3.out)).cell 2
    go_wp2_with fail
    refine (lawsToMesh _ _ _ _ _ _ _ (RDA0a.out _ (R3.out)) hnA0a).mono ?_
    rintro e w4 ⟨gx0, rfl, ox0, bx0⟩
    have HLX0 := Lib.hid ((fix_row ox0).here.lt)
    have FX0 := Lib.hid (fix_row ox0)
    have Q4 := Lib.hid (chg_gb 0 0 (gb_of_below bx0 none))
    have R4 := Lib.hid ((R3.out).bl bx0)
    clear bx0 ox0 a0_0 a0_1 a0_2
    replace FX0 := Lib.hid ((FX0.out).al (.cells #[.int .i64 S0a, .int .i64 S0b, .slice (some ⟨gx0, 0, none⟩) L0a.length L0a.length] 30))
    have KX0 := Lib.hid (Blk.new w4 30 #[.int .i64 S0a, .int .i64 S0b, .slice (some ⟨gx0, 0, none⟩) L0a.length L0a.length])
    have a1_0 : (w4.alloc (.cells #[.int .i64 S0a, .int .i64 S0b, .slice (some ⟨gx0, 0, none⟩) L0a.length L0a.length] 30)).cell? ⟨w.heap.size + 1, 0, none⟩ = some (.slice A1a L1a.length c1a) := (KE1.out.nx ((R4.out.al (.cells #[.int .i64 S0a, .int .i64 S0b, .slice (some ⟨gx0, 0, none⟩) L0a.length L0a.length] 30)))).cell 0
    have a1_1 : (w4.alloc (.cells #[.int .i64 S0a, .int .i64 S0b, .slice (some ⟨gx0, 0, none⟩) L0a.length L0a.length] 30)).cell? ⟨w.heap.size + 1, 1, none⟩ = some (.slice A1b L1b.length c1b) := (KE1.out.nx ((R4.out.al (.cells #[.int .i64 S0a, .int .i64 S0b, .slice (some ⟨gx0, 0, none⟩) L0a.length L0a.length] 30)))).cell 1
    go_wp2_with fail
    refine (lawsToClasses _ _ _ _ _ _ _ _ _ (RDA1a.out _ ((R4.out.al (.cells #[.int .i64 S0a, .int .i64 S0b, .slice (some ⟨gx0, 0, none⟩) L0a.length L0a.length] 30)))) (RDA1b.out _ ((R4.out.al (.cells #[.int .i64 S0a, .int .i64 S0b, .slice (some ⟨gx0, 0, none⟩) L0a.length L0a.length] 30)))) hnA1a hnA1b).mono ?_
    rintro e w5 ⟨px1, qx1, rfl, ox1, bx1⟩
    obtain ⟨Arx1, crx1, rfl, _⟩ := own_form ox1.r
    obtain ⟨Acx1, ccx1, rfl, _⟩ := own_form ox1.c
    have HLX1 := Lib.hid ((fix_vrow ox1).here.lt)
    have FX1 := Lib.hid (fix_vrow ox1)
    have Q5 := Lib.hid (chg_gb 0 0 (gb_of_below bx1 none))
    have R5 := Lib.hid (((R4.out.al (.cells #[.int .i64 S0a, .int .i64 S0b, .slice (some ⟨gx0, 0, none⟩) L0a.length L0a.length] 30))).bl bx1)
    clear bx1 ox1 a1_0 a1_1
    replace FX0 := Lib.hid (FX0.out.nx Q5.out)
    replace KX0 := Lib.hid (KX0.out.nx Q5.out)
    replace FX0 := Lib.hid ((FX0.out).al (.cells #[.slice Arx1 L1a.length crx1, .slice Acx1 L1b.length ccx1] 43))
    replace KX0 := Lib.hid ((KX0.out).alloc (.cells #[.slice Arx1 L1a.length crx1, .slice Acx1 L1b.length ccx1] 43))
    replace FX1 := Lib.hid ((FX1.out).al (.cells #[.slice Arx1 L1a.length crx1, .slice Acx1 L1b.length ccx1] 43))
    have KX1 := Lib.hid (Blk.new w5 43 #[.slice Arx1 L1a.length crx1, .slice Acx1 L1b.length ccx1])
    have x0_0 : (w5.alloc (.cells #[.slice Arx1 L1a.length crx1, .slice Acx1 L1b.length ccx1] 43)).cell? ⟨w4.heap.size, 0, none⟩ = some (.int .i64 S0a) := KX0.out.cell 0
    have x0_1 : (w5.alloc (.cells #[.slice Arx1 L1a.length crx1, .slice Acx1 L1b.length ccx1] 43)).cell? ⟨w4.heap.size, 1, none⟩ = some (.int .i64 S0b) := KX0.out.cell 1
    have x0_2 : (w5.alloc (.cells #[.slice Arx1 L1a.length crx1, .slice Acx1 L1b.length ccx1] 43)).cell? ⟨w4.heap.size, 2, none⟩ = some (.slice (some ⟨gx0, 0, none⟩) L0a.length L0a.length) := KX0.out.cell 2
    have x1_0 : (w5.alloc (.cells #[.slice Arx1 L1a.length crx1, .slice Acx1 L1b.length ccx1] 43)).cell? ⟨w5.heap.size, 0, none⟩ = some (.slice Arx1 L1a.length crx1) := KX1.out.cell 0
    have x1_1 : (w5.alloc (.cells #[.slice Arx1 L1a.length crx1, .slice Acx1 L1b.length ccx1] 43)).cell? ⟨w5.heap.size, 1, none⟩ = some (.slice Acx1 L1b.length ccx1) := KX1.out.cell 1
    go_wp2_with fail
    refine (HIM.out _ _ _ _ _ _ _ _ _ _ (intAt_own (FX0.out.here) rfl (Nat.le_refl _)) (intAt_own (FX1.out.here.r) rfl (Nat.le_refl _)) (intAt_own (FX1.out.here.c) rfl (Nat.le_refl _)) (by omega) (by omega) (by omega) (own_cap (FX0.out.here)).1 (own_cap (FX1.out.here.r)).1 (own_cap (FX1.out.here.c)).1).mono ?_
    rintro e w6 ⟨rfl, bg⟩
    have R6 : Hid (Chg 0 0 we w6) := Lib.hid (((R5.out.al (.cells #[.slice Arx1 L1a.length crx1, .slice Acx1 L1b.length ccx1] 43))).gb bg)
    have Q6 := Lib.hid (chg_gb 0 0 bg)
    clear bg
    clear x0_0 x0_1 x0_2 x1_0 x1_1
    replace FX0 := Lib.hid (FX0.out.nx Q6.out)
    replace KX0 := Lib.hid (KX0.out.nx Q6.out)
    replace FX1 := Lib.hid (FX1.out.nx Q6.out)
    replace KX1 := Lib.hid (KX1.out.nx Q6.out)
    obtain ⟨B0, E0, B1, E1, eE0, eE1, fx0, kx0, hx0, fx1, kx1, hx1, hn⟩ : ∃ B0 E0 B1 E1 : Nat, w4.heap.size = E0 ∧ w5.heap.size = E1 ∧ Fix B0 E0 (fun w => w.ownsRow B0 3 1 (.slice (some ⟨gx0, 0, none⟩) L0a.length L0a.length) L0a.length (intsV L0a)) w6 ∧ Blk w6 E0 30 #[.int .i64 S0a, .int .i64 S0b, .slice (some ⟨gx0, 0, none⟩) L0a.length L0a.length] ∧ (∀ k, Value.ownBlock (.slice (some ⟨gx0, 0, none⟩) L0a.length L0a.length) = some k → B0 ≤ k ∧ k < E0) ∧ Fix B1 E1 (fun w => VRow w B1 (.slice Arx1 L1a.length crx1) (.slice Acx1 L1b.length ccx1) L1a.length L1b.length L1a L1b) w6 ∧ Blk w6 E1 43 #[.slice Arx1 L1a.length crx1, .slice Acx1 L1b.length ccx1] ∧ (∀ k, (Value.ownBlock (.slice Arx1 L1a.length crx1) = some k ∨ Value.ownBlock (.slice Acx1 L1b.length ccx1) = some k) → B1 ≤ k ∧ k < E1) ∧ we.heap.size ≤ B0 ∧ B0 ≤ E0 ∧ E0 + 1 ≤ B1 ∧ B1 ≤ E1 := ⟨_, _, _, _, rfl, rfl, FX0.out, KX0.out, HLX0.out, FX1.out, KX1.out, HLX1.out, (by have hsQ4 := Q4.out.size; have hsQ5 := Q5.out.size; have hsQ6 := Q6.out.size; have h0 := HS0.out; (try simp only [alloc_size] at *); omega)⟩
    (try simp only [eE0])
    (try simp only [eE1])
    have Zfx0 := Lib.hid (fx0)
    have Zkx0 := Lib.hid (kx0)
    have Zhx0 := Lib.hid (hx0)
    have Zfx1 := Lib.hid (fx1)
    have Zkx1 := Lib.hid (kx1)
    have Zhx1 := Lib.hid (hx1)
    have Zhn := Lib.hid (hn)
    clear fx0 kx0 hx0 fx1 kx1 hx1 hn
    have RS := Lib.hid (R6.out)
    have T0 := Lib.hid (Chg.refl 0 0 w6)
    have KPc0 := Lib.hid (fun (w' : World) (hq : Chg 0 0 w6 w') => (show w'.cell? ⟨w.heap.size, 0, none⟩ = some (.int .i64 S0a) ∧ w'.cell? ⟨w.heap.size, 1, none⟩ = some (.int .i64 S0b) ∧ w'.cell? ⟨w.heap.size, 2, none⟩ = some (.slice A0a L0a.length c0a) ∧ w'.cell? ⟨E0, 0, none⟩ = some (.int .i64 S0a) ∧ w'.cell? ⟨E0, 1, none⟩ = some (.int .i64 S0b) ∧ w'.cell? ⟨E0, 2, none⟩ = some (.slice (some ⟨gx0, 0, none⟩) L0a.length L0a.length) from ⟨(KE0.out.nx (RS.out.trans hq)).cell 0, (KE0.out.nx (RS.out.trans hq)).cell 1, (KE0.out.nx (RS.out.trans hq)).cell 2, (Zkx0.out.nx hq).cell 0, (Zkx0.out.nx hq).cell 1, (Zkx0.out.nx hq).cell 2⟩))
    go_wp2_with fail
    go_region_held3 (fun w' => w'.cell? ⟨w.heap.size, 0, none⟩ = some (.int .i64 S0a) ∧ w'.cell? ⟨w.heap.size, 1, none⟩ = some (.int .i64 S0b) ∧ w'.cell? ⟨w.heap.size, 2, none⟩ = some (.slice A0a L0a.length c0a) ∧ w'.cell? ⟨E0, 0, none⟩ = some (.int .i64 S0a) ∧ w'.cell? ⟨E0, 1, none⟩ = some (.int .i64 S0b) ∧ w'.cell? ⟨E0, 2, none⟩ = some (.slice (some ⟨gx0, 0, none⟩) L0a.length L0a.length))
      (first | with_reducible exact KPc0.out _ (T0.out) | with_reducible exact KPc0.out _ (T0.out.dr) | with_reducible exact KPc0.out _ (T7.out) | with_reducible exact KPc0.out _ (T8.out) | fail)
      (first
        | (go_at_call 31; (with_reducible refine (lawsToMesh _ _ _ _ _ _ _ (RDA0a.out _ (RS.out.trans T0.out.dr)) hnA0a).mono ?_); rintro e w7 ⟨gy0, rfl, oy0, by0⟩; have T7 : Hid (Chg 0 0 w6 w7) := Lib.hid (T0.out.dr.bl by0); have F7 := Lib.hid (fix_row oy0); clear by0 oy0)
        | (go_at_call 33; (with_reducible refine (lawsEqMesh _ _ _ _ L0a.length _ _ _ _ L0a _ (intAt_own (Zfx0.out.nx T7.out).here rfl (Nat.le_refl _)) (intAt_own F7.out.here rfl (Nat.le_refl _)) (Nat.le_refl _) (Nat.le_refl _) (by omega)).mono ?_); rintro e w8 ⟨rfl, hg⟩; have T8 : Hid (Chg 0 0 w6 w8) := Lib.hid (T7.out.gb hg); clear hg)
        | fail)
    all_goals
      have KPc1 := Lib.hid (fun (w' : World) (hq : Chg 0 0 w6 w') => (show w'.cell? ⟨w.heap.size + 1, 0, none⟩ = some (.slice A1a L1a.length c1a) ∧ w'.cell? ⟨w.heap.size + 1, 1, none⟩ = some (.slice A1b L1b.length c1b) ∧ w'.cell? ⟨E1, 0, none⟩ = some (.slice Arx1 L1a.length crx1) ∧ w'.cell? ⟨E1, 1, none⟩ = some (.slice Acx1 L1b.length ccx1) from ⟨(KE1.out.nx (RS.out.trans hq)).cell 0, (KE1.out.nx (RS.out.trans hq)).cell 1, (Zkx1.out.nx hq).cell 0, (Zkx1.out.nx hq).cell 1⟩))
      go_wp2_with fail
      go_region_held3 (fun w' => w'.cell? ⟨w.heap.size + 1, 0, none⟩ = some (.slice A1a L1a.length c1a) ∧ w'.cell? ⟨w.heap.size + 1, 1, none⟩ = some (.slice A1b L1b.length c1b) ∧ w'.cell? ⟨E1, 0, none⟩ = some (.slice Arx1 L1a.length crx1) ∧ w'.cell? ⟨E1, 1, none⟩ = some (.slice Acx1 L1b.length ccx1))
        (first | with_reducible exact KPc1.out _ (T8.out) | with_reducible exact KPc1.out _ (T8.out.dr) | with_reducible exact KPc1.out _ (T9.out) | with_reducible exact KPc1.out _ (T10.out) | fail)
        (first
          | (go_at_call 32; (with_reducible refine (lawsToClasses _ _ _ _ _ _ _ _ _ (RDA1a.out _ (RS.out.trans T8.out.dr)) (RDA1b.out _ (RS.out.trans T8.out.dr)) hnA1a hnA1b).mono ?_); rintro e w9 ⟨py1, qy1, rfl, oy1, by1⟩; obtain ⟨Ary1, cry1, rfl, _⟩ := own_form oy1.r; obtain ⟨Acy1, ccy1, rfl, _⟩ := own_form oy1.c; have T9 : Hid (Chg 0 0 w6 w9) := Lib.hid (T8.out.dr.bl by1); have F9 := Lib.hid (fix_vrow oy1); clear by1 oy1)
          | (go_at_call 34; (with_reducible refine (lawsEqClasses _ _ _ _ _ _ L1a L1b _ (Zfx1.out.nx T9.out).here F9.out.here (by omega) (by omega)).mono ?_); rintro e w10 ⟨rfl, hg⟩; have T10 : Hid (Chg 0 0 w6 w10) := Lib.hid (T9.out.gb hg); clear hg)
          | fail)
      all_goals
        go_wp2_with fail
        go_ret
        exact ⟨rfl, BE.out.trans ((RS.out.trans T10.out).below (.inr (Nat.le_refl _)) BE.out.size)⟩
end Go.Proofs.Ytcmlnokfjbglaaa
end

section
namespace Go.Proofs.Ytcmlnokfjbglaaa
open Go.ChangeShapes Go.WideShapes Go.ChangeAt Go.RowKit
set_option linter.unusedVariables false

section
variable {H : Type} {enc : TypeId × Value → H} {w : World} {spare : Nat → Bool} {held : Bool} {base fuel : Nat}

theorem intAt_of (x : Addr) (l : Nat) (zs : List Int) (hl : l ≤ zs.length) (hcell : ∀ i, i < zs.length → w.cell? (x.add i) = some (.int .i64 (zs.getD i 0))) :
    IntAt w w.heap.size (some x) l (zs.take l) := ⟨by simp; omega, fun hn => by
  obtain ⟨b, off, spot⟩ := x
  have hc := hcell 0 (by omega)
  have hspot : spot = none := by simpa [Addr.add] using World.cell?_spot hc
  subst hspot
  have hlt : b < w.heap.size := by simpa [Addr.add] using World.block_lt_of_cell? _ _ hc
  refine ⟨b, off, rfl, hlt, fun k y hy => ?_⟩
  have hkl : k < l := by
    rcases Nat.lt_or_ge k l with h1 | h1
    · exact h1
    · rw [List.getElem?_eq_none (by simp; omega)] at hy; cases hy
  rw [List.getElem?_take_of_lt hkl] at hy
  have h2 := hcell k (by omega)
  rw [List.getD_eq_getElem?_getD, hy] at h2
  simpa [Addr.add_lit] using h2⟩

/-- A cell that reads as a slice of integers. -/
theorem open_intS {cs : List Value} {y : DataW H × List MemPlace} (hf : DataW.trod enc Try.prog w base spare held fuel 28 cs = some y) :
    ∃ (A : Option Addr) (n cap : Nat) (L : List Int), cs = [.slice A n cap] ∧ n ≤ cap ∧ cap ≤ maxLen ∧ IntAt w w.heap.size A n L ∧ ∀ x ∈ L, (Lit.int .i64 x).wf = true := by
  rcases open_ints Try.underlying28 Try.underlying3 (by kernel_rfl) hf with ⟨hcs, _⟩ | ⟨x, l, c, zs, hcs, _, hl, hm, hz, _, hcell, hwz⟩
  · exact ⟨none, 0, 0, [], hcs, Nat.le_refl _, Nat.zero_le _, IntAt.nil _ _ _, fun x h => by cases h⟩
  · refine ⟨some x, l, c, zs.take l, hcs, hl, hm, intAt_of x l zs (by rw [hz]; split <;> omega) hcell, fun y hy => hwz y (List.mem_of_mem_take hy)⟩
end
end Go.Proofs.Ytcmlnokfjbglaaa
end

section
namespace Go.Proofs.Ytcmlnokfjbglaaa
open Go.ChangeShapes Go.WideShapes Go.ChangeAt Go.RowKit
set_option linter.unusedVariables false

section
variable {H : Type} {enc : TypeId × Value → H} {w : World} {spare : Nat → Bool} {held : Bool} {base fuel : Nat}
set_option maxRecDepth 100000 in
theorem open_mesh {r : Reach} {b0 : Nat} {v : Value} {d : DataW H} {p : List MemPlace}
    (hv : Value.okWide Try.prog w r b0 58 v) (h : DataW.Trod enc Try.prog w base spare held 58 v d p) :
    ∃ (W Hh : Int) (A : Option Addr) (n cap : Nat) (L : List Int), v = .agg #[.int .i64 W, .int .i64 Hh, .slice A n cap] ∧ (Lit.int .i64 W).wf = true ∧ (Lit.int .i64 Hh).wf = true ∧ n ≤ cap ∧ cap ≤ maxLen ∧ IntAt w w.heap.size A n L ∧ ∀ x ∈ L, (Lit.int .i64 x).wf = true := by
  obtain ⟨cs, rfl, hsz⟩ := okWide_struct Try.underlying58 hv
  have hC : Try.prog.cellsOf 58 = 3 := by kernel_rfl
  have hG : Try.prog.cellsOf 56 = 2 := by kernel_rfl
  have hS : Try.prog.cellsOf 28 = 1 := by kernel_rfl
  have hI : Try.prog.cellsOf 3 = 1 := by kernel_rfl
  obtain ⟨c0, c1, c2, rfl⟩ := Go.Joins.array3 (hsz.trans hC)
  obtain ⟨fuel, hf⟩ := h
  obtain ⟨y0, y1, n, hx, _, h0, h1⟩ := trod_struct2 Try.underlying58 hf
  obtain ⟨z0, z1, m, _, _, g0, g1⟩ := trod_struct2 Try.underlying56 h0
  simp [Value.cells, hG, hS, hI] at h1 g0 g1
  obtain ⟨W, e0, _, w0⟩ := DataW.trod_int Try.underlying3 g0
  obtain ⟨Hh, e1, _, w1⟩ := DataW.trod_int Try.underlying3 g1
  obtain ⟨A, l, cap, L, e2, i1, i2, i3, i4⟩ := open_intS h1
  simp at e0 e1 e2
  subst e0 e1 e2
  exact ⟨W, Hh, A, l, cap, L, rfl, w0, w1, i1, i2, i3, i4⟩
end
end Go.Proofs.Ytcmlnokfjbglaaa
end

section
namespace Go.Proofs.Ytcmlnokfjbglaaa
open Go.ChangeShapes Go.WideShapes Go.ChangeAt Go.RowKit
set_option linter.unusedVariables false
set_option maxRecDepth 20000

section
variable {H : Type} {enc : TypeId × Value → H} {w : World} {spare : Nat → Bool} {held : Bool} {base : Nat}
theorem open_table {r : Reach} {b0 : Nat} {v : Value} {d : DataW H} {p : List MemPlace}
    (hv : Value.okWide Try.prog w r b0 59 v) (h : DataW.Trod enc Try.prog w base spare held 59 v d p) :
    ∃ (A : Option Addr) (n cap : Nat) (P : List Int), v = .agg #[.slice A n cap] ∧ n ≤ cap ∧ cap ≤ maxLen ∧ IntAt w w.heap.size A n P ∧ ∀ x ∈ P, (Lit.int .i64 x).wf = true := by
  obtain ⟨cs, rfl, hsz⟩ := okWide_struct Try.underlying59 hv
  have hC : Try.prog.cellsOf 59 = 1 := by kernel_rfl
  have hS : Try.prog.cellsOf 28 = 1 := by kernel_rfl
  obtain ⟨c0, rfl⟩ : ∃ c, cs = #[c] := by
    obtain ⟨l⟩ := cs
    have h1 : l.length = 1 := hsz.trans hC
    obtain ⟨c, rfl⟩ := List.length_eq_one_iff.1 h1
    exact ⟨c, rfl⟩
  obtain ⟨fuel, hf⟩ := h
  obtain ⟨y0, n, hx, _, h0⟩ := trod_struct1 Try.underlying59 hf
  simp [Value.cells, hS] at h0
  obtain ⟨A, l, cap, P, e2, i1, i2, i3, i4⟩ := open_intS h0
  simp at e2
  subst e2
  exact ⟨A, l, cap, P, rfl, i1, i2, i3, i4⟩
end
end Go.Proofs.Ytcmlnokfjbglaaa
end

section
namespace Go.Proofs.Ytcmlnokfjbglaaa
open Go.ChangeShapes Go.WideShapes Go.ChangeAt Go.RowKit
set_option linter.unusedVariables false

section
variable {H : Type} {enc : TypeId × Value → H} {w : World} {spare : Nat → Bool} {held : Bool} {base : Nat}
set_option maxRecDepth 100000 in
theorem open_classes {r : Reach} {b0 : Nat} {v : Value} {d : DataW H} {p : List MemPlace}
    (hv : Value.okWide Try.prog w r b0 61 v) (h : DataW.Trod enc Try.prog w base spare held 61 v d p) :
    ∃ (AR : Option Addr) (nR cR : Nat) (R : List Int) (AC : Option Addr) (nC cC : Nat) (C : List Int), v = .agg #[.slice AR nR cR, .slice AC nC cC] ∧ nR ≤ cR ∧ cR ≤ maxLen ∧ IntAt w w.heap.size AR nR R ∧ (∀ x ∈ R, (Lit.int .i64 x).wf = true) ∧ nC ≤ cC ∧ cC ≤ maxLen ∧ IntAt w w.heap.size AC nC C ∧ ∀ x ∈ C, (Lit.int .i64 x).wf = true := by
  obtain ⟨cs, rfl, hsz⟩ := okWide_struct Try.underlying61 hv
  have hC : Try.prog.cellsOf 61 = 2 := by kernel_rfl
  have hT : Try.prog.cellsOf 59 = 1 := by kernel_rfl
  have hS : Try.prog.cellsOf 28 = 1 := by kernel_rfl
  obtain ⟨c0, c1, rfl⟩ := Go.Joins.array2 (hsz.trans hC)
  obtain ⟨fuel, hf⟩ := h
  obtain ⟨xs, n, _, hx, _, hlen, hf'⟩ := DataW.trod_struct Try.underlying61 hf
  match xs, hlen with
  | [y0, y1], _ =>
    have g0 := hf' 0 _ rfl
    have g1 := hf' 1 _ rfl
    simp [Value.cells, hT] at g0 g1
    obtain ⟨z0, n0, _, _, q0⟩ := trod_struct1 Try.underlying59 g0
    obtain ⟨z1, n1, _, _, q1⟩ := trod_struct1 Try.underlying59 g1
    simp [hS] at q0 q1
    obtain ⟨AR, nR, cR, R, e1, i1, i2, i3, i4⟩ := open_intS q0
    obtain ⟨AC, nC, cC, C, e2, j1, j2, j3, j4⟩ := open_intS q1
    simp at e1 e2
    subst e1 e2
    exact ⟨AR, nR, cR, R, AC, nC, cC, C, rfl, i1, i2, i3, i4, j1, j2, j3, j4⟩
end
end Go.Proofs.Ytcmlnokfjbglaaa
end

section
namespace Go.Proofs.Ytcmlnokfjbglaaa
open Go.ChangeShapes Go.WideShapes Go.ChangeAt Go.RowKit
set_option linter.unusedVariables false

def markI (k0 n j : Nat) (l : List Int) : List Int := (List.range n).map fun t => if t < j then ((k0 + t : Nat) : Int) else l.getD t 0
theorem markI_zero (k0 n : Nat) (l : List Int) (h : l.length = n) : markI k0 n 0 l = l := by
  refine List.ext_getElem (by simp [markI, h]) fun i h1 h2 => ?_
  simp [markI, List.getElem?_eq_getElem h2]
theorem markI_succ (k0 n j : Nat) (l : List Int) : (markI k0 n j l).set j ((k0 + j : Nat) : Int) = markI k0 n (j + 1) l := by
  refine List.ext_getElem (by simp [markI]) fun i h1 h2 => ?_
  rw [List.getElem_set]
  by_cases e : j = i
  · subst e; simp [markI]
  · simp only [e, if_false, markI, List.getElem_map, List.getElem_range]
    by_cases hi : i < j
    · rw [if_pos hi, if_pos (by omega)]
    · rw [if_neg hi, if_neg (by omega)]
theorem markI_length (k0 n j : Nat) (l : List Int) : (markI k0 n j l).length = n := by simp [markI]
def marksI (k0 n : Nat) : List Int := markI k0 n n []
theorem markI_all (k0 n : Nat) (l : List Int) : markI k0 n n l = marksI k0 n := by
  refine List.ext_getElem (by simp [markI, marksI]) fun i h1 h2 => ?_
  have : i < n := by simpa [markI] using h1
  simp [markI, marksI, this]
theorem marksI_get (k0 n j : Nat) (h : j < n) : (marksI k0 n).getD j 0 = ((k0 + j : Nat) : Int) := by
  rw [List.getD_eq_getElem?_getD, List.getElem?_eq_getElem (by simp [marksI, markI]; exact h)]
  simp [marksI, markI, h]
theorem marksI_length (k0 n : Nat) : (marksI k0 n).length = n := markI_length k0 n n []

theorem lawsMarkI (v : Value) (base n k0 : Nat) (l : List Int) (w : World) (h : w.ownsRow base 3 1 v n (intsV l)) (hk : k0 + n ≤ 1000000000) :
    Calls Try.prog 75 #[v, .int .i64 (k0 : Int)] w fun e w' => e = .returned (.int .i64 ((k0 + n : Nat) : Int)) ∧ w'.ownsRow base 3 1 v n (intsV (marksI k0 n)) ∧ w.grownBy w' v.ownBlock := by
  have hxl := own_ints_length h
  obtain ⟨A, cap, rfl, ha⟩ := own_form h
  have h' := h
  rw [← markI_zero k0 n l hxl] at h'
  clear h hxl
  have H0 := Lib.hid h'
  clear h'
  go_enter Try.func75, Try.ntmps75
  go_wp2_with fail
  go_loopw [1, 5] (fun q i wr => ∃ j : Nat, j ≤ n ∧ q = .int .i64 ((k0 + j : Nat) : Int) ∧ i = .int .i64 (j : Int) ∧ wr.ownsRow base 3 1 (.slice A n cap) n (intsV (markI k0 n j l)) ∧ w.grownBy wr (Value.slice A n cap).ownBlock) (fun _ i _ => n - (intOf i).toNat)
  case atStart => exact ⟨0, Nat.zero_le _, rfl, rfl, H0.out, gb_refl _ _⟩
  case round =>
    obtain ⟨j, hj, rfl, rfl, hown, hgr⟩ := hrel
    have HG := Lib.hid hgr
    clear hgr
    by_cases hlt : j < n
    · obtain ⟨g, rfl⟩ := ha (by omega)
      clear ha
      have hc := hown.cellAt j (by omega)
      rw [List.getElem?_eq_getElem (by rw [intsV_length, markI_length]; omega)] at hc
      have hf := hown.frozenAt j
      obtain ⟨hown2, hg2⟩ := hown.stored j (.int .i64 ((k0 + j : Nat) : Int))
      rw [intsV_set, markI_succ] at hown2
      have HOWN := Lib.hid hown2
      have HGG := Lib.hid (gb_trans HG.out hg2)
      clear hown hown2 hg2
      go_wp2_with fail
      go_roundw
      case rel => exact ⟨j + 1, by omega, by go_num, by go_num, HOWN.out, HGG.out⟩
      case measure => simp [intOf]; omega
    · obtain rfl : j = n := by omega
      rw [markI_all] at hown
      have HOWN := Lib.hid hown
      clear hown
      go_wp2_with fail
      go_ret
      exact ⟨rfl, HOWN.out, HG.out⟩

theorem lawsHeldI (A : Option Addr) (n cap B k0 : Nat) (w : World) (h : IntAt w B A n (marksI k0 n)) (hk : k0 + n ≤ 1000000000) :
    Calls Try.prog 76 #[.slice A n cap, .int .i64 (k0 : Int)] w fun e w' => e = .returned (.int .i64 ((k0 + n : Nat) : Int)) ∧ w.grownBy w' none := by
  have H0 := Lib.hid h
  clear h
  go_enter Try.func76, Try.ntmps76
  go_wp2_with fail
  go_loopw [1, 5] (fun q i wr => ∃ j m : Nat, j ≤ n ∧ q = .int .i64 ((k0 + j : Nat) : Int) ∧ i = .int .i64 (j : Int) ∧ wr = w.drewN m) (fun _ i _ => n - (intOf i).toNat)
  case atStart => exact ⟨0, 0, Nat.zero_le _, rfl, rfl, rfl⟩
  case round =>
    obtain ⟨j, m, hj, rfl, rfl, rfl⟩ := hrel
    by_cases hlt : j < n
    · obtain ⟨g, off, rfl, _, hc⟩ := H0.out.at j hlt
      rw [marksI_get k0 n j hlt] at hc
      go_wp2_with fail
      go_roundw
      case rel => exact ⟨j + 1, _, by omega, by go_num, by go_num, rfl⟩
      case measure => simp [intOf]; omega
    · obtain rfl : j = n := by omega
      go_wp2_with fail
      go_ret
      exact ⟨rfl, gb_drewN (gb_refl _ _) _⟩

theorem lawsHeldOwn (v : Value) (base n k0 : Nat) (w : World) (h : w.ownsRow base 3 1 v n (intsV (marksI k0 n))) (hk : k0 + n ≤ 1000000000) :
    Calls Try.prog 76 #[v, .int .i64 (k0 : Int)] w fun e w' => e = .returned (.int .i64 ((k0 + n : Nat) : Int)) ∧ w.grownBy w' none := by
  obtain ⟨A, c, rfl, _⟩ := own_form h
  exact lawsHeldI A n c _ k0 w (intAt_own h (marksI_length k0 n) (Nat.le_refl _)) hk
end Go.Proofs.Ytcmlnokfjbglaaa
end

section
namespace Go.Proofs.Ytcmlnokfjbglaaa
open Go.ChangeShapes Go.WideShapes Go.ChangeAt Go.RowKit
set_option linter.unusedVariables false

theorem lawsMarkTable (v : Value) (base n k0 : Nat) (l : List Int) (w : World) (h : w.ownsRow base 3 1 v n (intsV l)) (hk : k0 + n ≤ 1000000000) :
    Calls Try.prog 39 #[.agg #[v], .int .i64 (k0 : Int)] w fun e w' => e = .returned (.int .i64 ((k0 + n : Nat) : Int)) ∧ w'.ownsRow base 3 1 v n (intsV (marksI k0 n)) ∧ w.grownBy w' v.ownBlock := by
  obtain ⟨A, cap, rfl, ha⟩ := own_form h
  have h' := h.alloc (.cells #[.slice A n cap] 32)
  have HO := Lib.hid h'
  clear h h' ha
  go_enter Try.func39, Try.ntmps39
  go_wp2_with fail
  refine (lawsMarkI _ base n k0 l _ HO.out hk).mono ?_
  rintro e w1 ⟨rfl, o1, g1⟩
  have O1 := Lib.hid o1
  have G1 := Lib.hid (gb_trans (gb_alloc (gb_refl w _) _) g1)
  clear o1 g1
  go_wp2_with fail
  go_ret
  exact ⟨rfl, O1.out, G1.out⟩
end Go.Proofs.Ytcmlnokfjbglaaa
end

section
namespace Go.Proofs.Ytcmlnokfjbglaaa
open Go.ChangeShapes Go.WideShapes Go.ChangeAt Go.RowKit
set_option linter.unusedVariables false

theorem lawsHeldTable (v : Value) (base n k0 : Nat) (w : World) (h : w.ownsRow base 3 1 v n (intsV (marksI k0 n))) (hk : k0 + n ≤ 1000000000) :
    Calls Try.prog 40 #[.agg #[v], .int .i64 (k0 : Int)] w fun e w' => e = .returned (.int .i64 ((k0 + n : Nat) : Int)) ∧ w.grownBy w' none := by
  obtain ⟨A, cap, rfl, ha⟩ := own_form h
  have HO := Lib.hid (h.alloc (.cells #[.slice A n cap] 32))
  clear h ha
  go_enter Try.func40, Try.ntmps40
  go_wp2_with fail
  refine (lawsHeldOwn _ base n k0 _ HO.out hk).mono ?_
  rintro e w1 ⟨rfl, g1⟩
  have G1 := Lib.hid (gb_trans (gb_alloc (gb_refl w _) _) g1)
  clear g1
  have hk0 : ¬ (((k0 + n : Nat) : Int)) < 0 := by omega
  go_wp2_with fail
  go_ret
  exact ⟨rfl, G1.out⟩
theorem lawsEqTabOwn (v1 v2 : Value) (b1 b2 : Nat) (P : List Int) (w : World) (h1 : w.ownsRow b1 3 1 v1 P.length (intsV P)) (h2 : w.ownsRow b2 3 1 v2 P.length (intsV P)) (hn : P.length ≤ 1000000000) :
    Calls Try.prog 37 #[.agg #[v1], .agg #[v2]] w (RetB true w) := by
  obtain ⟨A1, c1, rfl, _⟩ := own_form h1
  obtain ⟨A2, c2, rfl, _⟩ := own_form h2
  exact lawsEqTable A1 A2 P.length c1 c2 _ _ P w (intAt_own h1 rfl (Nat.le_refl _)) (intAt_own h2 rfl (Nat.le_refl _)) (Nat.le_refl _) (Nat.le_refl _) hn
end Go.Proofs.Ytcmlnokfjbglaaa
end

section
namespace Go.Proofs.Ytcmlnokfjbglaaa
open Go.ChangeShapes Go.WideShapes Go.ChangeAt Go.RowKit
set_option linter.unusedVariables false
set_option maxRecDepth 20000

/-- The rows are marked; a world between. -/
theorem lawsMarkClasses (vr vc : Value) (base a b k0 : Nat) (R C : List Int) (w : World) (h : VRow w base vr vc a b R C) (hk : k0 + a + b ≤ 1000000000) :
    Calls Try.prog 38 #[.agg #[vr, vc], .int .i64 (k0 : Int)] w fun e w' => e = .returned (.int .i64 ((k0 + a + b : Nat) : Int)) ∧ VRow w' base vr vc a b (marksI k0 a) (marksI (k0 + a) b) ∧ ∃ w1, w1.ownsRow base 3 1 vr a (intsV (marksI k0 a)) ∧ w.grownBy w1 vr.ownBlock ∧ w1.grownBy w' vc.ownBlock := by
  obtain ⟨A1, c1, rfl, _⟩ := own_form h.r
  obtain ⟨A2, c2, rfl, _⟩ := own_form h.c
  have hg := gb_alloc (gb_refl w none) (.cells #[.slice A1 a c1, .slice A2 b c2] 43)
  have H1 := Lib.hid (h.gb hg)
  have HB1 := Lib.hid (Blk.new w 43 #[.slice A1 a c1, .slice A2 b c2])
  clear h hg
  go_enter Try.func38, Try.ntmps38
  go_wp2_with fail
  refine (lawsMarkTable _ base a k0 R _ H1.out.r (by omega)).mono ?_
  rintro e w1 ⟨rfl, o1, g1⟩
  have O1 := Lib.hid o1
  have OC := Lib.hid (row_kept H1.out.c g1 (fun j e => H1.out.ap j e))
  have e0 : w1.cell? ⟨w.heap.size, 1, none⟩ = some (.slice A2 b c2) := (HB1.out.grown g1 (fun e => own_ne H1.out.r HB1.out (by decide) e.symm)).cell 1
  have G1 := Lib.hid (gb_trans (gb_alloc (gb_refl w _) (.cells #[.slice A1 a c1, .slice A2 b c2] 43)) g1)
  clear o1 g1
  go_wp2_with fail
  refine (lawsMarkTable _ base b (k0 + a) C _ OC.out hk).mono ?_
  rintro e w2 ⟨rfl, o2, g2⟩
  have O2 := Lib.hid o2
  have OR := Lib.hid (row_kept O1.out g2 (fun j e e2 => H1.out.ap j e2 e))
  have G2 := Lib.hid g2
  clear o2 g2 e0
  go_wp2_with fail
  go_ret
  exact ⟨rfl, ⟨OR.out, O2.out, H1.out.ap⟩, w1, O1.out, G1.out, G2.out⟩
theorem lawsHeldClasses (vr vc : Value) (base a b k0 : Nat) (w : World) (h : VRow w base vr vc a b (marksI k0 a) (marksI (k0 + a) b)) (hk : k0 + a + b ≤ 1000000000) :
    Calls Try.prog 50 #[.agg #[vr, vc], .int .i64 (k0 : Int)] w fun e w' => e = .returned (.int .i64 ((k0 + a + b : Nat) : Int)) ∧ w.grownBy w' none := by
  obtain ⟨A1, c1, rfl, _⟩ := own_form h.r
  obtain ⟨A2, c2, rfl, _⟩ := own_form h.c
  have hg := gb_alloc (gb_refl w none) (.cells #[.slice A1 a c1, .slice A2 b c2] 43)
  have H1 := Lib.hid (h.gb hg)
  have HB1 := Lib.hid (Blk.new w 43 #[.slice A1 a c1, .slice A2 b c2])
  have HG := Lib.hid hg
  have k1 : (0 : Int) ≤ ((k0 + a : Nat) : Int) := by omega
  have k2 : (0 : Int) ≤ ((k0 + a + b : Nat) : Int) := by omega
  have k3 : ¬ ((k0 + a : Nat) : Int) < 0 := by omega
  have k4 : ¬ ((k0 + a + b : Nat) : Int) < 0 := by omega
  clear h hg
  go_enter Try.func50, Try.ntmps50
  go_wp2_with fail
  refine (lawsHeldTable _ base a k0 _ H1.out.r (by omega)).mono ?_
  rintro e w1 ⟨rfl, g1⟩
  have H2 := Lib.hid (H1.out.gb g1)
  have e0 : w1.cell? ⟨w.heap.size, 1, none⟩ = some (.slice A2 b c2) := (HB1.out.grown g1 (by simp)).cell 1
  have G1 := Lib.hid (gb_trans HG.out g1)
  clear g1
  go_wp2_with fail
  refine (lawsHeldTable _ base b (k0 + a) _ H2.out.c hk).mono ?_
  rintro e w2 ⟨rfl, g2⟩
  have G2 := Lib.hid (gb_trans G1.out g2)
  clear g2 e0
  go_wp2_with fail
  go_ret
  exact ⟨rfl, G2.out⟩
end Go.Proofs.Ytcmlnokfjbglaaa
end
