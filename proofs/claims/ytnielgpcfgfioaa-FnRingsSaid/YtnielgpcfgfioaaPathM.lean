/- What is proved here: the shortest cycle of dependencies as mathematics: the least channel on one of the least length, the way from it back to it, and that this is a cycle that cannot be shortened; nothing of the program. -/
import Derived.Test.YtnielgpcfgfioaaCycM
namespace Go.Proofs.Ytnielgpcfgfioaa
open Go.ChangeShapes Go.WideShapes Go.ChangeAt Go.RowKit
set_option linter.unusedVariables false

/-- The least length of a cycle through one of the first channels, and the least of these channels. -/
def bestTo (D : List Dep) : Nat → Nat × Int
  | 0 => (0, -1)
  | c + 1 => if 0 < distD D c c ∧ ((bestTo D c).1 = 0 ∨ distD D c c < (bestTo D c).1) then (distD D c c, (c : Int)) else bestTo D c
theorem best_take {D : List Dep} {c : Nat} (h : 0 < distD D c c) (k : (bestTo D c).1 = 0 ∨ distD D c c < (bestTo D c).1) : bestTo D (c + 1) = (distD D c c, (c : Int)) := if_pos ⟨h, k⟩
theorem best_pass {D : List Dep} {c : Nat} (h : ¬ (0 < distD D c c ∧ ((bestTo D c).1 = 0 ∨ distD D c c < (bestTo D c).1))) : bestTo D (c + 1) = bestTo D c := if_neg h
def BestIs (D : List Dep) (c : Nat) : Prop :=
  ((bestTo D c).1 = 0 ∧ (bestTo D c).2 = -1 ∧ ∀ j, j < c → distD D j j = 0) ∨
  (∃ s, s < c ∧ (bestTo D c).2 = (s : Int) ∧ (bestTo D c).1 = distD D s s ∧ 1 ≤ distD D s s ∧ (∀ j, j < c → distD D j j = 0 ∨ distD D s s ≤ distD D j j) ∧ (∀ j, j < s → distD D j j = 0 ∨ distD D s s < distD D j j))
theorem best_is (D : List Dep) : ∀ c, BestIs D c
  | 0 => .inl ⟨rfl, rfl, fun j h => by omega⟩
  | c + 1 => by
    have ih := best_is D c
    by_cases h : 0 < distD D c c ∧ ((bestTo D c).1 = 0 ∨ distD D c c < (bestTo D c).1)
    · have e : bestTo D (c + 1) = (distD D c c, (c : Int)) := if_pos h
      unfold BestIs
      rw [e]
      refine .inr ⟨c, Nat.lt_succ_self _, rfl, rfl, h.1, fun j hj => ?_, fun j hj => ?_⟩
      · rcases Nat.lt_succ_iff_lt_or_eq.1 hj with hj | rfl
        · rcases ih with ⟨_, _, h3⟩ | ⟨s, _, _, h3, h4, h5, _⟩
          · exact .inl (h3 j hj)
          · have := h.2
            rcases h5 j hj with h6 | h6
            · exact .inl h6
            · right; omega
        · exact .inr (Nat.le_refl _)
      · rcases ih with ⟨_, _, h3⟩ | ⟨s, _, _, h3, h4, h5, _⟩
        · exact .inl (h3 j hj)
        · have := h.2
          rcases h5 j hj with h6 | h6
          · exact .inl h6
          · right; omega
    · have e : bestTo D (c + 1) = bestTo D c := if_neg h
      unfold BestIs
      rw [e]
      rcases ih with ⟨h1, h2, h3⟩ | ⟨s, h1, h2, h3, h4, h5, h6⟩
      · refine .inl ⟨h1, h2, fun j hj => ?_⟩
        rcases Nat.lt_succ_iff_lt_or_eq.1 hj with hj | rfl
        · exact h3 j hj
        · have : ¬ 0 < distD D j j := fun hp => h ⟨hp, .inl h1⟩
          omega
      · refine .inr ⟨s, by omega, h2, h3, h4, fun j hj => ?_, h6⟩
        rcases Nat.lt_succ_iff_lt_or_eq.1 hj with hj | rfl
        · exact h5 j hj
        · by_cases hp : 0 < distD D j j
          · have : ¬ distD D j j < (bestTo D j).1 := fun hl => h ⟨hp, .inr hl⟩
            right; omega
          · left; omega
/-- The next channel of the cycle: the least successor from which so many steps are left. -/
def candP (D : List Dep) (st left : Nat) (s : Int) : Bool := if left = 0 then decide (s = (st : Int)) else decide (s ≠ (st : Int)) && decide (distD D s.toNat st = left)
def nextP (D : List Dep) (st left u : Nat) : Nat := match (succD D (u : Int)).find? (candP D st left) with | some s => s.toNat | none => u
def atP (D : List Dep) (st b : Nat) : Nat → Nat
  | 0 => st
  | i + 1 => nextP D st (b - i - 1) (atP D st b i)
def cycP (D : List Dep) (st b : Nat) : List Int := (List.range b).map fun i => (atP D st b i : Int)
/-- The shortest cycle. -/
def cycG (D : List Dep) : List Int := if okD D = true then cycP D (bestTo D 128).2.toNat (bestTo D 128).1 else []
theorem cyc_bad {D : List Dep} (h : okD D = false) : cycG D = [] := by simp [cycG, h]
theorem cyc_ok {D : List Dep} (h : okD D = true) : cycG D = cycP D (bestTo D 128).2.toNat (bestTo D 128).1 := by simp [cycG, h]
theorem cyc_len (D : List Dep) (st b : Nat) : (cycP D st b).length = b := by simp [cycP]
theorem cyc_at {D : List Dep} {st b i : Nat} (h : i < b) : (cycP D st b).getD i 0 = (atP D st b i : Int) := by
  rw [List.getD_eq_getElem?_getD, cycP, List.getElem?_map, List.getElem?_range h]; rfl
/-- There is a next one. -/
theorem next_is {D : List Dep} (hD : okD D = true) {st left u : Nat} (h : distD D u st = left + 1) :
    edgeB D u (nextP D st left u) = true ∧ (left = 0 → nextP D st left u = st) ∧ (0 < left → nextP D st left u ≠ st ∧ distD D (nextP D st left u) st = left) := by
  have hw := dist_pos hD (a := u) (b := st) (by omega)
  rw [h] at hw
  have hex : ∃ s ∈ succD D (u : Int), candP D st left s = true := by
    obtain ⟨s, h1, h2⟩ := way_head hD hw
    refine ⟨(s : Int), edge_succ.1 h1, ?_⟩
    unfold candP
    split
    · rename_i h0
      subst h0
      rw [wayB_zero.1 h2]
      simp
    · rename_i h0
      have hst : s ≠ st := fun e => by
        subst e
        have := (dist_way hD (Nat.le_refl 1) ((way_one hD).2 h1)).2
        omega
      have h3 := dist_way hD (show 1 ≤ left by omega) h2
      have h4 : left ≤ distD D s st := by
        have h5 := dist_way hD (show 1 ≤ distD D s st + 1 by omega) (way_cons hD h1 (dist_pos hD h3.1))
        omega
      have h5 : (s : Int) ≠ (st : Int) := fun e => hst (by omega)
      simp only [Int.toNat_natCast]
      simp [h5]
      omega
  unfold nextP
  cases hf : (succD D (u : Int)).find? (candP D st left) with
  | none =>
    obtain ⟨s, hs, hc⟩ := hex
    have := List.find?_eq_none.1 hf s hs
    rw [hc] at this
    simp at this
  | some s =>
    have hs := List.mem_of_find?_eq_some hf
    have hc := List.find?_some hf
    have hr := succ_in hD hs
    have he : edgeB D u s.toNat = true := edge_succ.2 (by rw [Int.toNat_of_nonneg hr.1]; exact hs)
    refine ⟨he, fun h0 => ?_, fun h0 => ?_⟩
    · unfold candP at hc
      rw [if_pos h0] at hc
      have := of_decide_eq_true hc
      show s.toNat = st
      omega
    · unfold candP at hc
      rw [if_neg (by omega)] at hc
      simp only [Bool.and_eq_true, decide_eq_true_eq] at hc
      refine ⟨?_, hc.2⟩
      show s.toNat ≠ st
      have := hc.1
      omega
theorem path_dist {D : List Dep} (hD : okD D = true) {st b : Nat} (hb : distD D st st = b) : ∀ {i : Nat}, i < b → distD D (atP D st b i) st = b - i
  | 0, h => hb
  | i + 1, h => by
    have ih := path_dist hD hb (i := i) (by omega)
    have := (next_is hD (st := st) (left := b - i - 1) (u := atP D st b i) (by omega)).2.2 (by omega)
    rw [atP, this.2]
    omega
theorem path_edge {D : List Dep} (hD : okD D = true) {st b : Nat} (hb : distD D st st = b) {i : Nat} (h : i < b) : edgeB D (atP D st b i) (atP D st b (i + 1)) = true :=
  (next_is hD (st := st) (left := b - i - 1) (u := atP D st b i) (by have := path_dist hD hb h; omega)).1
theorem path_back {D : List Dep} (hD : okD D = true) {st b : Nat} (hb : distD D st st = b) (h : 1 ≤ b) : atP D st b b = st := by
  obtain ⟨i, rfl⟩ : ∃ i, b = i + 1 := ⟨b - 1, by omega⟩
  exact (next_is hD (st := st) (left := (i + 1) - i - 1) (u := atP D st (i + 1) i) (by have := path_dist hD hb (i := i) (by omega); omega)).2.1 (by omega)
theorem path_way {D : List Dep} (hD : okD D = true) {st b : Nat} (hb : distD D st st = b) : ∀ {i : Nat}, i ≤ b → wayB D st i (atP D st b i) = true
  | 0, _ => wayB_zero.2 rfl
  | i + 1, h => (wayB_next hD).2 ⟨_, path_way hD hb (i := i) (by omega), path_edge hD hb (by omega)⟩
theorem path_inj {D : List Dep} (hD : okD D = true) {st b : Nat} (hb : distD D st st = b) {i j : Nat} (hi : i < b) (hj : j < b) (h : atP D st b i = atP D st b j) : i = j := by
  have h1 := path_dist hD hb hi
  have h2 := path_dist hD hb hj
  rw [h] at h1
  omega
theorem path_lt {D : List Dep} (hD : okD D = true) {st b : Nat} (hb : distD D st st = b) {i : Nat} (h : i < b) : atP D st b i < 128 := (edge_lt hD (path_edge hD hb h)).1
/-- Each channel of the cycle is on no shorter one. -/
theorem path_self {D : List Dep} (hD : okD D = true) {st b : Nat} (hb : distD D st st = b) (hmin : ∀ j, j < 128 → distD D j j = 0 ∨ b ≤ distD D j j) {i : Nat} (h : i < b) : distD D (atP D st b i) (atP D st b i) = b := by
  have h1 := path_dist hD hb h
  have h2 := way_add hD (dist_pos hD (a := atP D st b i) (b := st) (by omega)) (path_way hD hb (Nat.le_of_lt h))
  have h3 := dist_way hD (by omega) h2
  rcases hmin _ (path_lt hD hb h) with h4 | h4
  · omega
  · omega

/-- The list has this element. -/
def hasD (D : List Dep) (x y : Int) : Bool := (List.range D.length).any fun i => decide ((atD D i).1 = x) && decide ((atD D i).2 = y)
theorem has_yes {D : List Dep} {x y : Int} {i : Nat} (hi : i < D.length) (h1 : (atD D i).1 = x) (h2 : (atD D i).2 = y) : hasD D x y = true := List.any_eq_true.2 ⟨i, List.mem_range.2 hi, by simp [h1, h2]⟩
theorem has_no {D : List Dep} {x y : Int} (h : ∀ i, i < D.length → ¬ ((atD D i).1 = x ∧ (atD D i).2 = y)) : hasD D x y = false := by
  unfold hasD
  rw [List.any_eq_false]
  intro i hi
  have := h i (List.mem_range.1 hi)
  simpa using this
theorem has_edge {D : List Dep} {a b : Nat} (h : edgeB D a b = true) : hasD D (a : Int) (b : Int) = true := by
  obtain ⟨k, hk, e⟩ := atD_ex (edge_iff.1 h)
  exact has_yes hk (by rw [e]) (by rw [e])
def cycAt (D : List Dep) (C : List Int) (i : Nat) : Bool := !inG (C.take i) (C.getD i 0) && hasD D (C.getD i 0) (C.getD ((i + 1) % C.length) 0)
/-- A cycle: no channel twice, and elements from each to the next one, and from the last to the first. -/
def isCycG (D : List Dep) (C : List Int) : Bool := okD D && (List.range C.length).all (cycAt D C) && decide (0 < C.length)
theorem isCyc_bad {D : List Dep} {C : List Int} (h : okD D = false) : isCycG D C = false := by simp [isCycG, h]
theorem isCyc_nil (D : List Dep) : isCycG D [] = false := by simp [isCycG]
theorem isCyc_no {D : List Dep} {C : List Int} {i : Nat} (hi : i < C.length) (h : cycAt D C i = false) : isCycG D C = false := by
  cases ho : isCycG D C with
  | false => rfl
  | true =>
    simp only [isCycG, Bool.and_eq_true, List.all_eq_true, List.mem_range] at ho
    rw [ho.1.2 i hi] at h
    cases h
theorem isCyc_yes {D : List Dep} {C : List Int} (hD : okD D = true) (h : ∀ i, i < C.length → cycAt D C i = true) : isCycG D C = decide (0 < C.length) := by
  have : (List.range C.length).all (cycAt D C) = true := by
    rw [List.all_eq_true]
    exact fun i hi => h i (List.mem_range.1 hi)
  simp [isCycG, hD, this]
theorem inG_none {L : List Int} {x : Int} (h : x ∉ L) : inG L x = false := by
  cases hi : inG L x with
  | false => rfl
  | true => exact absurd (List.contains_iff_mem.1 hi) h
theorem cycP_is {D : List Dep} (hD : okD D = true) {st b : Nat} (hb : distD D st st = b) (h1 : 1 ≤ b) : isCycG D (cycP D st b) = true := by
  rw [isCyc_yes hD (fun i hi => ?_), cyc_len]
  · exact decide_eq_true (by omega)
  · rw [cyc_len] at hi
    unfold cycAt
    rw [cyc_len, cyc_at hi]
    have hnin : inG ((cycP D st b).take i) (atP D st b i : Int) = false := inG_none fun hm => by
      obtain ⟨j, hj, e⟩ := List.getElem_of_mem hm
      rw [List.length_take, cyc_len] at hj
      rw [List.getElem_take] at e
      have hjb : j < b := by omega
      have e2 : (cycP D st b).getD j 0 = (atP D st b i : Int) := by
        rw [List.getD_eq_getElem?_getD, List.getElem?_eq_getElem (by rw [cyc_len]; exact hjb), e]; rfl
      rw [cyc_at hjb] at e2
      have := path_inj hD hb hjb hi (by omega)
      omega
    rw [hnin]
    have he := path_edge hD hb hi
    by_cases hlast : i + 1 = b
    · rw [hlast, Nat.mod_self, cyc_at (by omega)]
      rw [hlast, path_back hD hb h1] at he
      exact has_edge he
    · rw [Nat.mod_eq_of_lt (by omega), cyc_at (by omega)]
      exact has_edge he
/-- The shortest cycle: either there is none, or it is one, begins with its least channel, and each of its channels is on no shorter one. -/
theorem cyc_facts {D : List Dep} (hD : okD D = true) :
    (cycG D = [] ∧ ∀ c, c < 128 → distD D c c = 0) ∨
    (∃ st b, cycG D = cycP D st b ∧ st < 128 ∧ distD D st st = b ∧ 1 ≤ b ∧ (∀ j, j < 128 → distD D j j = 0 ∨ b ≤ distD D j j) ∧ (∀ i, i < b → st ≤ atP D st b i) ∧ isCycG D (cycG D) = true) := by
  rw [cyc_ok hD]
  rcases best_is D 128 with ⟨h1, h2, h3⟩ | ⟨s, h1, h2, h3, h4, h5, h6⟩
  · left
    rw [h1]
    exact ⟨rfl, h3⟩
  · right
    rw [h2, h3, Int.toNat_natCast]
    refine ⟨s, _, rfl, h1, rfl, h4, h5, fun i hi => ?_, cycP_is hD rfl h4⟩
    by_cases hlt : atP D s (distD D s s) i < s
    · have e := path_self hD rfl h5 hi
      rcases h6 _ hlt with h7 | h7
      · omega
      · omega
    · omega
/-- Whether there is a cycle. -/
def hasCyc (D : List Dep) : Bool := decide (0 < (cycG D).length)
theorem cycG_le (D : List Dep) : (cycG D).length ≤ 128 := by
  cases hD : okD D with
  | false => rw [cyc_bad hD]; simp
  | true =>
    rcases cyc_facts hD with ⟨h, _⟩ | ⟨st, b, h, _, hb, _⟩
    · rw [h]; simp
    · rw [h, cyc_len, ← hb]; exact dist_le hD st st
end Go.Proofs.Ytnielgpcfgfioaa
