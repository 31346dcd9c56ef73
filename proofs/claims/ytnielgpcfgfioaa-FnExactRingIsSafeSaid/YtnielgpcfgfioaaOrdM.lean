/- What is proved here: orders of channels as mathematics: the next channel without a rank and without predecessors that lack one, the order that ranking them one by one yields, and that it is one; nothing of the program. -/
import Derived.Test.YtnielgpcfgfioaaDepM
import Derived.Test.YtnielgpcfgfioaaMeshM
namespace Go.Proofs.Ytnielgpcfgfioaa
open Go.ChangeShapes Go.WideShapes Go.ChangeAt Go.RowKit
set_option linter.unusedVariables false

/-- The element leads from a channel without a rank to c. -/
def holdO (R : List Int) (d : Dep) (c : Nat) : Bool := decide (d.2 = (c : Int)) && decide (R.getD d.1.toNat 0 < 0)
def freeO (D : List Dep) (R : List Int) (c : Nat) : Bool := (List.range D.length).all fun i => !holdO R (atD D i) c
theorem freeO_iff {D : List Dep} {R : List Int} {c : Nat} : freeO D R c = true ↔ ∀ i, i < D.length → holdO R (atD D i) c = false := by
  unfold freeO
  rw [List.all_eq_true]
  exact ⟨fun h i hi => by simpa using h i (List.mem_range.2 hi), fun h i hi => by simpa using h i (List.mem_range.1 hi)⟩
theorem freeO_no {D : List Dep} {R : List Int} {c i : Nat} (hi : i < D.length) (h : holdO R (atD D i) c = true) : freeO D R c = false := by
  cases hf : freeO D R c with
  | false => rfl
  | true => rw [freeO_iff.1 hf i hi] at h; cases h
/-- c can be ranked next. -/
def candO (D : List Dep) (R : List Int) (c : Nat) : Bool := decide (R.getD c 0 < 0) && freeO D R c
/-- The least such channel. -/
def bestO (D : List Dep) (R : List Int) : Option Nat := (List.range 128).find? (candO D R)
theorem find_range {p : Nat → Bool} {n c : Nat} (hc : c < n) (h : p c = true) (h0 : ∀ j, j < c → p j = false) : (List.range n).find? p = some c := by
  induction n with
  | zero => omega
  | succ n ih =>
    rw [List.range_succ, List.find?_append]
    rcases Nat.lt_succ_iff_lt_or_eq.1 hc with h1 | h1
    · rw [ih h1]; rfl
    · subst h1
      have : (List.range c).find? p = none := List.find?_eq_none.2 fun x hx => by
        rw [h0 x (List.mem_range.1 hx)]; simp
      rw [this]
      simp [h]
theorem bestO_some {D : List Dep} {R : List Int} {c : Nat} (hc : c < 128) (h : candO D R c = true) (h0 : ∀ j, j < c → candO D R j = false) : bestO D R = some c := find_range hc h h0
theorem bestO_none {D : List Dep} {R : List Int} (h0 : ∀ j, j < 128 → candO D R j = false) : bestO D R = none := List.find?_eq_none.2 fun x hx => by rw [h0 x (List.mem_range.1 hx)]; simp
theorem bestO_is {D : List Dep} {R : List Int} {c : Nat} (h : bestO D R = some c) : c < 128 ∧ candO D R c = true := ⟨List.mem_range.1 (List.mem_of_find?_eq_some h), List.find?_some h⟩
theorem bestO_least {D : List Dep} {R : List Int} {c : Nat} (h : bestO D R = some c) {j : Nat} (hj : j < c) : candO D R j = false := by
  cases hp : candO D R j with
  | false => rfl
  | true =>
    have key : ∀ n : Nat, j < n → ∃ k, (List.range n).find? (candO D R) = some k ∧ k ≤ j := fun n => by
      induction n with
      | zero => intro h; omega
      | succ n ih =>
        intro hn
        rw [List.range_succ, List.find?_append]
        rcases Nat.lt_succ_iff_lt_or_eq.1 hn with h1 | h1
        · obtain ⟨k, hk, hl⟩ := ih h1
          exact ⟨k, by rw [hk]; rfl, hl⟩
        · subst h1
          cases hf : (List.range j).find? (candO D R) with
          | some k => exact ⟨k, rfl, Nat.le_of_lt (List.mem_range.1 (List.mem_of_find?_eq_some hf))⟩
          | none => exact ⟨j, by simp [hp], Nat.le_refl _⟩
    obtain ⟨k, hk, hl⟩ := key 128 (by have := (bestO_is h).1; omega)
    unfold bestO at h
    rw [h] at hk
    cases hk
    omega
/-- The ranks behind r steps. -/
def ordTo (D : List Dep) : Nat → Option (List Int)
  | 0 => some (List.replicate 128 (-1))
  | r + 1 => (ordTo D r).bind fun R => (bestO D R).map fun c => R.set c (r : Int)
theorem ordTo_next {D : List Dep} {r c : Nat} {R : List Int} (h : ordTo D r = some R) (hc : bestO D R = some c) : ordTo D (r + 1) = some (R.set c (r : Int)) := by simp [ordTo, h, hc]
theorem ordTo_stop {D : List Dep} {r : Nat} {R : List Int} (h : ordTo D r = some R) (hc : bestO D R = none) : ordTo D (r + 1) = none := by simp [ordTo, h, hc]
theorem ordTo_none {D : List Dep} {r : Nat} (h : ordTo D r = none) : ∀ k, ordTo D (r + k) = none
  | 0 => h
  | k + 1 => by rw [← Nat.add_assoc, ordTo, ordTo_none h k]; rfl
theorem ordTo_dead {D : List Dep} {r : Nat} (h : ordTo D r = none) (hr : r ≤ 128) : ordTo D 128 = none := by
  have := ordTo_none h (128 - r)
  rwa [show r + (128 - r) = 128 by omega] at this
def orderO (D : List Dep) : Option (List Int) := if okD D then ordTo D 128 else none
theorem orderO_bad {D : List Dep} (h : okD D = false) : orderO D = none := by simp [orderO, h]
theorem orderO_ok {D : List Dep} (h : okD D = true) : orderO D = ordTo D 128 := by simp [orderO, h]
/-- What holds behind r steps. -/
structure OrdInv (D : List Dep) (r : Nat) (R : List Int) : Prop where
  len : R.length = 128
  rng : ∀ c, c < 128 → R.getD c 0 = -1 ∨ (0 ≤ R.getD c 0 ∧ R.getD c 0 < (r : Int))
  cnt : R.countP (fun x => decide (x < 0)) = 128 - r
  all : ∀ s : Nat, s < r → ∃ c, c < 128 ∧ R.getD c 0 = (s : Int)
  dep : ∀ d ∈ D, 0 ≤ R.getD d.2.toNat 0 → 0 ≤ R.getD d.1.toNat 0 ∧ R.getD d.1.toNat 0 < R.getD d.2.toNat 0
theorem set_getD {R : List Int} {c i : Nat} {x : Int} (hc : c < R.length) : (R.set c x).getD i 0 = if c = i then x else R.getD i 0 := by
  rw [List.getD_eq_getElem?_getD, List.getElem?_set]
  split
  · rename_i h
    subst h
    first | rfl | (rw [if_pos hc]; rfl) | simp [hc]
  · rw [List.getD_eq_getElem?_getD]
theorem ord_start (D : List Dep) (hD : okD D = true) : OrdInv D 0 (List.replicate 128 (-1)) := by
  have hg : ∀ c, c < 128 → (List.replicate 128 (-1 : Int)).getD c 0 = -1 := fun c hc => by
    rw [List.getD_eq_getElem?_getD, List.getElem?_replicate, if_pos hc]; rfl
  refine ⟨List.length_replicate, fun c hc => .inl (hg c hc), ?_, fun s hs => by omega, fun d hd h => ?_⟩
  · rw [List.countP_replicate]; rfl
  · have := inD_iff.1 (okD_in hD hd)
    rw [hg d.2.toNat (by omega)] at h
    omega
theorem ord_next {D : List Dep} (hD : okD D = true) {r c : Nat} {R : List Int} (h : OrdInv D r R) (hr : r < 128) (hc : bestO D R = some c) : OrdInv D (r + 1) (R.set c (r : Int)) := by
  obtain ⟨hc1, hc2⟩ := bestO_is hc
  simp only [candO, Bool.and_eq_true, decide_eq_true_eq] at hc2
  obtain ⟨hn, hf⟩ := hc2
  have hcl : c < R.length := by rw [h.len]; exact hc1
  refine ⟨by rw [List.length_set]; exact h.len, fun i hi => ?_, ?_, fun s hs => ?_, fun d hd h2 => ?_⟩
  · rw [set_getD hcl]
    split
    · right; omega
    · rcases h.rng i hi with h1 | h1
      · exact .inl h1
      · right; omega
  · have e : R.getD c 0 = R[c] := by rw [List.getD_eq_getElem?_getD, List.getElem?_eq_getElem hcl]; rfl
    rw [e] at hn
    have hr0 : ¬ ((r : Int) < 0) := by omega
    rw [List.countP_set hcl, h.cnt]
    simp [hn, hr0]
    omega
  · rcases Nat.lt_succ_iff_lt_or_eq.1 hs with h1 | h1
    · obtain ⟨i, hi, he⟩ := h.all s h1
      refine ⟨i, hi, ?_⟩
      rw [set_getD hcl, if_neg (fun e => by subst e; omega)]
      exact he
    · exact ⟨c, hc1, by rw [set_getD hcl, if_pos rfl, h1]⟩
  · have hin := inD_iff.1 (okD_in hD hd)
    obtain ⟨i, hi, rfl⟩ := atD_ex hd
    have hh := freeO_iff.1 hf i hi
    simp only [holdO, Bool.and_eq_false_iff, decide_eq_false_iff_not] at hh
    rw [set_getD hcl] at h2
    rw [set_getD hcl, set_getD hcl]
    by_cases e2 : c = (atD D i).2.toNat
    · rw [if_pos e2]
      have h3 : ¬ (R.getD (atD D i).1.toNat 0 < 0) := by
        rcases hh with h4 | h4
        · exact absurd (by omega) h4
        · exact h4
      have e1 : c ≠ (atD D i).1.toNat := fun e => by rw [← e] at h3; omega
      rw [if_neg e1]
      rcases h.rng (atD D i).1.toNat (by omega) with h5 | h5
      · omega
      · omega
    · rw [if_neg e2] at h2 ⊢
      obtain ⟨h5, h6⟩ := h.dep _ hd h2
      have e1 : c ≠ (atD D i).1.toNat := fun e => by rw [← e] at h5; omega
      rw [if_neg e1]
      exact ⟨h5, h6⟩
theorem ord_inv {D : List Dep} (hD : okD D = true) : ∀ {r : Nat} {R : List Int}, r ≤ 128 → ordTo D r = some R → OrdInv D r R
  | 0, R, _, h => by
    have : R = List.replicate 128 (-1) := (Option.some.inj h).symm
    rw [this]
    exact ord_start D hD
  | r + 1, R, hr, h => by
    cases h1 : ordTo D r with
    | none => rw [ordTo, h1] at h; cases h
    | some R0 =>
      cases h2 : bestO D R0 with
      | none => rw [ordTo_stop h1 h2] at h; cases h
      | some c =>
        rw [ordTo_next h1 h2] at h
        have : R = R0.set c (r : Int) := (Option.some.inj h).symm
        rw [this]
        exact ord_next hD (ord_inv hD (by omega) h1) (by omega) h2
theorem ordTo_len {D : List Dep} : ∀ {r : Nat} {R : List Int}, ordTo D r = some R → R.length = 128
  | 0, R, h => by rw [← Option.some.inj h]; exact List.length_replicate
  | r + 1, R, h => by
    cases h1 : ordTo D r with
    | none => rw [ordTo, h1] at h; cases h
    | some R0 =>
      cases h2 : bestO D R0 with
      | none => rw [ordTo_stop h1 h2] at h; cases h
      | some c =>
        rw [ordTo_next h1 h2] at h
        rw [← Option.some.inj h, List.length_set]
        exact ordTo_len h1
/-- An order: its ranks are all the numbers, and they rise along each element. -/
def riseO (D : List Dep) (R : List Int) (i : Nat) : Bool := decide (R.getD (atD D i).1.toNat 0 < R.getD (atD D i).2.toNat 0)
def isOrdO (D : List Dep) (R : List Int) : Bool := okD D && decide (R.length = 128) && ((List.range 128).all fun r => inG R (r : Int)) && (List.range D.length).all (riseO D R)
theorem isOrdO_of {D : List Dep} {R : List Int} (h1 : okD D = true) (h2 : R.length = 128) (h3 : ∀ r : Nat, r < 128 → inG R (r : Int) = true) (h4 : ∀ i, i < D.length → riseO D R i = true) : isOrdO D R = true := by
  simp only [isOrdO, h1, h2, decide_true, Bool.true_and, Bool.and_eq_true, List.all_eq_true, List.mem_range]
  exact ⟨h3, h4⟩
theorem isOrdO_bad {D : List Dep} {R : List Int} (h : okD D = false) : isOrdO D R = false := by simp [isOrdO, h]
theorem isOrdO_len {D : List Dep} {R : List Int} (h : R.length ≠ 128) : isOrdO D R = false := by simp [isOrdO, h]
theorem isOrdO_lack {D : List Dep} {R : List Int} {r : Nat} (hr : r < 128) (h : inG R (r : Int) = false) : isOrdO D R = false := by
  cases ho : isOrdO D R with
  | false => rfl
  | true =>
    simp only [isOrdO, Bool.and_eq_true, List.all_eq_true, List.mem_range] at ho
    rw [ho.1.2 r hr] at h
    cases h
theorem isOrdO_fall {D : List Dep} {R : List Int} {i : Nat} (hi : i < D.length) (h : riseO D R i = false) : isOrdO D R = false := by
  cases ho : isOrdO D R with
  | false => rfl
  | true =>
    simp only [isOrdO, Bool.and_eq_true, List.all_eq_true, List.mem_range] at ho
    rw [ho.2 i hi] at h
    cases h
/-- What is found is an order. -/
theorem order_is {D : List Dep} {R : List Int} (h : orderO D = some R) : okD D = true ∧ R.length = 128 ∧ isOrdO D R = true := by
  cases hD : okD D with
  | false => rw [orderO_bad hD] at h; cases h
  | true =>
    rw [orderO_ok hD] at h
    have hi := ord_inv hD (Nat.le_refl _) h
    refine ⟨rfl, hi.len, isOrdO_of hD hi.len (fun r hr => ?_) (fun i hj => ?_)⟩
    · obtain ⟨c, hc, he⟩ := hi.all r hr
      exact inG_yes (by rw [hi.len]; exact hc) he
    · have hn : ∀ x ∈ R, ¬ x < 0 := fun x hx => by
        have := List.countP_eq_zero.1 hi.cnt x hx
        simpa using this
      have hin := inD_iff.1 (okD_in hD (atD_mem hj))
      have hm : R.getD (atD D i).2.toNat 0 ∈ R := by
        rw [List.getD_eq_getElem?_getD, List.getElem?_eq_getElem (by rw [hi.len]; omega)]
        exact List.getElem_mem _
      have := hi.dep _ (atD_mem hj) (by have := hn _ hm; omega)
      exact decide_eq_true this.2
/-- The least channel to which no element leads has the rank 0. -/
def noPre (D : List Dep) (c : Nat) : Bool := (List.range D.length).all fun i => decide ((atD D i).2 ≠ (c : Int))
theorem cand_start {D : List Dep} (hD : okD D = true) {c : Nat} (hc : c < 128) : candO D (List.replicate 128 (-1)) c = noPre D c := by
  have hg : ∀ c, c < 128 → (List.replicate 128 (-1 : Int)).getD c 0 = -1 := fun c hc => by
    rw [List.getD_eq_getElem?_getD, List.getElem?_replicate, if_pos hc]; rfl
  unfold candO freeO noPre
  rw [hg c hc]
  rw [show decide ((-1 : Int) < 0) = true from rfl, Bool.true_and]
  apply Bool.eq_iff_iff.2
  rw [List.all_eq_true, List.all_eq_true]
  have key : ∀ i, i < D.length → (!holdO (List.replicate 128 (-1)) (atD D i) c) = decide ((atD D i).2 ≠ (c : Int)) := fun i hi => by
    have hin := inD_iff.1 (okD_in hD (atD_mem hi))
    unfold holdO
    rw [hg _ (by omega), show decide ((-1 : Int) < 0) = true from rfl, Bool.and_true]
    by_cases h : (atD D i).2 = (c : Int) <;> simp [h]
  exact ⟨fun h i hi => by rw [← key i (List.mem_range.1 hi)]; exact h i hi, fun h i hi => by rw [key i (List.mem_range.1 hi)]; exact h i hi⟩
theorem ord_first {D : List Dep} (hD : okD D = true) {R : List Int} (h : ordTo D 128 = some R) : ∃ c, c < 128 ∧ noPre D c = true ∧ (∀ j, j < c → noPre D j = false) ∧ R.getD c 0 = 0 := by
  have key : ∀ r, ∀ R, r + 1 ≤ 128 → ordTo D (r + 1) = some R → ∃ c, bestO D (List.replicate 128 (-1)) = some c ∧ R.getD c 0 = 0 := fun r => by
    induction r with
    | zero =>
      intro R _ h
      cases h2 : bestO D (List.replicate 128 (-1)) with
      | none => rw [ordTo_stop (r := 0) rfl h2] at h; cases h
      | some c =>
        rw [ordTo_next (r := 0) rfl h2] at h
        refine ⟨c, rfl, ?_⟩
        rw [← Option.some.inj h, set_getD (by rw [List.length_replicate]; exact (bestO_is h2).1), if_pos rfl]
        rfl
    | succ r ih =>
      intro R hr h
      cases h1 : ordTo D (r + 1) with
      | none => rw [ordTo, h1] at h; cases h
      | some R0 =>
        cases h2 : bestO D R0 with
        | none => rw [ordTo_stop h1 h2] at h; cases h
        | some c =>
          rw [ordTo_next h1 h2] at h
          obtain ⟨c0, hc0, he⟩ := ih R0 (by omega) h1
          obtain ⟨hc1, hc2⟩ := bestO_is h2
          simp only [candO, Bool.and_eq_true, decide_eq_true_eq] at hc2
          refine ⟨c0, hc0, ?_⟩
          rw [← Option.some.inj h, set_getD (by rw [ordTo_len h1]; exact hc1), if_neg (fun e => by subst e; omega)]
          exact he
  obtain ⟨c, hc, he⟩ := key 127 R (by omega) h
  obtain ⟨h1, h2⟩ := bestO_is hc
  exact ⟨c, h1, by rw [← cand_start hD h1]; exact h2, fun j hj => by rw [← cand_start hD (by omega)]; exact bestO_least hc hj, he⟩

/-- The rank of a channel under the rule xy. -/
def rankG (W H rule c : Int) : Int :=
  if rule = 1 ∧ leadsG W H c = true then
    (if c % 4 = 1 then c / 4 % W else if c % 4 = 3 then W - 1 - c / 4 % W else if c % 4 = 2 then 10 + c / 4 / W else 10 + H - 1 - c / 4 / W)
  else -1
/-- Each channel of the route is an index, and its rank is above that of the one ahead. -/
def upO (R T : List Int) (i : Nat) : Bool :=
  decide (0 ≤ T.getD i 0 ∧ T.getD i 0 ≤ (R.length : Int) - 1) && (decide (i = 0) || decide (R.getD (T.getD (i - 1) 0).toNat 0 < R.getD (T.getD i 0).toNat 0))
def risesO (R T : List Int) : Bool := (List.range T.length).all (upO R T)
theorem risesO_of {R T : List Int} (h : ∀ i, i < T.length → upO R T i = true) : risesO R T = true := by
  simp only [risesO, List.all_eq_true, List.mem_range]; exact h
theorem risesO_not {R T : List Int} {i : Nat} (hi : i < T.length) (h : upO R T i = false) : risesO R T = false := by
  cases ho : risesO R T with
  | false => rfl
  | true =>
    simp only [risesO, List.all_eq_true, List.mem_range] at ho
    rw [ho i hi] at h
    cases h
end Go.Proofs.Ytnielgpcfgfioaa
