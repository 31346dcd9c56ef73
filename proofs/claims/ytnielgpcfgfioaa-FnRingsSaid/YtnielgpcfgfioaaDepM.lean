/- What is proved here: lists of dependencies (pairs of channels) as mathematics: their order, where an element goes into an ascending list, merging, shifting, and their cells; nothing of the program. -/
import Derived.Test.YtnielgpcfgfioaaIntAt
namespace Go.Proofs.Ytnielgpcfgfioaa
open Go.ChangeShapes Go.WideShapes Go.ChangeAt Go.RowKit
set_option linter.unusedVariables false

abbrev Dep := Int × Int
def ltD (a b : Dep) : Bool := decide (a.1 < b.1 ∨ a.1 = b.1 ∧ a.2 < b.2)
theorem ltD_iff {a b : Dep} : ltD a b = true ↔ (a.1 < b.1 ∨ a.1 = b.1 ∧ a.2 < b.2) := by unfold ltD; exact decide_eq_true_iff
theorem ltD_no {a b : Dep} : ltD a b = false ↔ ¬ (a.1 < b.1 ∨ a.1 = b.1 ∧ a.2 < b.2) := by unfold ltD; exact decide_eq_false_iff_not
theorem ltD_irrefl (a : Dep) : ltD a a = false := ltD_no.2 (by omega)
theorem ltD_trans {a b c : Dep} (h : ltD a b = true) (k : ltD b c = true) : ltD a c = true := by
  rw [ltD_iff] at *; omega
theorem ltD_asymm {a b : Dep} (h : ltD a b = true) : ltD b a = false := by
  rw [ltD_iff] at h; rw [ltD_no]; omega
theorem ltD_tri {a b : Dep} (h : ltD a b = false) (k : a ≠ b) : ltD b a = true := by
  rw [ltD_no] at h; rw [ltD_iff]
  have : ¬ (a.1 = b.1 ∧ a.2 = b.2) := fun e => k (Prod.ext e.1 e.2)
  omega
/-- The comparison as a number. -/
def cmpI (x y : Int) : Int := if x < y then -1 else if y < x then 1 else 0
def cmpD (a b : Dep) : Int := if cmpI a.1 b.1 ≠ 0 then cmpI a.1 b.1 else cmpI a.2 b.2
theorem cmpI_zero {x y : Int} : cmpI x y = 0 ↔ x = y := by unfold cmpI; split <;> (try split) <;> omega
theorem cmpI_neg {x y : Int} : cmpI x y < 0 ↔ x < y := by unfold cmpI; split <;> (try split) <;> omega
theorem cmpD_neg {a b : Dep} : cmpD a b < 0 ↔ ltD a b = true := by
  rw [ltD_iff]
  unfold cmpD cmpI
  repeat' split
  all_goals omega
theorem cmpD_zero {a b : Dep} : cmpD a b = 0 ↔ a = b := by
  rw [Prod.ext_iff]
  unfold cmpD cmpI
  repeat' split
  all_goals omega
theorem cmpD_range (a b : Dep) : -1 ≤ cmpD a b ∧ cmpD a b ≤ 1 := by
  unfold cmpD cmpI
  repeat' split
  all_goals omega

def ascD (D : List Dep) : Prop := D.Pairwise (fun a b => ltD a b = true)
instance (D : List Dep) : Decidable (ascD D) := inferInstanceAs (Decidable (List.Pairwise _ _))
def atD (D : List Dep) (k : Nat) : Dep := D.getD k (0, 0)
theorem atD_get {D : List Dep} {k : Nat} (h : k < D.length) : atD D k = D[k] := by
  rw [atD, List.getD_eq_getElem?_getD, List.getElem?_eq_getElem h]; rfl
theorem atD_mem {D : List Dep} {k : Nat} (h : k < D.length) : atD D k ∈ D := by rw [atD_get h]; exact List.getElem_mem h
theorem atD_ex {D : List Dep} {d : Dep} (h : d ∈ D) : ∃ k, k < D.length ∧ atD D k = d := by
  obtain ⟨k, hk, e⟩ := List.getElem_of_mem h
  exact ⟨k, hk, by rw [atD_get hk, e]⟩
theorem asc_at {D : List Dep} (h : ascD D) {i j : Nat} (hij : i < j) (hj : j < D.length) : ltD (atD D i) (atD D j) = true := by
  rw [atD_get (by omega), atD_get hj]
  exact (List.pairwise_iff_getElem.1 h) i j (by omega) hj hij
theorem asc_of {D : List Dep} (h : ∀ i, i + 1 < D.length → ltD (atD D i) (atD D (i + 1)) = true) : ascD D := by
  rw [ascD, List.pairwise_iff_getElem]
  intro i j hi hj hij
  have key : ∀ t, i + t + 1 < D.length → ltD (atD D i) (atD D (i + t + 1)) = true := by
    intro t
    induction t with
    | zero => exact h i
    | succ t ih => exact fun ht => ltD_trans (ih (by omega)) (h (i + t + 1) ht)
  have := key (j - i - 1) (by omega)
  rw [show i + (j - i - 1) + 1 = j by omega, atD_get hi, atD_get hj] at this
  exact this
/-- Strictly ascending lists with the same elements are the same. -/
theorem asc_ext : ∀ (A B : List Dep), ascD A → ascD B → (∀ x, x ∈ A ↔ x ∈ B) → A = B
  | [], [], _, _, _ => rfl
  | [], b :: B, _, _, h => by have := (h b).2 (List.mem_cons_self ..); cases this
  | a :: A, [], _, _, h => by have := (h a).1 (List.mem_cons_self ..); cases this
  | a :: A, b :: B, hA, hB, h => by
    obtain ⟨ha, hA'⟩ := List.pairwise_cons.1 hA
    obtain ⟨hb, hB'⟩ := List.pairwise_cons.1 hB
    have e : a = b := by
      rcases List.mem_cons.1 ((h a).1 (List.mem_cons_self ..)) with e | h1
      · exact e
      · rcases List.mem_cons.1 ((h b).2 (List.mem_cons_self ..)) with e | h2
        · exact e.symm
        · have h3 := hb a h1; have h4 := ltD_asymm (ha b h2); rw [h4] at h3; cases h3
    subst e
    rw [asc_ext A B hA' hB' (fun x => ⟨fun hx => by
      rcases List.mem_cons.1 ((h x).1 (List.mem_cons_of_mem _ hx)) with e | h1
      · have := ha x hx; rw [e, ltD_irrefl] at this; cases this
      · exact h1, fun hx => by
      rcases List.mem_cons.1 ((h x).2 (List.mem_cons_of_mem _ hx)) with e | h1
      · have := hb x hx; rw [e, ltD_irrefl] at this; cases this
      · exact h1⟩)]

/-- How many elements at the head come before d. -/
def lowN (D : List Dep) (d : Dep) : Nat := (D.takeWhile (fun x => ltD x d)).length
theorem lowN_le (D : List Dep) (d : Dep) : lowN D d ≤ D.length := by
  unfold lowN
  exact (List.takeWhile_prefix _).length_le
theorem lowN_of : ∀ {D : List Dep} {d : Dep} {i : Nat}, i ≤ D.length → (∀ t, t < i → ltD (atD D t) d = true) → (i < D.length → ltD (atD D i) d = false) → lowN D d = i
  | [], d, i, hi, _, _ => by simp at hi; subst hi; rfl
  | a :: D, d, 0, hi, h1, h2 => by
    have := h2 (by simp)
    have : ltD a d = false := this
    simp [lowN, this]
  | a :: D, d, i + 1, hi, h1, h2 => by
    have h0 : ltD a d = true := h1 0 (by omega)
    have ih := lowN_of (D := D) (d := d) (i := i) (by simpa using hi) (fun t ht => h1 (t + 1) (by omega)) (fun hlt => h2 (by simpa using hlt))
    unfold lowN at ih ⊢
    simp [h0, ih]
theorem lowN_yes : ∀ {D : List Dep} {d : Dep} {t : Nat}, t < lowN D d → ltD (atD D t) d = true
  | [], d, t, h => by simp [lowN] at h
  | a :: D, d, t, h => by
    unfold lowN at h
    cases ha : ltD a d with
    | false => simp [ha] at h
    | true =>
      simp [ha] at h
      cases t with
      | zero => exact ha
      | succ t => exact lowN_yes (D := D) (d := d) (t := t) (by unfold lowN; omega)
theorem lowN_no : ∀ {D : List Dep} {d : Dep}, lowN D d < D.length → ltD (atD D (lowN D d)) d = false
  | [], d, h => by simp at h
  | a :: D, d, h => by
    cases ha : ltD a d with
    | false =>
      have e : lowN (a :: D) d = 0 := by simp [lowN, ha]
      rw [e]; exact ha
    | true =>
      have e : lowN (a :: D) d = lowN D d + 1 := by simp [lowN, ha]
      rw [e] at h ⊢
      exact lowN_no (D := D) (d := d) (by simpa using h)
theorem lowN_rest {D : List Dep} (hD : ascD D) {d : Dep} {t : Nat} (h : lowN D d ≤ t) (ht : t < D.length) : ltD (atD D t) d = false := by
  have h0 := lowN_no (D := D) (d := d) (by omega)
  by_cases e : lowN D d = t
  · rw [← e]; exact h0
  · have h1 := asc_at hD (show lowN D d < t by omega) ht
    cases h2 : ltD (atD D t) d with
    | false => rfl
    | true => rw [ltD_trans h1 h2] at h0; cases h0

/-- The list with d at its place, unless it is there. -/
def putD (D : List Dep) (d : Dep) : List Dep := D.take (lowN D d) ++ d :: D.drop (lowN D d)
def insD (D : List Dep) (d : Dep) : List Dep := if d ∈ D then D else putD D d
theorem ins_there {D : List Dep} {d : Dep} (h : d ∈ D) : insD D d = D := if_pos h
theorem ins_new {D : List Dep} {d : Dep} (h : d ∉ D) : insD D d = putD D d := if_neg h
/-- In an ascending list, d can stand at its place alone. -/
theorem there_iff {D : List Dep} (hD : ascD D) {d : Dep} : d ∈ D ↔ lowN D d < D.length ∧ atD D (lowN D d) = d := by
  constructor
  · intro h
    obtain ⟨k, hk, e⟩ := atD_ex h
    have h1 : ¬ k < lowN D d := fun h1 => by have := lowN_yes h1; rw [e, ltD_irrefl] at this; cases this
    have h2 : lowN D d = k := by
      rcases Nat.lt_or_eq_of_le (Nat.le_of_not_lt h1) with h2 | h2
      · have h3 := asc_at hD h2 hk
        rw [e] at h3
        have h4 := lowN_no (D := D) (d := d) (by omega)
        rw [h3] at h4; cases h4
      · exact h2
    rw [h2]; exact ⟨hk, e⟩
  · rintro ⟨h, e⟩
    rw [← e]; exact atD_mem h
theorem mem_put {D : List Dep} {d x : Dep} : x ∈ putD D d ↔ x = d ∨ x ∈ D := by
  unfold putD
  rw [List.mem_append, List.mem_cons]
  have : x ∈ D ↔ x ∈ D.take (lowN D d) ∨ x ∈ D.drop (lowN D d) := by rw [← List.mem_append, List.take_append_drop]
  rw [this]
  constructor
  · rintro (h | h | h)
    · exact .inr (.inl h)
    · exact .inl h
    · exact .inr (.inr h)
  · rintro (h | h | h)
    · exact .inr (.inl h)
    · exact .inl h
    · exact .inr (.inr h)
theorem mem_ins {D : List Dep} {d x : Dep} : x ∈ insD D d ↔ x = d ∨ x ∈ D := by
  unfold insD
  split
  · rename_i h
    exact ⟨.inr, fun e => e.elim (fun e => e ▸ h) id⟩
  · exact mem_put
theorem put_length (D : List Dep) (d : Dep) : (putD D d).length = D.length + 1 := by
  have := lowN_le D d
  simp [putD]; omega
theorem ins_length (D : List Dep) (d : Dep) : (insD D d).length ≤ D.length + 1 ∧ D.length ≤ (insD D d).length := by
  unfold insD
  split
  · omega
  · rw [put_length]; omega
theorem ins_asc {D : List Dep} (hD : ascD D) (d : Dep) : ascD (insD D d) := by
  unfold insD
  split
  · exact hD
  · rename_i hn
    have key : ∀ x ∈ D.drop (lowN D d), ltD d x = true := fun x hx => by
      obtain ⟨k, hk, e⟩ := List.getElem_of_mem hx
      have hk' : lowN D d + k < D.length := by simp at hk; omega
      have e' : atD D (lowN D d + k) = x := by rw [atD_get hk', ← e, List.getElem_drop]
      have := lowN_rest hD (d := d) (t := lowN D d + k) (by omega) hk'
      rw [e'] at this
      exact ltD_tri this (fun e2 => hn (by rw [← e2]; exact List.mem_of_mem_drop hx))
    refine List.pairwise_append.2 ⟨hD.sublist (List.take_sublist _ _), List.pairwise_cons.2 ⟨key, hD.sublist (List.drop_sublist _ _)⟩, ?_⟩
    intro a ha b hb
    have had : ltD a d = true := by
      obtain ⟨k, hk, e⟩ := List.getElem_of_mem ha
      have hk' : k < lowN D d := by simp at hk; omega
      have hl := lowN_le D d
      have e' : atD D k = a := by rw [atD_get (by omega), ← e, List.getElem_take]
      have := lowN_yes hk'
      rw [e'] at this; exact this
    rcases List.mem_cons.1 hb with rfl | hb
    · exact had
    · exact ltD_trans had (key b hb)
/-- What a list becomes by inserting others. -/
def insAll (D E : List Dep) : List Dep := E.foldl insD D
theorem insAll_asc {D : List Dep} (hD : ascD D) (E : List Dep) : ascD (insAll D E) := by
  induction E generalizing D with
  | nil => exact hD
  | cons e E ih => exact ih (ins_asc hD e)
theorem mem_insAll {D E : List Dep} {x : Dep} : x ∈ insAll D E ↔ x ∈ D ∨ x ∈ E := by
  induction E generalizing D with
  | nil => simp [insAll]
  | cons e E ih =>
    rw [insAll, List.foldl_cons]
    have := ih (D := insD D e)
    rw [insAll] at this
    rw [this, mem_ins, List.mem_cons]
    constructor
    · rintro ((h | h) | h)
      · exact .inr (.inl h)
      · exact .inl h
      · exact .inr (.inr h)
    · rintro (h | h | h)
      · exact .inl (.inr h)
      · exact .inl (.inl h)
      · exact .inr h
theorem insAll_length (D E : List Dep) : (insAll D E).length ≤ D.length + E.length ∧ D.length ≤ (insAll D E).length := by
  induction E generalizing D with
  | nil => simp [insAll]
  | cons e E ih =>
    have h1 := ih (D := insD D e)
    have h2 := ins_length D e
    rw [insAll] at h1
    rw [insAll, List.foldl_cons, List.length_cons]
    omega
theorem insAll_take {D E : List Dep} {k : Nat} (h : k < E.length) : insAll D (E.take (k + 1)) = insD (insAll D (E.take k)) (atD E k) := by
  rw [atD_get h, List.take_succ_eq_append_getElem h, insAll, List.foldl_append]
  rfl
theorem insAll_append (D E F : List Dep) : insAll D (E ++ F) = insAll (insAll D E) F := List.foldl_append
theorem asc_nil : ascD [] := List.Pairwise.nil

/-- Valid lists, merging, successors, shifting. -/
def inD (d : Dep) : Bool := decide (0 ≤ d.1 ∧ d.1 ≤ 127 ∧ 0 ≤ d.2 ∧ d.2 ≤ 127)
theorem inD_iff {d : Dep} : inD d = true ↔ 0 ≤ d.1 ∧ d.1 ≤ 127 ∧ 0 ≤ d.2 ∧ d.2 ≤ 127 := by unfold inD; exact decide_eq_true_iff
theorem inD_no {d : Dep} : inD d = false ↔ ¬ (0 ≤ d.1 ∧ d.1 ≤ 127 ∧ 0 ≤ d.2 ∧ d.2 ≤ 127) := by unfold inD; exact decide_eq_false_iff_not
/-- The element k is in the range and above the one ahead of it. -/
def stepD (D : List Dep) (k : Nat) : Bool := inD (atD D k) && (decide (k = 0) || ltD (atD D (k - 1)) (atD D k))
def okD (D : List Dep) : Bool := (List.range D.length).all (stepD D)
theorem okD_iff {D : List Dep} : okD D = true ↔ ∀ k, k < D.length → stepD D k = true := by
  unfold okD
  rw [List.all_eq_true]
  exact ⟨fun h k hk => h k (List.mem_range.2 hk), fun h k hk => h k (List.mem_range.1 hk)⟩
theorem okD_not {D : List Dep} {k : Nat} (hk : k < D.length) (h : stepD D k = false) : okD D = false := by
  cases ho : okD D with
  | false => rfl
  | true => rw [okD_iff.1 ho k hk] at h; cases h
theorem okD_asc {D : List Dep} (h : okD D = true) : ascD D := asc_of fun i hi => by
  have := okD_iff.1 h (i + 1) hi
  simp [stepD] at this
  exact this.2
theorem okD_in {D : List Dep} (h : okD D = true) {d : Dep} (hd : d ∈ D) : inD d = true := by
  obtain ⟨k, hk, rfl⟩ := atD_ex hd
  have := okD_iff.1 h k hk
  simp [stepD] at this
  exact this.1
theorem okD_of {D : List Dep} (h : ascD D) (k : ∀ d ∈ D, inD d = true) : okD D = true := okD_iff.2 fun i hi => by
  rw [stepD, k _ (atD_mem hi), Bool.true_and]
  cases i with
  | zero => rfl
  | succ i => rw [show i + 1 - 1 = i from rfl, asc_at h (Nat.lt_succ_self i) hi]; simp
def mergeD (A B : List Dep) : List Dep := if okD A && okD B then insAll A B else []
theorem merge_yes {A B : List Dep} (ha : okD A = true) (hb : okD B = true) : mergeD A B = insAll A B := by simp [mergeD, ha, hb]
theorem merge_no1 {A B : List Dep} (ha : okD A = false) : mergeD A B = [] := by simp [mergeD, ha]
theorem merge_no2 {A B : List Dep} (hb : okD B = false) : mergeD A B = [] := by simp [mergeD, hb]
theorem merge_length (A B : List Dep) : (mergeD A B).length ≤ A.length + B.length := by
  unfold mergeD
  split
  · exact (insAll_length A B).1
  · simp
def succD (D : List Dep) (c : Int) : List Int := (D.filter fun d => decide (d.1 = c)).map (·.2)
theorem succ_length (D : List Dep) (c : Int) : (succD D c).length ≤ D.length := by
  unfold succD
  rw [List.length_map]
  exact List.length_filter_le _ _
theorem succ_yes {D : List Dep} {c : Int} {k : Nat} (hk : k < D.length) (h : (atD D k).1 = c) : succD (D.take (k + 1)) c = succD (D.take k) c ++ [(atD D k).2] := by
  rw [atD_get hk] at h ⊢
  rw [List.take_succ_eq_append_getElem hk, succD, succD, List.filter_append, List.map_append]
  simp [h]
theorem succ_no {D : List Dep} {c : Int} {k : Nat} (hk : k < D.length) (h : ¬ (atD D k).1 = c) : succD (D.take (k + 1)) c = succD (D.take k) c := by
  rw [atD_get hk] at h
  rw [List.take_succ_eq_append_getElem hk, succD, succD, List.filter_append, List.map_append]
  simp [h]
theorem succ_all (D : List Dep) (c : Int) : succD (D.take D.length) c = succD D c := by rw [List.take_length]
theorem mem_succ {D : List Dep} {d : Dep} (h : d ∈ D) : d.2 ∈ succD D d.1 := by
  unfold succD
  exact List.mem_map.2 ⟨d, List.mem_filter.2 ⟨h, by simp⟩, rfl⟩
def moveD (D : List Dep) (by_ : Int) : List Dep := D.map fun d => (d.1 + by_, d.2 + by_)
theorem move_length (D : List Dep) (z : Int) : (moveD D z).length = D.length := List.length_map ..
theorem move_at {D : List Dep} (z : Int) {k : Nat} (h : k < D.length) : atD (moveD D z) k = ((atD D k).1 + z, (atD D k).2 + z) := by
  rw [atD_get (by rw [move_length]; exact h), atD_get h]
  simp [moveD]
theorem move_next {D : List Dep} (z : Int) {k : Nat} (h : k < D.length) : moveD (D.take (k + 1)) z = moveD (D.take k) z ++ [((atD D k).1 + z, (atD D k).2 + z)] := by
  rw [atD_get h, List.take_succ_eq_append_getElem h, moveD, moveD, List.map_append]
  rfl
def inS (z : Int) : Bool := decide (-1000 ≤ z ∧ z ≤ 1000)
def shiftD (D : List Dep) (z : Int) : List Dep := if okD D && inS z && okD (moveD D z) then moveD D z else []
theorem shift_yes {D : List Dep} {z : Int} (h : okD D = true) (hz : inS z = true) (hm : okD (moveD D z) = true) : shiftD D z = moveD D z := by simp [shiftD, h, hz, hm]
theorem shift_no1 {D : List Dep} {z : Int} (h : okD D = false) : shiftD D z = [] := by simp [shiftD, h]
theorem shift_no2 {D : List Dep} {z : Int} (h : inS z = false) : shiftD D z = [] := by simp [shiftD, h]
theorem shift_no3 {D : List Dep} {z : Int} (h : okD (moveD D z) = false) : shiftD D z = [] := by simp [shiftD, h]
theorem shift_length (D : List Dep) (z : Int) : (shiftD D z).length ≤ D.length := by
  unfold shiftD
  split
  · rw [move_length]; exact Nat.le_refl _
  · simp
end Go.Proofs.Ytnielgpcfgfioaa
