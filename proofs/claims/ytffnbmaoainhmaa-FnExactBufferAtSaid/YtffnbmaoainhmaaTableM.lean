/- What is proved here: the numbers that the functions on routing tables return, as mathematics; nothing of the program. -/
import Derived.Test.YtffnbmaoainhmaaMeshM
namespace Go.Proofs.Ytffnbmaoainhmaa
open Go.ChangeShapes Go.WideShapes Go.ChangeAt Go.RowKit
set_option linter.unusedVariables false

theorem next_has {W H n p : Int} (h : 0 ≤ nextG W H n p) : hasG W H (nextG W H n p) = true := by
  have hat : ∀ x y, 0 ≤ atG W H x y → hasG W H (atG W H x y) = true := fun x y h => by
    unfold atG at h ⊢
    split at h
    · rename_i hc
      obtain ⟨hok, h0, h1, h2, h3⟩ := hc
      rw [if_pos ⟨hok, h0, h1, h2, h3⟩, hasG_iff]
      have hk : countG W H = W * H := by simp [countG, hok]
      obtain ⟨hW, hH⟩ := okG_cases hok
      rw [hk]
      rcases hW with rfl | rfl | rfl | rfl <;> rcases hH with rfl | rfl | rfl | rfl <;> omega
    · omega
  unfold nextG at h ⊢
  split at h
  · rename_i hh
    rw [if_pos hh]
    repeat' split at h
    all_goals first | omega | (simp [*] at *; done) | skip
  · omega
/-- The entry of a table of k nodes. -/
def tabG (k : Int) (P : List Int) (node to : Int) : Int := P.getD (node * k + to).toNat 0
def sizedG (W H : Int) (L P : List Int) : Bool := meshG W H L && decide ((P.length : Int) = countG W H * countG W H)
def askG (W H : Int) (L P : List Int) (node to : Int) : Bool := sizedG W H L P && hasG W H node && hasG W H to
def portAtG (W H : Int) (L P : List Int) (node to : Int) : Int :=
  if askG W H L P node to = true ∧ 0 ≤ tabG (countG W H) P node to ∧ tabG (countG W H) P node to ≤ 4 then tabG (countG W H) P node to else -1
/-- One step of a walk: the port leads through a channel that exists. -/
def stepsG (W H : Int) (L : List Int) (at' p : Int) : Bool := decide (0 ≤ p ∧ p ≤ 3) && hasChG W H L (4 * at' + p)
def walkF (W H : Int) (L P : List Int) (to : Int) : Nat → Int → Option (List Int)
  | 0, _ => none
  | f + 1, a =>
    if tabG (countG W H) P a to = 4 then (if a = to then some [] else none)
    else if stepsG W H L a (tabG (countG W H) P a to) then
      (walkF W H L P to f (nextG W H a (tabG (countG W H) P a to))).map ((4 * a + tabG (countG W H) P a to) :: ·)
    else none
def walkOf (W H : Int) (L P : List Int) (a b : Int) : List Int := (walkF W H L P b ((countG W H).toNat + 1) a).getD []
def walkG (W H : Int) (L P : List Int) (a b : Int) : List Int := if askG W H L P a b = true ∧ a ≠ b then walkOf W H L P a b else []
/-- Entry i of the square of nodes is in order. -/
def entryG (W H : Int) (L P : List Int) (a b : Int) : Bool :=
  if a = b then decide (tabG (countG W H) P a a = 4) else !(walkOf W H L P a b).isEmpty
def tableG (W H : Int) (L P : List Int) : Bool :=
  sizedG W H L P && (List.range (countG W H).toNat).all fun a => (List.range (countG W H).toNat).all fun b => entryG W H L P (a : Int) (b : Int)
/-- The number of channels of the walk of pair i. -/
def lenAt (W H : Int) (L P : List Int) (i : Nat) : Nat := (walkOf W H L P ((i : Int) / countG W H) ((i : Int) % countG W H)).length
def mostTo (W H : Int) (L P : List Int) : Nat → Nat
  | 0 => 0
  | k + 1 => max (mostTo W H L P k) (lenAt W H L P k)
def sqG (W H : Int) : Nat := (countG W H).toNat * (countG W H).toNat
def longG (W H : Int) (L P : List Int) : Int := if tableG W H L P then (mostTo W H L P (sqG W H) : Int) else -1
def minAt (W H : Int) (L P : List Int) (i : Nat) : Bool := decide ((lenAt W H L P i : Int) = distG W H ((i : Int) / countG W H) ((i : Int) % countG W H))
def minimalG (W H : Int) (L P : List Int) : Bool := tableG W H L P && (List.range (sqG W H)).all (minAt W H L P)

section
variable {W H : Int} {L P : List Int}
theorem sizedG_mesh (h : sizedG W H L P = true) : meshG W H L = true ∧ (P.length : Int) = countG W H * countG W H := by
  simpa [sizedG] using h
theorem askG_all {a b : Int} (h : askG W H L P a b = true) : sizedG W H L P = true ∧ hasG W H a = true ∧ hasG W H b = true := by
  simp only [askG, Bool.and_eq_true] at h; exact ⟨h.1.1, h.1.2, h.2⟩
/-- The place of an entry. -/
theorem tab_at {k a b : Int} {n : Nat} (h : (n : Int) = k * k) (ha0 : 0 ≤ a) (ha1 : a < k) (hb0 : 0 ≤ b) (hb1 : b < k) : 0 ≤ a * k + b ∧ a * k + b < n := by
  have h1 : 0 ≤ a * k := Int.mul_nonneg ha0 (by omega)
  have h2 : a * k ≤ (k - 1) * k := Int.mul_le_mul_of_nonneg_right (by omega) (by omega)
  have h3 : (k - 1) * k = k * k - k := by rw [Int.sub_mul, Int.one_mul]
  omega

theorem walkF_end {to a : Int} {f : Nat} (h : tabG (countG W H) P a to = 4) (he : a = to) : walkF W H L P to (f + 1) a = some [] := by subst he; simp [walkF, h]
theorem walkF_lost {to a : Int} {f : Nat} (h : tabG (countG W H) P a to = 4) (he : a ≠ to) : walkF W H L P to (f + 1) a = none := by simp [walkF, h, he]
theorem walkF_bad {to a p : Int} {f : Nat} (h : tabG (countG W H) P a to = p) (h4 : p ≠ 4) (hs : stepsG W H L a p = false) : walkF W H L P to (f + 1) a = none := by
  subst h; simp [walkF, h4, hs]
theorem walkF_go {to a p : Int} {f : Nat} (h : tabG (countG W H) P a to = p) (h4 : p ≠ 4) (hs : stepsG W H L a p = true) : walkF W H L P to (f + 1) a = (walkF W H L P to f (nextG W H a p)).map ((4 * a + p) :: ·) := by
  subst h; simp [walkF, h4, hs]
/-- A walk of which the first channels are known. -/
def restG (W H : Int) (L P : List Int) (to : Int) (acc : List Int) (f : Nat) (a : Int) : List Int := ((walkF W H L P to f a).map (acc ++ ·)).getD []
theorem rest_start (a b : Int) : restG W H L P b [] ((countG W H).toNat + 1) a = walkOf W H L P a b := by
  unfold restG walkOf
  cases walkF W H L P b ((countG W H).toNat + 1) a <;> simp
theorem rest_zero (to a : Int) (acc : List Int) : restG W H L P to acc 0 a = [] := rfl
theorem rest_end {to a : Int} {f : Nat} {acc : List Int} (h : tabG (countG W H) P a to = 4) (he : a = to) : restG W H L P to acc (f + 1) a = acc := by simp [restG, walkF_end h he]
theorem rest_lost {to a : Int} {f : Nat} {acc : List Int} (h : tabG (countG W H) P a to = 4) (he : a ≠ to) : restG W H L P to acc (f + 1) a = [] := by simp [restG, walkF_lost h he]
theorem rest_bad {to a p : Int} {f : Nat} {acc : List Int} (h : tabG (countG W H) P a to = p) (h4 : p ≠ 4) (hs : stepsG W H L a p = false) : restG W H L P to acc (f + 1) a = [] := by simp [restG, walkF_bad h h4 hs]
theorem rest_go {to a p : Int} {f : Nat} {acc : List Int} (h : tabG (countG W H) P a to = p) (h4 : p ≠ 4) (hs : stepsG W H L a p = true) : restG W H L P to acc (f + 1) a = restG W H L P to (acc ++ [4 * a + p]) f (nextG W H a p) := by
  simp only [restG, walkF_go h h4 hs, Option.map_map]
  congr 2
  funext x
  simp
theorem steps_next {a p : Int} (h : stepsG W H L a p = true) : 0 ≤ p ∧ p ≤ 3 ∧ hasChG W H L (4 * a + p) = true := by
  simp only [stepsG, Bool.and_eq_true, decide_eq_true_eq] at h; exact ⟨h.1.1, h.1.2, h.2⟩
theorem step_has {a p : Int} (h : stepsG W H L a p = true) : hasG W H (nextG W H a p) = true := by
  obtain ⟨h0, h3, hc⟩ := steps_next h
  simp only [hasChG, Bool.and_eq_true] at hc
  have h1 : 0 ≤ 4 * a + p ∧ 4 * a + p < 4 * countG W H ∧ 0 ≤ nextG W H ((4 * a + p) / 4) ((4 * a + p) % 4) := by simpa [leadsG] using hc.1
  have e1 : (4 * a + p) / 4 = a := by omega
  have e2 : (4 * a + p) % 4 = p := by omega
  rw [e1, e2] at h1
  exact next_has h1.2.2
theorem walkF_len {to : Int} : ∀ (f : Nat) (a : Int) (l : List Int), walkF W H L P to f a = some l → l.length < f
  | 0, _, _, h => by simp [walkF] at h
  | f + 1, a, l, h => by
    rw [walkF] at h
    split at h
    · split at h
      · cases h; simp
      · cases h
    · split at h
      · rw [Option.map_eq_some_iff] at h
        obtain ⟨m, hm, rfl⟩ := h
        have := walkF_len f _ m hm
        simp; omega
      · cases h
theorem walkOf_len (a b : Int) : (walkOf W H L P a b).length ≤ 16 := by
  unfold walkOf
  have hc := countG_le W H
  cases h : walkF W H L P b ((countG W H).toNat + 1) a with
  | none => simp
  | some l => have := walkF_len _ _ _ h; simp; omega

/-- The pairs of nodes up to i are in order. -/
def pairsTo (W H : Int) (L P : List Int) (a b : Nat) : Prop :=
  (∀ x y : Nat, x < a → (y : Int) < countG W H → entryG W H L P x y = true) ∧ ∀ y : Nat, y < b → entryG W H L P a y = true
theorem pairs_zero : pairsTo W H L P 0 0 := ⟨fun _ _ h => by omega, fun _ h => by omega⟩
theorem pairs_next {a b : Nat} (h : pairsTo W H L P a b) (he : entryG W H L P a b = true) : pairsTo W H L P a (b + 1) :=
  ⟨h.1, fun y hy => by
    rcases Nat.lt_succ_iff_lt_or_eq.1 hy with h1 | rfl
    · exact h.2 y h1
    · exact he⟩
theorem pairs_row {a b : Nat} (h : pairsTo W H L P a b) (hb : (b : Int) = countG W H) : pairsTo W H L P (a + 1) 0 :=
  ⟨fun x y hx hy => by
    rcases Nat.lt_succ_iff_lt_or_eq.1 hx with h1 | rfl
    · exact h.1 x y h1 hy
    · exact h.2 y (by omega), fun _ h => by omega⟩
theorem tableG_yes {a b : Nat} (hs : sizedG W H L P = true) (h : pairsTo W H L P a b) (ha : (a : Int) = countG W H) : tableG W H L P = true := by
  simp only [tableG, hs, Bool.true_and, List.all_eq_true, List.mem_range]
  intro x hx y hy
  exact h.1 x y (by omega) (by omega)
theorem tableG_no {a b : Nat} (ha : (a : Int) < countG W H) (hb : (b : Int) < countG W H) (h : entryG W H L P a b = false) : tableG W H L P = false := by
  cases ht : tableG W H L P with
  | false => rfl
  | true =>
    simp only [tableG, Bool.and_eq_true, List.all_eq_true, List.mem_range] at ht
    have := ht.2 a (by omega) b (by omega)
    rw [h] at this
    cases this
theorem tableG_unsized (h : sizedG W H L P = false) : tableG W H L P = false := by simp [tableG, h]
theorem tableG_sized (h : tableG W H L P = true) : sizedG W H L P = true := by simp only [tableG, Bool.and_eq_true] at h; exact h.1
theorem tableG_entry {a b : Int} (h : tableG W H L P = true) (ha : hasG W H a = true) (hb : hasG W H b = true) : entryG W H L P a b = true := by
  simp only [tableG, Bool.and_eq_true, List.all_eq_true, List.mem_range] at h
  have h1 := hasG_iff.1 ha
  have h2 := hasG_iff.1 hb
  have := h.2 a.toNat (by omega) b.toNat (by omega)
  rwa [Int.toNat_of_nonneg h1.1, Int.toNat_of_nonneg h2.1] at this
theorem entry_same {a : Int} : entryG W H L P a a = decide (tabG (countG W H) P a a = 4) := by simp [entryG]
theorem entry_two {a b : Int} (h : a ≠ b) : entryG W H L P a b = !(walkOf W H L P a b).isEmpty := by simp [entryG, h]

theorem mostTo_le {i k : Nat} (h : i < k) : lenAt W H L P i ≤ mostTo W H L P k := by
  induction k with
  | zero => omega
  | succ k ih =>
    rw [mostTo]
    rcases Nat.lt_succ_iff_lt_or_eq.1 h with h1 | rfl
    · exact Nat.le_trans (ih h1) (Nat.le_max_left _ _)
    · exact Nat.le_max_right _ _
theorem mostTo_16 (k : Nat) : mostTo W H L P k ≤ 16 := by
  induction k with
  | zero => simp [mostTo]
  | succ k ih => rw [mostTo]; have := walkOf_len (W := W) (H := H) (L := L) (P := P) ((k : Int) / countG W H) ((k : Int) % countG W H); unfold lenAt; omega
/-- Pair i of the square is two nodes. -/
theorem pair_at {i : Nat} (h : i < sqG W H) : hasG W H ((i : Int) / countG W H) = true ∧ hasG W H ((i : Int) % countG W H) = true := by
  have hc := countG_le W H
  unfold sqG at h
  have hk : 0 < countG W H := by
    rcases Int.lt_or_le 0 (countG W H) with h1 | h1
    · exact h1
    · have : (countG W H).toNat = 0 := by omega
      rw [this] at h; omega
  have e : (i : Int) < countG W H * countG W H := by
    have : ((countG W H).toNat : Int) = countG W H := Int.toNat_of_nonneg hc.1
    rw [← this]; exact_mod_cast h
  exact ⟨hasG_iff.2 ⟨Int.ediv_nonneg (by omega) hc.1, Int.ediv_lt_of_lt_mul hk e⟩, hasG_iff.2 ⟨Int.emod_nonneg _ (by omega), Int.emod_lt_of_pos _ hk⟩⟩
theorem sq_int (W H : Int) : (sqG W H : Int) = countG W H * countG W H := by
  have := countG_le W H
  unfold sqG
  rw [Int.natCast_mul, Int.toNat_of_nonneg this.1]
theorem sq_le (W H : Int) : sqG W H ≤ 256 := by
  have h := countG_le W H
  have : (countG W H).toNat ≤ 16 := by omega
  exact Nat.mul_le_mul this this
theorem walk_le {a b : Int} (ha : hasG W H a = true) (hb : hasG W H b = true) : (walkOf W H L P a b).length ≤ mostTo W H L P (sqG W H) := by
  have h1 := hasG_iff.1 ha
  have h2 := hasG_iff.1 hb
  have h3 := tab_at (k := countG W H) (n := sqG W H) (sq_int W H) h1.1 h1.2 h2.1 h2.2
  have e1 : (((a * countG W H + b).toNat : Nat) : Int) = a * countG W H + b := Int.toNat_of_nonneg h3.1
  have e2 : (a * countG W H + b) / countG W H = a := by
    rw [Int.add_comm, Int.add_mul_ediv_right _ _ (by omega), Int.ediv_eq_zero_of_lt h2.1 h2.2]; omega
  have e3 : (a * countG W H + b) % countG W H = b := by
    rw [Int.add_comm, Int.add_mul_emod_self_right]; exact Int.emod_eq_of_lt h2.1 h2.2
  have := mostTo_le (W := W) (H := H) (L := L) (P := P) (i := (a * countG W H + b).toNat) (k := sqG W H) (by omega)
  unfold lenAt at this
  rwa [e1, e2, e3] at this
/-- The first k pairs are minimal. -/
def minTo (W H : Int) (L P : List Int) (k : Nat) : Prop := ∀ i, i < k → minAt W H L P i = true
theorem minTo_zero : minTo W H L P 0 := fun _ h => by omega
theorem minTo_succ {k : Nat} (h : minTo W H L P k) (hk : minAt W H L P k = true) : minTo W H L P (k + 1) := fun i hi => by
  rcases Nat.lt_succ_iff_lt_or_eq.1 hi with h1 | rfl
  · exact h i h1
  · exact hk
theorem minimalG_yes (ht : tableG W H L P = true) (h : minTo W H L P (sqG W H)) : minimalG W H L P = true := by
  simp only [minimalG, ht, Bool.true_and, List.all_eq_true, List.mem_range]; exact h
theorem minimalG_no {i : Nat} (hi : i < sqG W H) (h : minAt W H L P i = false) : minimalG W H L P = false := by
  cases hm : minimalG W H L P with
  | false => rfl
  | true =>
    simp only [minimalG, Bool.and_eq_true, List.all_eq_true, List.mem_range] at hm
    have := hm.2 i hi
    rw [h] at this
    cases this
theorem minimalG_bad (h : tableG W H L P = false) : minimalG W H L P = false := by simp [minimalG, h]
end
end Go.Proofs.Ytffnbmaoainhmaa
