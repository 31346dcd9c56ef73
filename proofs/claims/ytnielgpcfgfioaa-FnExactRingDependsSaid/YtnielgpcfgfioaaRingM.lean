/- What is proved here: hops along a ring and their dependencies as mathematics; nothing of the program. -/
import Derived.Test.YtnielgpcfgfioaaDepM
namespace Go.Proofs.Ytnielgpcfgfioaa
open Go.ChangeShapes Go.WideShapes Go.ChangeAt Go.RowKit
set_option linter.unusedVariables false

def rinG (n : Int) : Bool := decide (2 ≤ n ∧ n ≤ 12)
def ringOk (n a b : Int) : Bool := decide ((2 ≤ n ∧ n ≤ 12) ∧ (0 ≤ a ∧ a ≤ n - 1) ∧ (0 ≤ b ∧ b ≤ n - 1))
theorem rinG_iff {n : Int} : rinG n = true ↔ 2 ≤ n ∧ n ≤ 12 := by unfold rinG; exact decide_eq_true_iff
theorem ringOk_iff {n a b : Int} : ringOk n a b = true ↔ (2 ≤ n ∧ n ≤ 12) ∧ (0 ≤ a ∧ a ≤ n - 1) ∧ (0 ≤ b ∧ b ≤ n - 1) := by unfold ringOk; exact decide_eq_true_iff
/-- How many hops lead from a to b. -/
def hopN (n a b : Nat) : Nat := (b + n - a) % n
theorem hopN_lt {n a b : Nat} (h : 0 < n) : hopN n a b < n := Nat.mod_lt _ h
theorem hopN_to {n a b : Nat} (ha : a < n) (hb : b < n) : (a + hopN n a b) % n = b := by
  unfold hopN
  rw [Nat.add_mod_mod, show a + (b + n - a) = b + n by omega, Nat.add_mod_right, Nat.mod_eq_of_lt hb]
theorem hopN_cases {n a b : Nat} (ha : a < n) (hb : b < n) : hopN n a b = if a ≤ b then b - a else b + n - a := by
  unfold hopN
  split
  · rw [show b + n - a = b - a + n by omega, Nat.add_mod_right, Nat.mod_eq_of_lt (by omega)]
  · exact Nat.mod_eq_of_lt (by omega)
/-- The place after k hops is the target exactly at the end. -/
theorem hop_end {n a b k : Nat} (ha : a < n) (hb : b < n) (hk : k ≤ hopN n a b) : (a + k) % n = b ↔ k = hopN n a b := by
  have hl := hopN_lt (n := n) (a := a) (b := b) (by omega)
  have hc := hopN_cases ha hb
  rcases Nat.lt_or_ge (a + k) n with h | h
  · rw [Nat.mod_eq_of_lt h]
    split at hc <;> omega
  · rw [show a + k = (a + k - n) + n by omega, Nat.add_mod_right, Nat.mod_eq_of_lt (by omega)]
    split at hc <;> omega
def clsH (n a : Nat) (d : Bool) (k : Nat) : Int := if d = true ∧ n ≤ a + k then 1 else 0
def hopAt (n a : Nat) (d : Bool) (k : Nat) : Dep := (((a + k) % n : Nat), clsH n a d k)
def hopTo (n a : Nat) (d : Bool) (k : Nat) : List Dep := (List.range k).map (hopAt n a d)
theorem hopTo_zero (n a : Nat) (d : Bool) : hopTo n a d 0 = [] := rfl
theorem hopTo_length (n a : Nat) (d : Bool) (k : Nat) : (hopTo n a d k).length = k := by simp [hopTo]
theorem hopTo_next (n a : Nat) (d : Bool) (k : Nat) : hopTo n a d (k + 1) = hopTo n a d k ++ [hopAt n a d k] := by
  unfold hopTo
  rw [List.range_succ, List.map_append]
  rfl
theorem hopTo_at {n a : Nat} {d : Bool} {k i : Nat} (h : i < k) : atD (hopTo n a d k) i = hopAt n a d i := by
  rw [atD_get (by rw [hopTo_length]; exact h)]
  simp [hopTo]
theorem clsH_zero {n a : Nat} {d : Bool} (h : a < n) : clsH n a d 0 = 0 := if_neg (by omega)
/-- The class changes behind the last channel, with a dateline alone. -/
theorem clsH_last {n a k : Nat} {d : Bool} (hl : a + k < 2 * n) (h : (a + k) % n = n - 1) (hd : d = true) (hn : 0 < n) : clsH n a d (k + 1) = 1 := by
  refine if_pos ⟨hd, ?_⟩
  rcases Nat.lt_or_ge (a + k) n with h1 | h1
  · rw [Nat.mod_eq_of_lt h1] at h; omega
  · omega
theorem clsH_same {n a k : Nat} {d : Bool} (hl : a + k < 2 * n) (h : ¬ ((a + k) % n = n - 1 ∧ d = true)) (hn : 0 < n) : clsH n a d (k + 1) = clsH n a d k := by
  unfold clsH
  cases d with
  | false => simp
  | true =>
    have h1 : ¬ (a + k) % n = n - 1 := fun e => h ⟨e, rfl⟩
    have h2 : a + k + 1 ≠ n := fun e => h1 (by rw [Nat.mod_eq_of_lt (by omega)]; omega)
    by_cases h3 : n ≤ a + k
    · rw [if_pos ⟨rfl, by omega⟩, if_pos ⟨rfl, h3⟩]
    · rw [if_neg (by omega), if_neg (by omega)]
def hopG (n a b : Int) (d : Bool) : List Dep := if ringOk n a b = true then hopTo n.toNat a.toNat d (hopN n.toNat a.toNat b.toNat) else []
theorem hopG_no {n a b : Int} {d : Bool} (h : ringOk n a b = false) : hopG n a b d = [] := if_neg (by simp [h])
theorem hopG_yes {n a b : Int} {d : Bool} (h : ringOk n a b = true) : hopG n a b d = hopTo n.toNat a.toNat d (hopN n.toNat a.toNat b.toNat) := if_pos h
theorem hopG_nat {n a b : Nat} {d : Bool} (h : ringOk n a b = true) : hopG n a b d = hopTo n a d (hopN n a b) := by
  rw [hopG_yes h, Int.toNat_natCast, Int.toNat_natCast, Int.toNat_natCast]
theorem ring_nat {n a b : Int} (h : ringOk n a b = true) : ∃ n' a' b' : Nat, n = n' ∧ a = a' ∧ b = b' ∧ 2 ≤ n' ∧ n' ≤ 12 ∧ a' < n' ∧ b' < n' := by
  obtain ⟨h1, h2, h3⟩ := ringOk_iff.1 h
  exact ⟨n.toNat, a.toNat, b.toNat, by omega, by omega, by omega, by omega, by omega, by omega, by omega⟩
theorem hopG_len (n a b : Int) (d : Bool) : (hopG n a b d).length ≤ 11 := by
  cases h : ringOk n a b with
  | false => rw [hopG_no h]; simp
  | true =>
    rw [hopG_yes h, hopTo_length]
    obtain ⟨h1, _⟩ := ringOk_iff.1 h
    have := hopN_lt (n := n.toNat) (a := a.toNat) (b := b.toNat) (by omega)
    omega
def betG (n a b : Int) : Int := if ringOk n a b = true then (hopN n.toNat a.toNat b.toNat : Int) else -1
theorem betG_no {n a b : Int} (h : ringOk n a b = false) : betG n a b = -1 := if_neg (by simp [h])
theorem betG_nat {n a b : Nat} (h : ringOk n a b = true) : betG n a b = (hopN n a b : Int) := by
  rw [betG, if_pos h, Int.toNat_natCast, Int.toNat_natCast, Int.toNat_natCast]

/-- The number of a channel of a class. -/
def chN (h : Dep) : Int := h.2 * 64 + h.1
def pairH (n a : Nat) (d : Bool) (t : Nat) : Dep := (chN (hopAt n a d t), chN (hopAt n a d (t + 1)))
/-- The first j pairs of adjacent hops. -/
def hopP (n a : Nat) (d : Bool) (j : Nat) : List Dep := (List.range j).map (pairH n a d)
theorem hopP_zero (n a : Nat) (d : Bool) : hopP n a d 0 = [] := rfl
theorem hopP_length (n a : Nat) (d : Bool) (j : Nat) : (hopP n a d j).length = j := by simp [hopP]
theorem hopP_next (n a : Nat) (d : Bool) (j : Nat) : hopP n a d (j + 1) = hopP n a d j ++ [pairH n a d j] := by
  unfold hopP
  rw [List.range_succ, List.map_append]
  rfl
theorem ins_hop {D : List Dep} {n a : Nat} {d : Bool} {j : Nat} {e : Dep} (he : pairH n a d j = e) : insD (insAll D (hopP n a d j)) e = insAll D (hopP n a d (j + 1)) := by
  rw [hopP_next, insAll_append, he]
  rfl
/-- The pairs of the first i ways. -/
def ringTo (n : Nat) (d : Bool) : Nat → List Dep
  | 0 => []
  | i + 1 => insAll (ringTo n d i) (hopP n (i / n) d (hopN n (i / n) (i % n) - 1))
theorem ringTo_asc (n : Nat) (d : Bool) : ∀ i, ascD (ringTo n d i)
  | 0 => asc_nil
  | i + 1 => insAll_asc (ringTo_asc n d i) _
theorem ringTo_len {n : Nat} {d : Bool} (h1 : 2 ≤ n) (h2 : n ≤ 12) : ∀ i, (ringTo n d i).length ≤ i * 11
  | 0 => Nat.le_refl _
  | i + 1 => by
    have h3 := ringTo_len (d := d) h1 h2 i
    have h4 := (insAll_length (ringTo n d i) (hopP n (i / n) d (hopN n (i / n) (i % n) - 1))).1
    have h5 := hopN_lt (n := n) (a := i / n) (b := i % n) (by omega)
    rw [hopP_length] at h4
    show (insAll _ _).length ≤ _
    omega
theorem mem_ringTo {n : Nat} {d : Bool} {x : Dep} : ∀ {i : Nat}, x ∈ ringTo n d i ↔ ∃ k t, k < i ∧ t + 1 < hopN n (k / n) (k % n) ∧ pairH n (k / n) d t = x
  | 0 => ⟨(fun h => by cases h), (fun ⟨k, t, h, _⟩ => by omega)⟩
  | i + 1 => by
    rw [ringTo, mem_insAll, mem_ringTo]
    unfold hopP
    rw [List.mem_map]
    constructor
    · rintro (⟨k, t, h1, h2, h3⟩ | ⟨t, h1, h2⟩)
      · exact ⟨k, t, by omega, h2, h3⟩
      · exact ⟨i, t, by omega, by have := List.mem_range.1 h1; omega, h2⟩
    · rintro ⟨k, t, h1, h2, h3⟩
      by_cases e : k = i
      · subst e; exact .inr ⟨t, List.mem_range.2 (by omega), h3⟩
      · exact .inl ⟨k, t, by omega, h2, h3⟩
def ringD (n : Int) (d : Bool) : List Dep := if rinG n = true then ringTo n.toNat d (n.toNat * n.toNat) else []
theorem ringD_no {n : Int} {d : Bool} (h : rinG n = false) : ringD n d = [] := if_neg (by simp [h])
theorem ringD_nat {n : Nat} {d : Bool} (h1 : 2 ≤ n) (h2 : n ≤ 12) : ringD n d = ringTo n d (n * n) := by
  rw [ringD, if_pos (rinG_iff.2 (by omega)), Int.toNat_natCast]
theorem ring_sq {n : Nat} (h2 : n ≤ 12) : n * n ≤ 144 := Nat.mul_le_mul h2 h2
theorem ringD_asc (n : Int) (d : Bool) : ascD (ringD n d) := by
  unfold ringD
  split
  · exact ringTo_asc _ _ _
  · exact asc_nil
theorem ringD_len (n : Int) (d : Bool) : (ringD n d).length ≤ 1584 := by
  cases h : rinG n with
  | false => rw [ringD_no h]; simp
  | true =>
    obtain ⟨h1, h2⟩ := rinG_iff.1 h
    rw [ringD, if_pos h]
    have h3 := ringTo_len (n := n.toNat) (d := d) (by omega) (by omega) (n.toNat * n.toNat)
    have h4 := ring_sq (n := n.toNat) (by omega)
    omega
/-- The pairs of two nodes by one number. -/
theorem div_lt {n k : Nat} (h : k < n * n) : k / n < n := Nat.div_lt_of_lt_mul h
theorem pair_no {n a b : Nat} (hb : b < n) : (a * n + b) / n = a ∧ (a * n + b) % n = b := by
  have hn : 0 < n := by omega
  constructor
  · rw [Nat.mul_comm, Nat.mul_add_div hn, Nat.div_eq_of_lt hb]; omega
  · rw [Nat.mul_comm, Nat.mul_add_mod, Nat.mod_eq_of_lt hb]
theorem pair_lt {n a b : Nat} (ha : a < n) (hb : b < n) : a * n + b < n * n := by
  have : (a + 1) * n ≤ n * n := Nat.mul_le_mul_right n ha
  rw [Nat.add_mul, Nat.one_mul] at this
  omega
/-- The numbers of two adjacent hops, written out. -/
theorem pair_is {n a t : Nat} {d : Bool} (ha : a < n) (h : t + 1 < n) :
    (a + t + 1 < n ∧ pairH n a d t = (((a + t : Nat) : Int), ((a + t + 1 : Nat) : Int))) ∨ (a + t + 1 = n ∧ pairH n a d t = (((a + t : Nat) : Int), (if d = true then (64 : Int) else 0))) ∨ (n ≤ a + t ∧ a + t + 1 < 2 * n ∧ pairH n a d t = ((if d = true then (64 : Int) else 0) + ((a + t - n : Nat) : Int), (if d = true then (64 : Int) else 0) + ((a + t + 1 - n : Nat) : Int))) := by
  have e1 : a + (t + 1) = a + t + 1 := rfl
  rcases Nat.lt_or_ge (a + t + 1) n with h1 | h1
  · left
    refine ⟨h1, ?_⟩
    unfold pairH chN hopAt clsH
    rw [e1, Nat.mod_eq_of_lt h1, Nat.mod_eq_of_lt (by omega), if_neg (by omega), if_neg (by omega)]
    simp
  · rcases Nat.lt_or_ge (a + t) n with h2 | h2
    · right; left
      refine ⟨by omega, ?_⟩
      unfold pairH chN hopAt clsH
      rw [e1, show a + t + 1 = n by omega, Nat.mod_self, Nat.mod_eq_of_lt h2, if_neg (by omega)]
      cases d <;> simp
    · right; right
      refine ⟨h2, by omega, ?_⟩
      unfold pairH chN hopAt clsH
      have m1 : (a + t) % n = a + t - n := by rw [Nat.mod_eq_sub_mod h2]; exact Nat.mod_eq_of_lt (by omega)
      have m2 : (a + t + 1) % n = a + t + 1 - n := by rw [Nat.mod_eq_sub_mod h1]; exact Nat.mod_eq_of_lt (by omega)
      rw [e1, m1, m2]
      cases d <;> simp <;> omega
theorem pair_in {n a t : Nat} {d : Bool} (hn : n ≤ 12) (ha : a < n) (h : t + 1 < n) : inD (pairH n a d t) = true := by
  rw [inD_iff]
  rcases pair_is (d := d) ha h with ⟨h1, e⟩ | ⟨h1, e⟩ | ⟨h1, h2, e⟩ <;> rw [e] <;> cases d <;> simp <;> omega
theorem ringD_ok (n : Int) (d : Bool) : okD (ringD n d) = true := by
  refine okD_of (ringD_asc n d) fun x hx => ?_
  cases h : rinG n with
  | false => rw [ringD_no h] at hx; cases hx
  | true =>
    obtain ⟨h1, h2⟩ := rinG_iff.1 h
    rw [ringD, if_pos h] at hx
    obtain ⟨k, t, h3, h4, rfl⟩ := mem_ringTo.1 hx
    have h5 := hopN_lt (n := n.toNat) (a := k / n.toNat) (b := k % n.toNat) (by omega)
    exact pair_in (by omega) (div_lt h3) (by omega)
end Go.Proofs.Ytnielgpcfgfioaa
