/- What is proved here: a number's decimal text spells the number, as functions; nothing of the program. -/
import Derived.Test.YtlbjopmiaophkaaDoorFmtM
import Derived.Lib.AtoiAll
namespace Go.Proofs.YtlbjopmiaophkaaDoor
open Go.ChangeShapes Go.WideShapes Go.ChangeAt Go.RowKit
set_option linter.unusedVariables false

theorem dec_digit : ∀ (k u : Nat), u ≤ k → ∀ c ∈ Lib.decDigits u, 48 ≤ c.toNat ∧ c.toNat ≤ 57 := by
  intro k
  induction k with
  | zero => intro u h c hc; obtain rfl : u = 0 := (by omega); rw [dec_small 0 (by decide)] at hc; simp at hc; subst hc; decide
  | succ k ih =>
    intro u h c hc
    by_cases hu : u < 10
    · rw [dec_small u hu] at hc
      simp only [List.mem_singleton] at hc
      subst hc
      simp; omega
    · rw [dec_step u hu, List.mem_append] at hc
      rcases hc with hc | hc
      · exact ih (u / 10) (by omega) c hc
      · simp only [List.mem_singleton] at hc
        subst hc
        simp; omega
theorem dec_ne (u : Nat) : Lib.decDigits u ≠ [] := by
  by_cases h : u < 10
  · rw [dec_small u h]; simp
  · rw [dec_step u h]; simp
theorem parse_snoc (d : Nat) (hd : d < 10) : ∀ (l : List UInt8) (acc u : Nat), Lib.parseUint10 acc l = .ok u → u < 1844674407370955162 → u * 10 + d < 18446744073709551616 →
    Lib.parseUint10 acc (l ++ [UInt8.ofNat (48 + d)]) = .ok (u * 10 + d) := by
  intro l
  induction l with
  | nil =>
    intro acc u h h1 h2
    simp only [Lib.parseUint10] at h
    injection h with h
    subst h
    have e : (UInt8.ofNat (48 + d)).toNat = 48 + d := by simp; omega
    simp only [List.nil_append, Lib.parseUint10]
    rw [e, if_pos ⟨by omega, by omega⟩, if_neg (by omega), if_neg (by omega)]
    congr 1; omega
  | cons c r ih =>
    intro acc u h h1 h2
    simp only [List.cons_append, Lib.parseUint10] at h ⊢
    split at h
    · rename_i hc
      rw [if_pos hc]
      split at h
      · cases h
      · rename_i h3
        rw [if_neg h3]
        split at h
        · cases h
        · rename_i h4
          rw [if_neg h4]
          exact ih _ u h h1 h2
    · cases h
theorem parse_dec : ∀ (k m : Nat), m ≤ k → m < 18446744073709551616 → Lib.parseUint10 0 (Lib.decDigits m) = .ok m := by
  intro k
  induction k with
  | zero => intro m h _; obtain rfl : m = 0 := (by omega); rw [dec_small 0 (by decide)]; rfl
  | succ k ih =>
    intro m h hm
    by_cases hu : m < 10
    · rw [dec_small m hu]
      have := parse_snoc m hu [] 0 0 rfl (by omega) (by omega)
      simpa using this
    · rw [dec_step m hu]
      have := parse_snoc (m % 10) (by omega) (Lib.decDigits (m / 10)) 0 (m / 10) (ih (m / 10) (by omega) (by omega)) (by omega) (by omega)
      rw [this]
      congr 1; omega
theorem dec_inj {a b : Nat} (ha : a < 18446744073709551616) (hb : b < 18446744073709551616) (h : Lib.decDigits a = Lib.decDigits b) : a = b := by
  have h1 := parse_dec a a (Nat.le_refl _) ha
  rw [h, parse_dec b b (Nat.le_refl _) hb] at h1
  injection h1 with h1
  exact h1.symm
theorem itoa_nat (m : Nat) : Lib.itoa (m : Int) = Lib.decDigits m := by unfold Lib.itoa; rw [if_neg (by omega)]; simp
theorem atoi_itoa (m : Nat) (hm : m ≤ 1000000000) : Lib.atoiAll (Lib.itoa (m : Int)) = .ok (m : Int) := by
  rw [itoa_nat]
  have hd := dec_digit m m (Nat.le_refl _)
  have hp := parse_dec m m (Nat.le_refl _) (by omega)
  have hne := dec_ne m
  generalize Lib.decDigits m = l at *
  cases l with
  | nil => exact absurd rfl hne
  | cons c r =>
    have hc := hd c (by simp)
    unfold Lib.atoiAll
    simp only []
    rw [if_neg (by omega)]
    unfold Lib.parseMag
    rw [if_neg (by simp), hp]
    simp only []
    rw [if_neg (by omega), if_neg (by omega), if_neg (by omega)]
/-- Two numbers with one text, the first not negative, are one. -/
theorem itoa_same {a b : Int} (ha : 0 ≤ a) (ha1 : a ≤ 1000000000) (hb0 : -9223372036854775808 ≤ b) (hb1 : b ≤ 9223372036854775807) (h : Lib.itoa a = Lib.itoa b) : a = b := by
  obtain ⟨m, rfl⟩ : ∃ m : Nat, a = m := ⟨a.toNat, by omega⟩
  rw [itoa_nat] at h
  rcases (show b < 0 ∨ 0 ≤ b by omega) with hb | hb
  · exfalso
    obtain ⟨k, rfl⟩ : ∃ k : Nat, b = -(k : Int) := ⟨b.natAbs, by omega⟩
    rw [itoa_neg k (by omega)] at h
    have := dec_digit m m (Nat.le_refl _) 45 (by rw [h]; simp)
    have e : (45 : UInt8).toNat = 45 := rfl
    omega
  · obtain ⟨k, rfl⟩ : ∃ k : Nat, b = k := ⟨b.toNat, by omega⟩
    rw [itoa_nat] at h
    have := dec_inj (by omega) (by omega) h
    omega
/-- What ParseUint answers. -/
def PUPost (s : ByteArray) (w : World) (e : Ending) (w' : World) : Prop :=
  ∃ (n : Int) (b : Bool), e = .returned (.tuple #[.int .i64 n, .bool b]) ∧ (b = true → 0 ≤ n ∧ n ≤ 1000000000 ∧ (⟨(Lib.itoa n).toArray⟩ : ByteArray) = s) ∧
    (b = false → n = 0 ∧ ∀ m : Int, 0 ≤ m → m ≤ 1000000000 → (⟨(Lib.itoa m).toArray⟩ : ByteArray) ≠ s) ∧ Below w.heap.size w w'
theorem itoa_text {m : Int} {s : ByteArray} (h : (⟨(Lib.itoa m).toArray⟩ : ByteArray) = s) : Lib.itoa m = s.data.toList := by subst h; simp
/-- The value of digits. -/
def valL (l : List UInt8) : Nat := l.foldl (fun a c => 10 * a + (c.toNat - 48)) 0
theorem valL_snoc (l : List UInt8) (c : UInt8) : valL (l ++ [c]) = 10 * valL l + (c.toNat - 48) := by simp [valL]
theorem valL_dec : ∀ (k m : Nat), m ≤ k → valL (Lib.decDigits m) = m := by
  intro k
  induction k with
  | zero => intro m h; obtain rfl : m = 0 := (by omega); rw [dec_small 0 (by decide)]; rfl
  | succ k ih =>
    intro m h
    by_cases hu : m < 10
    · rw [dec_small m hu]
      have := valL_snoc [] (UInt8.ofNat (48 + m))
      rw [List.nil_append] at this
      rw [this]
      show 10 * 0 + _ = m
      simp; omega
    · rw [dec_step m hu, valL_snoc, ih (m / 10) (by omega)]
      simp; omega
theorem valL_lt (l : List UInt8) (hd : ∀ c ∈ l, 48 ≤ c.toNat ∧ c.toNat ≤ 57) : valL l < 10 ^ l.length := by
  suffices h : ∀ (r : List UInt8), (∀ c ∈ r, 48 ≤ c.toNat ∧ c.toNat ≤ 57) → valL r.reverse < 10 ^ r.length by
    have := h l.reverse (fun c hc => hd c (by simpa using hc))
    simpa using this
  intro r
  induction r with
  | nil => intro _; decide
  | cons c r ih =>
    intro hr
    rw [List.reverse_cons, valL_snoc, List.length_cons, Nat.pow_succ]
    have h1 := ih (fun x hx => hr x (by simp [hx]))
    have h2 := hr c (by simp)
    omega
end Go.Proofs.YtlbjopmiaophkaaDoor
