/- What is proved here: decimal digits as a function on numbers; nothing of the program. -/
import Derived.Test.YtlbjopmiaophkaaDoorOwn
import Derived.Lib.ItoaNum
namespace Go.Proofs.YtlbjopmiaophkaaDoor
open Go.ChangeShapes Go.WideShapes Go.ChangeAt Go.RowKit
set_option linter.unusedVariables false


theorem dec_small (u : Nat) (h : u < 10) : Lib.decDigits u = [UInt8.ofNat (48 + u)] := by rw [Lib.decDigits, dif_pos h]
theorem dec_step (u : Nat) (h : ¬ u < 10) : Lib.decDigits u = Lib.decDigits (u / 10) ++ [UInt8.ofNat (48 + u % 10)] := by rw [Lib.decDigits, dif_neg h]
theorem dec_length : ∀ (k u : Nat), u < 10 ^ (k + 1) → (Lib.decDigits u).length ≤ k + 1 := by
  intro k
  induction k with
  | zero => intro u h; rw [dec_small u (by omega)]; simp
  | succ k ih =>
    intro u h
    by_cases hu : u < 10
    · rw [dec_small u hu]; simp
    · rw [dec_step u hu, List.length_append]
      have := ih (u / 10) (by rw [Nat.div_lt_iff_lt_mul (by omega)]; rw [Nat.pow_succ] at h; omega)
      simp; omega
/-- What the loop knows: the digits of m stand before out. -/
def RD (D : List UInt8) (m : Nat) (out : ByteArray) : Prop := (m = 0 → out.data.toList = D) ∧ (0 < m → Lib.decDigits m ++ out.data.toList = D)
theorem RD.start (m : Nat) (h : 0 < m) : RD (Lib.decDigits m) m ⟨#[]⟩ := ⟨fun e => by omega, fun _ => by simp⟩
theorem RD.size {D : List UInt8} {m : Nat} {out : ByteArray} (h : RD D m out) (hD : D.length ≤ 30) : out.size ≤ 30 := by
  have e : out.size = out.data.toList.length := by simp
  rcases Nat.eq_zero_or_pos m with h0 | h0
  · rw [e, h.1 h0]; exact hD
  · have := congrArg List.length (h.2 h0)
    rw [List.length_append] at this
    omega
theorem RD.step {D : List UInt8} {m : Nat} {out : ByteArray} (h : RD D m out) (hm : 0 < m) : RD D (m / 10) (⟨#[UInt8.ofNat (48 + m % 10)]⟩ ++ out) := by
  have h2 := h.2 hm
  have e : ((⟨#[UInt8.ofNat (48 + m % 10)]⟩ : ByteArray) ++ out).data.toList = UInt8.ofNat (48 + m % 10) :: out.data.toList := by simp
  unfold RD
  rw [e]
  by_cases hs : m < 10
  · rw [dec_small m hs] at h2
    have e2 : m % 10 = m := Nat.mod_eq_of_lt hs
    refine ⟨fun _ => by rw [e2]; exact h2, fun h0 => by omega⟩
  · rw [dec_step m hs, List.append_assoc] at h2
    exact ⟨fun h0 => by omega, fun _ => h2⟩
theorem itoa_pos (m : Nat) (h : 0 < m) : Lib.itoa (m : Int) = Lib.decDigits m := by unfold Lib.itoa; rw [if_neg (by omega)]; simp
theorem itoa_neg (m : Nat) (h : 0 < m) : Lib.itoa (-(m : Int)) = 45 :: Lib.decDigits m := by unfold Lib.itoa; rw [if_pos (by omega)]; simp
theorem itoa_zero : Lib.itoa 0 = [48] := by unfold Lib.itoa; rw [if_neg (by omega)]; exact dec_small 0 (by omega)
theorem ba_eq {s : ByteArray} {l : List UInt8} (h : s.data.toList = l) : s = ⟨l.toArray⟩ := by
  subst h; apply ByteArray.ext; simp
end Go.Proofs.YtlbjopmiaophkaaDoor
