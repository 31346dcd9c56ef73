/- What is proved here: under the rule xy the ranks rise along every way of the standard table, as mathematics; nothing of the program. -/
import Derived.Test.YtpcmkilaapjaaaaStdM
import Derived.Test.YtpcmkilaapjaaaaTurnM
import Derived.Test.YtpcmkilaapjaaaaOrdM
namespace Go.Proofs.Ytpcmkilaapjaaaa
open Go.ChangeShapes Go.WideShapes Go.ChangeAt Go.RowKit
set_option linter.unusedVariables false

def upWay (W H : Int) : List Int → Bool
  | [] => true
  | a :: t => decide (0 ≤ a ∧ a < 4 * countG W H) && (match t with | [] => true | b :: _ => decide (rankG W H 1 a < rankG W H 1 b)) && upWay W H t
def stdUp (W H : Int) : Bool := (List.range (sqG W H)).all fun i => upWay W H (pairW W H [] (stdTab W H 1) i)
theorem sup_11 : stdUp 1 1 = true := by decide +kernel
theorem sup_12 : stdUp 1 2 = true := by decide +kernel
theorem sup_13 : stdUp 1 3 = true := by decide +kernel
theorem sup_14 : stdUp 1 4 = true := by decide +kernel
theorem sup_21 : stdUp 2 1 = true := by decide +kernel
theorem sup_22 : stdUp 2 2 = true := by decide +kernel
theorem sup_23 : stdUp 2 3 = true := by decide +kernel
theorem sup_24 : stdUp 2 4 = true := by decide +kernel
theorem sup_31 : stdUp 3 1 = true := by decide +kernel
theorem sup_32 : stdUp 3 2 = true := by decide +kernel
theorem sup_33 : stdUp 3 3 = true := by decide +kernel
theorem sup_34 : stdUp 3 4 = true := by decide +kernel
theorem sup_41 : stdUp 4 1 = true := by decide +kernel
theorem sup_42 : stdUp 4 2 = true := by decide +kernel
theorem sup_43 : stdUp 4 3 = true := by decide +kernel
theorem sup_44 : stdUp 4 4 = true := by decide +kernel
theorem std_up {W H : Int} (h : okG W H = true) : stdUp W H = true := by
  obtain ⟨hW, hH⟩ := okG_cases h
  rcases hW with rfl | rfl | rfl | rfl <;> rcases hH with rfl | rfl | rfl | rfl
  · exact sup_11
  · exact sup_12
  · exact sup_13
  · exact sup_14
  · exact sup_21
  · exact sup_22
  · exact sup_23
  · exact sup_24
  · exact sup_31
  · exact sup_32
  · exact sup_33
  · exact sup_34
  · exact sup_41
  · exact sup_42
  · exact sup_43
  · exact sup_44
/-- The ranks of the first n channels. -/
def rksG (W H : Int) (n : Nat) : List Int := (List.range n).map fun c : Nat => rankG W H 1 (c : Int)
theorem rks_len (W H : Int) (n : Nat) : (rksG W H n).length = n := by simp [rksG]
theorem rks_next (W H : Int) (n : Nat) : rksG W H (n + 1) = rksG W H n ++ [rankG W H 1 (n : Int)] := by simp [rksG, List.range_succ]
theorem rks_at {W H : Int} {n : Nat} {c : Int} (h0 : 0 ≤ c) (h1 : c < (n : Int)) : (rksG W H n).getD c.toNat 0 = rankG W H 1 c := by
  have hl : c.toNat < n := by omega
  have e : ((c.toNat : Nat) : Int) = c := by omega
  simp [rksG, List.getD_eq_getElem?_getD, List.getElem?_range hl, e]
theorem up_at {W H : Int} : ∀ {T : List Int}, upWay W H T = true → ∀ i, i < T.length → (0 ≤ T.getD i 0 ∧ T.getD i 0 < 4 * countG W H) ∧ (i = 0 ∨ rankG W H 1 (T.getD (i - 1) 0) < rankG W H 1 (T.getD i 0))
  | [], _, i, hi => by simp at hi
  | a :: t, h, 0, _ => by
    simp only [upWay, Bool.and_eq_true, decide_eq_true_eq] at h
    exact ⟨h.1.1, .inl rfl⟩
  | a :: t, h, i + 1, hi => by
    simp only [upWay, Bool.and_eq_true, decide_eq_true_eq] at h
    have ih := up_at h.2 i (by simpa using hi)
    refine ⟨ih.1, .inr ?_⟩
    cases i with
    | zero =>
      match t, h.1.2, hi with
      | [], _, hi => simp at hi
      | b :: t', h2, _ => exact of_decide_eq_true h2
    | succ i =>
      rcases ih.2 with h3 | h3
      · omega
      · exact h3
theorem rises_up {W H : Int} {T : List Int} {n : Nat} (hn : (n : Int) = 4 * countG W H) (h : upWay W H T = true) : risesO (rksG W H n) T = true := risesO_of fun i hi => by
  obtain ⟨⟨h0, h1⟩, h2⟩ := up_at h i hi
  unfold upO
  rw [rks_len, decide_eq_true (show 0 ≤ T.getD i 0 ∧ T.getD i 0 ≤ (n : Int) - 1 by omega), Bool.true_and]
  rcases h2 with h2 | h2
  · subst h2; rfl
  · cases i with
    | zero => rfl
    | succ i =>
      obtain ⟨⟨g0, g1⟩, _⟩ := up_at h i (by omega)
      rw [rks_at h0 (by omega), show i + 1 - 1 = i from rfl, rks_at g0 (by omega)]
      rw [show i + 1 - 1 = i from rfl] at h2
      rw [decide_eq_true h2, Bool.or_true]
end Go.Proofs.Ytpcmkilaapjaaaa
