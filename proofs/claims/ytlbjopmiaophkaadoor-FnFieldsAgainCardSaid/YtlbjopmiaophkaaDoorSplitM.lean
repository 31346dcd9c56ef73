/- What is proved here: the fields of a line as a function on its bytes; nothing of the program. -/
import Derived.Test.YtlbjopmiaophkaaDoorOwn
namespace Go.Proofs.YtlbjopmiaophkaaDoor
open Go.ChangeShapes Go.WideShapes Go.ChangeAt Go.RowKit
set_option linter.unusedVariables false

def pushF (s : ByteArray) (out : List ByteArray) (b i : Nat) : List ByteArray := if b < i then out ++ [s.extract b i] else out
def fstate (s : ByteArray) : Nat → List ByteArray × Nat
  | 0 => ([], 0)
  | i + 1 => if byteOf s i = 32 then (pushF s (fstate s i).1 (fstate s i).2 i, i + 1) else fstate s i
theorem fstate_le (s : ByteArray) : ∀ i, (fstate s i).2 ≤ i ∧ (fstate s i).1.length ≤ (fstate s i).2 := by
  intro i
  induction i with
  | zero => exact ⟨Nat.le_refl _, Nat.le_refl _⟩
  | succ i ih =>
    unfold fstate pushF
    (repeat' split) <;> (try simp) <;> omega
theorem fstate_space (s : ByteArray) (i : Nat) (h : byteOf s i = 32) : fstate s (i + 1) = (pushF s (fstate s i).1 (fstate s i).2 i, i + 1) := by rw [fstate, if_pos h]
theorem fstate_other (s : ByteArray) (i : Nat) (h : byteOf s i ≠ 32) : fstate s (i + 1) = fstate s i := by rw [fstate, if_neg h]
def fieldsOf (s : ByteArray) : List ByteArray := pushF s (fstate s s.size).1 (fstate s s.size).2 s.size
def fGood (s : ByteArray) (i : Nat) : Prop := 32 ≤ byteOf s i ∧ byteOf s i ≤ 126
def fOk (s : ByteArray) : Prop := s.size ≤ 600 ∧ (∀ i, i < s.size → fGood s i) ∧ (fieldsOf s).length ≤ 24
instance (s : ByteArray) (i : Nat) : Decidable (fGood s i) := inferInstanceAs (Decidable (_ ∧ _))
instance (s : ByteArray) : Decidable (fOk s) := inferInstanceAs (Decidable (_ ∧ _ ∧ _))
def fRes (s : ByteArray) : List ByteArray := if fOk s then fieldsOf s else []
def fBool (s : ByteArray) : Bool := decide (fOk s)
theorem fieldsOf_le (s : ByteArray) : (fieldsOf s).length ≤ s.size + 1 := by
  have := fstate_le s s.size
  unfold fieldsOf pushF
  split <;> (try simp) <;> omega
/-- What the loop knows at its head: k bytes are read. -/
def AtK (s : ByteArray) (k : Nat) (out : List ByteArray) (b : Nat) : Prop :=
  (k ≤ s.size → (out, b) = fstate s k) ∧ (k = s.size + 1 → out = fieldsOf s) ∧ (∀ j, j < k → j < s.size → fGood s j) ∧ b ≤ k ∧ out.length ≤ k
theorem AtK.zero (s : ByteArray) : AtK s 0 [] 0 := ⟨fun _ => rfl, fun h => by omega, fun j h => by omega, Nat.le_refl _, Nat.le_refl _⟩
theorem AtK.other {s : ByteArray} {k b : Nat} {out : List ByteArray} (h : AtK s k out b) (hk : k < s.size) (hg : fGood s k) (hc : byteOf s k ≠ 32) : AtK s (k + 1) out b := by
  obtain ⟨h1, h2, h3, h4, h5⟩ := h
  refine ⟨fun _ => ?_, fun e => by omega, fun j hj hs => ?_, by omega, by omega⟩
  · rw [fstate_other s k hc]; exact h1 (by omega)
  · by_cases e : j = k
    · subst e; exact hg
    · exact h3 j (by omega) hs
theorem AtK.space {s : ByteArray} {k b : Nat} {out : List ByteArray} (h : AtK s k out b) (hk : k < s.size) (hg : fGood s k) (hc : byteOf s k = 32) : AtK s (k + 1) (pushF s out b k) (k + 1) := by
  obtain ⟨h1, h2, h3, h4, h5⟩ := h
  have h1' := h1 (by omega)
  have hl := fstate_le s k
  rw [← h1'] at hl
  refine ⟨fun _ => ?_, fun e => by omega, fun j hj hs => ?_, by omega, ?_⟩
  · rw [fstate_space s k hc, ← h1']
  · by_cases e : j = k
    · subst e; exact hg
    · exact h3 j (by omega) hs
  · unfold pushF; split <;> (try simp) <;> omega
theorem AtK.last {s : ByteArray} {k b : Nat} {out : List ByteArray} (h : AtK s k out b) (hk : k = s.size) : AtK s (k + 1) (pushF s out b k) (k + 1) := by
  subst hk
  obtain ⟨h1, h2, h3, h4, h5⟩ := h
  have h1' := h1 (Nat.le_refl _)
  have hl := fstate_le s s.size
  rw [← h1'] at hl
  refine ⟨fun e => by omega, fun _ => ?_, fun j hj hs => h3 j hs hs, Nat.le_refl _, ?_⟩
  · unfold fieldsOf; rw [← h1']
  · unfold pushF; split <;> (try simp) <;> omega
theorem AtK.fields {s : ByteArray} {k b : Nat} {out : List ByteArray} (h : AtK s k out b) (hk : k = s.size + 1) : out = fieldsOf s ∧ ∀ i, i < s.size → fGood s i := ⟨h.2.1 hk, fun i hi => h.2.2.1 i (by omega) hi⟩
theorem pushF_yes (s : ByteArray) (out : List ByteArray) {b i : Nat} (h : b < i) : pushF s out b i = out ++ [s.extract b i] := if_pos h
theorem pushF_no (s : ByteArray) (out : List ByteArray) {b i : Nat} (h : ¬ b < i) : pushF s out b i = out := if_neg h

def FieldsPost (s : ByteArray) (w : World) (e : Ending) (w' : World) : Prop :=
  ∃ v, e = .returned (.tuple #[v, .bool (fBool s)]) ∧ w'.ownsRow w.heap.size 9 1 v (fRes s).length (strsV (fRes s)) ∧ Below w.heap.size w w'
theorem FieldsPost.no {s : ByteArray} {w w' : World} {v : Value} (h : ¬ fOk s) (hown : w'.ownsRow w.heap.size 9 1 v 0 []) (hb : Below w.heap.size w w') : FieldsPost s w (.returned (.tuple #[v, .bool false])) w' := by
  have e1 : fBool s = false := by unfold fBool; exact decide_eq_false h
  have e2 : fRes s = [] := by unfold fRes; rw [if_neg h]
  refine ⟨v, by rw [e1], ?_, hb⟩
  rw [e2]; exact hown
theorem FieldsPost.yes {s : ByteArray} {w w' : World} {v : Value} (h : fOk s) (hown : w'.ownsRow w.heap.size 9 1 v (fieldsOf s).length (strsV (fieldsOf s))) (hb : Below w.heap.size w w') : FieldsPost s w (.returned (.tuple #[v, .bool true])) w' := by
  have e1 : fBool s = true := by unfold fBool; exact decide_eq_true h
  have e2 : fRes s = fieldsOf s := by unfold fRes; rw [if_pos h]
  refine ⟨v, by rw [e1], ?_, hb⟩
  rw [e2]; exact hown

theorem fRes_le (s : ByteArray) : (fRes s).length ≤ 24 := by
  unfold fRes
  split
  · rename_i h; exact h.2.2
  · simp

end Go.Proofs.YtlbjopmiaophkaaDoor
