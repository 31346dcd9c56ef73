/- What is proved here: the fields of a line, joined by single spaces, have the same fields; functions on bytes, nothing of the program. -/
import Derived.Test.YtlbjopmiaophkaaDoorSplitM
namespace Go.Proofs.YtlbjopmiaophkaaDoor
open Go.ChangeShapes Go.WideShapes Go.ChangeAt Go.RowKit
set_option linter.unusedVariables false

/-- A field: not empty, no space in it, every byte can be printed. -/
def FieldOk (f : ByteArray) : Prop := 0 < f.size ∧ f.size ≤ 600 ∧ ∀ c ∈ f.data.toList, c.toNat ≠ 32 ∧ 32 ≤ c.toNat ∧ c.toNat ≤ 126

theorem extract_list (s : ByteArray) (b i : Nat) : (s.extract b i).data.toList = (s.data.toList.drop b).take (i - b) := by
  rw [ByteArray.data_extract, Array.toList_extract]
theorem extract_size (s : ByteArray) (b i : Nat) (h : i ≤ s.size) : (s.extract b i).size = i - b := by rw [ByteArray.size_extract]; omega
theorem mem_extract {s : ByteArray} {b i : Nat} {c : UInt8} (h : c ∈ (s.extract b i).data.toList) : ∃ j, b ≤ j ∧ j < i ∧ j < s.size ∧ c.toNat = byteOf s j := by
  rw [extract_list] at h
  obtain ⟨t, ht, e⟩ := List.getElem_of_mem h
  have hlen : t < i - b ∧ b + t < s.data.toList.length := by
    simp only [List.length_take, List.length_drop] at ht
    omega
  refine ⟨b + t, by omega, by omega, by simpa using hlen.2, ?_⟩
  rw [← e, List.getElem_take, List.getElem_drop]
  unfold byteOf
  rw [List.getD_eq_getElem?_getD, List.getElem?_eq_getElem hlen.2]; rfl

theorem pushF_ok {s : ByteArray} {out : List ByteArray} {b i : Nat} (hi : i ≤ s.size) (hs : s.size ≤ 600) (hout : ∀ f ∈ out, FieldOk f) (hb : ∀ j, b ≤ j → j < i → byteOf s j ≠ 32) (hg : ∀ j, j < s.size → fGood s j) : ∀ f ∈ pushF s out b i, FieldOk f := by
  unfold pushF
  split
  · rename_i hlt
    intro f hf
    rw [List.mem_append] at hf
    rcases hf with hf | hf
    · exact hout f hf
    · simp only [List.mem_singleton] at hf
      subst hf
      have hsz := extract_size s b i hi
      refine ⟨by omega, by omega, fun c hc => ?_⟩
      obtain ⟨j, h1, h2, h3, h4⟩ := mem_extract hc
      have := hg j h3
      rw [h4]
      exact ⟨hb j h1 h2, this.1, this.2⟩
  · exact hout
theorem fstate_ok (s : ByteArray) (hs : s.size ≤ 600) (hg : ∀ j, j < s.size → fGood s j) : ∀ i, i ≤ s.size → (∀ f ∈ (fstate s i).1, FieldOk f) ∧ ∀ j, (fstate s i).2 ≤ j → j < i → byteOf s j ≠ 32 := by
  intro i
  induction i with
  | zero => intro _; exact ⟨(fun f hf => by cases hf), fun j h1 h2 => by omega⟩
  | succ i ih =>
    intro hi
    obtain ⟨h1, h2⟩ := ih (by omega)
    by_cases h : byteOf s i = 32
    · rw [fstate_space s i h]
      exact ⟨pushF_ok (by omega) hs h1 h2 hg, fun j h3 h4 => by simp only [] at h3; omega⟩
    · rw [fstate_other s i h]
      refine ⟨h1, fun j h3 h4 => ?_⟩
      by_cases e : j = i
      · rw [e]; exact h
      · exact h2 j h3 (by omega)
theorem fieldsOf_ok (s : ByteArray) (h : fOk s) : ∀ f ∈ fieldsOf s, FieldOk f := by
  have := fstate_ok s h.1 h.2.1 s.size (Nat.le_refl _)
  exact pushF_ok (Nat.le_refl _) h.1 this.1 this.2 h.2.1

/-- The fields joined, a space behind each. -/
def joinL : List ByteArray → List UInt8
  | [] => []
  | f :: L => f.data.toList ++ 32 :: joinL L
theorem joinL_append (A B : List ByteArray) : joinL (A ++ B) = joinL A ++ joinL B := by
  induction A with
  | nil => rfl
  | cons f A ih => simp [joinL, ih]
def joinB (L : List ByteArray) : ByteArray := ⟨(joinL L).toArray⟩
theorem joinB_list (L : List ByteArray) : (joinB L).data.toList = joinL L := by simp [joinB]
theorem joinB_size (L : List ByteArray) : (joinB L).size = (joinL L).length := by show (joinL L).toArray.size = _; simp
theorem joinL_snoc (A : List ByteArray) (f : ByteArray) : joinL (A ++ [f]) = joinL A ++ f.data.toList ++ [32] := by rw [joinL_append]; simp [joinL]
theorem byte_mid {s : ByteArray} {P M Q : List UInt8} (h : s.data.toList = P ++ M ++ Q) (j : Nat) (hj : j < M.length) : ∃ c ∈ M, byteOf s (P.length + j) = c.toNat := by
  refine ⟨M[j], List.getElem_mem hj, ?_⟩
  unfold byteOf
  rw [List.getD_eq_getElem?_getD, h, List.append_assoc, List.getElem?_append_right (by omega), List.getElem?_append_left (by omega)]
  rw [show P.length + j - P.length = j by omega, List.getElem?_eq_getElem hj]; rfl
theorem skip_field (s : ByteArray) (i : Nat) : ∀ k, (∀ j, j < k → byteOf s (i + j) ≠ 32) → fstate s (i + k) = fstate s i := by
  intro k
  induction k with
  | zero => intro _; rfl
  | succ k ih =>
    intro h
    rw [show i + (k + 1) = i + k + 1 by omega, fstate_other s (i + k) (h k (by omega))]
    exact ih (fun j hj => h j (by omega))
theorem join_state (L : List ByteArray) (hL : ∀ f ∈ L, FieldOk f) : ∀ k, k ≤ L.length → fstate (joinB L) (joinL (L.take k)).length = (L.take k, (joinL (L.take k)).length) := by
  intro k
  induction k with
  | zero => intro _; rfl
  | succ k ih =>
    intro hk
    have hlt : k < L.length := by omega
    have ihk := ih (by omega)
    obtain ⟨f, hf⟩ : ∃ f, L[k] = f := ⟨_, rfl⟩
    have hfo : FieldOk f := hL f (by rw [← hf]; exact List.getElem_mem hlt)
    have htk : L.take (k + 1) = L.take k ++ [f] := by rw [List.take_succ_eq_append_getElem hlt, hf]
    have hall : joinL L = joinL (L.take k) ++ f.data.toList ++ (32 :: joinL (L.drop (k + 1))) := by
      conv => lhs; rw [← List.take_append_drop k L, ← List.getElem_cons_drop hlt, hf]
      rw [joinL_append]
      simp [joinL]
    have hs : (joinB L).data.toList = joinL (L.take k) ++ f.data.toList ++ (32 :: joinL (L.drop (k + 1))) := by rw [joinB_list, hall]
    have hfl : f.data.toList.length = f.size := by simp
    have hskip := skip_field (joinB L) (joinL (L.take k)).length f.size (fun j hj => by
      obtain ⟨c, hc, e⟩ := byte_mid hs j (by omega)
      rw [e]; exact (hfo.2.2 c hc).1)
    have hsp : byteOf (joinB L) ((joinL (L.take k)).length + f.size) = 32 := by
      have h2 : (joinB L).data.toList = (joinL (L.take k) ++ f.data.toList) ++ [32] ++ joinL (L.drop (k + 1)) := by rw [hs]; simp
      obtain ⟨c, hc, e⟩ := byte_mid h2 0 (by simp)
      simp only [List.mem_singleton] at hc
      subst hc
      rw [List.length_append, hfl] at e
      exact e
    have hlen : (joinL (L.take (k + 1))).length = (joinL (L.take k)).length + f.size + 1 := by rw [htk, joinL_snoc]; simp; omega
    rw [hlen, fstate_space _ _ hsp, hskip, ihk]
    have hpush : pushF (joinB L) (L.take k) (joinL (L.take k)).length ((joinL (L.take k)).length + f.size) = L.take (k + 1) := by
      rw [pushF_yes _ _ (by have := hfo.1; omega), htk]
      congr 2
      have e : ((joinB L).extract (joinL (L.take k)).length ((joinL (L.take k)).length + f.size)).data.toList = f.data.toList := by
        rw [extract_list, hs, List.append_assoc, List.drop_left, show (joinL (L.take k)).length + f.size - (joinL (L.take k)).length = f.data.toList.length by omega, List.take_left]
      apply ByteArray.ext
      exact Array.toList_inj.1 e
    rw [hpush]
theorem fields_again (L : List ByteArray) (hL : ∀ f ∈ L, FieldOk f) : fieldsOf (joinB L) = L := by
  have h := join_state L hL L.length (Nat.le_refl _)
  rw [List.take_length] at h
  unfold fieldsOf
  rw [joinB_size, h]
  exact pushF_no _ _ (by omega)
theorem joinL_good (L : List ByteArray) (hL : ∀ f ∈ L, FieldOk f) : ∀ c ∈ joinL L, 32 ≤ c.toNat ∧ c.toNat ≤ 126 := by
  induction L with
  | nil => intro c hc; cases hc
  | cons f L ih =>
    intro c hc
    simp only [joinL, List.mem_append, List.mem_cons] at hc
    rcases hc with hc | rfl | hc
    · exact ((hL f (by simp)).2.2 c hc).2
    · decide
    · exact ih (fun g hg => hL g (by simp [hg])) c hc
theorem fOk_again (L : List ByteArray) (hL : ∀ f ∈ L, FieldOk f) (hn : L.length ≤ 24) (hs : (joinB L).size ≤ 600) : fOk (joinB L) := by
  refine ⟨hs, fun i hi => ?_, by rw [fields_again L hL]; exact hn⟩
  have hl : i < (joinL L).length := by rw [← joinB_size]; exact hi
  have := joinL_good L hL _ (List.getElem_mem hl)
  unfold fGood byteOf
  rw [List.getD_eq_getElem?_getD, joinB_list, List.getElem?_eq_getElem hl]
  exact this
theorem joinL_le (L : List ByteArray) (hL : ∀ f ∈ L, FieldOk f) : (joinL L).length ≤ 601 * L.length := by
  induction L with
  | nil => simp [joinL]
  | cons f L ih =>
    have h1 := (hL f (by simp)).2.1
    have h2 := ih (fun g hg => hL g (by simp [hg]))
    have hfl : f.data.toList.length = f.size := by simp
    simp only [joinL, List.length_append, List.length_cons]
    omega
end Go.Proofs.YtlbjopmiaophkaaDoor
