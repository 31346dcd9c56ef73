/- What is proved here: the channels of a valid mesh are ascending, work, and are as many as neighbors in both directions, without the broken ones; as mathematics, nothing of the program. -/
import Derived.Test.YtakigpgkcneboaaMeshM
namespace Go.Proofs.Ytakigpgkcneboaa
open Go.ChangeShapes Go.WideShapes Go.ChangeAt Go.RowKit
set_option linter.unusedVariables false

theorem getD_at {L : List Int} {i : Nat} (h : i < L.length) : L.getD i 0 = L[i] := by
  rw [List.getD_eq_getElem?_getD, List.getElem?_eq_getElem h]; rfl
/-- Strictly ascending lists with the same elements are the same. -/
theorem sorted_ext : ∀ (A B : List Int), A.Pairwise (· < ·) → B.Pairwise (· < ·) → (∀ x, x ∈ A ↔ x ∈ B) → A = B
  | [], [], _, _, _ => rfl
  | [], b :: B, _, _, h => by have := (h b).2 (List.mem_cons_self ..); cases this
  | a :: A, [], _, _, h => by have := (h a).1 (List.mem_cons_self ..); cases this
  | a :: A, b :: B, hA, hB, h => by
    obtain ⟨ha, hA'⟩ := List.pairwise_cons.1 hA
    obtain ⟨hb, hB'⟩ := List.pairwise_cons.1 hB
    have e : a = b := by
      rcases List.mem_cons.1 ((h a).1 (List.mem_cons_self ..)) with e | h1
      · exact e
      · rcases List.mem_cons.1 ((h b).2 (List.mem_cons_self ..)) with e | h2
        · exact e.symm
        · have h3 := hb a h1; have h4 := ha b h2; omega
    subst e
    rw [sorted_ext A B hA' hB' (fun x => ⟨fun hx => by
      rcases List.mem_cons.1 ((h x).1 (List.mem_cons_of_mem _ hx)) with e | h1
      · have := ha x hx; omega
      · exact h1, fun hx => by
      rcases List.mem_cons.1 ((h x).2 (List.mem_cons_of_mem _ hx)) with e | h1
      · have := hb x hx; omega
      · exact h1⟩)]

def allTo (W H : Int) (k : Nat) : List Int := ((List.range k).map fun c : Nat => (c : Int)).filter (leadsG W H)
theorem range_sorted (k : Nat) : ((List.range k).map fun c : Nat => (c : Int)).Pairwise (· < ·) := by
  rw [List.pairwise_map]
  exact List.pairwise_lt_range.imp (fun h => by omega)
theorem chansTo_sorted (W H : Int) (L : List Int) (k : Nat) : (chansTo W H L k).Pairwise (· < ·) := (range_sorted k).filter _
theorem allTo_sorted (W H : Int) (k : Nat) : (allTo W H k).Pairwise (· < ·) := (range_sorted k).filter _
theorem sorted_at {A : List Int} (h : A.Pairwise (· < ·)) {i j : Nat} (hij : i < j) (hj : j < A.length) : A.getD i 0 < A.getD j 0 := by
  rw [getD_at (by omega), getD_at hj]
  exact (List.pairwise_iff_getElem.1 h) i j (by omega) hj hij
theorem leads_range {W H c : Int} (h : leadsG W H c = true) : 0 ≤ c ∧ c < 4 * countG W H := by
  simp only [leadsG, decide_eq_true_eq] at h
  exact ⟨h.1, h.2.1⟩
theorem mem_all {W H x : Int} : x ∈ allTo W H (4 * countG W H).toNat ↔ leadsG W H x = true := by
  simp only [allTo, List.mem_filter, List.mem_map, List.mem_range]
  constructor
  · exact fun h => h.2
  · intro h
    obtain ⟨h0, h1⟩ := leads_range h
    exact ⟨⟨x.toNat, by omega, by omega⟩, h⟩

/-- A valid mesh: its broken channels are ascending and lead somewhere. -/
theorem mesh_sorted {W H : Int} {L : List Int} (h : meshG W H L = true) : L.Pairwise (· < ·) ∧ ∀ x ∈ L, leadsG W H x = true := by
  obtain ⟨hok, hg⟩ := meshG_ok h
  have hstep : ∀ i, i + 1 < L.length → L.getD i 0 < L.getD (i + 1) 0 := fun i hi => by
    have := hg (i + 1) hi
    simp only [goodAt, Nat.add_sub_cancel, Bool.and_eq_true, Bool.or_eq_true, decide_eq_true_eq] at this
    rcases this.2 with h1 | h1
    · omega
    · exact h1
  have hmono : ∀ d i, i + d + 1 < L.length → L.getD i 0 < L.getD (i + d + 1) 0 := by
    intro d
    induction d with
    | zero => exact fun i hi => hstep i hi
    | succ d ih => exact fun i hi => Int.lt_trans (ih i (by omega)) (hstep (i + d + 1) hi)
  refine ⟨List.pairwise_iff_getElem.2 fun i j hi hj hij => ?_, fun x hx => ?_⟩
  · have := hmono (j - i - 1) i (by omega)
    rw [show i + (j - i - 1) + 1 = j by omega, getD_at hi, getD_at hj] at this
    exact this
  · obtain ⟨i, hi, rfl⟩ := List.getElem_of_mem hx
    have := hg i hi
    simp only [goodAt, Bool.and_eq_true] at this
    rw [← getD_at hi]; exact this.1
theorem mesh_of_sorted {W H : Int} {L : List Int} (hok : okG W H = true) (hs : L.Pairwise (· < ·)) (hl : ∀ x ∈ L, leadsG W H x = true) : meshG W H L = true := by
  refine meshG_yes hok fun i hi => ?_
  simp only [goodAt, Bool.and_eq_true, Bool.or_eq_true, decide_eq_true_eq]
  refine ⟨by rw [getD_at hi]; exact hl _ (List.getElem_mem hi), ?_⟩
  rcases Nat.eq_zero_or_pos i with h | h
  · exact .inl h
  · exact .inr (sorted_at hs (by omega) hi)

theorem inG_iff {L : List Int} {x : Int} : inG L x = true ↔ x ∈ L := by unfold inG; exact List.contains_iff_mem
theorem filter_split (p q : Int → Bool) : ∀ A : List Int, ((A.filter p).filter q).length + (A.filter fun x => p x && !q x).length = (A.filter p).length
  | [] => rfl
  | a :: A => by
    have ih := filter_split p q A
    cases hp : p a <;> cases hq : q a <;> simp only [List.filter_cons, hp, hq, if_true, Bool.true_and, Bool.false_and, Bool.not_true, Bool.not_false, Bool.false_eq_true, if_false, List.length_cons] <;> omega
/-- How many channels lead somewhere. -/
theorem all_count {W H : Int} (hok : okG W H = true) : (((allTo W H (4 * countG W H).toNat).length : Nat) : Int) = 2 * (W - 1) * H + 2 * W * (H - 1) := by
  obtain ⟨hW, hH⟩ := okG_cases hok
  rcases hW with rfl | rfl | rfl | rfl <;> rcases hH with rfl | rfl | rfl | rfl <;> decide +kernel
/-- How many channels there are. -/
theorem chans_count {W H : Int} {L : List Int} (h : meshG W H L = true) : ((chansG W H L).length : Int) = 2 * (W - 1) * H + 2 * W * (H - 1) - (L.length : Int) := by
  obtain ⟨hs, hl⟩ := mesh_sorted h
  have hok := (meshG_ok h).1
  have h1 := filter_split (leadsG W H) (inG L) ((List.range (4 * countG W H).toNat).map fun c : Nat => (c : Int))
  have h2 : (((List.range (4 * countG W H).toNat).map fun c : Nat => (c : Int)).filter (leadsG W H)).filter (inG L) = L := by
    refine sorted_ext _ _ ((allTo_sorted W H _).filter _) hs fun x => ?_
    rw [List.mem_filter, inG_iff]
    constructor
    · exact fun hx => hx.2
    · exact fun hx => ⟨mem_all.2 (hl x hx), hx⟩
  rw [h2] at h1
  have h3 : (chansG W H L) = ((List.range (4 * countG W H).toNat).map fun c : Nat => (c : Int)).filter fun x => leadsG W H x && !inG L x := by
    simp only [chansG, h, if_true, chansTo]; rfl
  have h4 := all_count hok
  rw [h3]
  have h5 : (allTo W H (4 * countG W H).toNat).length = (((List.range (4 * countG W H).toNat).map fun c : Nat => (c : Int)).filter (leadsG W H)).length := rfl
  omega
/-- What the law asks of one channel. -/
theorem chans_at {W H : Int} {L : List Int} (h : meshG W H L = true) {i : Nat} {x : Int} (hi : i < (chansG W H L).length) (hx : (chansG W H L).getD i 0 = x) :
    hasChannelG W H L x = true ∧ inG L x = false ∧ (∀ j, i = j + 1 → (chansG W H L).getD j 0 < x) := by
  have hm : x ∈ chansG W H L := by rw [← hx, getD_at hi]; exact List.getElem_mem hi
  have hs : (chansG W H L).Pairwise (· < ·) := by simp only [chansG, h, if_true]; exact chansTo_sorted W H L _
  have hc : hasChG W H L x = true := by
    simp only [chansG, h, if_true, chansTo, List.mem_filter] at hm
    exact hm.2
  refine ⟨by simp [hasChannelG, h, hc], ?_, fun j hj => ?_⟩
  · simp only [hasChG, Bool.and_eq_true, Bool.not_eq_true'] at hc
    exact hc.2
  · rw [← hx]; exact sorted_at hs (by omega) hi
end Go.Proofs.Ytakigpgkcneboaa
