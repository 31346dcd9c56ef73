/- What is proved here: a slice of packets that came in as an argument can be read; nothing of the program. -/
import Derived.Test.YtfloekbmgjmhbaaFltA
namespace Go.Proofs.Ytfloekbmgjmhbaa
open Go.ChangeShapes Go.WideShapes Go.ChangeAt Go.RowKit
set_option linter.unusedVariables false

theorem choose_pkt {n : Nat} {p : Nat → Pkt → Prop} (h : ∀ i, i < n → ∃ d, p i d) : ∃ D : List Pkt, D.length = n ∧ ∀ i x, D[i]? = some x → p i x := by
  induction n with
  | zero => exact ⟨[], rfl, fun i x hx => by simp at hx⟩
  | succ n ih =>
    obtain ⟨D, hl, hD⟩ := ih (fun i hi => h i (by omega))
    obtain ⟨d, hd⟩ := h n (by omega)
    refine ⟨D ++ [d], by simp [hl], fun i x hx => ?_⟩
    rcases Nat.lt_or_ge i D.length with h1 | h1
    · rw [List.getElem?_append_left h1] at hx
      exact hD i x hx
    · rw [List.getElem?_append_right h1] at hx
      rcases Nat.eq_zero_or_pos (i - D.length) with h2 | h2
      · rw [h2] at hx
        have e : d = x := by simpa using hx
        subst e
        rw [show i = n by omega]
        exact hd
      · rw [List.getElem?_eq_none (by simp; omega)] at hx; cases hx
section
variable {H : Type} {enc : TypeId × Value → H} {w : World} {spare : Nat → Bool} {held : Bool} {base fuel : Nat}
set_option maxRecDepth 100000 in
theorem open_pkt1 {cs : List Value} {y : DataW H × List MemPlace} (hl : cs.length = 5) (hf : DataW.trod enc Try.prog w base spare held fuel 58 cs = some y) : ∃ x : Pkt, cs = pktC x ∧ wfP x := by
  have hI : Try.prog.cellsOf 3 = 1 := by kernel_rfl
  obtain ⟨c0, c1, c2, c3, c4, rfl⟩ := five_list hl
  obtain ⟨xs, k, _, _, _, hxl, hh⟩ := DataW.trod_struct Try.underlying58 hf
  obtain ⟨y0, y1, y2, y3, y4, rfl⟩ := five_list (cs := xs) (by simpa using hxl)
  have g0 := hh 0 _ rfl
  have g1 := hh 1 _ rfl
  have g2 := hh 2 _ rfl
  have g3 := hh 3 _ rfl
  have g4 := hh 4 _ rfl
  simp [hI] at g0 g1 g2 g3 g4
  obtain ⟨z0, e0, _, w0⟩ := DataW.trod_int Try.underlying3 g0
  obtain ⟨z1, e1, _, w1⟩ := DataW.trod_int Try.underlying3 g1
  obtain ⟨z2, e2, _, w2⟩ := DataW.trod_int Try.underlying3 g2
  obtain ⟨z3, e3, _, w3⟩ := DataW.trod_int Try.underlying3 g3
  obtain ⟨z4, e4, _, w4⟩ := DataW.trod_int Try.underlying3 g4
  simp at e0 e1 e2 e3 e4
  subst e0 e1 e2 e3 e4
  exact ⟨⟨z0, z1, z2, z3, z4⟩, rfl, w0, w1, w2, w3, w4⟩
theorem open_pktS {cs : List Value} {y : DataW H × List MemPlace} (hf : DataW.trod enc Try.prog w base spare held fuel 66 cs = some y) :
    ∃ (A : Option Addr) (n cap : Nat) (D : List Pkt), cs = [.slice A n cap] ∧ n ≤ cap ∧ cap ≤ maxLen ∧ RecAt 5 pktC w w.heap.size A n D ∧ ∀ d ∈ D, wfP d := by
  have hC : Try.prog.cellsOf 58 = 5 := by kernel_rfl
  rcases Go.Deep.open_slice Try.underlying66 hf with ⟨hcs, _⟩ | ⟨x, len, cap, m, k, V, Pl, hcs, _, hl, hm, hmm, _, hx⟩
  · exact ⟨none, 0, 0, [], hcs, Nat.le_refl _, Nat.zero_le _, RecAt.nil _ _ _, fun d h => by cases h⟩
  · have hlm : len ≤ m := by rw [hmm]; split <;> omega
    rw [hC] at hx
    obtain ⟨D, hD, hd⟩ := choose_pkt (n := len) (p := fun i d => (∀ j v, (pktC d)[j]? = some v → w.cell? (x.add (i * 5 + j)) = some v) ∧ wfP d) (fun i hi => by
      obtain ⟨cs', h1, h2⟩ := hx i (by omega)
      obtain ⟨_, hlen, hcell⟩ := World.cells?_some h1
      obtain ⟨d, rfl, hw⟩ := open_pkt1 hlen h2
      refine ⟨d, fun j v hv => ?_, hw⟩
      have hj := (List.getElem?_eq_some_iff.1 hv).1
      have e0 := hcell j hj
      rw [Go.Deep.add_add] at e0
      rw [e0]
      exact hv)
    refine ⟨some x, len, cap, D, hcs, hl, hm, ⟨hD, fun hn => ?_⟩, fun d hdm => ?_⟩
    · have h0 : D[0]? = some D[0] := List.getElem?_eq_getElem (by omega)
      have hc := (hd 0 _ h0).1 0 _ rfl
      obtain ⟨b, off, spot⟩ := x
      have hspot : spot = none := by simpa [Addr.add] using World.cell?_spot hc
      subst hspot
      have hlt : b < w.heap.size := by simpa [Addr.add] using World.block_lt_of_cell? _ _ hc
      refine ⟨b, off, rfl, hlt, fun j y hy i v hv => ?_⟩
      have h1 := (hd j y hy).1 i v hv
      rw [Addr.add_lit] at h1
      rw [Nat.add_assoc]
      exact h1
    · obtain ⟨j, hj, e⟩ := List.getElem_of_mem hdm
      exact (hd j d (by rw [List.getElem?_eq_getElem hj, e])).2
end
end Go.Proofs.Ytfloekbmgjmhbaa
