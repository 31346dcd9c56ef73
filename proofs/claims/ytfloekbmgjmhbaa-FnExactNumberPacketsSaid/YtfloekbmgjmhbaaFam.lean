/- What is proved here: families of rows of records that lie apart from each other, and slices of slices of records; nothing of the program. -/
import Derived.Test.YtfloekbmgjmhbaaRecM
import Derived.Test.YtfloekbmgjmhbaaDpR
namespace Go.Proofs.Ytfloekbmgjmhbaa
open Go.ChangeShapes Go.WideShapes Go.ChangeAt Go.RowKit
set_option linter.unusedVariables false

theorem row_keptR {w w' : World} {base : Nat} {v : Value} {n z : Nat} {e : TypeId} {xs : List Value} {row : Option Nat} (h : w.ownsRow base e z v n xs) (hg : w.grownBy w' row) (hne : ∀ g, row = some g → v.ownBlock ≠ some g) : w'.ownsRow base e z v n xs :=
  h.kept hg (by
    cases hv : v.ownBlock with
    | none => exact .inl rfl
    | some k => exact .inr (fun e => hne k e.symm hv))
/-- The values vs are rows of the call's own that hold the records of DD, each in a block of its own. -/
structure Fam {α : Type} (e : TypeId) (z : Nat) (c : α → List Value) (w : World) (base : Nat) (vs : List Value) (DD : List (List α)) : Prop where
  len : vs.length = DD.length
  row : ∀ (i : Nat) v D, vs[i]? = some v → DD[i]? = some D → w.ownsRow base e z v D.length (recV c D)
  ap : ∀ (i j : Nat) v u, i ≠ j → vs[i]? = some v → vs[j]? = some u → Apart v u
section
variable {α : Type} {e : TypeId} {z : Nat} {c : α → List Value} {w w' : World} {base base2 : Nat} {vs us : List Value} {DD EE : List (List α)}
theorem Fam.nil (w : World) (base : Nat) : Fam e z c w base [] [] := ⟨rfl, fun i v D h => by simp at h, fun i j v u _ h => by simp at h⟩
theorem Fam.gb (h : Fam e z c w base vs DD) (hg : w.grownBy w' none) : Fam e z c w' base vs DD := ⟨h.len, fun i v D h1 h2 => own_none (h.row i v D h1 h2) hg, h.ap⟩
theorem Fam.less (h : Fam e z c w base vs DD) (hb : base2 ≤ base) : Fam e z c w base2 vs DD := ⟨h.len, fun i v D h1 h2 => own_less (h.row i v D h1 h2) hb, h.ap⟩
/-- A write into a block that is none of theirs. -/
theorem Fam.kept {row : Option Nat} (h : Fam e z c w base vs DD) (hg : w.grownBy w' row) (hne : ∀ (i : Nat) v k, vs[i]? = some v → v.ownBlock = some k → row ≠ some k) : Fam e z c w' base vs DD :=
  ⟨h.len, fun i v D h1 h2 => row_keptR (h.row i v D h1 h2) hg (fun j e1 e2 => hne i v j h1 e2 e1), h.ap⟩
theorem Fam.lt (h : Fam e z c w base vs DD) {i : Nat} {v : Value} (hv : vs[i]? = some v) {k : Nat} (hk : v.ownBlock = some k) : base ≤ k ∧ k < w.heap.size := by
  have hi := (List.getElem?_eq_some_iff.1 hv).1
  have hD : DD[i]? = some (DD[i]'(by have := h.len; omega)) := List.getElem?_eq_getElem _
  exact (h.row i v _ hv hD).lt k hk
theorem Fam.get (h : Fam e z c w base vs DD) {i : Nat} (hi : i < DD.length) : ∃ v, vs[i]? = some v ∧ w.ownsRow base e z v (DD[i]).length (recV c DD[i]) := by
  have hv : vs[i]? = some (vs[i]'(by have := h.len; omega)) := List.getElem?_eq_getElem _
  exact ⟨_, hv, h.row i _ _ hv (List.getElem?_eq_getElem hi)⟩
/-- One row is written anew, in its own block or in a new one. -/
theorem Fam.set (h : Fam e z c w base vs DD) {i : Nat} {v v' : Value} {D' : List α} (hv : vs[i]? = some v) (hg : w.grownBy w' v.ownBlock) (ho : w'.ownsRow base e z v' D'.length (recV c D'))
    (hn : ∀ k, v'.ownBlock = some k → v.ownBlock = some k ∨ w.heap.size ≤ k) : Fam e z c w' base (vs.set i v') (DD.set i D') := by
  have hi := (List.getElem?_eq_some_iff.1 hv).1
  have apart' : ∀ j u, j ≠ i → vs[j]? = some u → Apart v' u := fun j u hj hu k hk hk2 => by
    rcases hn k hk with h1 | h1
    · exact h.ap i j v u (fun e => hj e.symm) hv hu k h1 hk2
    · have := (h.lt hu hk2).2; omega
  refine ⟨by rw [List.length_set, List.length_set]; exact h.len, fun j u D hu hD => ?_, fun j l u t hjl hu ht => ?_⟩
  · by_cases e : i = j
    · subst e
      rw [List.getElem?_set_self (by exact hi)] at hu
      rw [List.getElem?_set_self (by have := h.len; omega)] at hD
      cases hu; cases hD
      exact ho
    · rw [List.getElem?_set_ne e] at hu hD
      exact row_keptR (h.row j u D hu hD) hg (fun k e1 e2 => h.ap i j v u e hv hu k e1 e2)
  · by_cases e1 : i = j
    · subst e1
      rw [List.getElem?_set_self (by exact hi)] at hu
      rw [List.getElem?_set_ne hjl] at ht
      cases hu
      exact apart' l t (fun e => hjl e.symm) ht
    · rw [List.getElem?_set_ne e1] at hu
      by_cases e2 : i = l
      · subst e2
        rw [List.getElem?_set_self (by exact hi)] at ht
        cases ht
        exact fun k hk hk2 => apart' j u (fun e => e1 e.symm) hu k hk2 hk
      · rw [List.getElem?_set_ne e2] at ht
        exact h.ap j l u t hjl hu ht
/-- One more row, in a block that none of them has. -/
theorem Fam.snoc (h : Fam e z c w base vs DD) {v : Value} {D : List α} (ho : w.ownsRow base e z v D.length (recV c D)) (ha : ∀ (i : Nat) u, vs[i]? = some u → Apart u v) : Fam e z c w base (vs ++ [v]) (DD ++ [D]) := by
  refine ⟨by rw [List.length_append, List.length_append, h.len]; rfl, fun i u E hu hE => ?_, fun i j u t hij hu ht => ?_⟩
  · rcases Nat.lt_or_ge i vs.length with hi | hi
    · rw [List.getElem?_append_left hi] at hu
      rw [List.getElem?_append_left (by have := h.len; omega)] at hE
      exact h.row i u E hu hE
    · have e1 : i = vs.length := by
        have := (List.getElem?_eq_some_iff.1 hu).1
        simp at this; omega
      subst e1
      rw [List.getElem?_append_right (Nat.le_refl _), Nat.sub_self] at hu
      rw [h.len, List.getElem?_append_right (Nat.le_refl _), Nat.sub_self] at hE
      simp at hu hE
      subst hu hE
      exact ho
  · have hil := (List.getElem?_eq_some_iff.1 hu).1
    have hjl := (List.getElem?_eq_some_iff.1 ht).1
    simp at hil hjl
    rcases Nat.lt_or_ge i vs.length with hi | hi
    · rw [List.getElem?_append_left hi] at hu
      rcases Nat.lt_or_ge j vs.length with hj | hj
      · rw [List.getElem?_append_left hj] at ht
        exact h.ap i j u t hij hu ht
      · rw [List.getElem?_append_right hj, show j - vs.length = 0 by omega] at ht
        simp at ht
        subst ht
        exact ha i u hu
    · rcases Nat.lt_or_ge j vs.length with hj | hj
      · rw [List.getElem?_append_left hj] at ht
        rw [List.getElem?_append_right hi, show i - vs.length = 0 by omega] at hu
        simp at hu
        subst hu
        exact fun k hk hk2 => ha j t ht k hk2 hk
      · omega
/-- A slice of n slices of records that can be read, below B. -/
def RecsAt {α : Type} (z : Nat) (c : α → List Value) (w : World) (B : Nat) (A : Option Addr) (n : Nat) (DD : List (List α)) : Prop :=
  DD.length = n ∧ (0 < n → ∃ b off, A = some ⟨b, off, none⟩ ∧ b < B ∧ ∀ (k : Nat) D, DD[k]? = some D → ∃ A' c', w.cell? ⟨b, off + k, none⟩ = some (.slice A' D.length c') ∧ (D.length ≤ c' ∧ c' ≤ maxLen) ∧ RecAt z c w B A' D.length D)
variable {B B' n : Nat} {A : Option Addr}
theorem RecsAt.keep (h : RecsAt z c w B A n DD) (hk : ∀ p : Addr, p.block < B → w'.cell? p = w.cell? p) : RecsAt z c w' B A n DD := ⟨h.1, fun hn => by
  obtain ⟨b, off, hA, hb, hc⟩ := h.2 hn
  refine ⟨b, off, hA, hb, fun k D hD => ?_⟩
  obtain ⟨A', c', h1, h2, h3⟩ := hc k D hD
  exact ⟨A', c', (hk _ hb).trans h1, h2, h3.keep hk⟩⟩
theorem RecsAt.more (h : RecsAt z c w B A n DD) (hB : B ≤ B') : RecsAt z c w B' A n DD := ⟨h.1, fun hn => by
  obtain ⟨b, off, hA, hb, hc⟩ := h.2 hn
  refine ⟨b, off, hA, by omega, fun k D hD => ?_⟩
  obtain ⟨A', c', h1, h2, h3⟩ := hc k D hD
  exact ⟨A', c', h1, h2, h3.more hB⟩⟩
theorem RecsAt.none (h : RecsAt z c w B A n DD) (hB : B ≤ w.heap.size) (hg : w.grownBy w' none) : RecsAt z c w' B A n DD :=
  h.keep fun p hp => World.cell?_of_block (hg.block p.block (by omega) (by simp))
theorem RecsAt.below (h : RecsAt z c w B A n DD) (hb : Below B w w') : RecsAt z c w' B A n DD := h.keep fun p hp => World.cell?_of_block (hb.block p.block hp)
theorem RecsAt.nil (w : World) (B : Nat) (A : Option Addr) : RecsAt z c w B A 0 [] := ⟨rfl, fun h => by omega⟩
theorem RecsAt.at (h : RecsAt z c w B A n DD) (k : Nat) (hk : k < n) : ∃ b off D A' c', A = some ⟨b, off, Option.none⟩ ∧ b < B ∧ DD[k]? = some D ∧ w.cell? ⟨b, off + k, Option.none⟩ = some (.slice A' D.length c') ∧ (D.length ≤ c' ∧ c' ≤ maxLen) ∧ RecAt z c w B A' D.length D := by
  obtain ⟨b, off, hA, hb, hc⟩ := h.2 (by omega)
  have hkD : k < DD.length := by have := h.1; omega
  obtain ⟨A', c', h1, h2, h3⟩ := hc k DD[k] (List.getElem?_eq_getElem hkD)
  exact ⟨b, off, DD[k], A', c', hA, hb, List.getElem?_eq_getElem hkD, h1, h2, h3⟩
/-- A header of the call's own whose elements are rows of a family. -/
structure Fams {α : Type} (th e : TypeId) (z : Nat) (c : α → List Value) (w : World) (base : Nat) (v : Value) (vs : List Value) (DD : List (List α)) : Prop where
  hd : w.ownsRow base th 1 v DD.length vs
  fam : Fam e z c w base vs DD
variable {th : TypeId} {v : Value}
theorem Fams.gb (h : Fams th e z c w base v vs DD) (hg : w.grownBy w' Option.none) : Fams th e z c w' base v vs DD := ⟨own_none h.hd hg, h.fam.gb hg⟩
theorem Fams.less (h : Fams th e z c w base v vs DD) (hb : base2 ≤ base) : Fams th e z c w base2 v vs DD := ⟨own_less h.hd hb, h.fam.less hb⟩
/-- Such a header can be read. -/
theorem Fams.at (hL : Lay z c) (hz : 0 < z) {cap : Nat} (h : Fams th e z c w base (.slice A n cap) vs DD) (hB : w.heap.size ≤ B) : RecsAt z c w B A DD.length DD := ⟨rfl, fun hn => by
  obtain ⟨A', cap', hv, ha⟩ := own_form h.hd
  obtain ⟨g, hg⟩ := ha hn
  obtain ⟨rfl, rfl, rfl⟩ : A = A' ∧ n = DD.length ∧ cap = cap' := by injection hv with h1 h2 h3; exact ⟨h1, h2, h3⟩
  subst hg
  have hlt := (h.hd.lt g (by simp [Value.ownBlock])).2
  refine ⟨g, 0, rfl, by omega, fun k D hD => ?_⟩
  have hk := (List.getElem?_eq_some_iff.1 hD).1
  obtain ⟨u, hu, ho⟩ := h.fam.get hk
  have e1 : DD[k] = D := (List.getElem?_eq_some_iff.1 hD).2
  rw [e1] at ho
  obtain ⟨A2, c2, rfl, _⟩ := own_form ho
  refine ⟨A2, c2, ?_, own_cap ho, recAt_own hL hz ho hB⟩
  rw [Nat.zero_add]
  have h3 := h.hd.cellAt k (by rw [Nat.mul_one]; exact hk)
  exact h3.trans hu⟩
end
end Go.Proofs.Ytfloekbmgjmhbaa
