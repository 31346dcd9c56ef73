/- What is proved here: small facts on the rows that a law on lists lays and marks, one behind the other in blocks of its own; nothing of the program. -/
import Derived.Test.YtgjidlhnfbdfpaaDepI
namespace Go.Proofs.Ytgjidlhnfbdfpaa
open Go.ChangeShapes Go.WideShapes Go.ChangeAt Go.RowKit
set_option linter.unusedVariables false

/-- A row: its element type, cells an element, the slice, its length, its cells. -/
structure RS where
  e : TypeId
  sz : Nat
  v : Value
  n : Nat
  xs : List Value
def Rw (wr : World) (lo hi : Nat) (r : RS) : Prop := wr.ownsRow lo r.e r.sz r.v r.n r.xs ∧ ∀ k, r.v.ownBlock = some k → k < hi
def rs0 : RS := ⟨55, 2, .slice none 0 0, 0, []⟩
section
variable {wr w' : World} {lo hi lo' hi' : Nat} {r r' : RS}
theorem Rw.nil (wr : World) (lo hi : Nat) : Rw wr lo hi rs0 := ⟨World.ownsRow_nil _ _ _ _, fun k h => by cases h⟩
theorem Rw.low (h : Rw wr lo hi r) {k : Nat} (hk : r.v.ownBlock = some k) : lo ≤ k := (h.1.lt k hk).1
theorem Rw.keep {row : Option Nat} (h : Rw wr lo hi r) (hg : wr.grownBy w' row) (hne : ∀ k, row = some k → k < lo ∨ hi ≤ k) : Rw w' lo hi r :=
  ⟨h.1.kept hg (by
    cases hv : r.v.ownBlock with
    | none => exact .inl rfl
    | some k => exact .inr (fun e => by have h1 := h.low hv; have h2 := h.2 k hv; rcases hne k e.symm with h3 | h3 <;> omega)), h.2⟩
theorem Rw.gb (h : Rw wr lo hi r) (hg : wr.grownBy w' none) : Rw w' lo hi r := h.keep hg (fun k e => by cases e)
theorem Rw.other (h : Rw wr lo hi r) (h' : Rw wr lo' hi' r') (hg : wr.grownBy w' r'.v.ownBlock) (hd : hi ≤ lo' ∨ hi' ≤ lo) : Rw w' lo hi r :=
  h.keep hg (fun k e => by have h1 := h'.low e; have h2 := h'.2 k e; omega)
end
/-- Four rows, one behind the other; nothing below is touched. -/
structure LL (w : World) (s1 s2 s3 s4 : Nat) (r0 r1 r2 r3 : RS) (wr : World) : Prop where
  lb : Below w.heap.size w wr
  h0 : Rw wr w.heap.size s1 r0
  h1 : Rw wr s1 s2 r1
  h2 : Rw wr s2 s3 r2
  h3 : Rw wr s3 s4 r3
  o1 : w.heap.size ≤ s1
  o2 : s1 ≤ s2
  o3 : s2 ≤ s3
  o4 : s3 ≤ s4
  o5 : s4 ≤ wr.heap.size
section
variable {w wr w' : World} {s1 s2 s3 s4 : Nat} {r0 r1 r2 r3 r : RS}
theorem LL.start (w : World) : LL w w.heap.size w.heap.size w.heap.size w.heap.size rs0 rs0 rs0 rs0 w :=
  ⟨Below.refl _ _, Rw.nil _ _ _, Rw.nil _ _ _, Rw.nil _ _ _, Rw.nil _ _ _, Nat.le_refl _, Nat.le_refl _, Nat.le_refl _, Nat.le_refl _, Nat.le_refl _⟩
theorem LL.gb (h : LL w s1 s2 s3 s4 r0 r1 r2 r3 wr) (hg : wr.grownBy w' none) : LL w s1 s2 s3 s4 r0 r1 r2 r3 w' :=
  ⟨below_gb h.lb (Nat.le_refl _) hg, h.h0.gb hg, h.h1.gb hg, h.h2.gb hg, h.h3.gb hg, h.o1, h.o2, h.o3, h.o4, Nat.le_trans h.o5 hg.size⟩
theorem LL.bl (h : LL w s1 s2 s3 s4 r0 r1 r2 r3 wr) (hb : Below wr.heap.size wr w') : LL w s1 s2 s3 s4 r0 r1 r2 r3 w' := h.gb (gb_of_below hb none)
theorem LL.add0 (h : LL w s1 s2 s3 s4 rs0 rs0 rs0 rs0 wr) (ho : w'.ownsRow wr.heap.size r.e r.sz r.v r.n r.xs) (hb : Below wr.heap.size wr w') : LL w w'.heap.size w'.heap.size w'.heap.size w'.heap.size r rs0 rs0 rs0 w' := by
  have k := h.bl hb
  have e1 := h.lb.size
  have e2 := hb.size
  exact ⟨k.lb, ⟨own_less ho e1, fun q hq => (ho.lt q hq).2⟩, Rw.nil _ _ _, Rw.nil _ _ _, Rw.nil _ _ _, by omega, Nat.le_refl _, Nat.le_refl _, Nat.le_refl _, Nat.le_refl _⟩
theorem LL.add1 (h : LL w s1 s2 s3 s4 r0 rs0 rs0 rs0 wr) (ho : w'.ownsRow wr.heap.size r.e r.sz r.v r.n r.xs) (hb : Below wr.heap.size wr w') : LL w s1 w'.heap.size w'.heap.size w'.heap.size r0 r rs0 rs0 w' := by
  have k := h.bl hb
  have e2 := hb.size
  have i1 := h.o1; have i2 := h.o2; have i3 := h.o3; have i4 := h.o4; have i5 := h.o5
  exact ⟨k.lb, k.h0, ⟨own_less ho (by omega), fun q hq => (ho.lt q hq).2⟩, Rw.nil _ _ _, Rw.nil _ _ _, h.o1, by omega, Nat.le_refl _, Nat.le_refl _, Nat.le_refl _⟩
theorem LL.add2 (h : LL w s1 s2 s3 s4 r0 r1 rs0 rs0 wr) (ho : w'.ownsRow wr.heap.size r.e r.sz r.v r.n r.xs) (hb : Below wr.heap.size wr w') : LL w s1 s2 w'.heap.size w'.heap.size r0 r1 r rs0 w' := by
  have k := h.bl hb
  have e2 := hb.size
  have i1 := h.o1; have i2 := h.o2; have i3 := h.o3; have i4 := h.o4; have i5 := h.o5
  exact ⟨k.lb, k.h0, k.h1, ⟨own_less ho (by omega), fun q hq => (ho.lt q hq).2⟩, Rw.nil _ _ _, h.o1, h.o2, by omega, Nat.le_refl _, Nat.le_refl _⟩
theorem LL.add3 (h : LL w s1 s2 s3 s4 r0 r1 r2 rs0 wr) (ho : w'.ownsRow wr.heap.size r.e r.sz r.v r.n r.xs) (hb : Below wr.heap.size wr w') : LL w s1 s2 s3 w'.heap.size r0 r1 r2 r w' := by
  have k := h.bl hb
  have e2 := hb.size
  have i1 := h.o1; have i2 := h.o2; have i3 := h.o3; have i4 := h.o4; have i5 := h.o5
  exact ⟨k.lb, k.h0, k.h1, k.h2, ⟨own_less ho (by omega), fun q hq => (ho.lt q hq).2⟩, h.o1, h.o2, h.o3, by omega, Nat.le_refl _⟩
theorem LL.set1 (h : LL w s1 s2 s3 s4 r0 r1 r2 r3 wr) (hv : r.v = r1.v) (ho : w'.ownsRow s1 r.e r.sz r.v r.n r.xs) (hg : wr.grownBy w' r1.v.ownBlock) : LL w s1 s2 s3 s4 r0 r r2 r3 w' := by
  have i1 := h.o1; have i2 := h.o2; have i3 := h.o3; have i4 := h.o4; have i5 := h.o5
  exact ⟨h.lb.grown hg (by omega) (fun q hq => by have := h.h1.low hq; omega), h.h0.other h.h1 hg (.inl (Nat.le_refl _)), ⟨ho, fun q hq => h.h1.2 q (hv ▸ hq)⟩, h.h2.other h.h1 hg (.inr (Nat.le_refl _)), h.h3.other h.h1 hg (.inr (by omega)), i1, i2, i3, i4, Nat.le_trans i5 hg.size⟩
theorem LL.set2 (h : LL w s1 s2 s3 s4 r0 r1 r2 r3 wr) (hv : r.v = r2.v) (ho : w'.ownsRow s2 r.e r.sz r.v r.n r.xs) (hg : wr.grownBy w' r2.v.ownBlock) : LL w s1 s2 s3 s4 r0 r1 r r3 w' := by
  have i1 := h.o1; have i2 := h.o2; have i3 := h.o3; have i4 := h.o4; have i5 := h.o5
  exact ⟨h.lb.grown hg (by omega) (fun q hq => by have := h.h2.low hq; omega), h.h0.other h.h2 hg (.inl (by omega)), h.h1.other h.h2 hg (.inl (Nat.le_refl _)), ⟨ho, fun q hq => h.h2.2 q (hv ▸ hq)⟩, h.h3.other h.h2 hg (.inr (Nat.le_refl _)), i1, i2, i3, i4, Nat.le_trans i5 hg.size⟩
theorem LL.set3 (h : LL w s1 s2 s3 s4 r0 r1 r2 r3 wr) (hv : r.v = r3.v) (ho : w'.ownsRow s3 r.e r.sz r.v r.n r.xs) (hg : wr.grownBy w' r3.v.ownBlock) : LL w s1 s2 s3 s4 r0 r1 r2 r w' := by
  have i1 := h.o1; have i2 := h.o2; have i3 := h.o3; have i4 := h.o4; have i5 := h.o5
  exact ⟨h.lb.grown hg (by omega) (fun q hq => by have := h.h3.low hq; omega), h.h0.other h.h3 hg (.inl (by omega)), h.h1.other h.h3 hg (.inl (by omega)), h.h2.other h.h3 hg (.inl (Nat.le_refl _)), ⟨ho, fun q hq => h.h3.2 q (hv ▸ hq)⟩, i1, i2, i3, i4, Nat.le_trans i5 hg.size⟩
theorem LL.at (h : LL w s1 s2 s3 s4 r0 r1 r2 r3 wr) {A : Option Addr} {n : Nat} {D : List Dep} (hi : DepAt w w.heap.size A n D) : DepAt wr wr.heap.size A n D := (hi.below h.lb).more h.lb.size
theorem LL.atI (h : LL w s1 s2 s3 s4 r0 r1 r2 r3 wr) {A : Option Addr} {n : Nat} {L : List Int} (hi : IntAt w w.heap.size A n L) : IntAt wr wr.heap.size A n L := (hi.below h.lb).more h.lb.size
end
def rsI (v : Value) (L : List Int) : RS := ⟨3, 1, v, L.length, intsV L⟩
def rsD (v : Value) (D : List Dep) : RS := ⟨55, 2, v, D.length, depV D⟩
theorem cast_ints {w : World} {lo n : Nat} {v : Value} {L : List Int} (h : w.ownsRow lo 3 1 v n (intsV L)) : w.ownsRow lo 3 1 v L.length (intsV L) := by
  have := own_ints_length h
  subst this
  exact h
theorem cast_deps {w : World} {lo n : Nat} {v : Value} {D : List Dep} (h : w.ownsRow lo 55 2 v n (depV D)) : w.ownsRow lo 55 2 v D.length (depV D) := by
  have := own_dep_length h
  subst this
  exact h
end Go.Proofs.Ytgjidlhnfbdfpaa
