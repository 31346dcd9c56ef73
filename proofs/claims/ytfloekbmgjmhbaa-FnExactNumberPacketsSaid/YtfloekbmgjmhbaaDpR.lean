/- What is proved here: small facts on four rows of numbers of a call's own that lie in different blocks; nothing of the program. -/
import Derived.Test.YtfloekbmgjmhbaaNewR
namespace Go.Proofs.Ytfloekbmgjmhbaa
open Go.ChangeShapes Go.WideShapes Go.ChangeAt Go.RowKit
set_option linter.unusedVariables false

/-- The first one's block is not the second one's. -/
def Apart (v v' : Value) : Prop := ∀ g, v.ownBlock = some g → v'.ownBlock ≠ some g
theorem apart_none (v : Value) : Apart v (.slice none 0 0) := fun g _ e => by cases e
theorem none_apart (v : Value) : Apart (.slice none 0 0) v := fun g e => by cases e
theorem row_kept {w w' : World} {base : Nat} {v : Value} {n : Nat} {xs : List Value} {row : Option Nat} (h : w.ownsRow base 3 1 v n xs) (hg : w.grownBy w' row) (hne : ∀ g, row = some g → v.ownBlock ≠ some g) : w'.ownsRow base 3 1 v n xs :=
  h.kept hg (by
    cases hv : v.ownBlock with
    | none => exact .inl rfl
    | some k => exact .inr (fun e => hne k e.symm hv))
/-- The numbers of steps, the front, the next front, the successors. -/
structure Dp (w : World) (vd : Value) (X : List Int) (vf : Value) (F : List Int) (vn : Value) (N : List Int) (vs : Value) (S : List Int) (wr : World) : Prop where
  rd : wr.ownsRow w.heap.size 3 1 vd 128 (intsV X)
  rf : wr.ownsRow w.heap.size 3 1 vf F.length (intsV F)
  rn : wr.ownsRow w.heap.size 3 1 vn N.length (intsV N)
  rs : wr.ownsRow w.heap.size 3 1 vs S.length (intsV S)
  lb : Below w.heap.size w wr
  df : Apart vd vf
  dn : Apart vd vn
  ds : Apart vd vs
  nf : Apart vn vf
  ns : Apart vn vs
section
variable {w wr w' : World} {vd vf vn vs v : Value} {X F N S L : List Int}
theorem Dp.gb (h : Dp w vd X vf F vn N vs S wr) (hg : wr.grownBy w' none) : Dp w vd X vf F vn N vs S w' :=
  ⟨own_none h.rd hg, own_none h.rf hg, own_none h.rn hg, own_none h.rs hg, below_gb h.lb (Nat.le_refl _) hg, h.df, h.dn, h.ds, h.nf, h.ns⟩
theorem Dp.al (h : Dp w vd X vf F vn N vs S wr) (o : Obj) : Dp w vd X vf F vn N vs S (wr.alloc o) := h.gb (gb_alloc (gb_refl wr none) o)
/-- The successors of another channel. -/
theorem Dp.succ (h : Dp w vd X vf F vn N vs S wr) (ho : w'.ownsRow wr.heap.size 3 1 v L.length (intsV L)) (hb : Below wr.heap.size wr w') : Dp w vd X vf F vn N v L w' := by
  have k := h.gb (gb_of_below hb none)
  exact ⟨k.rd, k.rf, k.rn, own_less ho h.lb.size, k.lb, h.df, h.dn, fun g hg e => by have h1 := (h.rd.lt g hg).2; have h2 := (ho.lt g e).1; omega, h.nf, fun g hg e => by have h1 := (h.rn.lt g hg).2; have h2 := (ho.lt g e).1; omega⟩
theorem Dp.drop (h : Dp w vd X vf F vn N vs S wr) : Dp w vd X vf F vn N (.slice none 0 0) [] wr :=
  ⟨h.rd, h.rf, h.rn, World.ownsRow_nil _ _ _ _, h.lb, h.df, h.dn, apart_none _, h.nf, apart_none _⟩
/-- A new list behind the front. -/
theorem Dp.begin (h : Dp w vd X vf F vn N vs S wr) : Dp w vd X vf F (.slice (some ⟨wr.heap.size, 0, none⟩) 0 0) [] (.slice none 0 0) [] (wr.alloc (.cells #[] 3)) := by
  have k := h.al (.cells #[] 3)
  refine ⟨k.rd, k.rf, World.ownsRow_made (base := w.heap.size) (e := 3) (size := 1) wr #[] 0 h.lb.size (by decide) rfl, World.ownsRow_nil _ _ _ _, k.lb, h.df, fun g hg e => ?_, apart_none _, fun g hg e => ?_, apart_none _⟩
  · have h1 := (h.rd.lt g hg).2
    have h2 : wr.heap.size = g := Option.some.inj e
    omega
  · have h1 := (h.rf.lt g e).2
    have h2 : wr.heap.size = g := Option.some.inj hg
    omega
/-- The new list is the front. -/
theorem Dp.shift (h : Dp w vd X vf F vn N vs S wr) : Dp w vd X vn N (.slice none 0 0) [] (.slice none 0 0) [] wr :=
  ⟨h.rd, h.rn, World.ownsRow_nil _ _ _ _, World.ownsRow_nil _ _ _ _, h.lb, h.dn, apart_none _, apart_none _, none_apart _, none_apart _⟩
theorem Dp.store {g cap : Nat} (h : Dp w (.slice (some ⟨g, 0, none⟩) 128 cap) X vf F vn N vs S wr) (t : Nat) (x : Int) : Dp w (.slice (some ⟨g, 0, none⟩) 128 cap) (X.set t x) vf F vn N vs S (wr.setCell ⟨g, t, none⟩ (.int .i64 x)) := by
  obtain ⟨h1, h2⟩ := h.rd.stored t (.int .i64 x)
  rw [intsV_set] at h1
  refine ⟨h1, row_kept h.rf h2 ?_, row_kept h.rn h2 ?_, row_kept h.rs h2 ?_, h.lb.grown h2 h.lb.size (fun j e => by cases e; exact (h.rd.lt g rfl).1), h.df, h.dn, h.ds, h.nf, h.ns⟩
  · exact fun j e => by cases e; exact h.df g rfl
  · exact fun j e => by cases e; exact h.dn g rfl
  · exact fun j e => by cases e; exact h.ds g rfl
theorem Dp.app {g cap : Nat} {o : Obj} {x : Int} (h : Dp w vd X vf F vn N vs S wr) (ho : w'.ownsRow w.heap.size 3 1 (.slice (some ⟨g, 0, none⟩) (N.length + 1) cap) (N.length + 1) (intsV N ++ [.int .i64 x]))
    (hg : (wr.alloc o).grownBy w' vn.ownBlock) (hat : vn.ownBlock = some g ∨ g = (wr.alloc o).heap.size) : Dp w vd X vf F (.slice (some ⟨g, 0, none⟩) (N.length + 1) cap) (N ++ [x]) vs S w' := by
  have k := h.al o
  have hH : wr.heap.size < (wr.alloc o).heap.size := by rw [alloc_size]; omega
  refine ⟨row_kept k.rd hg (fun j e e2 => h.dn j e2 e), row_kept k.rf hg (fun j e => h.nf j e), by rw [List.length_append, intsV_append]; exact ho, row_kept k.rs hg (fun j e => h.ns j e), k.lb.grown hg k.lb.size (fun j e => (h.rn.lt j e).1), h.df, ?_, h.ds, ?_, ?_⟩
  · intro j e e2
    have e3 : g = j := Option.some.inj e2
    subst e3
    rcases hat with h1 | h1
    · exact h.dn g e h1
    · have := (h.rd.lt g e).2
      omega
  · intro j e e2
    have e3 : g = j := Option.some.inj e
    subst e3
    rcases hat with h1 | h1
    · exact h.nf g h1 e2
    · have := (h.rf.lt g e2).2
      omega
  · intro j e e2
    have e3 : g = j := Option.some.inj e
    subst e3
    rcases hat with h1 | h1
    · exact h.ns g h1 e2
    · have := (h.rs.lt g e2).2
      omega
end
end Go.Proofs.Ytfloekbmgjmhbaa
