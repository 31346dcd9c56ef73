/- What is proved here: what stays where only an interval of blocks and new blocks are written, and facts that hang on an interval of blocks alone; nothing of the program. -/
import Derived.Test.YtfloekbmgjmhbaaIntAt
import Derived.Test.YtfloekbmgjmhbaaVRw
namespace Go.Proofs.Ytfloekbmgjmhbaa
open Go.ChangeShapes Go.WideShapes Go.ChangeAt Go.RowKit
set_option linter.unusedVariables false

/-- Blocks in the interval and new ones alone are written. -/
structure Chg (lo hi : Nat) (w w' : World) : Prop where
  os : w'.os = w.os
  tape : w'.tape = w.tape
  output : w'.output = w.output
  size : w.heap.size ≤ w'.heap.size
  block : ∀ k, k < w.heap.size → ¬ (lo ≤ k ∧ k < hi) → w'.heap[k]? = w.heap[k]?
section
variable {lo hi lo' hi' : Nat} {a b c : World}
theorem Chg.refl (lo hi : Nat) (a : World) : Chg lo hi a a := ⟨rfl, rfl, rfl, Nat.le_refl _, fun _ _ _ => rfl⟩
theorem Chg.trans (h : Chg lo hi a b) (k : Chg lo hi b c) : Chg lo hi a c :=
  ⟨k.os.trans h.os, k.tape.trans h.tape, k.output.trans h.output, Nat.le_trans h.size k.size, fun i hi hn => (k.block i (Nat.lt_of_lt_of_le hi h.size) hn).trans (h.block i hi hn)⟩
theorem chg_gb (lo hi : Nat) (h : a.grownBy b none) : Chg lo hi a b := ⟨h.os, h.tape, h.output, h.size, fun i hi _ => h.block i hi (by simp)⟩
theorem Chg.gb (h : Chg lo hi a b) (k : b.grownBy c none) : Chg lo hi a c := h.trans (chg_gb lo hi k)
theorem Chg.bl (h : Chg lo hi a b) (k : Below b.heap.size b c) : Chg lo hi a c := h.gb (gb_of_below k none)
theorem Chg.dr (h : Chg lo hi a b) : Chg lo hi a b.drew := ⟨h.os, h.tape, h.output, h.size, h.block⟩
theorem Chg.al (h : Chg lo hi a b) (o : Obj) : Chg lo hi a (b.alloc o) := h.gb (gb_alloc (gb_refl _ _) o)
theorem Chg.st (h : Chg lo hi a b) {p : Addr} (hp : a.heap.size ≤ p.block ∨ lo ≤ p.block ∧ p.block < hi) (u : Value) : Chg lo hi a (b.setCell p u) :=
  ⟨h.os, h.tape, h.output, by simpa [World.setCell] using h.size, fun i hi hn => (Below.heap_setCell b p u i (by
    rintro rfl
    rcases hp with hp | hp
    · omega
    · exact hn hp)).trans (h.block i hi hn)⟩
theorem Chg.sb (h : Chg lo hi a b) {g : Nat} (hg : a.heap.size ≤ g) (i : Nat) (u : Value) : Chg lo hi a (b.setCell ⟨g, i, Option.none⟩ u) := h.st (.inl hg) u
theorem Chg.row (h : Chg lo hi a b) {row : Option Nat} (k : b.grownBy c row) (hr : ∀ j, row = some j → lo ≤ j ∧ j < hi) : Chg lo hi a c :=
  ⟨k.os.trans h.os, k.tape.trans h.tape, k.output.trans h.output, Nat.le_trans h.size k.size, fun i hi hn => (k.block i (Nat.lt_of_lt_of_le hi h.size) (fun e => hn (hr i e.symm))).trans (h.block i hi hn)⟩
theorem Chg.mono (h : Chg lo hi a b) (h1 : lo' ≤ lo) (h2 : hi ≤ hi') : Chg lo' hi' a b := ⟨h.os, h.tape, h.output, h.size, fun i hi hn => h.block i hi (by omega)⟩
theorem Chg.below (h : Chg lo hi a b) {B : Nat} (h1 : B ≤ lo ∨ hi ≤ lo) (h2 : B ≤ a.heap.size) : Below B a b := ⟨h.os, h.tape, h.output, h.size, fun i hi => h.block i (by omega) (by omega)⟩
theorem Chg.still (h : Chg lo lo a b) : a.grownBy b none := ⟨h.os, h.tape, h.output, h.size, fun i hi _ => h.block i hi (by omega)⟩
theorem Blk.chg {g : Nat} {t : TypeId} {cs : Array Value} (h : Blk a g t cs) (hc : Chg lo hi a b) (hg : g < lo ∨ hi ≤ g ∨ hi ≤ lo) : Blk b g t cs := (hc.block g h.lt (by omega)).trans h
theorem IntAt.chg {w : World} {n : Nat} {A : Option Addr} {L : List Int} (h : IntAt w w.heap.size A n L) (hb : Below w.heap.size w a) (hc : Chg lo hi a b) (hg : w.heap.size ≤ lo ∨ hi ≤ lo) : IntAt b b.heap.size A n L :=
  ((h.below hb).below (hc.below hg hb.size)).more (Nat.le_trans hb.size hc.size)
end
/-- P holds, and hangs on the blocks from B to E alone. -/
def Fix (B E : Nat) (P : World → Prop) (w : World) : Prop := E ≤ w.heap.size ∧ ∀ w', w.heap.size ≤ w'.heap.size → (∀ k, B ≤ k → k < E → w'.heap[k]? = w.heap[k]?) → P w'
section
variable {B E lo hi : Nat} {P Q : World → Prop} {a b w : World}
theorem Fix.here (h : Fix B E P w) : P w := h.2 w (Nat.le_refl _) (fun _ _ _ => rfl)
theorem Fix.chg (h : Fix B E P a) (hc : Chg lo hi a b) (hd : E ≤ lo ∨ hi ≤ B ∨ hi ≤ lo) : Fix B E P b :=
  ⟨Nat.le_trans h.1 hc.size, fun w' hs hk => h.2 w' (Nat.le_trans hc.size hs) (fun k h1 h2 => (hk k h1 h2).trans (hc.block k (Nat.lt_of_lt_of_le h2 h.1) (by omega)))⟩
theorem Fix.gb (h : Fix B E P a) (hc : a.grownBy b Option.none) : Fix B E P b := h.chg (chg_gb 0 0 hc) (.inr (.inr (Nat.le_refl _)))
theorem Fix.wide (h : Fix B E P w) {B' E' : Nat} (h1 : B' ≤ B) (h2 : E ≤ E') (h3 : E' ≤ w.heap.size) : Fix B' E' P w := ⟨h3, fun w' hs hk => h.2 w' hs (fun k k1 k2 => hk k (by omega) (by omega))⟩
theorem Fix.and (h : Fix B E P w) (k : Fix B E Q w) : Fix B E (fun w => P w ∧ Q w) w := ⟨h.1, fun w' hs hk => ⟨h.2 w' hs hk, k.2 w' hs hk⟩⟩
theorem fix_row {e : TypeId} {size n : Nat} {v : Value} {xs : List Value} (h : w.ownsRow B e size v n xs) : Fix B w.heap.size (fun w => w.ownsRow B e size v n xs) w := by
  refine ⟨Nat.le_refl _, fun w' hs hk => ?_⟩
  have hl := h.lt
  refine ⟨h.1, ?_⟩
  rcases h.2 with h1 | ⟨g, cap, cur, h1, h2, h3, h4⟩
  · exact .inl h1
  · refine .inr ⟨g, cap, cur, h1, h2, ?_, h4⟩
    subst h1
    rw [hk g h2 (hl g rfl).2]
    exact h3
theorem fix_vrow {vr vc : Value} {m n : Nat} {R C : List Int} (h : VRow w B vr vc m n R C) : Fix B w.heap.size (fun w => VRow w B vr vc m n R C) w :=
  ⟨Nat.le_refl _, fun w' hs hk => ⟨(fix_row h.r).2 w' hs hk, (fix_row h.c).2 w' hs hk, h.ap⟩⟩
theorem Fix.al (h : Fix B E P w) (o : Obj) : Fix B E P (w.alloc o) := h.gb (gb_alloc (gb_refl _ _) o)
theorem Fix.nx (h : Fix B E P a) (q : Chg 0 0 a b) : Fix B E P b := h.chg q (.inr (.inr (Nat.le_refl _)))
theorem Chg.far {g g' : Nat} {c : World} (h : Chg lo hi a b) (k : Chg g g' b c) (hg : a.heap.size ≤ g) : Chg lo hi a c :=
  ⟨k.os.trans h.os, k.tape.trans h.tape, k.output.trans h.output, Nat.le_trans h.size k.size, fun i hi hn => (k.block i (Nat.lt_of_lt_of_le hi h.size) (by omega)).trans (h.block i hi hn)⟩
theorem Blk.nx {g : Nat} {t : TypeId} {cs : Array Value} (h : Blk a g t cs) (q : Chg 0 0 a b) : Blk b g t cs := h.chg q (.inr (.inr (Nat.le_refl _)))
theorem st_in (w : World) (g i : Nat) (u : Value) : Chg g (g + 1) w (w.setCell ⟨g, i, none⟩ u) := (Chg.refl g (g + 1) w).st (.inr ⟨Nat.le_refl _, Nat.lt_succ_self _⟩) u
theorem Chg.si {g i : Nat} (h : Chg g (g + 1) a b) (u : Value) : Chg g (g + 1) a (b.setCell ⟨g, i, Option.none⟩ u) := h.st (.inr ⟨Nat.le_refl _, Nat.lt_succ_self _⟩) u
theorem Chg.sx {g : Nat} (h : Chg g (g + 1) a b) (i : Nat) (u : Value) : Chg g (g + 1) a (b.setCell ⟨g, i, Option.none⟩ u) := h.si u
theorem gb_drD0 (h : a.drew.grownBy b Option.none) : a.grownBy b Option.none := ⟨h.os, h.tape, h.output, h.size, h.block⟩
theorem chg_one {g : Nat} (h : a.grownBy b (some g)) : Chg g (g + 1) a b := (Chg.refl g (g + 1) a).row h (fun j e => by cases e; omega)
theorem Chg.cursor {g : Nat} (h : Chg g (g + 1) a b) : a.grownBy b (some g) := ⟨h.os, h.tape, h.output, h.size, fun i hi hn => h.block i hi (fun hk => hn (by rw [show i = g by omega]))⟩
theorem chg_none_to (h : Chg 0 0 a b) : Chg lo hi a b := chg_gb lo hi h.still
theorem drew_heap (w : World) : w.drew.heap = w.heap := rfl
theorem chg_drew (w : World) : Chg 0 0 w w.drew := (Chg.refl 0 0 w).dr
end
end Go.Proofs.Ytfloekbmgjmhbaa
