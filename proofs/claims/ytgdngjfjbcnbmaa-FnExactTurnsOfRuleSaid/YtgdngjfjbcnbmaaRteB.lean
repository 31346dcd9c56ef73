/- What is proved here: small facts on the rows that a law on a mesh and lists of numbers lays and marks; nothing of the program. -/
import Derived.Test.YtgdngjfjbcnbmaaMeshL
import Derived.Test.YtgdngjfjbcnbmaaMeshC
import Derived.Test.YtgdngjfjbcnbmaaNewI
import Derived.Test.YtgdngjfjbcnbmaaWfL
namespace Go.Proofs.Ytgdngjfjbcnbmaa
open Go.ChangeShapes Go.WideShapes Go.ChangeAt Go.RowKit
set_option linter.unusedVariables false

/-- A row of numbers in a block from lo on, below hi. -/
structure Row (wr : World) (lo hi : Nat) (v : Value) (X : List Int) : Prop where
  own : wr.ownsRow lo 3 1 v X.length (intsV X)
  up : ∀ k, v.ownBlock = some k → k < hi
section
variable {wr w' : World} {lo hi lo' hi' : Nat} {v v' : Value} {X Y : List Int}
theorem Row.nil (wr : World) (lo hi : Nat) : Row wr lo hi (.slice none 0 0) [] := ⟨World.ownsRow_nil _ _ _ _, fun k h => by cases h⟩
theorem Row.new {B : Nat} (h : wr.ownsRow lo 3 1 v X.length (intsV X)) (hl : B ≤ lo) : Row wr B wr.heap.size v X := ⟨own_less h hl, fun k hk => (h.lt k hk).2⟩
theorem Row.low (h : Row wr lo hi v X) {k : Nat} (hk : v.ownBlock = some k) : lo ≤ k := (h.own.lt k hk).1
theorem Row.keep {row : Option Nat} (h : Row wr lo hi v X) (hg : wr.grownBy w' row) (hne : ∀ k, row = some k → k < lo ∨ hi ≤ k) : Row w' lo hi v X :=
  ⟨h.own.kept hg (by
    cases hv : v.ownBlock with
    | none => exact .inl rfl
    | some k => exact .inr (fun e => by have h1 := h.low hv; have h2 := h.up k hv; rcases hne k e.symm with h3 | h3 <;> omega)), h.up⟩
theorem Row.gb (h : Row wr lo hi v X) (hg : wr.grownBy w' none) : Row w' lo hi v X := h.keep hg (fun k e => by cases e)
theorem Row.other (h : Row wr lo hi v X) (h' : Row wr lo' hi' v' Y) (hg : wr.grownBy w' v'.ownBlock) (hd : hi ≤ lo' ∨ hi' ≤ lo) : Row w' lo hi v X :=
  h.keep hg (fun k e => by have h1 := h'.low e; have h2 := h'.up k e; omega)
theorem Row.set (h : Row wr lo hi v X) (ho : w'.ownsRow lo 3 1 v Y.length (intsV Y)) : Row w' lo hi v Y := ⟨ho, h.up⟩
theorem Row.at {A : Option Addr} {n cap : Nat} (h : Row wr lo hi (.slice A n cap) X) : IntAt wr wr.heap.size A X.length X := by
  obtain ⟨A', cap', hv, _⟩ := own_form h.own
  simp only [Value.slice.injEq] at hv
  obtain ⟨rfl, rfl, rfl⟩ := hv
  exact intAt_own h.own rfl (Nat.le_refl _)
theorem row_mark {k n : Nat} (ho : w'.ownsRow lo 3 1 v n (intsV (marksI k n))) : w'.ownsRow lo 3 1 v (marksI k n).length (intsV (marksI k n)) := by rw [marksI_length]; exact ho
end

/-- The law's mesh in its box, the copy of the mesh in block b0, and the rows: the model's answer, the copies of the lists, the program's answer. -/
structure Full (W H : Int) (A : Option Addr) (cap : Nat) (L : List Int) (w : World) (b0 s1 s2 s3 s4 s5 gm : Nat) (v0 vp vq v8 : Value) (X0 M P Q X8 : List Int) (wr : World) : Prop where
  lb : Below (w.heap.size + 1) (w.alloc (.cells (meshC W H A L.length cap) 43)) wr
  kx : Blk wr b0 34 (meshC W H (some ⟨gm, 0, none⟩) L.length L.length)
  r0 : Row wr (w.heap.size + 1) s1 v0 X0
  rm : Row wr s1 s2 (.slice (some ⟨gm, 0, none⟩) L.length L.length) M
  rp : Row wr s2 s3 vp P
  rq : Row wr s3 s4 vq Q
  r8 : Row wr s4 s5 v8 X8
  o1 : w.heap.size + 1 ≤ s1
  o2 : s1 ≤ s2
  o3 : s2 ≤ s3
  o4 : s3 ≤ s4
section
variable {W H : Int} {A : Option Addr} {cap : Nat} {L : List Int} {w wr w' : World} {b0 s1 s2 s3 s4 s5 gm : Nat} {v0 vp vq v8 : Value} {X0 M P Q X8 Y : List Int}
theorem Full.gb (h : Full W H A cap L w b0 s1 s2 s3 s4 s5 gm v0 vp vq v8 X0 M P Q X8 wr) (hg : wr.grownBy w' none) : Full W H A cap L w b0 s1 s2 s3 s4 s5 gm v0 vp vq v8 X0 M P Q X8 w' :=
  ⟨below_gb h.lb (by simp) hg, h.kx.grown hg (by simp), h.r0.gb hg, h.rm.gb hg, h.rp.gb hg, h.rq.gb hg, h.r8.gb hg, h.o1, h.o2, h.o3, h.o4⟩
theorem Full.bl (h : Full W H A cap L w b0 s1 s2 s3 s4 s5 gm v0 vp vq v8 X0 M P Q X8 wr) (hg : Below wr.heap.size wr w') : Full W H A cap L w b0 s1 s2 s3 s4 s5 gm v0 vp vq v8 X0 M P Q X8 w' := h.gb (gb_of_below hg none)
theorem Full.dr (h : Full W H A cap L w b0 s1 s2 s3 s4 s5 gm v0 vp vq v8 X0 M P Q X8 wr) : Full W H A cap L w b0 s1 s2 s3 s4 s5 gm v0 vp vq v8 X0 M P Q X8 wr.drew := h.gb (gb_drew (gb_refl _ _))
theorem law_old (h : Below (w.heap.size + 1) (w.alloc (.cells (meshC W H A L.length cap) 43)) wr) : Below w.heap.size w wr := below_box h
theorem law_cells (h : Below (w.heap.size + 1) (w.alloc (.cells (meshC W H A L.length cap) 43)) wr) :
    wr.cell? ⟨w.heap.size, 0, none⟩ = some (.int .i64 W) ∧ wr.cell? ⟨w.heap.size, 1, none⟩ = some (.int .i64 H) ∧ wr.cell? ⟨w.heap.size, 2, none⟩ = some (.slice A L.length cap) := by
  have hb := (Blk.new w 43 (meshC W H A L.length cap)).below h (by omega)
  exact ⟨hb.cell 0, hb.cell 1, hb.cell 2⟩
theorem law_at (h : Below (w.heap.size + 1) (w.alloc (.cells (meshC W H A L.length cap) 43)) wr) {B : Option Addr} {m : Nat} {X : List Int} (hi : IntAt w w.heap.size B m X) : IntAt wr wr.heap.size B m X :=
  (hi.below (law_old h)).more (law_old h).size
theorem law_le (h : Below (w.heap.size + 1) (w.alloc (.cells (meshC W H A L.length cap) 43)) wr) : w.heap.size + 1 ≤ wr.heap.size := by have h1 := h.size; simp at h1; exact h1
theorem law_gb (h : Below (w.heap.size + 1) (w.alloc (.cells (meshC W H A L.length cap) 43)) wr) (hg : wr.grownBy w' none) : Below (w.heap.size + 1) (w.alloc (.cells (meshC W H A L.length cap) 43)) w' := below_gb h (by simp) hg
theorem law_first (hg : (w.alloc (.cells (meshC W H A L.length cap) 43)).grownBy wr none) : Below (w.heap.size + 1) (w.alloc (.cells (meshC W H A L.length cap) 43)) wr := gb_below_none hg (by simp)
theorem Full.cx (h : Full W H A cap L w b0 s1 s2 s3 s4 s5 gm v0 vp vq v8 X0 M P Q X8 wr) : wr.cell? ⟨b0, 0, none⟩ = some (.int .i64 W) ∧ wr.cell? ⟨b0, 1, none⟩ = some (.int .i64 H) ∧ wr.cell? ⟨b0, 2, none⟩ = some (.slice (some ⟨gm, 0, none⟩) L.length L.length) :=
  ⟨h.kx.cell 0, h.kx.cell 1, h.kx.cell 2⟩
theorem Full.two (h : Full W H A cap L w b0 s1 s2 s3 s4 s5 gm v0 vp vq v8 X0 M P Q X8 wr) : wr.cell? ⟨w.heap.size, 0, none⟩ = some (.int .i64 W) ∧ wr.cell? ⟨w.heap.size, 1, none⟩ = some (.int .i64 H) ∧ wr.cell? ⟨w.heap.size, 2, none⟩ = some (.slice A L.length cap) ∧ wr.cell? ⟨b0, 0, none⟩ = some (.int .i64 W) ∧ wr.cell? ⟨b0, 1, none⟩ = some (.int .i64 H) ∧ wr.cell? ⟨b0, 2, none⟩ = some (.slice (some ⟨gm, 0, none⟩) L.length L.length) := by
  obtain ⟨a0, a1, a2⟩ := law_cells h.lb
  exact ⟨a0, a1, a2, h.cx⟩
theorem Full.markM {k : Nat} (h : Full W H A cap L w b0 s1 s2 s3 s4 s5 gm v0 vp vq v8 X0 M P Q X8 wr) (hM : M.length = L.length) (ho : w'.ownsRow s1 3 1 (.slice (some ⟨gm, 0, none⟩) L.length L.length) L.length (intsV (marksI k L.length))) (hg : wr.grownBy w' (Value.slice (some ⟨gm, 0, none⟩) L.length L.length).ownBlock) :
    Full W H A cap L w b0 s1 s2 s3 s4 s5 gm v0 vp vq v8 X0 (marksI k L.length) P Q X8 w' := by
  have h1 := h.o1; have h2 := h.o2; have h3 := h.o3; have h4 := h.o4
  exact ⟨h.lb.grown hg (law_le h.lb) (fun j e => by have := h.rm.low e; omega), h.kx.grown hg (fun e => own_ne h.rm.own h.kx (by decide) e.symm), h.r0.other h.rm hg (.inl (Nat.le_refl _)), h.rm.set (row_mark ho), h.rp.other h.rm hg (.inr (Nat.le_refl _)), h.rq.other h.rm hg (.inr (by omega)), h.r8.other h.rm hg (.inr (by omega)), h.o1, h.o2, h.o3, h.o4⟩
theorem Full.markP {k n : Nat} (h : Full W H A cap L w b0 s1 s2 s3 s4 s5 gm v0 vp vq v8 X0 M P Q X8 wr) (ho : w'.ownsRow s2 3 1 vp n (intsV (marksI k n))) (hg : wr.grownBy w' vp.ownBlock) :
    Full W H A cap L w b0 s1 s2 s3 s4 s5 gm v0 vp vq v8 X0 M (marksI k n) Q X8 w' := by
  have h1 := h.o1; have h2 := h.o2; have h3 := h.o3; have h4 := h.o4
  exact ⟨h.lb.grown hg (law_le h.lb) (fun j e => by have := h.rp.low e; omega), h.kx.grown hg (fun e => own_ne h.rp.own h.kx (by decide) e.symm), h.r0.other h.rp hg (.inl (by omega)), h.rm.other h.rp hg (.inl (Nat.le_refl _)), h.rp.set (row_mark ho), h.rq.other h.rp hg (.inr (Nat.le_refl _)), h.r8.other h.rp hg (.inr (by omega)), h.o1, h.o2, h.o3, h.o4⟩
theorem Full.markQ {k n : Nat} (h : Full W H A cap L w b0 s1 s2 s3 s4 s5 gm v0 vp vq v8 X0 M P Q X8 wr) (ho : w'.ownsRow s3 3 1 vq n (intsV (marksI k n))) (hg : wr.grownBy w' vq.ownBlock) :
    Full W H A cap L w b0 s1 s2 s3 s4 s5 gm v0 vp vq v8 X0 M P (marksI k n) X8 w' := by
  have h1 := h.o1; have h2 := h.o2; have h3 := h.o3; have h4 := h.o4
  exact ⟨h.lb.grown hg (law_le h.lb) (fun j e => by have := h.rq.low e; omega), h.kx.grown hg (fun e => own_ne h.rq.own h.kx (by decide) e.symm), h.r0.other h.rq hg (.inl (by omega)), h.rm.other h.rq hg (.inl (by omega)), h.rp.other h.rq hg (.inl (Nat.le_refl _)), h.rq.set (row_mark ho), h.r8.other h.rq hg (.inr (Nat.le_refl _)), h.o1, h.o2, h.o3, h.o4⟩
theorem Full.mark8 {k n : Nat} (h : Full W H A cap L w b0 s1 s2 s3 s4 s5 gm v0 vp vq v8 X0 M P Q X8 wr) (ho : w'.ownsRow s4 3 1 v8 n (intsV (marksI k n))) (hg : wr.grownBy w' v8.ownBlock) :
    Full W H A cap L w b0 s1 s2 s3 s4 s5 gm v0 vp vq v8 X0 M P Q (marksI k n) w' := by
  have h1 := h.o1; have h2 := h.o2; have h3 := h.o3; have h4 := h.o4
  exact ⟨h.lb.grown hg (law_le h.lb) (fun j e => by have := h.r8.low e; omega), h.kx.grown hg (fun e => own_ne h.r8.own h.kx (by decide) e.symm), h.r0.other h.r8 hg (.inl (by omega)), h.rm.other h.r8 hg (.inl (by omega)), h.rp.other h.r8 hg (.inl (by omega)), h.rq.other h.r8 hg (.inl (Nat.le_refl _)), h.r8.set (row_mark ho), h.o1, h.o2, h.o3, h.o4⟩
theorem Full.ans (h : Full W H A cap L w b0 s1 s2 s3 s4 s5 gm v0 vp vq (.slice none 0 0) X0 M P Q [] wr) (hb : Below wr.heap.size wr w') (hs : s4 ≤ wr.heap.size) (ho : w'.ownsRow wr.heap.size 3 1 v8 X8.length (intsV X8)) :
    Full W H A cap L w b0 s1 s2 s3 s4 w'.heap.size gm v0 vp vq v8 X0 M P Q X8 w' := by
  have k := h.bl hb
  exact ⟨k.lb, k.kx, k.r0, k.rm, k.rp, k.rq, Row.new ho hs, k.o1, k.o2, k.o3, k.o4⟩
end
end Go.Proofs.Ytgdngjfjbcnbmaa
