/- What is proved here: the exact law on StandardTable answers true, for every argument; only new blocks are written. -/
import Derived.Test.YtbnpihkianggiaaStdTabI
import Derived.Test.YtbnpihkianggiaaSpecTab
import Derived.Test.YtbnpihkianggiaaTabH
import Derived.Test.YtbnpihkianggiaaToGrid
namespace Go.Proofs.Ytbnpihkianggiaa
open Go.ChangeShapes Go.WideShapes Go.ChangeAt Go.RowKit
set_option linter.unusedVariables false

/-- The law's blocks: the argument, the model's table and the program's, and the lists of both. -/
def TwoT (W H : Int) (w : World) (b0 b1 : Nat) (v0 v1 : Value) (P Q : List Int) (wr : World) : Prop :=
  Blk wr w.heap.size 40 #[.int .i64 W, .int .i64 H] ∧ Blk wr b0 30 #[v0] ∧ Blk wr b1 30 #[v1] ∧
  wr.ownsRow (w.heap.size + 1) 3 1 v0 P.length (intsV P) ∧ wr.ownsRow (b0 + 1) 3 1 v1 P.length (intsV Q) ∧ Below w.heap.size w wr
section
variable {W H : Int} {w wr wr' : World} {b0 b1 : Nat} {v0 v1 : Value} {P Q : List Int}
theorem TwoT.gb (h : TwoT W H w b0 b1 v0 v1 P Q wr) (hg : wr.grownBy wr' none) : TwoT W H w b0 b1 v0 v1 P Q wr' :=
  ⟨h.1.grown hg (by simp), h.2.1.grown hg (by simp), h.2.2.1.grown hg (by simp), own_none h.2.2.2.1 hg, own_none h.2.2.2.2.1 hg, below_gb h.2.2.2.2.2 (Nat.le_refl _) hg⟩
theorem TwoT.marked {Q2 : List Int} (h : TwoT W H w b0 b1 v0 v1 P Q wr) (hw : w.heap.size < b0) (h0 : ∀ k, v0.ownBlock = some k → k < b0) (h1 : ∀ k, v1.ownBlock = some k → k < b1)
    (ho : wr'.ownsRow (b0 + 1) 3 1 v1 P.length (intsV Q2)) (hg : wr.grownBy wr' v1.ownBlock) : TwoT W H w b0 b1 v0 v1 P Q2 wr' :=
  ⟨h.1.grown hg (fun e => by have := (h.2.2.2.2.1.lt _ e.symm).1; omega), h.2.1.grown hg (fun e => by have := (h.2.2.2.2.1.lt _ e.symm).1; omega), h.2.2.1.grown hg (fun e => by have := h1 _ e.symm; omega),
    own_apart h.2.2.2.1 (fun k hk => by have := h0 k hk; omega) h.2.2.2.2.1 hg, ho, h.2.2.2.2.2.grown hg h.2.2.2.2.2.size (fun j hj => by have := (h.2.2.2.2.1.lt j hj).1; omega)⟩
end

theorem walk_FnExactStandardTable (W H r : Int) (w : World) (w0 : (Lit.int .i64 W).wf = true) (w1 : (Lit.int .i64 H).wf = true) (w2 : (Lit.int .i64 r).wf = true) :
    Calls Try.prog 5 #[.agg #[.int .i64 W, .int .i64 H], .int .i64 r] w fun e w' => e = .returned (.bool true) ∧ Below w.heap.size w w' := by
  clear w0 w1 w2
  have HS := Lib.hid (fun w => specStdTab W H r w)
  have HI := Lib.hid (fun w => implStdTab W H r w)
  have hlen := stdRes_length W H r
  obtain ⟨P, hP⟩ : ∃ P, stdRes W H r = P := ⟨_, rfl⟩
  obtain ⟨b, hb⟩ : ∃ b, stdOk W H r = b := ⟨_, rfl⟩
  rw [hP, hb] at HS HI
  rw [hP] at hlen
  clear hP hb
  go_enter Try.func5, Try.ntmps5
  go_wp2_with fail
  refine (lawsToGrid W H _).mono ?_
  rintro e w1 ⟨rfl, g1⟩
  have KA1 := Lib.hid (box_blk g1)
  have G1 := Lib.hid (box_gb g1)
  clear g1
  go_wp2_with fail
  refine (HS.out _).mono ?_
  rintro e w2 ⟨v0, rfl, o0, b2⟩
  obtain ⟨A0, c0, rfl, _⟩ := own_form o0
  have KA2 := Lib.hid ((KA1.out.below b2 KA1.out.lt).alloc (.cells #[.slice A0 P.length c0] 30))
  have K02 := Lib.hid (Blk.new w2 30 #[.slice A0 P.length c0])
  have O02 := Lib.hid ((own_less o0 (b1 := w.heap.size + 1) KA1.out.lt).alloc (.cells #[.slice A0 P.length c0] 30))
  have H02 := Lib.hid (fun k hk => (o0.lt k hk).2)
  have HWB := Lib.hid (KA1.out.below b2 KA1.out.lt).lt
  have G2 := Lib.hid (gb_alloc (gb_trans G1.out (gb_of_below b2 none)) (.cells #[.slice A0 P.length c0] 30))
  have a0 : (w2.alloc (.cells #[.slice A0 P.length c0] 30)).cell? ⟨w.heap.size, 0, none⟩ = some (.int .i64 W) := KA2.out.cell 0
  have a1 : (w2.alloc (.cells #[.slice A0 P.length c0] 30)).cell? ⟨w.heap.size, 1, none⟩ = some (.int .i64 H) := KA2.out.cell 1
  clear o0 b2
  go_wp2_with fail
  obtain ⟨b0, hb0⟩ : ∃ b, w2.heap.size = b := ⟨_, rfl⟩
  rw [hb0] at K02 H02 HWB
  (try rw [hb0])
  have HB0 := Lib.hid hb0
  clear hb0
  refine (lawsToGrid W H _).mono ?_
  rintro e w3 ⟨rfl, g3⟩
  have KA3 := Lib.hid (KA2.out.grown g3 (by simp))
  have K03 := Lib.hid (K02.out.grown g3 (by simp))
  have O03 := Lib.hid (own_none O02.out g3)
  have G3 := Lib.hid (gb_trans G2.out g3)
  clear g3 a0 a1
  go_wp2_with fail
  refine (HI.out _).mono ?_
  rintro e w4 ⟨v1, rfl, o1, b4⟩
  obtain ⟨A1, c1, rfl, _⟩ := own_form o1
  have T4 := Lib.hid (show TwoT W H w b0 w4.heap.size (.slice A0 P.length c0) (.slice A1 P.length c1) P P (w4.alloc (.cells #[.slice A1 P.length c1] 30)) from
    ⟨(KA3.out.below b4 KA3.out.lt).alloc _, (K03.out.below b4 K03.out.lt).alloc _, Blk.new _ _ _, (own_below O03.out b4).alloc _, (own_less o1 (b1 := b0 + 1) K03.out.lt).alloc _, gb_below_none (gb_alloc (gb_trans G3.out (gb_of_below b4 none)) _) (Nat.le_refl _)⟩)
  have H14 := Lib.hid (fun k hk => (o1.lt k hk).2)
  have a5 : (w4.alloc (.cells #[.slice A1 P.length c1] 30)).cell? ⟨b0, 0, none⟩ = some (.slice A0 P.length c0) := T4.out.2.1.cell 0
  clear o1 b4
  go_wp2_with fail
  obtain ⟨b1, hb1⟩ : ∃ b, w4.heap.size = b := ⟨_, rfl⟩
  rw [hb1] at T4 H14
  (try rw [hb1])
  clear hb1 a5
  refine (lawsEqTabOwn (.slice A1 P.length c1) (.slice A0 P.length c0) _ _ P _ T4.out.2.2.2.2.1 T4.out.2.2.2.1 (by omega)).mono ?_
  rintro e w5 ⟨rfl, g5⟩
  have t5 := T4.out.gb g5
  have T5 := Lib.hid t5
  have a7 : w5.cell? ⟨b1, 0, none⟩ = some (.slice A1 P.length c1) := t5.2.2.1.cell 0
  clear t5 g5
  go_wp2_with fail
  refine (lawsMarkTable (.slice A1 P.length c1) _ P.length 1 P _ T5.out.2.2.2.2.1 (by omega)).mono ?_
  rintro e w6 ⟨rfl, o6, g6⟩
  obtain ⟨k2, hk2⟩ : ∃ k, 1 + P.length = k := ⟨_, rfl⟩
  rw [hk2]
  have hk0 : ¬ (k2 : Int) < 0 := by omega
  have t6 := T5.out.marked HWB.out H02.out H14.out o6 g6
  have T6 := Lib.hid t6
  have a8 : w6.cell? ⟨b1, 0, none⟩ = some (.slice A1 P.length c1) := t6.2.2.1.cell 0
  clear t6 g6 o6 a7
  go_wp2_with fail
  refine (lawsHeldTable (.slice A1 P.length c1) _ P.length 1 _ T6.out.2.2.2.2.1 (by omega)).mono ?_
  rintro e w7 ⟨rfl, g7⟩
  rw [hk2]
  have t7 := T6.out.gb g7
  have T7 := Lib.hid t7
  have d0 : w7.cell? ⟨w.heap.size, 0, none⟩ = some (.int .i64 W) := t7.1.cell 0
  have d1 : w7.cell? ⟨w.heap.size, 1, none⟩ = some (.int .i64 H) := t7.1.cell 1
  clear t7 g7 a8
  go_wp2_with fail
  refine (lawsToGrid W H _).mono ?_
  rintro e w8 ⟨rfl, g8⟩
  have T8 := Lib.hid (T7.out.gb g8)
  clear g8 d0 d1
  go_wp2_with fail
  refine (HI.out _).mono ?_
  rintro e w9 ⟨v2, rfl, o2, b9⟩
  obtain ⟨A2, c2, rfl, _⟩ := own_form o2
  have t9 := (T8.out.gb (gb_of_below b9 none)).gb (gb_alloc (gb_refl w9 none) (.cells #[.slice A2 P.length c2] 30))
  have T9 := Lib.hid t9
  have O9 := Lib.hid (o2.alloc (.cells #[.slice A2 P.length c2] 30))
  have a5 : (w9.alloc (.cells #[.slice A2 P.length c2] 30)).cell? ⟨b0, 0, none⟩ = some (.slice A0 P.length c0) := t9.2.1.cell 0
  clear t9 o2 b9
  go_wp2_with fail
  refine (lawsEqTabOwn (.slice A2 P.length c2) (.slice A0 P.length c0) _ _ P _ O9.out T9.out.2.2.2.1 (by omega)).mono ?_
  rintro e w10 ⟨rfl, g10⟩
  have t10 := T9.out.gb g10
  have T10 := Lib.hid t10
  have a7 : w10.cell? ⟨b1, 0, none⟩ = some (.slice A1 P.length c1) := t10.2.2.1.cell 0
  clear t10 g10 a5
  go_wp2_with fail
  refine (lawsHeldTable (.slice A1 P.length c1) _ P.length 1 _ T10.out.2.2.2.2.1 (by omega)).mono ?_
  rintro e w11 ⟨rfl, g11⟩
  rw [hk2]
  have T11 := Lib.hid (T10.out.gb g11)
  clear g11 a7
  go_wp2_with fail
  go_ret
  exact ⟨rfl, T11.out.2.2.2.2.2⟩
end Go.Proofs.Ytbnpihkianggiaa
