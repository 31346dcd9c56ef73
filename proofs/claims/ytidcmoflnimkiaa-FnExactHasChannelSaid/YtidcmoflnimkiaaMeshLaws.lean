/- What is proved here: the exact laws on meshes answer true, for every argument; only new blocks are written. -/
import Derived.Test.YtidcmoflnimkiaaMeshJ
import Derived.Test.YtidcmoflnimkiaaOppS
import Derived.Test.YtidcmoflnimkiaaMeshL
import Derived.Test.YtidcmoflnimkiaaToGrid
namespace Go.Proofs.Ytidcmoflnimkiaa
open Go.ChangeShapes Go.WideShapes Go.ChangeAt Go.RowKit
set_option linter.unusedVariables false

theorem walk_FnExactNextNode (W H n p : Int) (w : World) (w0 : (Lit.int .i64 W).wf = true) (w1 : (Lit.int .i64 H).wf = true) (w2 : (Lit.int .i64 n).wf = true) (w3 : (Lit.int .i64 p).wf = true) :
    Calls Try.prog 5 #[.agg #[.int .i64 W, .int .i64 H], .int .i64 n, .int .i64 p] w fun e w' => e = .returned (.bool true) ∧ Below w.heap.size w w' := by
  clear w0 w1 w2 w3
  go_enter Try.func5, Try.ntmps5
  go_wp2_with fail
  refine (lawsToGrid W H _).mono ?_
  rintro e w1 ⟨rfl, hg1⟩
  have hb1 := box_blk hg1
  have Hg1 := Lib.hid (box_gb hg1)
  have Hb1 := Lib.hid hb1
  clear hg1 hb1
  go_wp2_with fail
  refine (specNextNode W H n p _).mono ?_
  rintro e w2 ⟨rfl, hg2⟩
  have hb2 := Hb1.out.grown hg2 (by simp)
  have c0 := hb2.cell 0
  have c1 := hb2.cell 1
  simp at c0 c1
  have Hg2 := Lib.hid (gb_trans Hg1.out hg2)
  clear hg2 hb2
  go_wp2_with fail
  refine (lawsToGrid W H _).mono ?_
  rintro e w3 ⟨rfl, hg3⟩
  have Hg3 := Lib.hid (gb_trans Hg2.out hg3)
  clear hg3 c0 c1
  go_wp2_with fail
  refine (implNextNode W H n p _).mono ?_
  rintro e w4 ⟨rfl, hg4⟩
  have Hg4 := Lib.hid (gb_trans Hg3.out hg4)
  clear hg4
  go_wp2_with fail
  go_ret
  exact ⟨rfl, gb_below_none Hg4.out (Nat.le_refl _)⟩

theorem walk_FnExactOpposite (p : Int) (w : World) (w0 : (Lit.int .i64 p).wf = true) :
    Calls Try.prog 6 #[.int .i64 p] w fun e w' => e = .returned (.bool true) ∧ Below w.heap.size w w' := by
  clear w0
  go_enter Try.func6, Try.ntmps6
  go_wp2_with fail
  refine (specOpposite p _).mono ?_
  rintro e w1 ⟨rfl, rfl⟩
  skip
  go_wp2_with fail
  refine (implOpposite p _).mono ?_
  rintro e w2 ⟨rfl, hg⟩
  have HG := Lib.hid hg
  clear hg
  go_wp2_with fail
  go_ret
  exact ⟨rfl, gb_below_none HG.out (Nat.le_refl _)⟩

theorem walk_FnExactPortName (p : Int) (w : World) (w0 : (Lit.int .i64 p).wf = true) :
    Calls Try.prog 10 #[.int .i64 p] w fun e w' => e = .returned (.bool true) ∧ Below w.heap.size w w' := by
  clear w0
  go_enter Try.func10, Try.ntmps10
  go_wp2_with fail
  refine (specPortName p _).mono ?_
  rintro e w1 ⟨rfl, hg0⟩
  have HG0 := Lib.hid hg0
  clear hg0
  go_wp2_with fail
  refine (implPortName p _).mono ?_
  rintro e w2 ⟨rfl, hg⟩
  have HG := Lib.hid hg
  clear hg
  go_wp2_with fail
  go_ret
  exact ⟨rfl, gb_below_none (gb_trans HG0.out HG.out) (Nat.le_refl _)⟩

theorem below_undrew {B : Nat} {a b : World} (h : Below B a.drew b) : Below B a b := ⟨h.os, h.tape, h.output, h.size, h.block⟩

theorem walk_FnExactMeshOk (W H : Int) (A : Option Addr) (n cap : Nat) (L : List Int) (w : World) (hw : (Lit.int .i64 W).wf = true) (hh : (Lit.int .i64 H).wf = true) (hnc : n ≤ cap) (hcm : cap ≤ maxLen) (h : IntAt w w.heap.size A n L) (hl : ∀ x ∈ L, (Lit.int .i64 x).wf = true) :
    Calls Try.prog 7 #[.agg #[.int .i64 W, .int .i64 H, .slice A n cap]] w fun e w' => e = .returned (.bool true) ∧ Below w.heap.size w w' := by
  have hn9 : n ≤ 9223372036854775807 := Nat.le_trans hnc (Nat.le_trans hcm (by decide))
  have hLn := h.1
  have HI := Lib.hid h
  have HWF := Lib.hid (show WfL L from hl)
  clear hw hh hl hnc hcm h
  subst hLn
  by_cases hbig : (1048576 : Int) < (L.length : Int)
  · go_enter Try.func7, Try.ntmps7
    go_wp2_with fail
    refine (lawsSzMesh W H A L.length cap 1048576 _ hn9 (by omega) (by omega)).mono ?_
    rintro e w1 ⟨rfl, hg1⟩
    rw [if_pos hbig]
    have Hg1 := Lib.hid (box_gb hg1)
    clear hg1
    go_wp2_with fail
    go_ret
    exact ⟨rfl, gb_below_none Hg1.out (Nat.le_refl _)⟩
  · have hn : L.length ≤ 1048576 := by omega
    go_enter Try.func7, Try.ntmps7
    go_wp2_with fail
    refine (lawsSzMesh W H A L.length cap 1048576 _ hn9 (by omega) (by omega)).mono ?_
    rintro e w1 ⟨rfl, hg1⟩
    rw [if_neg (by omega)]
    have BX := Lib.hid (box_blk hg1)
    have B1 := Lib.hid (gb_below_none (box_gb hg1) (Nat.le_refl _))
    have hlt1 := Lib.hid BX.out.lt
    have a0 : w1.cell? ⟨w.heap.size, 0, none⟩ = some (.int .i64 W) := BX.out.cell 0
    have a1 : w1.cell? ⟨w.heap.size, 1, none⟩ = some (.int .i64 H) := BX.out.cell 1
    have a2 : w1.cell? ⟨w.heap.size, 2, none⟩ = some (.slice A L.length cap) := BX.out.cell 2
    clear hg1
    go_wp2_with fail
    refine (lawsToMesh W H A L.length cap L _ ((HI.out.below B1.out).more B1.out.size) hn).mono ?_
    rintro e w2 ⟨g0, rfl, o2, b2⟩
    have I2 := Lib.hid (intAt_own o2 rfl (Nat.le_refl _))
    have BX2 := Lib.hid (BX.out.below b2 hlt1.out)
    have B2 := Lib.hid (B1.out.trans (b2.mono B1.out.size))
    clear o2 b2 a0 a1 a2
    go_wp2_with fail
    refine (specMeshOk W H (some ⟨g0, 0, none⟩) L.length L.length L _ I2.out (by omega)).mono ?_
    rintro e w3 ⟨rfl, hg3⟩
    have BX3 := Lib.hid (BX2.out.grown hg3 (by simp))
    have B3 := Lib.hid (B2.out.trans (gb_below_none hg3 B2.out.size))
    clear hg3
    have a0 : w3.cell? ⟨w.heap.size, 0, none⟩ = some (.int .i64 W) := BX3.out.cell 0
    have a1 : w3.cell? ⟨w.heap.size, 1, none⟩ = some (.int .i64 H) := BX3.out.cell 1
    have a2 : w3.cell? ⟨w.heap.size, 2, none⟩ = some (.slice A L.length cap) := BX3.out.cell 2
    go_wp2_with fail
    refine (lawsToMesh W H A L.length cap L _ ((HI.out.below B3.out).more B3.out.size) hn).mono ?_
    rintro e w4 ⟨g1, rfl, o4, b4⟩
    have I4 := Lib.hid (intAt_own o4 rfl (Nat.le_refl _))
    have O4 := Lib.hid o4
    have BX4 := Lib.hid (BX3.out.below b4 BX3.out.lt)
    have B4 := Lib.hid (B3.out.trans (b4.mono B3.out.size))
    skip
    clear o4 b4 a0 a1 a2
    go_wp2_with fail
    have I5 := Lib.hid (show IntAt (w4.alloc (.cells (meshC W H (some ⟨g1, 0, none⟩) L.length L.length) 33)) (w4.alloc (.cells (meshC W H (some ⟨g1, 0, none⟩) L.length L.length) 33)).heap.size (some ⟨g1, 0, none⟩) L.length L from
      (I4.out.none (Nat.le_refl _) (gb_alloc (gb_refl _ _) _)).more (by simp))
    have BQ := Lib.hid (Blk.new w4 33 (meshC W H (some ⟨g1, 0, none⟩) L.length L.length))
    have BX5 := Lib.hid (BX4.out.alloc (.cells (meshC W H (some ⟨g1, 0, none⟩) L.length L.length) 33))
    have B5 := Lib.hid (B4.out.alloc B4.out.size (.cells (meshC W H (some ⟨g1, 0, none⟩) L.length L.length) 33))
    refine (implMeshOk W H (some ⟨g1, 0, none⟩) L.length L.length L HWF.out _ I5.out (by omega)).mono ?_
    rintro e w5 ⟨rfl, hg5⟩
    have BX6 := Lib.hid (BX5.out.grown hg5 (by simp))
    have BQ6 := Lib.hid (BQ.out.grown hg5 (by simp))
    have B6 := Lib.hid (B5.out.trans (gb_below_none hg5 B5.out.size))
    have I6 := Lib.hid ((I5.out.none (Nat.le_refl _) hg5).more (B' := w5.heap.size) hg5.size)
    clear hg5
    go_wp2_with fail
    have d0 : w5.cell? ⟨w.heap.size, 0, none⟩ = some (.int .i64 W) := BX6.out.cell 0
    have d1 : w5.cell? ⟨w.heap.size, 1, none⟩ = some (.int .i64 H) := BX6.out.cell 1
    have d2 : w5.cell? ⟨w.heap.size, 2, none⟩ = some (.slice A L.length cap) := BX6.out.cell 2
    have q0 : w5.cell? ⟨w4.heap.size, 0, none⟩ = some (.int .i64 W) := BQ6.out.cell 0
    have q1 : w5.cell? ⟨w4.heap.size, 1, none⟩ = some (.int .i64 H) := BQ6.out.cell 1
    have q2 : w5.cell? ⟨w4.heap.size, 2, none⟩ = some (.slice (some ⟨g1, 0, none⟩) L.length L.length) := BQ6.out.cell 2
    have BXd : Hid (Blk w5.drew w.heap.size 44 #[.int .i64 W, .int .i64 H, .slice A L.length cap]) := BX6.out
    have BQd : Hid (Blk w5.drew w4.heap.size 33 (meshC W H (some ⟨g1, 0, none⟩) L.length L.length)) := BQ6.out
    have Id : Hid (IntAt w5.drew w5.drew.heap.size (some ⟨g1, 0, none⟩) L.length L) := I6.out
    have Bd : Hid (Below w.heap.size w w5.drew) := below_drewN B6.out 1
    go_region_held3 (fun w' => w'.cell? ⟨w.heap.size, 0, none⟩ = some (.int .i64 W) ∧ w'.cell? ⟨w.heap.size, 1, none⟩ = some (.int .i64 H) ∧ w'.cell? ⟨w.heap.size, 2, none⟩ = some (.slice A L.length cap) ∧ w'.cell? ⟨w4.heap.size, 0, none⟩ = some (.int .i64 W) ∧ w'.cell? ⟨w4.heap.size, 1, none⟩ = some (.int .i64 H) ∧ w'.cell? ⟨w4.heap.size, 2, none⟩ = some (.slice (some ⟨g1, 0, none⟩) L.length L.length))
      (first | exact ⟨d0, d1, d2, q0, q1, q2⟩ | exact ⟨e0, e1, e2, r0, r1, r2⟩ | exact ⟨f0, f1, f2, s0, s1, s2⟩)
      (first
        | (go_at_call 28; (with_reducible refine (lawsToMesh W H A L.length cap L _ ((HI.out.below Bd.out).more Bd.out.size) hn).mono ?_); rintro e w7 ⟨g2, rfl, o7, b7⟩; have kx := BXd.out.below b7 BXd.out.lt; have kq := BQd.out.below b7 BQd.out.lt; have e0 : w7.cell? ⟨w.heap.size, 0, none⟩ = some (.int .i64 W) := kx.cell 0; have e1 : w7.cell? ⟨w.heap.size, 1, none⟩ = some (.int .i64 H) := kx.cell 1; have e2 : w7.cell? ⟨w.heap.size, 2, none⟩ = some (.slice A L.length cap) := kx.cell 2; have r0 : w7.cell? ⟨w4.heap.size, 0, none⟩ = some (.int .i64 W) := kq.cell 0; have r1 : w7.cell? ⟨w4.heap.size, 1, none⟩ = some (.int .i64 H) := kq.cell 1; have r2 : w7.cell? ⟨w4.heap.size, 2, none⟩ = some (.slice (some ⟨g1, 0, none⟩) L.length L.length) := kq.cell 2; have BX7 := Lib.hid kx; have BQ7 := Lib.hid kq; have I7 := Lib.hid (intAt_own o7 rfl (Nat.le_refl _)); have B7 := Lib.hid b7; clear kx kq o7 b7)
        | (go_at_call 29; (with_reducible refine (lawsEqMesh W H (some ⟨g1, 0, none⟩) (some ⟨g2, 0, none⟩) L.length L.length L.length _ _ L _ (Id.out.below B7.out) I7.out B7.out.size (Nat.le_refl _) (by omega)).mono ?_); rintro e w8 ⟨rfl, hg8⟩; have kx := BX7.out.grown hg8 (by simp); have kq := BQ7.out.grown hg8 (by simp); have f0 : w8.cell? ⟨w.heap.size, 0, none⟩ = some (.int .i64 W) := kx.cell 0; have f1 : w8.cell? ⟨w.heap.size, 1, none⟩ = some (.int .i64 H) := kx.cell 1; have f2 : w8.cell? ⟨w.heap.size, 2, none⟩ = some (.slice A L.length cap) := kx.cell 2; have s0 : w8.cell? ⟨w4.heap.size, 0, none⟩ = some (.int .i64 W) := kq.cell 0; have s1 : w8.cell? ⟨w4.heap.size, 1, none⟩ = some (.int .i64 H) := kq.cell 1; have s2 : w8.cell? ⟨w4.heap.size, 2, none⟩ = some (.slice (some ⟨g1, 0, none⟩) L.length L.length) := kq.cell 2; have BX8 := Lib.hid kx; have BQ8 := Lib.hid kq; have HG8 := Lib.hid hg8; clear kx kq hg8)
        | fail)
    all_goals
      go_wp2_with fail
      go_ret
      exact ⟨rfl, Bd.out.trans ((B7.out.mono Bd.out.size).trans (gb_below_none HG8.out (Nat.le_trans Bd.out.size B7.out.size)))⟩

theorem walk_FnExactHasChannel (W H : Int) (A : Option Addr) (n cap : Nat) (L : List Int) (c : Int) (w : World) (hw : (Lit.int .i64 W).wf = true) (hh : (Lit.int .i64 H).wf = true) (hnc : n ≤ cap) (hcm : cap ≤ maxLen) (h : IntAt w w.heap.size A n L) (hl : ∀ x ∈ L, (Lit.int .i64 x).wf = true) (hc : (Lit.int .i64 c).wf = true) :
    Calls Try.prog 8 #[.agg #[.int .i64 W, .int .i64 H, .slice A n cap], .int .i64 c] w fun e w' => e = .returned (.bool true) ∧ Below w.heap.size w w' := by
  have hn9 : n ≤ 9223372036854775807 := Nat.le_trans hnc (Nat.le_trans hcm (by decide))
  have hLn := h.1
  have HI := Lib.hid h
  have HWF := Lib.hid (show WfL L from hl)
  have HCW := Lib.hid hc
  clear hw hh hl hc hnc hcm h
  subst hLn
  by_cases hbig : (1048576 : Int) < (L.length : Int)
  · go_enter Try.func8, Try.ntmps8
    go_wp2_with fail
    refine (lawsSzMesh W H A L.length cap 1048576 _ hn9 (by omega) (by omega)).mono ?_
    rintro e w1 ⟨rfl, hg1⟩
    rw [if_pos hbig]
    have Hg1 := Lib.hid (box_gb hg1)
    clear hg1
    go_wp2_with fail
    go_ret
    exact ⟨rfl, gb_below_none Hg1.out (Nat.le_refl _)⟩
  · have hn : L.length ≤ 1048576 := by omega
    go_enter Try.func8, Try.ntmps8
    go_wp2_with fail
    refine (lawsSzMesh W H A L.length cap 1048576 _ hn9 (by omega) (by omega)).mono ?_
    rintro e w1 ⟨rfl, hg1⟩
    rw [if_neg (by omega)]
    have BX := Lib.hid (box_blk hg1)
    have B1 := Lib.hid (gb_below_none (box_gb hg1) (Nat.le_refl _))
    have hlt1 := Lib.hid BX.out.lt
    have a0 : w1.cell? ⟨w.heap.size, 0, none⟩ = some (.int .i64 W) := BX.out.cell 0
    have a1 : w1.cell? ⟨w.heap.size, 1, none⟩ = some (.int .i64 H) := BX.out.cell 1
    have a2 : w1.cell? ⟨w.heap.size, 2, none⟩ = some (.slice A L.length cap) := BX.out.cell 2
    clear hg1
    go_wp2_with fail
    refine (lawsToMesh W H A L.length cap L _ ((HI.out.below B1.out).more B1.out.size) hn).mono ?_
    rintro e w2 ⟨g0, rfl, o2, b2⟩
    have I2 := Lib.hid (intAt_own o2 rfl (Nat.le_refl _))
    have BX2 := Lib.hid (BX.out.below b2 hlt1.out)
    have B2 := Lib.hid (B1.out.trans (b2.mono B1.out.size))
    clear o2 b2 a0 a1 a2
    go_wp2_with fail
    refine (specHasChannel W H (some ⟨g0, 0, none⟩) L.length L.length L c _ I2.out (by omega)).mono ?_
    rintro e w3 ⟨rfl, hg3⟩
    have BX3 := Lib.hid (BX2.out.grown hg3 (by simp))
    have B3 := Lib.hid (B2.out.trans (gb_below_none hg3 B2.out.size))
    clear hg3
    have a0 : w3.cell? ⟨w.heap.size, 0, none⟩ = some (.int .i64 W) := BX3.out.cell 0
    have a1 : w3.cell? ⟨w.heap.size, 1, none⟩ = some (.int .i64 H) := BX3.out.cell 1
    have a2 : w3.cell? ⟨w.heap.size, 2, none⟩ = some (.slice A L.length cap) := BX3.out.cell 2
    go_wp2_with fail
    refine (lawsToMesh W H A L.length cap L _ ((HI.out.below B3.out).more B3.out.size) hn).mono ?_
    rintro e w4 ⟨g1, rfl, o4, b4⟩
    have I4 := Lib.hid (intAt_own o4 rfl (Nat.le_refl _))
    have O4 := Lib.hid o4
    have BX4 := Lib.hid (BX3.out.below b4 BX3.out.lt)
    have B4 := Lib.hid (B3.out.trans (b4.mono B3.out.size))
    skip
    clear o4 b4 a0 a1 a2
    go_wp2_with fail
    have I5 := Lib.hid (show IntAt (w4.alloc (.cells (meshC W H (some ⟨g1, 0, none⟩) L.length L.length) 33)) (w4.alloc (.cells (meshC W H (some ⟨g1, 0, none⟩) L.length L.length) 33)).heap.size (some ⟨g1, 0, none⟩) L.length L from
      (I4.out.none (Nat.le_refl _) (gb_alloc (gb_refl _ _) _)).more (by simp))
    have BQ := Lib.hid (Blk.new w4 33 (meshC W H (some ⟨g1, 0, none⟩) L.length L.length))
    have BX5 := Lib.hid (BX4.out.alloc (.cells (meshC W H (some ⟨g1, 0, none⟩) L.length L.length) 33))
    have B5 := Lib.hid (B4.out.alloc B4.out.size (.cells (meshC W H (some ⟨g1, 0, none⟩) L.length L.length) 33))
    refine (implHasChannel W H (some ⟨g1, 0, none⟩) L.length L.length L c HWF.out HCW.out _ I5.out (by omega)).mono ?_
    rintro e w5 ⟨rfl, hg5⟩
    have BX6 := Lib.hid (BX5.out.grown hg5 (by simp))
    have BQ6 := Lib.hid (BQ.out.grown hg5 (by simp))
    have B6 := Lib.hid (B5.out.trans (gb_below_none hg5 B5.out.size))
    have I6 := Lib.hid ((I5.out.none (Nat.le_refl _) hg5).more (B' := w5.heap.size) hg5.size)
    clear hg5
    go_wp2_with fail
    have d0 : w5.cell? ⟨w.heap.size, 0, none⟩ = some (.int .i64 W) := BX6.out.cell 0
    have d1 : w5.cell? ⟨w.heap.size, 1, none⟩ = some (.int .i64 H) := BX6.out.cell 1
    have d2 : w5.cell? ⟨w.heap.size, 2, none⟩ = some (.slice A L.length cap) := BX6.out.cell 2
    have q0 : w5.cell? ⟨w4.heap.size, 0, none⟩ = some (.int .i64 W) := BQ6.out.cell 0
    have q1 : w5.cell? ⟨w4.heap.size, 1, none⟩ = some (.int .i64 H) := BQ6.out.cell 1
    have q2 : w5.cell? ⟨w4.heap.size, 2, none⟩ = some (.slice (some ⟨g1, 0, none⟩) L.length L.length) := BQ6.out.cell 2
    have BXd : Hid (Blk w5.drew w.heap.size 44 #[.int .i64 W, .int .i64 H, .slice A L.length cap]) := BX6.out
    have BQd : Hid (Blk w5.drew w4.heap.size 33 (meshC W H (some ⟨g1, 0, none⟩) L.length L.length)) := BQ6.out
    have Id : Hid (IntAt w5.drew w5.drew.heap.size (some ⟨g1, 0, none⟩) L.length L) := I6.out
    have Bd : Hid (Below w.heap.size w w5.drew) := below_drewN B6.out 1
    go_region_held3 (fun w' => w'.cell? ⟨w.heap.size, 0, none⟩ = some (.int .i64 W) ∧ w'.cell? ⟨w.heap.size, 1, none⟩ = some (.int .i64 H) ∧ w'.cell? ⟨w.heap.size, 2, none⟩ = some (.slice A L.length cap) ∧ w'.cell? ⟨w4.heap.size, 0, none⟩ = some (.int .i64 W) ∧ w'.cell? ⟨w4.heap.size, 1, none⟩ = some (.int .i64 H) ∧ w'.cell? ⟨w4.heap.size, 2, none⟩ = some (.slice (some ⟨g1, 0, none⟩) L.length L.length))
      (first | exact ⟨d0, d1, d2, q0, q1, q2⟩ | exact ⟨e0, e1, e2, r0, r1, r2⟩ | exact ⟨f0, f1, f2, s0, s1, s2⟩)
      (first
        | (go_at_call 28; (with_reducible refine (lawsToMesh W H A L.length cap L _ ((HI.out.below Bd.out).more Bd.out.size) hn).mono ?_); rintro e w7 ⟨g2, rfl, o7, b7⟩; have kx := BXd.out.below b7 BXd.out.lt; have kq := BQd.out.below b7 BQd.out.lt; have e0 : w7.cell? ⟨w.heap.size, 0, none⟩ = some (.int .i64 W) := kx.cell 0; have e1 : w7.cell? ⟨w.heap.size, 1, none⟩ = some (.int .i64 H) := kx.cell 1; have e2 : w7.cell? ⟨w.heap.size, 2, none⟩ = some (.slice A L.length cap) := kx.cell 2; have r0 : w7.cell? ⟨w4.heap.size, 0, none⟩ = some (.int .i64 W) := kq.cell 0; have r1 : w7.cell? ⟨w4.heap.size, 1, none⟩ = some (.int .i64 H) := kq.cell 1; have r2 : w7.cell? ⟨w4.heap.size, 2, none⟩ = some (.slice (some ⟨g1, 0, none⟩) L.length L.length) := kq.cell 2; have BX7 := Lib.hid kx; have BQ7 := Lib.hid kq; have I7 := Lib.hid (intAt_own o7 rfl (Nat.le_refl _)); have B7 := Lib.hid b7; clear kx kq o7 b7)
        | (go_at_call 29; (with_reducible refine (lawsEqMesh W H (some ⟨g1, 0, none⟩) (some ⟨g2, 0, none⟩) L.length L.length L.length _ _ L _ (Id.out.below B7.out) I7.out B7.out.size (Nat.le_refl _) (by omega)).mono ?_); rintro e w8 ⟨rfl, hg8⟩; have kx := BX7.out.grown hg8 (by simp); have kq := BQ7.out.grown hg8 (by simp); have f0 : w8.cell? ⟨w.heap.size, 0, none⟩ = some (.int .i64 W) := kx.cell 0; have f1 : w8.cell? ⟨w.heap.size, 1, none⟩ = some (.int .i64 H) := kx.cell 1; have f2 : w8.cell? ⟨w.heap.size, 2, none⟩ = some (.slice A L.length cap) := kx.cell 2; have s0 : w8.cell? ⟨w4.heap.size, 0, none⟩ = some (.int .i64 W) := kq.cell 0; have s1 : w8.cell? ⟨w4.heap.size, 1, none⟩ = some (.int .i64 H) := kq.cell 1; have s2 : w8.cell? ⟨w4.heap.size, 2, none⟩ = some (.slice (some ⟨g1, 0, none⟩) L.length L.length) := kq.cell 2; have BX8 := Lib.hid kx; have BQ8 := Lib.hid kq; have HG8 := Lib.hid hg8; clear kx kq hg8)
        | fail)
    all_goals
      go_wp2_with fail
      go_ret
      exact ⟨rfl, Bd.out.trans ((B7.out.mono Bd.out.size).trans (gb_below_none HG8.out (Nat.le_trans Bd.out.size B7.out.size)))⟩

end Go.Proofs.Ytidcmoflnimkiaa
