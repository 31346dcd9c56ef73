/- What is proved here: the exact law on Channels answers true, for every argument; only new blocks are written. -/
import Derived.Test.YtidcmoflnimkiaaMeshLaws
namespace Go.Proofs.Ytidcmoflnimkiaa
open Go.ChangeShapes Go.WideShapes Go.ChangeAt Go.RowKit
set_option linter.unusedVariables false

theorem walk_FnExactChannels (W H : Int) (A : Option Addr) (n cap : Nat) (L : List Int) (w : World) (hw : (Lit.int .i64 W).wf = true) (hh : (Lit.int .i64 H).wf = true) (hnc : n ≤ cap) (hcm : cap ≤ maxLen) (h : IntAt w w.heap.size A n L) (hl : ∀ x ∈ L, (Lit.int .i64 x).wf = true) :
    Calls Try.prog 9 #[.agg #[.int .i64 W, .int .i64 H, .slice A n cap]] w fun e w' => e = .returned (.bool true) ∧ Below w.heap.size w w' := by
  have hn9 : n ≤ 9223372036854775807 := Nat.le_trans hnc (Nat.le_trans hcm (by decide))
  have hLn := h.1
  have HI := Lib.hid h
  have HWF := Lib.hid (show WfL L from hl)
  clear hw hh hl hnc hcm h
  subst hLn
  by_cases hbig : (1048576 : Int) < (L.length : Int)
  · go_enter Try.func9, Try.ntmps9
    go_wp2_with fail
    refine (lawsSzMesh W H A L.length cap 1048576 _ hn9 (by omega) (by omega)).mono ?_
    rintro e w1 ⟨rfl, hg1⟩
    rw [if_pos hbig]
    have Hg1 := Lib.hid (box_gb hg1)
    clear hg1
    go_wp2_with fail
    go_ret
    exact ⟨rfl, gb_below_none Hg1.out (Nat.le_refl _)⟩
  · have hn : L.length ≤ 1048576 := by omega
    go_enter Try.func9, Try.ntmps9
    go_wp2_with fail
    refine (lawsSzMesh W H A L.length cap 1048576 _ hn9 (by omega) (by omega)).mono ?_
    rintro e w1 ⟨rfl, hg1⟩
    rw [if_neg (by omega)]
    have BX := Lib.hid (box_blk hg1)
    have B1 := Lib.hid (gb_below_none (box_gb hg1) (Nat.le_refl _))
    have hlt1 := Lib.hid BX.out.lt
    have a0 : w1.cell? ⟨w.heap.size, 0, none⟩ = some (.int .i64 W) := BX.out.cell 0
    have a1 : w1.cell? ⟨w.heap.size, 1, none⟩ = some (.int .i64 H) := BX.out.cell 1
    have a2 : w1.cell? ⟨w.heap.size, 2, none⟩ = some (.slice A L.length cap) := BX.out.cell 2
    clear hg1
    go_wp2_with fail
    refine (lawsToMesh W H A L.length cap L _ ((HI.out.below B1.out).more B1.out.size) hn).mono ?_
    rintro e w2 ⟨g0, rfl, o2, b2⟩
    have I2 := Lib.hid (intAt_own o2 rfl (Nat.le_refl _))
    have BX2 := Lib.hid (BX.out.below b2 hlt1.out)
    have B2 := Lib.hid (B1.out.trans (b2.mono B1.out.size))
    clear o2 b2 a0 a1 a2
    go_wp2_with fail
    refine (specChannels W H (some ⟨g0, 0, none⟩) L.length L.length L _ I2.out (by omega)).mono ?_
    rintro e w3 ⟨v3, rfl, o3, b3⟩
    have O3 := Lib.hid o3
    have BX3 := Lib.hid (BX2.out.below b3 BX2.out.lt)
    have B3 := Lib.hid (B2.out.trans (b3.mono B2.out.size))
    clear o3 b3
    have a0 : w3.cell? ⟨w.heap.size, 0, none⟩ = some (.int .i64 W) := BX3.out.cell 0
    have a1 : w3.cell? ⟨w.heap.size, 1, none⟩ = some (.int .i64 H) := BX3.out.cell 1
    have a2 : w3.cell? ⟨w.heap.size, 2, none⟩ = some (.slice A L.length cap) := BX3.out.cell 2
    go_wp2_with fail
    refine (lawsToMesh W H A L.length cap L _ ((HI.out.below B3.out).more B3.out.size) hn).mono ?_
    rintro e w4 ⟨g1, rfl, o4, b4⟩
    have I4 := Lib.hid (intAt_own o4 rfl (Nat.le_refl _))
    have O4 := Lib.hid o4
    have BX4 := Lib.hid (BX3.out.below b4 BX3.out.lt)
    have B4 := Lib.hid (B3.out.trans (b4.mono B3.out.size))
    have O3b := Lib.hid (own_below O3.out b4)
    clear o4 b4 a0 a1 a2
    go_wp2_with fail
    have I5 := Lib.hid (show IntAt (w4.alloc (.cells (meshC W H (some ⟨g1, 0, none⟩) L.length L.length) 33)) (w4.alloc (.cells (meshC W H (some ⟨g1, 0, none⟩) L.length L.length) 33)).heap.size (some ⟨g1, 0, none⟩) L.length L from
      (I4.out.none (Nat.le_refl _) (gb_alloc (gb_refl _ _) _)).more (by simp))
    have BQ := Lib.hid (Blk.new w4 33 (meshC W H (some ⟨g1, 0, none⟩) L.length L.length))
    have BX5 := Lib.hid (BX4.out.alloc (.cells (meshC W H (some ⟨g1, 0, none⟩) L.length L.length) 33))
    have B5 := Lib.hid (B4.out.alloc B4.out.size (.cells (meshC W H (some ⟨g1, 0, none⟩) L.length L.length) 33))
    have O3c := Lib.hid (O3b.out.alloc (.cells (meshC W H (some ⟨g1, 0, none⟩) L.length L.length) 33))
    have O4c := Lib.hid (O4.out.alloc (.cells (meshC W H (some ⟨g1, 0, none⟩) L.length L.length) 33))
    have hs4 : (w4.alloc (.cells (meshC W H (some ⟨g1, 0, none⟩) L.length L.length) 33)).heap.size = w4.heap.size + 1 := alloc_size _ _
    have HS4 := Lib.hid hs4
    clear hs4
    refine (implChannels W H (some ⟨g1, 0, none⟩) L.length L.length L HWF.out _ I5.out (by omega)).mono ?_
    rintro e w5 ⟨v5, rfl, o5, b5⟩
    have BX6 := Lib.hid (BX5.out.below b5 BX5.out.lt)
    have BQ6 := Lib.hid (BQ.out.below b5 BQ.out.lt)
    have B6 := Lib.hid (B5.out.trans (b5.mono B5.out.size))
    have I6 := Lib.hid ((I5.out.below b5).more (B' := w5.heap.size) b5.size)
    have O3d := Lib.hid (own_below O3c.out b5)
    have O4d := Lib.hid (own_below O4c.out b5)
    have O5 := Lib.hid o5
    clear o5 b5
    go_wp2_with fail
    have hq64 := chansG_le W H L
    refine (lawsEqOwn v5 v3 _ _ (chansG W H L) _ O5.out O3d.out (by omega)).mono ?_
    rintro e w6 ⟨rfl, hg6⟩
    have BX6b := Lib.hid (BX6.out.grown hg6 (by simp))
    have BQ6b := Lib.hid (BQ6.out.grown hg6 (by simp))
    have B6b := Lib.hid (B6.out.trans (gb_below_none hg6 B6.out.size))
    have I6b := Lib.hid ((I6.out.none (Nat.le_refl _) hg6).more (B' := w6.heap.size) hg6.size)
    have O3e := Lib.hid (own_none O3d.out hg6)
    have O4e := Lib.hid (own_none O4d.out hg6)
    have O5e := Lib.hid (own_none O5.out hg6)
    clear hg6
    go_wp2_with fail
    have d0 : w6.cell? ⟨w.heap.size, 0, none⟩ = some (.int .i64 W) := BX6b.out.cell 0
    have d1 : w6.cell? ⟨w.heap.size, 1, none⟩ = some (.int .i64 H) := BX6b.out.cell 1
    have d2 : w6.cell? ⟨w.heap.size, 2, none⟩ = some (.slice A L.length cap) := BX6b.out.cell 2
    have q0 : w6.cell? ⟨w4.heap.size, 0, none⟩ = some (.int .i64 W) := BQ6b.out.cell 0
    have q1 : w6.cell? ⟨w4.heap.size, 1, none⟩ = some (.int .i64 H) := BQ6b.out.cell 1
    have q2 : w6.cell? ⟨w4.heap.size, 2, none⟩ = some (.slice (some ⟨g1, 0, none⟩) L.length L.length) := BQ6b.out.cell 2
    have BXd : Hid (Blk w6.drew w.heap.size 44 #[.int .i64 W, .int .i64 H, .slice A L.length cap]) := BX6b.out
    have BQd : Hid (Blk w6.drew w4.heap.size 33 (meshC W H (some ⟨g1, 0, none⟩) L.length L.length)) := BQ6b.out
    have Id : Hid (IntAt w6.drew w6.drew.heap.size (some ⟨g1, 0, none⟩) L.length L) := I6b.out
    have Bd : Hid (Below w.heap.size w w6.drew) := below_drewN B6b.out 1
    go_region_held3 (fun w' => w'.cell? ⟨w.heap.size, 0, none⟩ = some (.int .i64 W) ∧ w'.cell? ⟨w.heap.size, 1, none⟩ = some (.int .i64 H) ∧ w'.cell? ⟨w.heap.size, 2, none⟩ = some (.slice A L.length cap) ∧ w'.cell? ⟨w4.heap.size, 0, none⟩ = some (.int .i64 W) ∧ w'.cell? ⟨w4.heap.size, 1, none⟩ = some (.int .i64 H) ∧ w'.cell? ⟨w4.heap.size, 2, none⟩ = some (.slice (some ⟨g1, 0, none⟩) L.length L.length))
      (first | exact ⟨d0, d1, d2, q0, q1, q2⟩ | exact ⟨e0, e1, e2, r0, r1, r2⟩ | exact ⟨f0, f1, f2, s0, s1, s2⟩)
      (first
        | (go_at_call 28; (with_reducible refine (lawsToMesh W H A L.length cap L _ ((HI.out.below Bd.out).more Bd.out.size) hn).mono ?_); rintro e w7 ⟨g2, rfl, o7, b7⟩; have kx := BXd.out.below b7 BXd.out.lt; have kq := BQd.out.below b7 BQd.out.lt; have e0 : w7.cell? ⟨w.heap.size, 0, none⟩ = some (.int .i64 W) := kx.cell 0; have e1 : w7.cell? ⟨w.heap.size, 1, none⟩ = some (.int .i64 H) := kx.cell 1; have e2 : w7.cell? ⟨w.heap.size, 2, none⟩ = some (.slice A L.length cap) := kx.cell 2; have r0 : w7.cell? ⟨w4.heap.size, 0, none⟩ = some (.int .i64 W) := kq.cell 0; have r1 : w7.cell? ⟨w4.heap.size, 1, none⟩ = some (.int .i64 H) := kq.cell 1; have r2 : w7.cell? ⟨w4.heap.size, 2, none⟩ = some (.slice (some ⟨g1, 0, none⟩) L.length L.length) := kq.cell 2; have BX7 := Lib.hid kx; have BQ7 := Lib.hid kq; have I7 := Lib.hid (intAt_own o7 rfl (Nat.le_refl _)); have B7 := Lib.hid b7; clear kx kq o7 b7)
        | (go_at_call 29; (with_reducible refine (lawsEqMesh W H (some ⟨g1, 0, none⟩) (some ⟨g2, 0, none⟩) L.length L.length L.length _ _ L _ (Id.out.below B7.out) I7.out B7.out.size (Nat.le_refl _) (by omega)).mono ?_); rintro e w8 ⟨rfl, hg8⟩; have kx := BX7.out.grown hg8 (by simp); have kq := BQ7.out.grown hg8 (by simp); have f0 : w8.cell? ⟨w.heap.size, 0, none⟩ = some (.int .i64 W) := kx.cell 0; have f1 : w8.cell? ⟨w.heap.size, 1, none⟩ = some (.int .i64 H) := kx.cell 1; have f2 : w8.cell? ⟨w.heap.size, 2, none⟩ = some (.slice A L.length cap) := kx.cell 2; have s0 : w8.cell? ⟨w4.heap.size, 0, none⟩ = some (.int .i64 W) := kq.cell 0; have s1 : w8.cell? ⟨w4.heap.size, 1, none⟩ = some (.int .i64 H) := kq.cell 1; have s2 : w8.cell? ⟨w4.heap.size, 2, none⟩ = some (.slice (some ⟨g1, 0, none⟩) L.length L.length) := kq.cell 2; have BX8 := Lib.hid kx; have BQ8 := Lib.hid kq; have HG8 := Lib.hid hg8; clear kx kq hg8)
        | fail)
    all_goals
      have O3f : Hid (w6.drew.ownsRow _ _ _ _ _ _) := O3e.out
      have O4f : Hid (w6.drew.ownsRow _ _ _ _ _ _) := O4e.out
      have O5f : Hid (w6.drew.ownsRow _ _ _ _ _ _) := O5e.out
      have O3g := Lib.hid (own_none (own_below O3f.out B7.out) HG8.out)
      have O4g := Lib.hid (own_none (own_below O4f.out B7.out) HG8.out)
      have O5g := Lib.hid (own_none (own_below O5f.out B7.out) HG8.out)
      have B8 := Lib.hid (Bd.out.trans ((B7.out.mono Bd.out.size).trans (gb_below_none HG8.out (Nat.le_trans Bd.out.size B7.out.size))))
      go_wp2_with fail
      have hg1r := O4.out.lt g1 rfl
      have hw13 : w.heap.size < w3.heap.size := BX3.out.lt
      refine (lawsMarkMesh W H _ _ L.length 1 L _ O4g.out (by omega)).mono ?_
      rintro e w9 ⟨rfl, o9, g9⟩
      have O3h := Lib.hid (own_apart O3g.out (fun k hk => (O3.out.lt k hk).2) O4g.out g9)
      have O5h := Lib.hid (O5g.out.kept g9 (.inr (fun e => by have h1 := (O5.out.lt g1 e).1; have h2 := HS4.out; omega)))
      have BX9 := Lib.hid (BX8.out.grown g9 (fun e => by have h : w.heap.size = g1 := Option.some.inj e; omega))
      have B9 := Lib.hid (B8.out.grown g9 B8.out.size (fun k e => by have h : g1 = k := Option.some.inj e; omega))
      clear o9 g9
      go_wp2_with fail
      refine (lawsEqOwn v5 v3 _ _ (chansG W H L) _ O5h.out O3h.out (by omega)).mono ?_
      rintro e w10 ⟨rfl, hg10⟩
      have O3i := Lib.hid (own_none O3h.out hg10)
      have O5i := Lib.hid (own_none O5h.out hg10)
      have BX10 := Lib.hid (BX9.out.grown hg10 (by simp))
      have B10 := Lib.hid (B9.out.trans (gb_below_none hg10 B9.out.size))
      clear hg10
      go_wp2_with fail
      refine (lawsMarkI v5 _ (chansG W H L).length 1 _ _ O5i.out (by omega)).mono ?_
      rintro e w11 ⟨rfl, o11, g11⟩
      have O3j := Lib.hid (own_apart O3i.out (fun k hk => by have h1 := (O3.out.lt k hk).2; have h2 := HS4.out; have h3 := hg1r; omega) O5i.out g11)
      have O5j := Lib.hid o11
      have BX11 := Lib.hid (BX10.out.grown g11 (fun e => by have h1 := (O5.out.lt _ e.symm).1; have h2 := HS4.out; omega))
      have B11 := Lib.hid (B10.out.grown g11 B10.out.size (fun k e => by have h1 := (O5.out.lt k e).1; have h2 := HS4.out; omega))
      clear o11 g11
      go_wp2_with fail
      refine (lawsHeldOwn v5 _ (chansG W H L).length 1 _ O5j.out (by omega)).mono ?_
      rintro e w12 ⟨rfl, hg12⟩
      have O3k := Lib.hid (own_none O3j.out hg12)
      have O5k := Lib.hid (own_none O5j.out hg12)
      have kx := BX11.out.grown hg12 (by simp)
      have B12 := Lib.hid (B11.out.trans (gb_below_none hg12 B11.out.size))
      have c0 : w12.cell? ⟨w.heap.size, 0, none⟩ = some (.int .i64 W) := kx.cell 0
      have c1 : w12.cell? ⟨w.heap.size, 1, none⟩ = some (.int .i64 H) := kx.cell 1
      have c2 : w12.cell? ⟨w.heap.size, 2, none⟩ = some (.slice A L.length cap) := kx.cell 2
      clear hg12 kx
      go_wp2_with fail
      refine (lawsToMesh W H A L.length cap L _ ((HI.out.below B12.out).more B12.out.size) hn).mono ?_
      rintro e w13 ⟨g3, rfl, o13, b13⟩
      have I13 := Lib.hid (intAt_own o13 rfl (Nat.le_refl _))
      have O3l := Lib.hid (own_below O3k.out b13)
      have O5l := Lib.hid (own_below O5k.out b13)
      have B13 := Lib.hid (B12.out.trans (b13.mono B12.out.size))
      clear o13 b13 c0 c1 c2
      go_wp2_with fail
      refine (implChannels W H (some ⟨g3, 0, none⟩) L.length L.length L HWF.out _ I13.out (by omega)).mono ?_
      rintro e w14 ⟨v6, rfl, o14, b14⟩
      have O6 := Lib.hid o14
      have O3m := Lib.hid (own_below O3l.out b14)
      have O5m := Lib.hid (own_below O5l.out b14)
      have B14 := Lib.hid (B13.out.trans (b14.mono B13.out.size))
      clear o14 b14
      go_wp2_with fail
      refine (lawsEqOwn v6 v3 _ _ (chansG W H L) _ O6.out O3m.out (by omega)).mono ?_
      rintro e w15 ⟨rfl, hg15⟩
      have O5n := Lib.hid (own_none O5m.out hg15)
      have B15 := Lib.hid (B14.out.trans (gb_below_none hg15 B14.out.size))
      clear hg15
      go_wp2_with fail
      refine (lawsHeldOwn v5 _ (chansG W H L).length 1 _ O5n.out (by omega)).mono ?_
      rintro e w16 ⟨rfl, hg16⟩
      have B16 := Lib.hid (B15.out.trans (gb_below_none hg16 B15.out.size))
      clear hg16
      go_wp2_with fail
      go_ret
      exact ⟨rfl, B16.out⟩
end Go.Proofs.Ytidcmoflnimkiaa
