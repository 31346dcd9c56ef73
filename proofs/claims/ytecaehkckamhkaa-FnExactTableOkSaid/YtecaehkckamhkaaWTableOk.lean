/- What is proved here: the exact law on TableOk answers true, for every argument; only new blocks are written. -/
import Derived.Test.YtecaehkckamhkaaTabB
import Derived.Test.YtecaehkckamhkaaTokV
import Derived.Test.YtecaehkckamhkaaTabI
namespace Go.Proofs.Ytecaehkckamhkaa
open Go.ChangeShapes Go.WideShapes Go.ChangeAt Go.RowKit
set_option linter.unusedVariables false

theorem walk_FnExactTableOk (W H : Int) (A : Option Addr) (n cap : Nat) (L : List Int) (A2 : Option Addr) (n2 c2 : Nat) (P : List Int) (w : World) (hw : (Lit.int .i64 W).wf = true) (hh : (Lit.int .i64 H).wf = true) (hnc : n ≤ cap) (hcm : cap ≤ maxLen) (h : IntAt w w.heap.size A n L) (hl : ∀ x ∈ L, (Lit.int .i64 x).wf = true) (hnc2 : n2 ≤ c2) (hcm2 : c2 ≤ maxLen) (h2 : IntAt w w.heap.size A2 n2 P) (hl2 : ∀ x ∈ P, (Lit.int .i64 x).wf = true) :
    Calls Try.prog 3 #[.agg #[.int .i64 W, .int .i64 H, .slice A n cap], .agg #[.slice A2 n2 c2]] w fun e w' => e = .returned (.bool true) ∧ Below w.heap.size w w' := by
  have hn9 : n ≤ 9223372036854775807 := Nat.le_trans hnc (Nat.le_trans hcm (by decide))
  have hm9 : n2 ≤ 9223372036854775807 := Nat.le_trans hnc2 (Nat.le_trans hcm2 (by decide))
  have hLn := h.1
  have hPn := h2.1
  have HI := Lib.hid h
  have HP := Lib.hid h2
  have HWF := Lib.hid (show WfL L from hl)
  clear hw hh hl hl2 hnc hcm hnc2 hcm2 h h2
  subst hLn
  subst hPn
  by_cases hbig : (1048576 : Int) < (L.length : Int)
  · go_enter Try.func3, Try.ntmps3
    go_wp2_with fail
    refine (lawsSzMesh W H A L.length cap 1048576 _ hn9 (by omega) (by omega)).mono ?_
    rintro e w1 ⟨rfl, hg1⟩
    rw [if_pos hbig]
    have B1 := Lib.hid (show LawB W H A A2 L.length cap P.length c2 w w1 from LawB.first hg1)
    clear hg1
    go_wp2_with fail
    go_ret
    exact ⟨rfl, B1.out.old⟩
  · have hn : L.length ≤ 1048576 := by omega
    obtain ⟨q, hq⟩ : ∃ q : Int, (1048576 : Int) - (L.length : Int) = q := ⟨_, rfl⟩
    have hq0 : ¬ q < 0 := by omega
    have hq1 : q ≤ 1048576 := by omega
    by_cases hbig2 : q < (P.length : Int)
    · go_enter Try.func3, Try.ntmps3
      go_wp2_with fail
      refine (lawsSzMesh W H A L.length cap 1048576 _ hn9 (by omega) (by omega)).mono ?_
      rintro e w1 ⟨rfl, hg1⟩
      rw [if_neg (by omega), hq]
      have B1 := Lib.hid (show LawB W H A A2 L.length cap P.length c2 w w1 from LawB.first hg1)
      have a3 : w1.cell? ⟨w.heap.size + 1, 0, none⟩ = some (.slice A2 P.length c2) := B1.out.table.cell 0
      clear hg1 hq
      go_wp2_with fail
      refine (lawsSzTable A2 P.length c2 q _ hm9 (by omega) hq1).mono ?_
      rintro e w2 ⟨rfl, hg2⟩
      rw [if_pos hbig2]
      have B2 := Lib.hid (B1.out.gb hg2)
      clear hg2
      go_wp2_with fail
      go_ret
      exact ⟨rfl, B2.out.old⟩
    · have hn2 : P.length ≤ 1048576 := by omega
      obtain ⟨q2, hq2⟩ : ∃ q2 : Int, q - (P.length : Int) = q2 := ⟨_, rfl⟩
      have hq20 : ¬ q2 < 0 := by omega
      go_enter Try.func3, Try.ntmps3
      go_wp2_with fail
      refine (lawsSzMesh W H A L.length cap 1048576 _ hn9 (by omega) (by omega)).mono ?_
      rintro e w1 ⟨rfl, hg1⟩
      rw [if_neg (by omega), hq]
      have B1 := Lib.hid (show LawB W H A A2 L.length cap P.length c2 w w1 from LawB.first hg1)
      have a3 : w1.cell? ⟨w.heap.size + 1, 0, none⟩ = some (.slice A2 P.length c2) := B1.out.table.cell 0
      clear hg1 hq
      go_wp2_with fail
      refine (lawsSzTable A2 P.length c2 q _ hm9 (by omega) hq1).mono ?_
      rintro e w2 ⟨rfl, hg2⟩
      rw [if_neg (by omega), hq2]
      have Bw2 := Lib.hid (B1.out.gb hg2)
      clear hg2 hq2 a3 hbig hbig2
      go_wp2_with fail
      obtain ⟨res, hres⟩ : ∃ r, tableG W H L P = r := ⟨_, rfl⟩
      have a0 : w2.cell? ⟨w.heap.size, 0, none⟩ = some (.int .i64 W) := Bw2.out.mesh.cell 0
      have a1 : w2.cell? ⟨w.heap.size, 1, none⟩ = some (.int .i64 H) := Bw2.out.mesh.cell 1
      have a2 : w2.cell? ⟨w.heap.size, 2, none⟩ = some (.slice A L.length cap) := Bw2.out.mesh.cell 2
      have a3 : w2.cell? ⟨w.heap.size + 1, 0, none⟩ = some (.slice A2 P.length c2) := Bw2.out.table.cell 0
      have Bw2d := Lib.hid Bw2.out.dr
      go_region_held3 (fun w' => w'.cell? ⟨w.heap.size, 0, none⟩ = some (.int .i64 W) ∧ w'.cell? ⟨w.heap.size, 1, none⟩ = some (.int .i64 H) ∧ w'.cell? ⟨w.heap.size, 2, none⟩ = some (.slice A L.length cap) ∧ w'.cell? ⟨w.heap.size + 1, 0, none⟩ = some (.slice A2 P.length c2))
        (first | exact ⟨a0, a1, a2, a3⟩ | exact ⟨j0, j1, j2, j3⟩ | exact ⟨k0, k1, k2, k3⟩ | exact ⟨l0, l1, l2, l3⟩)
        (first
          | (go_at_call 16; (with_reducible refine (lawsToMesh W H A L.length cap L _ (Bw2d.out.at HI.out) hn).mono ?_); rintro e w3 ⟨g6, rfl, o6, b6⟩; have Bw3 := Lib.hid (Bw2d.out.bl b6); have O6 := Lib.hid o6; have j0 : w3.cell? ⟨w.heap.size, 0, none⟩ = some (.int .i64 W) := Bw3.out.mesh.cell 0; have j1 : w3.cell? ⟨w.heap.size, 1, none⟩ = some (.int .i64 H) := Bw3.out.mesh.cell 1; have j2 : w3.cell? ⟨w.heap.size, 2, none⟩ = some (.slice A L.length cap) := Bw3.out.mesh.cell 2; have j3 : w3.cell? ⟨w.heap.size + 1, 0, none⟩ = some (.slice A2 P.length c2) := Bw3.out.table.cell 0; clear o6 b6)
          | (go_at_call 17; (with_reducible refine (lawsToTable A2 P.length c2 P _ (Bw3.out.at HP.out) hn2).mono ?_); rintro e w4 ⟨g7, rfl, o7, b7⟩; have Bw4 := Lib.hid (Bw3.out.bl b7); have O6b := Lib.hid (own_below O6.out b7); have O7 := Lib.hid o7; have k0 : w4.cell? ⟨w.heap.size, 0, none⟩ = some (.int .i64 W) := Bw4.out.mesh.cell 0; have k1 : w4.cell? ⟨w.heap.size, 1, none⟩ = some (.int .i64 H) := Bw4.out.mesh.cell 1; have k2 : w4.cell? ⟨w.heap.size, 2, none⟩ = some (.slice A L.length cap) := Bw4.out.mesh.cell 2; have k3 : w4.cell? ⟨w.heap.size + 1, 0, none⟩ = some (.slice A2 P.length c2) := Bw4.out.table.cell 0; clear o7 b7)
          | (go_at_call 15; (with_reducible refine ((fun w h h2 => show Calls Try.prog 15 #[.agg #[.int .i64 W, .int .i64 H, .slice (some ⟨g6, 0, none⟩) L.length L.length], .agg #[.slice (some ⟨g7, 0, none⟩) P.length P.length]] w (RetB res w) from hres ▸ specTableOk W H (some ⟨g6, 0, none⟩) (some ⟨g7, 0, none⟩) L.length L.length P.length P.length L P w h h2 (by omega) (by omega)) _ (intAt_own O6b.out rfl (Nat.le_refl _)) (intAt_own O7.out rfl (Nat.le_refl _))).mono ?_); rintro e w5 ⟨rfl, hg5⟩; have Bw5 := Lib.hid (Bw4.out.gb hg5); have l0 : w5.cell? ⟨w.heap.size, 0, none⟩ = some (.int .i64 W) := Bw5.out.mesh.cell 0; have l1 : w5.cell? ⟨w.heap.size, 1, none⟩ = some (.int .i64 H) := Bw5.out.mesh.cell 1; have l2 : w5.cell? ⟨w.heap.size, 2, none⟩ = some (.slice A L.length cap) := Bw5.out.mesh.cell 2; have l3 : w5.cell? ⟨w.heap.size + 1, 0, none⟩ = some (.slice A2 P.length c2) := Bw5.out.table.cell 0; clear hg5)
          | fail)
      all_goals
        go_wp2_with fail
        refine (lawsToMesh W H A L.length cap L _ (Bw5.out.at HI.out) hn).mono ?_
        rintro e w6 ⟨gm, rfl, o6x, b6x⟩
        have Bw6 := Lib.hid ((Bw5.out.bl b6x).gb (gb_alloc (gb_refl w6 _) (.cells #[.int .i64 W, .int .i64 H, .slice (some ⟨gm, 0, none⟩) L.length L.length] 34)))
        have OM6 := Lib.hid ((own_less o6x Bw5.out.le).alloc (.cells #[.int .i64 W, .int .i64 H, .slice (some ⟨gm, 0, none⟩) L.length L.length] 34))
        have KM6 := Lib.hid (Blk.new w6 34 #[.int .i64 W, .int .i64 H, .slice (some ⟨gm, 0, none⟩) L.length L.length])
        have c3 : (w6.alloc (.cells #[.int .i64 W, .int .i64 H, .slice (some ⟨gm, 0, none⟩) L.length L.length] 34)).cell? ⟨w.heap.size + 1, 0, none⟩ = some (.slice A2 P.length c2) := Bw6.out.table.cell 0
        obtain ⟨b0, hb0⟩ : ∃ b, w6.heap.size = b := ⟨_, rfl⟩
        have HB0 := Lib.hid hb0
        rw [hb0] at KM6
        clear o6x b6x l0 l1 l2 l3 hb0
        go_wp2_with fail
        refine (lawsToTable A2 P.length c2 P _ (Bw6.out.at HP.out) hn2).mono ?_
        rintro e w7 ⟨gp, rfl, o7x, b7x⟩
        have CW7 := Lib.hid (show LawC W H A A2 L.length cap P.length c2 L P w b0 w7.heap.size gm gp (w7.alloc (.cells #[.slice (some ⟨gp, 0, none⟩) P.length P.length] 36)) from
          ⟨(Bw6.out.bl b7x).gb (gb_alloc (gb_refl w7 _) _), (KM6.out.below b7x (by rw [← HB0.out]; simp)).alloc _, Blk.new w7 36 #[.slice (some ⟨gp, 0, none⟩) P.length P.length], (own_below OM6.out b7x).alloc _, (own_less o7x Bw6.out.le).alloc _⟩)
        have q0 : (w7.alloc (.cells #[.slice (some ⟨gp, 0, none⟩) P.length P.length] 36)).cell? ⟨b0, 0, none⟩ = some (.int .i64 W) := CW7.out.2.1.cell 0
        have q1 : (w7.alloc (.cells #[.slice (some ⟨gp, 0, none⟩) P.length P.length] 36)).cell? ⟨b0, 1, none⟩ = some (.int .i64 H) := CW7.out.2.1.cell 1
        have q2 : (w7.alloc (.cells #[.slice (some ⟨gp, 0, none⟩) P.length P.length] 36)).cell? ⟨b0, 2, none⟩ = some (.slice (some ⟨gm, 0, none⟩) L.length L.length) := CW7.out.2.1.cell 2
        clear o7x b7x c3
        (try rw [HB0.out])
        go_wp2_with fail
        obtain ⟨b1, hb1⟩ : ∃ b, w7.heap.size = b := ⟨_, rfl⟩
        rw [hb1] at CW7
        (try rw [hb1])
        clear hb1 q0 q1 q2
        refine (implTableOk W H (some ⟨gm, 0, none⟩) (some ⟨gp, 0, none⟩) L.length L.length P.length P.length L P HWF.out _ CW7.out.atM CW7.out.atP (by omega) (by omega)).mono ?_
        rintro e w8 ⟨rfl, hg8⟩
        have Cw8 := Lib.hid (CW7.out.gb hg8)
        rw [hres]
        clear hg8
        go_wp2_with fail
        have d0 : w8.cell? ⟨w.heap.size, 0, none⟩ = some (.int .i64 W) := Cw8.out.1.mesh.cell 0
        have d1 : w8.cell? ⟨w.heap.size, 1, none⟩ = some (.int .i64 H) := Cw8.out.1.mesh.cell 1
        have d2 : w8.cell? ⟨w.heap.size, 2, none⟩ = some (.slice A L.length cap) := Cw8.out.1.mesh.cell 2
        have q0 : w8.cell? ⟨b0, 0, none⟩ = some (.int .i64 W) := Cw8.out.2.1.cell 0
        have q1 : w8.cell? ⟨b0, 1, none⟩ = some (.int .i64 H) := Cw8.out.2.1.cell 1
        have q2 : w8.cell? ⟨b0, 2, none⟩ = some (.slice (some ⟨gm, 0, none⟩) L.length L.length) := Cw8.out.2.1.cell 2
        have Cw8d := Lib.hid Cw8.out.dr
        go_region_held3 (fun w' => w'.cell? ⟨w.heap.size, 0, none⟩ = some (.int .i64 W) ∧ w'.cell? ⟨w.heap.size, 1, none⟩ = some (.int .i64 H) ∧ w'.cell? ⟨w.heap.size, 2, none⟩ = some (.slice A L.length cap) ∧ w'.cell? ⟨b0, 0, none⟩ = some (.int .i64 W) ∧ w'.cell? ⟨b0, 1, none⟩ = some (.int .i64 H) ∧ w'.cell? ⟨b0, 2, none⟩ = some (.slice (some ⟨gm, 0, none⟩) L.length L.length))
          (first | exact ⟨d0, d1, d2, q0, q1, q2⟩ | exact ⟨e0, e1, e2, r0, r1, r2⟩ | exact ⟨f0, f1, f2, s0, s1, s2⟩)
          (first
            | (go_at_call 16; (with_reducible refine (lawsToMesh W H A L.length cap L _ (Cw8d.out.lb.at HI.out) hn).mono ?_); rintro e w9 ⟨g9, rfl, o9, b9⟩; have Cw9 := Lib.hid (Cw8d.out.bl b9); have O9 := Lib.hid (intAt_own o9 rfl (Nat.le_refl _)); have e0 : w9.cell? ⟨w.heap.size, 0, none⟩ = some (.int .i64 W) := Cw9.out.1.mesh.cell 0; have e1 : w9.cell? ⟨w.heap.size, 1, none⟩ = some (.int .i64 H) := Cw9.out.1.mesh.cell 1; have e2 : w9.cell? ⟨w.heap.size, 2, none⟩ = some (.slice A L.length cap) := Cw9.out.1.mesh.cell 2; have r0 : w9.cell? ⟨b0, 0, none⟩ = some (.int .i64 W) := Cw9.out.2.1.cell 0; have r1 : w9.cell? ⟨b0, 1, none⟩ = some (.int .i64 H) := Cw9.out.2.1.cell 1; have r2 : w9.cell? ⟨b0, 2, none⟩ = some (.slice (some ⟨gm, 0, none⟩) L.length L.length) := Cw9.out.2.1.cell 2; clear o9 b9)
            | (go_at_call 19; (with_reducible refine (lawsEqMesh W H (some ⟨gm, 0, none⟩) (some ⟨g9, 0, none⟩) L.length L.length L.length _ _ L _ Cw9.out.atM O9.out (Nat.le_refl _) (Nat.le_refl _) (by omega)).mono ?_); rintro e w10 ⟨rfl, hgb⟩; have Cw10 := Lib.hid (Cw9.out.gb hgb); have f0 : w10.cell? ⟨w.heap.size, 0, none⟩ = some (.int .i64 W) := Cw10.out.1.mesh.cell 0; have f1 : w10.cell? ⟨w.heap.size, 1, none⟩ = some (.int .i64 H) := Cw10.out.1.mesh.cell 1; have f2 : w10.cell? ⟨w.heap.size, 2, none⟩ = some (.slice A L.length cap) := Cw10.out.1.mesh.cell 2; have s0 : w10.cell? ⟨b0, 0, none⟩ = some (.int .i64 W) := Cw10.out.2.1.cell 0; have s1 : w10.cell? ⟨b0, 1, none⟩ = some (.int .i64 H) := Cw10.out.2.1.cell 1; have s2 : w10.cell? ⟨b0, 2, none⟩ = some (.slice (some ⟨gm, 0, none⟩) L.length L.length) := Cw10.out.2.1.cell 2; clear hgb)
            | fail)
        all_goals
          go_wp2_with fail
          have g0 : w10.cell? ⟨w.heap.size + 1, 0, none⟩ = some (.slice A2 P.length c2) := Cw10.out.1.table.cell 0
          have g1 : w10.cell? ⟨b1, 0, none⟩ = some (.slice (some ⟨gp, 0, none⟩) P.length P.length) := Cw10.out.2.2.1.cell 0
          have Cw10d := Lib.hid Cw10.out.dr
          go_region_held3 (fun w' => w'.cell? ⟨w.heap.size + 1, 0, none⟩ = some (.slice A2 P.length c2) ∧ w'.cell? ⟨b1, 0, none⟩ = some (.slice (some ⟨gp, 0, none⟩) P.length P.length))
            (first | exact ⟨g0, g1⟩ | exact ⟨h0, h1⟩ | exact ⟨i0, i1⟩)
            (first
              | (go_at_call 17; (with_reducible refine (lawsToTable A2 P.length c2 P _ (Cw10d.out.lb.at HP.out) hn2).mono ?_); rintro e w11 ⟨g8, rfl, o8, b8⟩; have Cw11 := Lib.hid (Cw10d.out.bl b8); have O8 := Lib.hid (intAt_own o8 rfl (Nat.le_refl _)); have h0 : w11.cell? ⟨w.heap.size + 1, 0, none⟩ = some (.slice A2 P.length c2) := Cw11.out.1.table.cell 0; have h1 : w11.cell? ⟨b1, 0, none⟩ = some (.slice (some ⟨gp, 0, none⟩) P.length P.length) := Cw11.out.2.2.1.cell 0; clear o8 b8)
              | (go_at_call 20; (with_reducible refine (lawsEqTable (some ⟨gp, 0, none⟩) (some ⟨g8, 0, none⟩) P.length P.length P.length _ _ P _ Cw11.out.atP O8.out (Nat.le_refl _) (Nat.le_refl _) (by omega)).mono ?_); rintro e w12 ⟨rfl, hgb⟩; have Cw12 := Lib.hid (Cw11.out.gb hgb); have i0 : w12.cell? ⟨w.heap.size + 1, 0, none⟩ = some (.slice A2 P.length c2) := Cw12.out.1.table.cell 0; have i1 : w12.cell? ⟨b1, 0, none⟩ = some (.slice (some ⟨gp, 0, none⟩) P.length P.length) := Cw12.out.2.2.1.cell 0; clear hgb)
              | fail)
          all_goals
            go_wp2_with fail
            go_ret
            exact ⟨rfl, Cw12.out.1.old⟩
end Go.Proofs.Ytecaehkckamhkaa
