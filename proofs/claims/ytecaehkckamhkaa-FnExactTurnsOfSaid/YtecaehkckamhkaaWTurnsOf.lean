/- What is proved here: the exact law on TurnsOf answers true, for every argument; only new blocks are written. -/
import Derived.Test.YtecaehkckamhkaaTabB
import Derived.Test.YtecaehkckamhkaaTurnsS
import Derived.Test.YtecaehkckamhkaaTurnsI
namespace Go.Proofs.Ytecaehkckamhkaa
open Go.ChangeShapes Go.WideShapes Go.ChangeAt Go.RowKit
set_option linter.unusedVariables false
theorem own_base {w : World} {b1 b2 : Nat} {e : TypeId} {size n : Nat} {v : Value} {xs : List Value} (h : w.ownsRow b1 e size v n xs) (hb : ∀ k, v.ownBlock = some k → b2 ≤ k) : w.ownsRow b2 e size v n xs :=
  ⟨h.1, h.2.imp id fun ⟨g, cap, cur, e1, e2, rest⟩ => ⟨g, cap, cur, e1, hb g (by rw [e1]; rfl), rest⟩⟩

theorem walk_FnExactTurnsOf (W H : Int) (A : Option Addr) (n cap : Nat) (L : List Int) (A2 : Option Addr) (n2 c2 : Nat) (P : List Int) (w : World) (hw : (Lit.int .i64 W).wf = true) (hh : (Lit.int .i64 H).wf = true) (hnc : n ≤ cap) (hcm : cap ≤ maxLen) (h : IntAt w w.heap.size A n L) (hl : ∀ x ∈ L, (Lit.int .i64 x).wf = true) (hnc2 : n2 ≤ c2) (hcm2 : c2 ≤ maxLen) (h2 : IntAt w w.heap.size A2 n2 P) (hl2 : ∀ x ∈ P, (Lit.int .i64 x).wf = true) :
    Calls Try.prog 11 #[.agg #[.int .i64 W, .int .i64 H, .slice A n cap], .agg #[.slice A2 n2 c2]] w fun e w' => e = .returned (.bool true) ∧ Below w.heap.size w w' := by
  have hn9 : n ≤ 9223372036854775807 := Nat.le_trans hnc (Nat.le_trans hcm (by decide))
  have hm9 : n2 ≤ 9223372036854775807 := Nat.le_trans hnc2 (Nat.le_trans hcm2 (by decide))
  have hLn := h.1
  have hPn := h2.1
  have HI := Lib.hid h
  have HP := Lib.hid h2
  have HWF := Lib.hid (show WfL L from hl)
  clear hw hh hl hl2 hnc hcm hnc2 hcm2 h h2
  subst hLn
  subst hPn
  by_cases hbig : (1048576 : Int) < (L.length : Int)
  · go_enter Try.func11, Try.ntmps11
    go_wp2_with fail
    refine (lawsSzMesh W H A L.length cap 1048576 _ hn9 (by omega) (by omega)).mono ?_
    rintro e w1 ⟨rfl, hg1⟩
    rw [if_pos hbig]
    have B1 := Lib.hid (show LawB W H A A2 L.length cap P.length c2 w w1 from LawB.first hg1)
    clear hg1
    go_wp2_with fail
    go_ret
    exact ⟨rfl, B1.out.old⟩
  · have hn : L.length ≤ 1048576 := by omega
    obtain ⟨q, hq⟩ : ∃ q : Int, (1048576 : Int) - (L.length : Int) = q := ⟨_, rfl⟩
    have hq0 : ¬ q < 0 := by omega
    have hq1 : q ≤ 1048576 := by omega
    by_cases hbig2 : q < (P.length : Int)
    · go_enter Try.func11, Try.ntmps11
      go_wp2_with fail
      refine (lawsSzMesh W H A L.length cap 1048576 _ hn9 (by omega) (by omega)).mono ?_
      rintro e w1 ⟨rfl, hg1⟩
      rw [if_neg (by omega), hq]
      have B1 := Lib.hid (show LawB W H A A2 L.length cap P.length c2 w w1 from LawB.first hg1)
      have a3 : w1.cell? ⟨w.heap.size + 1, 0, none⟩ = some (.slice A2 P.length c2) := B1.out.table.cell 0
      clear hg1 hq
      go_wp2_with fail
      refine (lawsSzTable A2 P.length c2 q _ hm9 (by omega) hq1).mono ?_
      rintro e w2 ⟨rfl, hg2⟩
      rw [if_pos hbig2]
      have B2 := Lib.hid (B1.out.gb hg2)
      clear hg2
      go_wp2_with fail
      go_ret
      exact ⟨rfl, B2.out.old⟩
    · have hn2 : P.length ≤ 1048576 := by omega
      obtain ⟨q2, hq2⟩ : ∃ q2 : Int, q - (P.length : Int) = q2 := ⟨_, rfl⟩
      have hq20 : ¬ q2 < 0 := by omega
      go_enter Try.func11, Try.ntmps11
      go_wp2_with fail
      refine (lawsSzMesh W H A L.length cap 1048576 _ hn9 (by omega) (by omega)).mono ?_
      rintro e w1 ⟨rfl, hg1⟩
      rw [if_neg (by omega), hq]
      have B1 := Lib.hid (show LawB W H A A2 L.length cap P.length c2 w w1 from LawB.first hg1)
      have a3 : w1.cell? ⟨w.heap.size + 1, 0, none⟩ = some (.slice A2 P.length c2) := B1.out.table.cell 0
      clear hg1 hq
      go_wp2_with fail
      refine (lawsSzTable A2 P.length c2 q _ hm9 (by omega) hq1).mono ?_
      rintro e w2 ⟨rfl, hg2⟩
      rw [if_neg (by omega), hq2]
      have Bw2 := Lib.hid (B1.out.gb hg2)
      clear hg2 hq2 a3 hbig hbig2
      go_wp2_with fail
      obtain ⟨res, hres⟩ : ∃ r, turnsG W H L P = r := ⟨_, rfl⟩
      have hrl : res.length ≤ 16 := by rw [← hres]; exact turnsG_len
      have a0 : w2.cell? ⟨w.heap.size, 0, none⟩ = some (.int .i64 W) := Bw2.out.mesh.cell 0
      have a1 : w2.cell? ⟨w.heap.size, 1, none⟩ = some (.int .i64 H) := Bw2.out.mesh.cell 1
      have a2 : w2.cell? ⟨w.heap.size, 2, none⟩ = some (.slice A L.length cap) := Bw2.out.mesh.cell 2
      have a3 : w2.cell? ⟨w.heap.size + 1, 0, none⟩ = some (.slice A2 P.length c2) := Bw2.out.table.cell 0
      have Bw2d := Lib.hid Bw2.out.dr
      go_region_held3 (fun w' => w'.cell? ⟨w.heap.size, 0, none⟩ = some (.int .i64 W) ∧ w'.cell? ⟨w.heap.size, 1, none⟩ = some (.int .i64 H) ∧ w'.cell? ⟨w.heap.size, 2, none⟩ = some (.slice A L.length cap) ∧ w'.cell? ⟨w.heap.size + 1, 0, none⟩ = some (.slice A2 P.length c2))
        (first | exact ⟨a0, a1, a2, a3⟩ | exact ⟨j0, j1, j2, j3⟩ | exact ⟨k0, k1, k2, k3⟩ | exact ⟨l0, l1, l2, l3⟩)
        (first
          | (go_at_call 16; (with_reducible refine (lawsToMesh W H A L.length cap L _ (Bw2d.out.at HI.out) hn).mono ?_); rintro e w3 ⟨g6, rfl, o6, b6⟩; have Bw3 := Lib.hid (Bw2d.out.bl b6); have O6 := Lib.hid o6; have j0 : w3.cell? ⟨w.heap.size, 0, none⟩ = some (.int .i64 W) := Bw3.out.mesh.cell 0; have j1 : w3.cell? ⟨w.heap.size, 1, none⟩ = some (.int .i64 H) := Bw3.out.mesh.cell 1; have j2 : w3.cell? ⟨w.heap.size, 2, none⟩ = some (.slice A L.length cap) := Bw3.out.mesh.cell 2; have j3 : w3.cell? ⟨w.heap.size + 1, 0, none⟩ = some (.slice A2 P.length c2) := Bw3.out.table.cell 0; clear o6 b6)
          | (go_at_call 17; (with_reducible refine (lawsToTable A2 P.length c2 P _ (Bw3.out.at HP.out) hn2).mono ?_); rintro e w4 ⟨g7, rfl, o7, b7⟩; have Bw4 := Lib.hid (Bw3.out.bl b7); have O6b := Lib.hid (own_below O6.out b7); have O7 := Lib.hid o7; have k0 : w4.cell? ⟨w.heap.size, 0, none⟩ = some (.int .i64 W) := Bw4.out.mesh.cell 0; have k1 : w4.cell? ⟨w.heap.size, 1, none⟩ = some (.int .i64 H) := Bw4.out.mesh.cell 1; have k2 : w4.cell? ⟨w.heap.size, 2, none⟩ = some (.slice A L.length cap) := Bw4.out.mesh.cell 2; have k3 : w4.cell? ⟨w.heap.size + 1, 0, none⟩ = some (.slice A2 P.length c2) := Bw4.out.table.cell 0; clear o7 b7)
          | (go_at_call 50; (with_reducible refine ((fun w h h2 => show Calls Try.prog 50 #[.agg #[.int .i64 W, .int .i64 H, .slice (some ⟨g6, 0, none⟩) L.length L.length], .agg #[.slice (some ⟨g7, 0, none⟩) P.length P.length]] w (NewI res w) from hres ▸ specTurnsOf W H (some ⟨g6, 0, none⟩) (some ⟨g7, 0, none⟩) L.length L.length P.length P.length L P w h h2 (by omega) (by omega)) _ (intAt_own O6b.out rfl (Nat.le_refl _)) (intAt_own O7.out rfl (Nat.le_refl _))).mono ?_); rintro e w5 ⟨v0, rfl, o5, b5⟩; have Bw5 := Lib.hid (Bw4.out.bl b5); have R5 := Lib.hid (own_less o5 Bw4.out.le); have HV0 := Lib.hid (fun k hk => (o5.lt k hk).2); have l0 : w5.cell? ⟨w.heap.size, 0, none⟩ = some (.int .i64 W) := Bw5.out.mesh.cell 0; have l1 : w5.cell? ⟨w.heap.size, 1, none⟩ = some (.int .i64 H) := Bw5.out.mesh.cell 1; have l2 : w5.cell? ⟨w.heap.size, 2, none⟩ = some (.slice A L.length cap) := Bw5.out.mesh.cell 2; have l3 : w5.cell? ⟨w.heap.size + 1, 0, none⟩ = some (.slice A2 P.length c2) := Bw5.out.table.cell 0; clear o5 b5)
          | fail)
      all_goals
        go_wp2_with fail
        refine (lawsToMesh W H A L.length cap L _ (Bw5.out.at HI.out) hn).mono ?_
        rintro e w6 ⟨gm, rfl, o6x, b6x⟩
        have Bw6 := Lib.hid ((Bw5.out.bl b6x).gb (gb_alloc (gb_refl w6 _) (.cells #[.int .i64 W, .int .i64 H, .slice (some ⟨gm, 0, none⟩) L.length L.length] 34)))
        have OM6 := Lib.hid ((own_less o6x Bw5.out.le).alloc (.cells #[.int .i64 W, .int .i64 H, .slice (some ⟨gm, 0, none⟩) L.length L.length] 34))
        have KM6 := Lib.hid (Blk.new w6 34 #[.int .i64 W, .int .i64 H, .slice (some ⟨gm, 0, none⟩) L.length L.length])
        have R6 := Lib.hid ((own_below R5.out b6x).alloc (.cells #[.int .i64 W, .int .i64 H, .slice (some ⟨gm, 0, none⟩) L.length L.length] 34))
        have HGM := Lib.hid (o6x.lt gm rfl).1
        have HGM2 := Lib.hid (OM6.out.lt gm rfl).2
        have c3 : (w6.alloc (.cells #[.int .i64 W, .int .i64 H, .slice (some ⟨gm, 0, none⟩) L.length L.length] 34)).cell? ⟨w.heap.size + 1, 0, none⟩ = some (.slice A2 P.length c2) := Bw6.out.table.cell 0
        obtain ⟨b0, hb0⟩ : ∃ b, w6.heap.size = b := ⟨_, rfl⟩
        have HB0 := Lib.hid hb0
        rw [hb0] at KM6
        clear o6x b6x l0 l1 l2 l3 hb0
        go_wp2_with fail
        refine (lawsToTable A2 P.length c2 P _ (Bw6.out.at HP.out) hn2).mono ?_
        rintro e w7 ⟨gp, rfl, o7x, b7x⟩
        have CW7 := Lib.hid (show LawC W H A A2 L.length cap P.length c2 L P w b0 w7.heap.size gm gp (w7.alloc (.cells #[.slice (some ⟨gp, 0, none⟩) P.length P.length] 36)) from
          ⟨(Bw6.out.bl b7x).gb (gb_alloc (gb_refl w7 _) _), (KM6.out.below b7x (by rw [← HB0.out]; simp)).alloc _, Blk.new w7 36 #[.slice (some ⟨gp, 0, none⟩) P.length P.length], (own_below OM6.out b7x).alloc _, (own_less o7x Bw6.out.le).alloc _⟩)
        have R7 := Lib.hid ((own_below R6.out b7x).alloc (.cells #[.slice (some ⟨gp, 0, none⟩) P.length P.length] 36))
        have HGP := Lib.hid (o7x.lt gp rfl).1
        have HGP2 := Lib.hid (CW7.out.2.2.2.2.lt gp rfl).2
        have q0 : (w7.alloc (.cells #[.slice (some ⟨gp, 0, none⟩) P.length P.length] 36)).cell? ⟨b0, 0, none⟩ = some (.int .i64 W) := CW7.out.2.1.cell 0
        have q1 : (w7.alloc (.cells #[.slice (some ⟨gp, 0, none⟩) P.length P.length] 36)).cell? ⟨b0, 1, none⟩ = some (.int .i64 H) := CW7.out.2.1.cell 1
        have q2 : (w7.alloc (.cells #[.slice (some ⟨gp, 0, none⟩) P.length P.length] 36)).cell? ⟨b0, 2, none⟩ = some (.slice (some ⟨gm, 0, none⟩) L.length L.length) := CW7.out.2.1.cell 2
        clear o7x b7x c3
        (try rw [HB0.out])
        go_wp2_with fail
        obtain ⟨b1, hb1⟩ : ∃ b, w7.heap.size = b := ⟨_, rfl⟩
        rw [hb1] at CW7
        (try rw [hb1])
        clear hb1 q0 q1 q2
        refine (implTurnsOf W H (some ⟨gm, 0, none⟩) (some ⟨gp, 0, none⟩) L.length L.length P.length P.length L P HWF.out _ CW7.out.atM CW7.out.atP (by omega) (by omega)).mono ?_
        rintro e w8 ⟨v8, rfl, o8x, b8x⟩
        rw [hres] at o8x
        have Cw8 := Lib.hid (CW7.out.bl b8x)
        have R8 := Lib.hid (own_less o8x CW7.out.1.le)
        have HV8 := Lib.hid (fun k hk => (o8x.lt k hk).1)
        have R0 := Lib.hid (own_below R7.out b8x)
        clear o8x b8x
        go_wp2_with fail
        refine (lawsEqOwn v8 v0 _ _ res _ R8.out R0.out (by omega)).mono ?_
        rintro e w9 ⟨rfl, hg9⟩
        have Cw9 := Lib.hid (Cw8.out.gb hg9)
        have R89 : Hid (w9.drew.ownsRow _ _ _ _ _ _) := (own_none R8.out hg9 :)
        have R09 : Hid (w9.drew.ownsRow _ _ _ _ _ _) := (own_none R0.out hg9 :)
        clear hg9
        go_wp2_with fail
        have d0 : w9.cell? ⟨w.heap.size, 0, none⟩ = some (.int .i64 W) := Cw9.out.1.mesh.cell 0
        have d1 : w9.cell? ⟨w.heap.size, 1, none⟩ = some (.int .i64 H) := Cw9.out.1.mesh.cell 1
        have d2 : w9.cell? ⟨w.heap.size, 2, none⟩ = some (.slice A L.length cap) := Cw9.out.1.mesh.cell 2
        have q0 : w9.cell? ⟨b0, 0, none⟩ = some (.int .i64 W) := Cw9.out.2.1.cell 0
        have q1 : w9.cell? ⟨b0, 1, none⟩ = some (.int .i64 H) := Cw9.out.2.1.cell 1
        have q2 : w9.cell? ⟨b0, 2, none⟩ = some (.slice (some ⟨gm, 0, none⟩) L.length L.length) := Cw9.out.2.1.cell 2
        have Cw9d := Lib.hid Cw9.out.dr
        go_region_held3 (fun w' => w'.cell? ⟨w.heap.size, 0, none⟩ = some (.int .i64 W) ∧ w'.cell? ⟨w.heap.size, 1, none⟩ = some (.int .i64 H) ∧ w'.cell? ⟨w.heap.size, 2, none⟩ = some (.slice A L.length cap) ∧ w'.cell? ⟨b0, 0, none⟩ = some (.int .i64 W) ∧ w'.cell? ⟨b0, 1, none⟩ = some (.int .i64 H) ∧ w'.cell? ⟨b0, 2, none⟩ = some (.slice (some ⟨gm, 0, none⟩) L.length L.length))
          (first | exact ⟨d0, d1, d2, q0, q1, q2⟩ | exact ⟨e0, e1, e2, r0, r1, r2⟩ | exact ⟨f0, f1, f2, s0, s1, s2⟩)
          (first
            | (go_at_call 16; (with_reducible refine (lawsToMesh W H A L.length cap L _ (Cw9d.out.lb.at HI.out) hn).mono ?_); rintro e w10 ⟨g9, rfl, o9, b9⟩; have Cw10 := Lib.hid (Cw9d.out.bl b9); have O9 := Lib.hid (intAt_own o9 rfl (Nat.le_refl _)); have e0 : w10.cell? ⟨w.heap.size, 0, none⟩ = some (.int .i64 W) := Cw10.out.1.mesh.cell 0; have e1 : w10.cell? ⟨w.heap.size, 1, none⟩ = some (.int .i64 H) := Cw10.out.1.mesh.cell 1; have e2 : w10.cell? ⟨w.heap.size, 2, none⟩ = some (.slice A L.length cap) := Cw10.out.1.mesh.cell 2; have r0 : w10.cell? ⟨b0, 0, none⟩ = some (.int .i64 W) := Cw10.out.2.1.cell 0; have r1 : w10.cell? ⟨b0, 1, none⟩ = some (.int .i64 H) := Cw10.out.2.1.cell 1; have r2 : w10.cell? ⟨b0, 2, none⟩ = some (.slice (some ⟨gm, 0, none⟩) L.length L.length) := Cw10.out.2.1.cell 2; have R80 := Lib.hid (own_below R89.out b9); have R00 := Lib.hid (own_below R09.out b9); clear o9 b9)
            | (go_at_call 19; (with_reducible refine (lawsEqMesh W H (some ⟨gm, 0, none⟩) (some ⟨g9, 0, none⟩) L.length L.length L.length _ _ L _ Cw10.out.atM O9.out (Nat.le_refl _) (Nat.le_refl _) (by omega)).mono ?_); rintro e w11 ⟨rfl, hgb⟩; have Cw11 := Lib.hid (Cw10.out.gb hgb); have f0 : w11.cell? ⟨w.heap.size, 0, none⟩ = some (.int .i64 W) := Cw11.out.1.mesh.cell 0; have f1 : w11.cell? ⟨w.heap.size, 1, none⟩ = some (.int .i64 H) := Cw11.out.1.mesh.cell 1; have f2 : w11.cell? ⟨w.heap.size, 2, none⟩ = some (.slice A L.length cap) := Cw11.out.1.mesh.cell 2; have s0 : w11.cell? ⟨b0, 0, none⟩ = some (.int .i64 W) := Cw11.out.2.1.cell 0; have s1 : w11.cell? ⟨b0, 1, none⟩ = some (.int .i64 H) := Cw11.out.2.1.cell 1; have s2 : w11.cell? ⟨b0, 2, none⟩ = some (.slice (some ⟨gm, 0, none⟩) L.length L.length) := Cw11.out.2.1.cell 2; have R81 : Hid (w11.drew.ownsRow _ _ _ _ _ _) := (own_none R80.out hgb :); have R01 : Hid (w11.drew.ownsRow _ _ _ _ _ _) := (own_none R00.out hgb :); clear hgb)
            | fail)
        all_goals
          go_wp2_with fail
          have g0 : w11.cell? ⟨w.heap.size + 1, 0, none⟩ = some (.slice A2 P.length c2) := Cw11.out.1.table.cell 0
          have g1 : w11.cell? ⟨b1, 0, none⟩ = some (.slice (some ⟨gp, 0, none⟩) P.length P.length) := Cw11.out.2.2.1.cell 0
          have Cw11d := Lib.hid Cw11.out.dr
          go_region_held3 (fun w' => w'.cell? ⟨w.heap.size + 1, 0, none⟩ = some (.slice A2 P.length c2) ∧ w'.cell? ⟨b1, 0, none⟩ = some (.slice (some ⟨gp, 0, none⟩) P.length P.length))
            (first | exact ⟨g0, g1⟩ | exact ⟨h0, h1⟩ | exact ⟨i0, i1⟩)
            (first
              | (go_at_call 17; (with_reducible refine (lawsToTable A2 P.length c2 P _ (Cw11d.out.lb.at HP.out) hn2).mono ?_); rintro e w12 ⟨g8, rfl, o8, b8⟩; have Cw12 := Lib.hid (Cw11d.out.bl b8); have O8 := Lib.hid (intAt_own o8 rfl (Nat.le_refl _)); have h0 : w12.cell? ⟨w.heap.size + 1, 0, none⟩ = some (.slice A2 P.length c2) := Cw12.out.1.table.cell 0; have h1 : w12.cell? ⟨b1, 0, none⟩ = some (.slice (some ⟨gp, 0, none⟩) P.length P.length) := Cw12.out.2.2.1.cell 0; have R82 := Lib.hid (own_below R81.out b8); have R02 := Lib.hid (own_below R01.out b8); clear o8 b8)
              | (go_at_call 20; (with_reducible refine (lawsEqTable (some ⟨gp, 0, none⟩) (some ⟨g8, 0, none⟩) P.length P.length P.length _ _ P _ Cw12.out.atP O8.out (Nat.le_refl _) (Nat.le_refl _) (by omega)).mono ?_); rintro e w13 ⟨rfl, hgb⟩; have Cw13 := Lib.hid (Cw12.out.gb hgb); have i0 : w13.cell? ⟨w.heap.size + 1, 0, none⟩ = some (.slice A2 P.length c2) := Cw13.out.1.table.cell 0; have i1 : w13.cell? ⟨b1, 0, none⟩ = some (.slice (some ⟨gp, 0, none⟩) P.length P.length) := Cw13.out.2.2.1.cell 0; have R83 := Lib.hid (own_none R82.out hgb); have R03 := Lib.hid (own_none R02.out hgb); clear hgb)
              | fail)
          all_goals
            have m0 : w13.cell? ⟨b0, 0, none⟩ = some (.int .i64 W) := Cw13.out.2.1.cell 0
            have m1 : w13.cell? ⟨b0, 1, none⟩ = some (.int .i64 H) := Cw13.out.2.1.cell 1
            have m2 : w13.cell? ⟨b0, 2, none⟩ = some (.slice (some ⟨gm, 0, none⟩) L.length L.length) := Cw13.out.2.1.cell 2
            go_wp2_with fail
            refine (lawsMarkMesh W H _ _ L.length 1 L _ Cw13.out.2.2.2.1 (by omega)).mono ?_
            rintro e w14 ⟨rfl, o14, g14⟩
            obtain ⟨k1, hk1⟩ : ∃ k1, 1 + L.length = k1 := ⟨_, rfl⟩
            rw [hk1]
            have hgm := (Cw13.out.2.2.2.1.lt gm rfl).1
            have Bw14 := Lib.hid (Cw13.out.1.own g14 (fun k e => by have h : gm = k := Option.some.inj e; omega))
            have n1 : w14.cell? ⟨b1, 0, none⟩ = some (.slice (some ⟨gp, 0, none⟩) P.length P.length) := (Cw13.out.2.2.1.grown g14 (fun e => own_ne Cw13.out.2.2.2.1 Cw13.out.2.2.1 (by decide) e.symm)).cell 0
            have OP14 := Lib.hid (Cw13.out.2.2.2.2.kept g14 (.inr (fun e => by have h : gp = gm := Option.some.inj e; have h1 := HGP.out; have h2 := HGM2.out; omega)))
            have R84 := Lib.hid (R83.out.kept g14 (.inr (fun e => by have h1 := HV8.out gm e; have h2 := HGP.out; have h3 := HGM2.out; have h4 := HGP2.out; omega)))
            have R04 := Lib.hid (R03.out.kept g14 (.inr (fun e => by have h1 := HV0.out gm e; have h2 := HGM.out; omega)))
            clear o14 g14 m0 m1 m2
            go_wp2_with fail
            refine (lawsMarkTable _ _ P.length k1 P _ OP14.out (by omega)).mono ?_
            rintro e w15 ⟨rfl, o15, g15⟩
            obtain ⟨k2, hk2⟩ : ∃ k2, k1 + P.length = k2 := ⟨_, rfl⟩
            rw [hk2]
            have hgp := (OP14.out.lt gp rfl).1
            have Bw15 := Lib.hid (Bw14.out.own g15 (fun k e => by have h : gp = k := Option.some.inj e; omega))
            have R85 := Lib.hid (R84.out.kept g15 (.inr (fun e => by have h1 := HV8.out gp e; have h4 := HGP2.out; omega)))
            have R05 := Lib.hid (R04.out.kept g15 (.inr (fun e => by have h1 := HV0.out gp e; have h2 := HGM.out; have h3 := HGP.out; have h4 := HGM2.out; omega)))
            have hk0 : ¬ (k2 : Int) < 0 := by omega
            clear o15 g15 n1 hk1 hk2
            go_wp2_with fail
            refine (lawsEqOwn v8 v0 _ _ res _ R85.out R05.out (by omega)).mono ?_
            rintro e w16 ⟨rfl, hg16⟩
            have Bw16 := Lib.hid (Bw15.out.gb hg16)
            have R86 := Lib.hid (own_none R85.out hg16)
            have R06 := Lib.hid (own_none R05.out hg16)
            clear hg16 hk0
            go_wp2_with fail
            refine (lawsMarkI v8 _ res.length 1 _ _ R86.out (by omega)).mono ?_
            rintro e w17 ⟨rfl, o17, g17⟩
            obtain ⟨k3, hk3⟩ : ∃ k3, 1 + res.length = k3 := ⟨_, rfl⟩
            rw [hk3]
            have Bw17 := Lib.hid (Bw16.out.own g17 (fun k e => (R86.out.lt k e).1))
            have R87 := Lib.hid o17
            have R07 := Lib.hid (own_apart R06.out (fun k hk => by have h1 := HV0.out k hk; have h2 := HGM.out; have h3 := HGM2.out; have h4 := HGP.out; have h5 := HGP2.out; exact Nat.lt_trans (Nat.lt_of_lt_of_le h1 h2) (Nat.lt_trans (Nat.lt_of_lt_of_le h3 h4) h5)) (own_base R86.out HV8.out) g17)
            clear o17 g17
            go_wp2_with fail
            refine (lawsHeldOwn v8 _ res.length 1 _ R87.out (by omega)).mono ?_
            rintro e w18 ⟨rfl, hg18⟩
            rw [hk3]
            have Bw18 := Lib.hid (Bw17.out.gb hg18)
            have R88 : Hid (w18.drew.ownsRow _ _ _ _ _ _) := (own_none R87.out hg18 :)
            have R08 : Hid (w18.drew.ownsRow _ _ _ _ _ _) := (own_none R07.out hg18 :)
            clear hg18
            go_wp2_with fail
            have a0 : w18.cell? ⟨w.heap.size, 0, none⟩ = some (.int .i64 W) := Bw18.out.mesh.cell 0
            have a1 : w18.cell? ⟨w.heap.size, 1, none⟩ = some (.int .i64 H) := Bw18.out.mesh.cell 1
            have a2 : w18.cell? ⟨w.heap.size, 2, none⟩ = some (.slice A L.length cap) := Bw18.out.mesh.cell 2
            have a3 : w18.cell? ⟨w.heap.size + 1, 0, none⟩ = some (.slice A2 P.length c2) := Bw18.out.table.cell 0
            have Bw18d := Lib.hid Bw18.out.dr
            go_region_held3 (fun w' => w'.cell? ⟨w.heap.size, 0, none⟩ = some (.int .i64 W) ∧ w'.cell? ⟨w.heap.size, 1, none⟩ = some (.int .i64 H) ∧ w'.cell? ⟨w.heap.size, 2, none⟩ = some (.slice A L.length cap) ∧ w'.cell? ⟨w.heap.size + 1, 0, none⟩ = some (.slice A2 P.length c2))
              (first | exact ⟨a0, a1, a2, a3⟩ | exact ⟨j0, j1, j2, j3⟩ | exact ⟨k0, k1, k2, k3⟩ | exact ⟨l0, l1, l2, l3⟩)
              (first
                | (go_at_call 16; (with_reducible refine (lawsToMesh W H A L.length cap L _ (Bw18d.out.at HI.out) hn).mono ?_); rintro e w19 ⟨g6, rfl, o6, b6⟩; have Bw19 := Lib.hid (Bw18d.out.bl b6); have O6 := Lib.hid o6; have j0 : w19.cell? ⟨w.heap.size, 0, none⟩ = some (.int .i64 W) := Bw19.out.mesh.cell 0; have j1 : w19.cell? ⟨w.heap.size, 1, none⟩ = some (.int .i64 H) := Bw19.out.mesh.cell 1; have j2 : w19.cell? ⟨w.heap.size, 2, none⟩ = some (.slice A L.length cap) := Bw19.out.mesh.cell 2; have j3 : w19.cell? ⟨w.heap.size + 1, 0, none⟩ = some (.slice A2 P.length c2) := Bw19.out.table.cell 0; have R8x := Lib.hid (own_below R88.out b6); have R0x := Lib.hid (own_below R08.out b6); clear o6 b6)
                | (go_at_call 17; (with_reducible refine (lawsToTable A2 P.length c2 P _ (Bw19.out.at HP.out) hn2).mono ?_); rintro e w20 ⟨g7, rfl, o7, b7⟩; have Bw20 := Lib.hid (Bw19.out.bl b7); have O6b := Lib.hid (own_below O6.out b7); have O7 := Lib.hid o7; have k0 : w20.cell? ⟨w.heap.size, 0, none⟩ = some (.int .i64 W) := Bw20.out.mesh.cell 0; have k1 : w20.cell? ⟨w.heap.size, 1, none⟩ = some (.int .i64 H) := Bw20.out.mesh.cell 1; have k2 : w20.cell? ⟨w.heap.size, 2, none⟩ = some (.slice A L.length cap) := Bw20.out.mesh.cell 2; have k3 : w20.cell? ⟨w.heap.size + 1, 0, none⟩ = some (.slice A2 P.length c2) := Bw20.out.table.cell 0; have R8y := Lib.hid (own_below R8x.out b7); have R0y := Lib.hid (own_below R0x.out b7); clear o7 b7)
                | (go_at_call 44; (with_reducible refine ((fun w h h2 => show Calls Try.prog 44 #[.agg #[.int .i64 W, .int .i64 H, .slice (some ⟨g6, 0, none⟩) L.length L.length], .agg #[.slice (some ⟨g7, 0, none⟩) P.length P.length]] w (NewI res w) from hres ▸ implTurnsOf W H (some ⟨g6, 0, none⟩) (some ⟨g7, 0, none⟩) L.length L.length P.length P.length L P HWF.out w h h2 (by omega) (by omega)) _ (intAt_own O6b.out rfl (Nat.le_refl _)) (intAt_own O7.out rfl (Nat.le_refl _))).mono ?_); rintro e w21 ⟨v21, rfl, o21, b21⟩; have Bw21 := Lib.hid (Bw20.out.bl b21); have R21 := Lib.hid o21; have R8z := Lib.hid (own_below R8y.out b21); have R0z := Lib.hid (own_below R0y.out b21); have l0 : w21.cell? ⟨w.heap.size, 0, none⟩ = some (.int .i64 W) := Bw21.out.mesh.cell 0; have l1 : w21.cell? ⟨w.heap.size, 1, none⟩ = some (.int .i64 H) := Bw21.out.mesh.cell 1; have l2 : w21.cell? ⟨w.heap.size, 2, none⟩ = some (.slice A L.length cap) := Bw21.out.mesh.cell 2; have l3 : w21.cell? ⟨w.heap.size + 1, 0, none⟩ = some (.slice A2 P.length c2) := Bw21.out.table.cell 0; clear o21 b21)
                | fail)
            all_goals
              go_wp2_with fail
              refine (lawsEqOwn v21 v0 _ _ res _ R21.out R0z.out (by omega)).mono ?_
              rintro e w22 ⟨rfl, hg22⟩
              have Bw22 := Lib.hid (Bw21.out.gb hg22)
              have R8w := Lib.hid (own_none R8z.out hg22)
              clear hg22
              go_wp2_with fail
              refine (lawsHeldOwn v8 _ res.length 1 _ R8w.out (by omega)).mono ?_
              rintro e w23 ⟨rfl, hg23⟩
              rw [hk3]
              have Bw23 := Lib.hid (Bw22.out.gb hg23)
              clear hg23
              go_wp2_with fail
              go_ret
              exact ⟨rfl, Bw23.out.old⟩
end Go.Proofs.Ytecaehkckamhkaa
