/- What is proved here: the exact law on JoinRoutes answers true, for every argument; only new blocks are written. -/
import Derived.Test.YtakigpgkcneboaaRteB
import Derived.Test.YtakigpgkcneboaaJoinS
import Derived.Test.YtakigpgkcneboaaJoinI
namespace Go.Proofs.Ytakigpgkcneboaa
open Go.ChangeShapes Go.WideShapes Go.ChangeAt Go.RowKit
set_option linter.unusedVariables false

set_option maxRecDepth 20000 in
set_option maxHeartbeats 4000000 in
theorem walk_FnExactJoinRoutes (W H : Int) (A : Option Addr) (n cap : Nat) (L : List Int) (A2 : Option Addr) (n2 c2 : Nat) (R : List Int) (A3 : Option Addr) (n3 c3 : Nat) (S : List Int) (w : World) (hw : (Lit.int .i64 W).wf = true) (hh : (Lit.int .i64 H).wf = true) (hnc : n ≤ cap) (hcm : cap ≤ maxLen) (h : IntAt w w.heap.size A n L) (hl : ∀ x ∈ L, (Lit.int .i64 x).wf = true) (hnc2 : n2 ≤ c2) (hcm2 : c2 ≤ maxLen) (h2 : IntAt w w.heap.size A2 n2 R) (hl2 : ∀ x ∈ R, (Lit.int .i64 x).wf = true) (hnc3 : n3 ≤ c3) (hcm3 : c3 ≤ maxLen) (h3 : IntAt w w.heap.size A3 n3 S) (hl3 : ∀ x ∈ S, (Lit.int .i64 x).wf = true) :
    Calls Try.prog 8 #[.agg #[.int .i64 W, .int .i64 H, .slice A n cap], .slice A2 n2 c2, .slice A3 n3 c3] w fun e w' => e = .returned (.bool true) ∧ Below w.heap.size w w' := by
  have hn9 : n ≤ 9223372036854775807 := Nat.le_trans hnc (Nat.le_trans hcm (by decide))
  have hLn := h.1
  have hRn := h2.1
  have HI := Lib.hid h
  have HP := Lib.hid h2
  have HWF := Lib.hid (show WfL L from hl)
  have HWR := Lib.hid (show WfL R from hl2)
  have hSn := h3.1
  have HQ := Lib.hid h3
  have HWS := Lib.hid (show WfL S from hl3)
  clear hw hh hl hl2 hnc hcm hnc2 hcm2 h h2 hl3 hnc3 hcm3 h3
  subst hLn
  subst hRn
  subst hSn
  by_cases hbR : (R.length : Int) > 1048576
  · go_enter Try.func8, Try.ntmps8
    go_wp2_with fail
    go_ret
    exact ⟨rfl, (Below.refl _ _).alloc (Nat.le_refl _) _⟩
  · have hnR : R.length ≤ 1048576 := by omega
    by_cases hbS : (S.length : Int) > 1048576
    · go_enter Try.func8, Try.ntmps8
      go_wp2_with fail
      go_ret
      exact ⟨rfl, (Below.refl _ _).alloc (Nat.le_refl _) _⟩
    · have hnS : S.length ≤ 1048576 := by omega
      by_cases hbig : (1048576 : Int) < (L.length : Int)
      · go_enter Try.func8, Try.ntmps8
        go_wp2_with fail
        refine (lawsSzMesh W H A L.length cap 1048576 _ hn9 (by omega) (by omega)).mono ?_
        rintro e w1 ⟨rfl, hg1⟩
        rw [if_pos hbig]
        have B1 := Lib.hid (law_old (law_first hg1))
        clear hg1
        go_wp2_with fail
        go_ret
        exact ⟨rfl, B1.out⟩
      · have hn : L.length ≤ 1048576 := by omega
        obtain ⟨res, hres⟩ : ∃ r, joinG W H L R S = r := ⟨_, rfl⟩
        have hrl : res.length ≤ 2097152 := by rw [← hres]; have := joinG_le (W := W) (H := H) (L := L) (a := R) (b := S); omega
        obtain ⟨bb, hbb⟩ : ∃ b, routeG W H L (R ++ S) = b := ⟨_, rfl⟩
        have hbn : (bb != bb) = false := by simp
        obtain ⟨q, hq⟩ : ∃ q : Int, (1048576 : Int) - (L.length : Int) = q := ⟨_, rfl⟩
        have hq0 : ¬ q < 0 := by omega
        go_enter Try.func8, Try.ntmps8
        go_wp2_with fail
        refine (lawsSzMesh W H A L.length cap 1048576 _ hn9 (by omega) (by omega)).mono ?_
        rintro e w1 ⟨rfl, hg1⟩
        rw [if_neg (by omega), hq]
        have B1 := Lib.hid (law_first hg1)
        obtain ⟨a0, a1, a2⟩ := law_cells B1.out
        clear hg1 hq hbig
        go_wp2_with fail
        refine (lawsToMesh W H A L.length cap L _ (law_at B1.out HI.out) hn).mono ?_
        rintro e w2 ⟨g2, rfl, o2, b2⟩
        have B2 := Lib.hid (law_gb B1.out (gb_of_below b2 none))
        have O2 := Lib.hid o2
        clear o2 b2 a0 a1 a2 hq0
        go_wp2_with fail
        refine (lawsToIntS A2 R.length c2 R _ (law_at B2.out HP.out) hnR).mono ?_
        rintro e w3 ⟨g3, rfl, o3, b3⟩
        have B3 := Lib.hid (law_gb B2.out (gb_of_below b3 none))
        have O23 := Lib.hid (own_below O2.out b3)
        have O3 := Lib.hid o3
        clear o3 b3
        go_wp2_with fail
        refine (lawsToIntS A3 S.length c3 S _ (law_at B3.out HQ.out) hnS).mono ?_
        rintro e w3s ⟨g3s, rfl, o3s, b3s⟩
        have B3s := Lib.hid (law_gb B3.out (gb_of_below b3s none))
        have O23s := Lib.hid (own_below O23.out b3s)
        have O3s := Lib.hid (own_below O3.out b3s)
        have O3t := Lib.hid o3s
        clear o3s b3s
        go_wp2_with fail
        refine (specJoinRoutes W H (some ⟨g2, 0, none⟩) (some ⟨g3, 0, none⟩) (some ⟨g3s, 0, none⟩) L.length L.length R.length R.length S.length S.length L R S bb hbb _ (intAt_own O23s.out rfl (Nat.le_refl _)) (intAt_own O3s.out rfl (Nat.le_refl _)) (intAt_own O3t.out rfl (Nat.le_refl _)) (by omega) (by omega)).mono ?_
        rintro e w4 ⟨v0, rfl, o4, b4⟩
        rw [hres] at o4
        have B4 := Lib.hid (law_gb B3s.out (gb_of_below b4 none))
        have R0 := Lib.hid (Row.new o4 (law_le B3s.out))
        clear o4 b4
        obtain ⟨a0, a1, a2⟩ := law_cells B4.out
        go_wp2_with fail
        refine (lawsToMesh W H A L.length cap L _ (law_at B4.out HI.out) hn).mono ?_
        rintro e w5 ⟨gm, rfl, o5, b5⟩
        have B5 := Lib.hid (law_gb (law_gb B4.out (gb_of_below b5 none)) (gb_alloc (gb_refl w5 _) (.cells #[.int .i64 W, .int .i64 H, .slice (some ⟨gm, 0, none⟩) L.length L.length] 28)))
        have RM5 := Lib.hid ((Row.new o5 (Nat.le_refl _)).gb (gb_alloc (gb_refl w5 _) (.cells #[.int .i64 W, .int .i64 H, .slice (some ⟨gm, 0, none⟩) L.length L.length] 28)))
        have R05 := Lib.hid ((R0.out.gb (gb_of_below b5 none)).gb (gb_alloc (gb_refl w5 _) (.cells #[.int .i64 W, .int .i64 H, .slice (some ⟨gm, 0, none⟩) L.length L.length] 28)))
        have K5 := Lib.hid (Blk.new w5 28 #[.int .i64 W, .int .i64 H, .slice (some ⟨gm, 0, none⟩) L.length L.length])
        have HS5 := Lib.hid b5.size
        clear o5 b5 a0 a1 a2
        go_wp2_with fail
        refine (lawsToIntS A2 R.length c2 R _ (law_at B5.out HP.out) hnR).mono ?_
        rintro e w6 ⟨gp, rfl, o6, b6⟩
        have HS6 := Lib.hid (show w5.heap.size ≤ w6.heap.size by have := b6.size; rw [alloc_size] at this; omega)
        have RP6 := Lib.hid (Row.new (B := w5.heap.size) o6 (by rw [alloc_size]; omega))
        have B6 := Lib.hid (law_gb B5.out (gb_of_below b6 none))
        have RM6 := Lib.hid (RM5.out.gb (gb_of_below b6 none))
        have R06 := Lib.hid (R05.out.gb (gb_of_below b6 none))
        have K6 := Lib.hid (K5.out.grown (gb_of_below b6 none) (by simp))
        clear o6 b6
        go_wp2_with fail
        refine (lawsToIntS A3 S.length c3 S _ (law_at B6.out HQ.out) hnS).mono ?_
        rintro e w6s ⟨gq, rfl, o6s, b6s⟩
        have HS6s := Lib.hid b6s.size
        have RQ := Lib.hid (Row.new o6s (Nat.le_refl _))
        have FF := Lib.hid (show Full W H A cap L w w5.heap.size w4.heap.size w5.heap.size w6.heap.size w6s.heap.size w6s.heap.size gm v0 (.slice (some ⟨gp, 0, none⟩) R.length R.length) (.slice (some ⟨gq, 0, none⟩) S.length S.length) (.slice none 0 0) res L R S [] w6s from
          ⟨law_gb B6.out (gb_of_below b6s none), K6.out.grown (gb_of_below b6s none) (by simp), R06.out.gb (gb_of_below b6s none), RM6.out.gb (gb_of_below b6s none), RP6.out.gb (gb_of_below b6s none), RQ.out, Row.nil _ _ _, law_le B4.out, HS5.out, HS6.out, HS6s.out⟩)
        clear o6s b6s
        obtain ⟨b0, hb0⟩ : ∃ b, w5.heap.size = b := ⟨_, rfl⟩
        have HB0 := Lib.hid hb0
        rw [hb0] at FF
        clear hb0
        obtain ⟨q0, q1, q2⟩ := FF.out.cx
        (try rw [HB0.out])
        go_wp2_with fail
        (try rw [HB0.out])
        refine (implJoinRoutes W H (some ⟨gm, 0, none⟩) (some ⟨gp, 0, none⟩) (some ⟨gq, 0, none⟩) L.length L.length R.length R.length S.length S.length L R S bb hbb HWF.out HWR.out HWS.out _ FF.out.rm.at FF.out.rp.at FF.out.rq.at (Nat.le_refl _) (by omega) (by omega)).mono ?_
        rintro e w7 ⟨v8, rfl, o7, b7⟩
        rw [hres] at o7
        have F7 := Lib.hid (FF.out.ans b7 (Nat.le_refl _) o7)
        clear o7 b7 q0 q1 q2
        go_wp2_with fail
        refine (lawsEqOwn v8 v0 _ _ res _ F7.out.r8.own F7.out.r0.own (by omega)).mono ?_
        rintro e w8 ⟨rfl, hg8⟩
        have F8 := Lib.hid (F7.out.gb hg8)
        clear hg8
        go_wp2_with fail
        have F8d := Lib.hid F8.out.dr
        obtain ⟨d0, d1, d2, q0, q1, q2⟩ := F8.out.two
        go_region_held3 (fun w' => w'.cell? ⟨w.heap.size, 0, none⟩ = some (.int .i64 W) ∧ w'.cell? ⟨w.heap.size, 1, none⟩ = some (.int .i64 H) ∧ w'.cell? ⟨w.heap.size, 2, none⟩ = some (.slice A L.length cap) ∧ w'.cell? ⟨b0, 0, none⟩ = some (.int .i64 W) ∧ w'.cell? ⟨b0, 1, none⟩ = some (.int .i64 H) ∧ w'.cell? ⟨b0, 2, none⟩ = some (.slice (some ⟨gm, 0, none⟩) L.length L.length))
          (first | exact ⟨d0, d1, d2, q0, q1, q2⟩ | exact ⟨e0, e1, e2, r0, r1, r2⟩ | exact ⟨f0, f1, f2, s0, s1, s2⟩)
          (first
            | (go_at_call 25; (with_reducible refine (lawsToMesh W H A L.length cap L _ (law_at F8d.out.lb HI.out) hn).mono ?_); rintro e w10 ⟨g9, rfl, o9, b9⟩; have F10 := Lib.hid (F8d.out.bl b9); have O9 := Lib.hid (intAt_own o9 rfl (Nat.le_refl _)); obtain ⟨e0, e1, e2, r0, r1, r2⟩ := F10.out.two; clear o9 b9)
            | (go_at_call 28; (with_reducible refine (lawsEqMesh W H (some ⟨gm, 0, none⟩) (some ⟨g9, 0, none⟩) L.length L.length L.length _ _ L _ F10.out.rm.at O9.out (Nat.le_refl _) (Nat.le_refl _) (by omega)).mono ?_); rintro e w11 ⟨rfl, hg11⟩; have F11 := Lib.hid (F10.out.gb hg11); obtain ⟨f0, f1, f2, s0, s1, s2⟩ := F11.out.two; clear hg11)
            | fail)
        all_goals
          clear d0 d1 d2 q0 q1 q2 e0 e1 e2 r0 r1 r2 f0 f1 f2 s0 s1 s2
          go_wp2_with fail
          refine (lawsToIntS A2 R.length c2 R _ (law_at F11.out.lb HP.out) hnR).mono ?_
          rintro e w12 ⟨g12, rfl, o12, b12⟩
          have F12 := Lib.hid (F11.out.bl b12)
          have O12 := Lib.hid (intAt_own o12 rfl (Nat.le_refl _))
          clear o12 b12
          go_wp2_with fail
          refine (lawsEqI (some ⟨gp, 0, none⟩) (some ⟨g12, 0, none⟩) R.length R.length R.length _ _ R _ F12.out.rp.at O12.out (by omega)).mono ?_
          rintro e w13 ⟨rfl, hg13⟩
          have F13 := Lib.hid (F12.out.gb hg13)
          clear hg13
          go_wp2_with fail
          refine (lawsToIntS A3 S.length c3 S _ (law_at F13.out.lb HQ.out) hnS).mono ?_
          rintro e w14 ⟨g14, rfl, o14, b14⟩
          have F14 := Lib.hid (F13.out.bl b14)
          have O14 := Lib.hid (intAt_own o14 rfl (Nat.le_refl _))
          clear o14 b14
          go_wp2_with fail
          refine (lawsEqI (some ⟨gq, 0, none⟩) (some ⟨g14, 0, none⟩) S.length S.length S.length _ _ S _ F14.out.rq.at O14.out (by omega)).mono ?_
          rintro e w15 ⟨rfl, hg15⟩
          have F15 := Lib.hid (F14.out.gb hg15)
          clear hg15
          obtain ⟨q0, q1, q2⟩ := F15.out.cx
          go_wp2_with fail
          refine (lawsMarkMesh W H _ _ L.length 1 L _ F15.out.rm.own (by omega)).mono ?_
          rintro e w20 ⟨rfl, o20, g20⟩
          have F20 := Lib.hid (F15.out.markM rfl o20 g20)
          obtain ⟨k1, hk1⟩ : ∃ k1, 1 + L.length = k1 := ⟨_, rfl⟩
          rw [hk1]
          clear o20 g20 q0 q1 q2
          go_wp2_with fail
          refine (lawsMarkI _ _ R.length k1 R _ F20.out.rp.own (by omega)).mono ?_
          rintro e w21 ⟨rfl, o21, g21⟩
          have F21 := Lib.hid (F20.out.markP o21 g21)
          obtain ⟨k2, hk2⟩ : ∃ k2, k1 + R.length = k2 := ⟨_, rfl⟩
          rw [hk2]
          clear o21 g21
          go_wp2_with fail
          refine (lawsMarkI _ _ S.length k2 S _ F21.out.rq.own (by omega)).mono ?_
          rintro e w21s ⟨rfl, o21s, g21s⟩
          have F21s := Lib.hid (F21.out.markQ o21s g21s)
          obtain ⟨k2s, hk2s⟩ : ∃ k2s, k2 + S.length = k2s := ⟨_, rfl⟩
          rw [hk2s]
          clear o21s g21s
          have hk0 : ¬ (k2s : Int) < 0 := by omega
          clear hk1 hk2 hk2s
          go_wp2_with fail
          refine (lawsEqOwn v8 v0 _ _ res _ F21s.out.r8.own F21s.out.r0.own (by omega)).mono ?_
          rintro e w22 ⟨rfl, hg22⟩
          have F22 := Lib.hid (F21s.out.gb hg22)
          clear hg22 hk0
          go_wp2_with fail
          refine (lawsMarkI v8 _ res.length 1 res _ F22.out.r8.own (by omega)).mono ?_
          rintro e w23 ⟨rfl, o23, g23⟩
          have F23 := Lib.hid (F22.out.mark8 o23 g23)
          have H23 := Lib.hid o23
          obtain ⟨k3, hk3⟩ : ∃ k3, 1 + res.length = k3 := ⟨_, rfl⟩
          rw [hk3]
          have hk30 : ¬ (k3 : Int) < 0 := by omega
          have hk31 : ((k3 : Int) != (k3 : Int)) = false := by simp
          clear o23 g23
          go_wp2_with fail
          refine (lawsHeldOwn v8 _ res.length 1 _ H23.out (by omega)).mono ?_
          rintro e w24 ⟨rfl, hg24⟩
          rw [hk3]
          have F24 := Lib.hid (F23.out.gb hg24)
          have H24 := Lib.hid (own_none H23.out hg24)
          obtain ⟨a0, a1, a2⟩ := law_cells F24.out.lb
          clear hg24
          go_wp2_with fail
          refine (lawsToMesh W H A L.length cap L _ (law_at F24.out.lb HI.out) hn).mono ?_
          rintro e w25 ⟨g25, rfl, o25, b25⟩
          have F25 := Lib.hid (F24.out.bl b25)
          have H25 := Lib.hid (own_below H24.out b25)
          have O25 := Lib.hid o25
          clear o25 b25 a0 a1 a2
          go_wp2_with fail
          refine (lawsToIntS A2 R.length c2 R _ (law_at F25.out.lb HP.out) hnR).mono ?_
          rintro e w26 ⟨g26, rfl, o26, b26⟩
          have F26 := Lib.hid (F25.out.bl b26)
          have H26 := Lib.hid (own_below H25.out b26)
          have O25b := Lib.hid (own_below O25.out b26)
          have O26 := Lib.hid o26
          clear o26 b26
          go_wp2_with fail
          refine (lawsToIntS A3 S.length c3 S _ (law_at F26.out.lb HQ.out) hnS).mono ?_
          rintro e w26s ⟨g26s, rfl, o26s, b26s⟩
          have F26s := Lib.hid (F26.out.bl b26s)
          have H26s := Lib.hid (own_below H26.out b26s)
          have O25c := Lib.hid (own_below O25b.out b26s)
          have O26b := Lib.hid (own_below O26.out b26s)
          have O26s := Lib.hid o26s
          clear o26s b26s
          go_wp2_with fail
          refine (implJoinRoutes W H (some ⟨g25, 0, none⟩) (some ⟨g26, 0, none⟩) (some ⟨g26s, 0, none⟩) L.length L.length R.length R.length S.length S.length L R S bb hbb HWF.out HWR.out HWS.out _ (intAt_own O25c.out rfl (Nat.le_refl _)) (intAt_own O26b.out rfl (Nat.le_refl _)) (intAt_own O26s.out rfl (Nat.le_refl _)) (Nat.le_refl _) (by omega) (by omega)).mono ?_
          rintro e w27 ⟨v27, rfl, o27, b27⟩
          rw [hres] at o27
          have F27 := Lib.hid (F26s.out.bl b27)
          have H27 := Lib.hid (own_below H26s.out b27)
          have O27 := Lib.hid o27
          clear o27 b27
          go_wp2_with fail
          refine (lawsEqOwn v27 v0 _ _ res _ O27.out F27.out.r0.own (by omega)).mono ?_
          rintro e w28 ⟨rfl, hg28⟩
          have F28 := Lib.hid (F27.out.gb hg28)
          have H28 := Lib.hid (own_none H27.out hg28)
          clear hg28
          go_wp2_with fail
          refine (lawsHeldOwn v8 _ res.length 1 _ H28.out (by omega)).mono ?_
          rintro e w29 ⟨rfl, hg29⟩
          rw [hk3]
          have F29 := Lib.hid (F28.out.gb hg29)
          clear hg29
          go_wp2_with fail
          go_ret
          exact ⟨rfl, law_old F29.out.lb⟩
end Go.Proofs.Ytakigpgkcneboaa
