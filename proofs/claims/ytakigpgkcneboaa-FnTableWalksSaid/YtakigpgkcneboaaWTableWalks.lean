/- What is proved here: the law on the walks of tables answers true, for every draw; only new blocks are written. -/
import Derived.Test.YtakigpgkcneboaaDrawTable
import Derived.Test.YtakigpgkcneboaaDrawPlaces
import Derived.Test.YtakigpgkcneboaaBig
import Derived.Test.YtakigpgkcneboaaTabW
import Derived.Test.YtakigpgkcneboaaWalkTI
import Derived.Test.YtakigpgkcneboaaPortI
import Derived.Test.YtakigpgkcneboaaDistI
import Derived.Test.YtakigpgkcneboaaFreeI
namespace Go.Proofs.Ytakigpgkcneboaa
open Go.ChangeShapes Go.WideShapes Go.ChangeAt Go.RowKit
set_option linter.unusedVariables false

theorem table_wf {W H : Int} {L r : List Int} (h : routeG W H L r = true) : WfL r := fun x hx => by
  obtain ⟨j, hj, rfl⟩ := List.getElem_of_mem hx
  have q := (route_at h hj).1
  rw [List.getD_eq_getElem?_getD, List.getElem?_eq_getElem hj] at q
  simp only [hasChG, Bool.and_eq_true] at q
  exact leads_wf q.1
theorem it_gb {w w' : World} {A : Option Addr} {n : Nat} {L : List Int} (h : IntAt w w.heap.size A n L) (hg : w.grownBy w' none) : IntAt w' w'.heap.size A n L := (h.none (Nat.le_refl _) hg).more hg.size
/-- The drawn mesh, table and numbers are as they were. -/
def TwAt (W H : Int) (A2 : Option Addr) (c2 : Nat) (P : List Int) (w : World) (b0 b1 pb : Nat) (x0 x1 : Int) (wr : World) : Prop :=
  Blk wr b0 28 #[.int .i64 W, .int .i64 H, .slice none 0 0] ∧ Blk wr b1 30 #[.slice A2 P.length c2] ∧ IntAt wr wr.heap.size A2 P.length P ∧
  wr.cell? ⟨pb, 0, none⟩ = some (.int .i64 x0) ∧ wr.cell? ⟨pb, 1, none⟩ = some (.int .i64 x1) ∧ Below w.heap.size w wr
section
variable {W H : Int} {A2 : Option Addr} {c2 : Nat} {P : List Int} {w wr wr' : World} {b0 b1 pb : Nat} {x0 x1 : Int}
theorem TwAt.gb (h : TwAt W H A2 c2 P w b0 b1 pb x0 x1 wr) (hg : wr.grownBy wr' none) : TwAt W H A2 c2 P w b0 b1 pb x0 x1 wr' :=
  ⟨h.1.grown hg (by simp), h.2.1.grown hg (by simp), it_gb h.2.2.1 hg, hg.cell h.2.2.2.1 (by simp), hg.cell h.2.2.2.2.1 (by simp), below_gb h.2.2.2.2.2 (Nat.le_refl _) hg⟩
theorem TwAt.row (h : TwAt W H A2 c2 P w b0 b1 pb x0 x1 wr) : IntAt wr wr.heap.size A2 P.length P := h.2.2.1
theorem TwAt.old (h : TwAt W H A2 c2 P w b0 b1 pb x0 x1 wr) : Below w.heap.size w wr := h.2.2.2.2.2
theorem TwAt.cells (h : TwAt W H A2 c2 P w b0 b1 pb x0 x1 wr) : wr.cell? ⟨b0, 0, none⟩ = some (.int .i64 W) ∧ wr.cell? ⟨b0, 1, none⟩ = some (.int .i64 H) ∧ wr.cell? ⟨b0, 2, none⟩ = some (.slice none 0 0) ∧ wr.cell? ⟨b1, 0, none⟩ = some (.slice A2 P.length c2) ∧ wr.cell? ⟨pb, 0, none⟩ = some (.int .i64 x0) ∧ wr.cell? ⟨pb, 1, none⟩ = some (.int .i64 x1) :=
  ⟨h.1.cell 0, h.1.cell 1, h.1.cell 2, h.2.1.cell 0, h.2.2.2.1, h.2.2.2.2.1⟩
end
theorem gb_undrew3 {a b : World} {row : Option Nat} (h : a.drew.grownBy b row) : a.grownBy b row := ⟨h.os, h.tape, h.output, h.size, h.block⟩
theorem wfl_none : WfL [] := fun x h => by cases h

set_option maxRecDepth 20000 in
set_option maxHeartbeats 4000000 in
theorem walk_FnTableWalks (A : Option Addr) (n cap : Nat) (w : World) (hr : ByteRow w w.heap.size A n) :
    Calls Try.prog 3 #[.slice A n cap] w fun e w' => e = .returned (.bool true) ∧ Below w.heap.size w w' := by
  by_cases hbig : 1048576 < n
  · go_enter Try.func3, Try.ntmps3
    go_wp2_with fail
    refine (lawsBig A n cap _).mono ?_
    rintro e w1 ⟨rfl, rfl⟩
    rw [decide_eq_true hbig]
    go_wp2_with fail
    go_ret
    exact ⟨rfl, Below.refl _ _⟩
  · have HR := Lib.hid hr
    have hn : n ≤ 1048576 := by omega
    clear hr
    go_enter Try.func3, Try.ntmps3
    go_wp2_with fail
    refine (lawsBig A n cap _).mono ?_
    rintro e w1 ⟨rfl, rfl⟩
    rw [decide_eq_false hbig]
    go_wp2_with fail
    refine (drawTable A n cap _ HR.out hn).mono ?_
    rintro e w1 ⟨W, H, r, v, rfl, hok, hr1, hr4, ho, hb⟩
    obtain ⟨ht, hmi, hlo⟩ := std_facts hok hr1 hr4
    have hpl : (stdTab W H r).length ≤ 256 := by rw [stdTab, stdTo_len]; exact sq_le W H
    obtain ⟨P, hP⟩ : ∃ P, stdTab W H r = P := ⟨_, rfl⟩
    rw [hP] at hpl
    rw [hP] at ht hmi ho
    obtain ⟨A2, c2, rfl, _⟩ := own_form ho
    have hkc : countG W H = W * H := by simp [countG, hok]
    have HB := Lib.hid hb
    have HO := Lib.hid ho
    have HT := Lib.hid ht
    have HMI := Lib.hid hmi
    obtain ⟨q0, q1, q2, q3⟩ := okG_iff.1 hok
    obtain ⟨N, hN⟩ : ∃ N, W * H = N := ⟨_, rfl⟩
    have hN1 : 1 ≤ N := by rw [← hN]; exact Int.mul_pos (by omega) (by omega)
    have hN16 : N ≤ 16 := by rw [← hN, ← hkc]; exact (countG_le W H).2
    have HN := Lib.hid hN
    have HKC := Lib.hid (hkc.trans hN)
    have hrow : ByteRow ((w1.alloc (.cells #[.int .i64 W, .int .i64 H, .slice none 0 0] 28)).alloc (.cells #[.slice A2 P.length c2] 30)) ((w1.alloc (.cells #[.int .i64 W, .int .i64 H, .slice none 0 0] 28)).alloc (.cells #[.slice A2 P.length c2] 30)).heap.size A n := by
      have hb2 := gb_alloc (gb_alloc (gb_of_below hb none) (.cells #[.int .i64 W, .int .i64 H, .slice none 0 0] 28)) (.cells #[.slice A2 P.length c2] 30)
      exact (HR.out.keep fun p hp => World.cell?_of_block (hb2.block p.block hp (by simp))).more hb2.size
    have HRW := Lib.hid hrow
    have hbt : Blk ((w1.alloc (.cells #[.int .i64 W, .int .i64 H, .slice none 0 0] 28)).alloc (.cells #[.slice A2 P.length c2] 30)) (w1.heap.size + 1) 30 #[.slice A2 P.length c2] := by
      have := Blk.new (w1.alloc (.cells #[.int .i64 W, .int .i64 H, .slice none 0 0] 28)) 30 #[.slice A2 P.length c2]
      rwa [alloc_size] at this
    have HBT := Lib.hid hbt
    have HBM := Lib.hid (show Blk ((w1.alloc (.cells #[.int .i64 W, .int .i64 H, .slice none 0 0] 28)).alloc (.cells #[.slice A2 P.length c2] 30)) w1.heap.size 28 #[.int .i64 W, .int .i64 H, .slice none 0 0] from (Blk.new w1 _ _).alloc _)
    clear hok hr1 hr4 ho hb ht hmi hlo hkc hP hrow hbt hN
    go_wp2_with fail
    refine (drawPlaces A n cap _ HRW.out hn).mono ?_
    rintro e w2 ⟨pb, c3, l, rfl, hl, hlb, hlc, hb2⟩
    obtain ⟨x0, hx0⟩ : ∃ x, l[0]? = some x := ⟨_, List.getElem?_eq_getElem (by omega)⟩
    obtain ⟨x1, hx1⟩ : ∃ x, l[1]? = some x := ⟨_, List.getElem?_eq_getElem (by omega)⟩
    have hb20 := hlb x0 (List.mem_of_getElem? hx0)
    have hb21 := hlb x1 (List.mem_of_getElem? hx1)
    have LA := Lib.hid (show TwAt W H A2 c2 P w w1.heap.size (w1.heap.size + 1) pb x0 x1 w2 from
      ⟨HBM.out.below hb2 HBM.out.lt, HBT.out.below hb2 HBT.out.lt, (((intAt_own HO.out rfl (Nat.le_refl _)).none (Nat.le_refl _) (gb_alloc (gb_alloc (gb_refl w1 none) _) _)).below (hb2.mono (by rw [alloc_size, alloc_size]; omega))).more (Nat.le_trans (by rw [alloc_size, alloc_size]; omega) hb2.size),
        hlc 0 x0 hx0, hlc 1 x1 hx1, ((HB.out.alloc HB.out.size _).alloc (by rw [alloc_size]; have := HB.out.size; omega) _).trans (hb2.mono (by rw [alloc_size, alloc_size]; have := HB.out.size; omega))⟩)
    obtain ⟨b0, hb0⟩ : ∃ b, w1.heap.size = b := ⟨_, rfl⟩
    rw [hb0] at LA
    obtain ⟨b1, hb1⟩ : ∃ b, b0 + 1 = b := ⟨_, rfl⟩
    rw [hb1] at LA
    obtain ⟨a0, a1, a2, a3, a4, a5⟩ := LA.out.cells
    have hw := HN.out
    have e1 : wrap64 (W * H) = N := by rw [hw]; exact IntWalk.wrap64_in _ (by omega)
    obtain ⟨y0, hy0⟩ : ∃ y, Int.tmod x0 N = y := ⟨_, rfl⟩
    obtain ⟨y1, hy1⟩ : ∃ y, Int.tmod x1 N = y := ⟨_, rfl⟩
    have hy00 : 0 ≤ y0 ∧ y0 < N := by rw [← hy0, Int.tmod_eq_emod_of_nonneg (by omega)]; exact ⟨Int.emod_nonneg x0 (by omega), Int.emod_lt_of_pos x0 (by omega)⟩
    have hy10 : 0 ≤ y1 ∧ y1 < N := by rw [← hy1, Int.tmod_eq_emod_of_nonneg (by omega)]; exact ⟨Int.emod_nonneg x1 (by omega), Int.emod_lt_of_pos x1 (by omega)⟩
    have z5 : (N == 0) = false := by simp; omega
    have z6 : N ≠ 0 := by omega
    have HH0 := Lib.hid (show hasG W H y0 = true from hasG_iff.2 ⟨hy00.1, by rw [HKC.out]; exact hy00.2⟩)
    have HH1 := Lib.hid (show hasG W H y1 = true from hasG_iff.2 ⟨hy10.1, by rw [HKC.out]; exact hy10.2⟩)
    clear hlb hlc hl hx0 hx1 hb2 hw
    go_wp2_with fail
    clear e1 hy0 hy1 z5 z6
    by_cases hy : y0 = y1
    · subst hy
      refine (implWalkTable W H none A2 0 0 P.length c2 [] P y0 y0 wfl_none _ (IntAt.nil _ _ _) LA.out.row (by omega) (by omega)).mono ?_
      rintro e w3 ⟨v, rfl, o3, b3⟩
      rw [walk_self] at o3
      obtain ⟨A3, c3', rfl, _⟩ := own_form o3
      have LB := Lib.hid (LA.out.gb (gb_of_below b3 none))
      clear o3 b3 a0 a1 a2 a3 a4 a5
      obtain ⟨a0, a1, a2, a3, a4, a5⟩ := LB.out.cells
      go_wp2_with fail
      refine (implPortAt W H none A2 0 0 P.length c2 [] P y0 y0 wfl_none _ (IntAt.nil _ _ _) LB.out.row (by omega) (by omega)).mono ?_
      rintro e w4 ⟨rfl, hg4⟩
      rw [port_self HT.out HH0.out]
      have LC := Lib.hid (LB.out.gb hg4)
      clear hg4 a0 a1 a2 a3 a4 a5
      go_wp2_with fail
      go_ret
      exact ⟨rfl, LC.out.old⟩
    · obtain ⟨t, p, hwk, ht0, ht16, hrt, hfr, hfirst, hnn, hport, hpa, hlast, hd⟩ := table_walk HT.out HMI.out HH0.out HH1.out hy
      have hyb : (y0 == y1) = false := beq_false_of_ne hy
      have HWT := Lib.hid (table_wf hrt)
      have HRT := Lib.hid hrt
      have HFR := Lib.hid hfr
      have HPA := Lib.hid hpa
      obtain ⟨N2, hN2⟩ : ∃ N2, nodesG W H [] t = N2 := ⟨_, rfl⟩
      have hnl := nodes_len hrt
      have hn0 := nodes_at hrt (j := 0) (Nat.zero_le _)
      have hnq := nodes_at hrt (j := t.length) (Nat.le_refl _)
      rw [atR, if_pos rfl, hfirst] at hn0
      rw [hlast] at hnq
      rw [hN2] at hnl hn0 hnq
      obtain ⟨q, hq⟩ : ∃ q, t.length = q := ⟨_, rfl⟩
      rw [hq] at ht0 ht16 hnl hnq hd
      have m2 : (0 : Int) ≤ (q : Int) := by omega
      have m3 : (q : Int) < (q : Int) + 1 := by omega
      have m4 : (0 : Int) < (q : Int) + 1 := by omega
      have m5 : (0 : Int) < (q : Int) := by omega
      obtain ⟨f0, hf0⟩ : ∃ f0, t.getD 0 0 = f0 := ⟨_, rfl⟩
      rw [hf0] at hfirst hnn hport
      have HQ := Lib.hid hq
      have HN2 := Lib.hid hN2
      have HNL := Lib.hid hnl
      have HF0 := Lib.hid hf0
      have HC0 := Lib.hid hn0
      have HCQ := Lib.hid hnq
      have HDI := Lib.hid (fun w => implDistanceV W H y0 y1 q hd.symm w)
      have HWK := Lib.hid hwk
      have Q1 := Lib.hid (show Int.tmod f0 4 = p by rw [Int.tmod_eq_emod_of_nonneg hnn, hport])
      have hqz : ((q : Int) == 0) = false := beq_false_of_ne (by omega)
      clear hwk hrt hfr hfirst hnn hport hpa hlast hd hN2 hnl hn0 hnq hq hf0 hy
      refine (implWalkTable W H none A2 0 0 P.length c2 [] P y0 y1 wfl_none _ (IntAt.nil _ _ _) LA.out.row (by omega) (by omega)).mono ?_
      rintro e w3 ⟨v, rfl, o3, b3⟩
      rw [HWK.out, HQ.out] at o3
      obtain ⟨A3, c3', rfl, _⟩ := own_form o3
      have LB := Lib.hid (LA.out.gb (gb_of_below b3 none))
      have T3 := Lib.hid (intAt_own o3 HQ.out (Nat.le_refl _))
      clear o3 b3 a0 a1 a2 a3 a4 a5
      obtain ⟨a0, a1, a2, a3, a4, a5⟩ := LB.out.cells
      go_wp2_with fail
      refine (implRouteNodes W H none A3 0 0 q c3' [] t wfl_none HWT.out _ (IntAt.nil _ _ _) T3.out (by omega) (by omega)).mono ?_
      rintro e w4 ⟨v10, rfl, o4, b4⟩
      rw [HN2.out, HNL.out] at o4
      obtain ⟨A4, c4, rfl, _⟩ := own_form o4
      have LC := Lib.hid (LB.out.gb (gb_of_below b4 none))
      have T4 := Lib.hid (it_gb T3.out (gb_of_below b4 none))
      have hi4 := intAt_own o4 HNL.out (Nat.le_refl _)
      obtain ⟨bn, on, rfl, _, en0⟩ := hi4.at 0 (by omega)
      obtain ⟨bn', on', hbe, _, enq⟩ := hi4.at q (by omega)
      obtain ⟨rfl, rfl⟩ : bn = bn' ∧ on = on' := by injection hbe with h1; injection h1 with h2 h3; exact ⟨h2, h3⟩
      rw [HC0.out] at en0
      rw [HCQ.out] at enq
      have en0' : w4.cell? ⟨bn, on, none⟩ = some (.int .i64 y0) := en0
      clear o4 b4 a0 a1 a2 a3 a4 a5 hi4 hbe en0
      obtain ⟨a0, a1, a2, a3, a4, a5⟩ := LC.out.cells
      go_wp2_with fail
      refine (HDI.out _).mono ?_
      rintro e w5 ⟨rfl, hg5⟩
      have LD := Lib.hid (LC.out.gb hg5)
      have T5 := Lib.hid (it_gb T4.out hg5)
      clear hg5 a0 a1 a2 a3 a4 a5 en0' enq
      obtain ⟨bt, ot, rfl, _, et⟩ := T5.out.at 0 (by omega)
      rw [HF0.out] at et
      have g4 : w5.cell? ⟨bt, ot, none⟩ = some (.int .i64 f0) := et
      obtain ⟨g0, g1, g2, g3, _, _⟩ := LD.out.cells
      have LDd := Lib.hid (LD.out.gb (gb_drew (gb_refl w5 none)))
      obtain ⟨n0, n1, n2, n3, _, _⟩ := LDd.out.cells
      have n4 : w5.drew.cell? ⟨bt, ot, none⟩ = some (.int .i64 f0) := g4
      have T5d : Hid (IntAt w5.drew w5.drew.heap.size (some ⟨bt, ot, none⟩) q t) := T5.out
      have CR := Lib.hid (fun w h => implIsRoute W H none (some ⟨bt, ot, none⟩) 0 0 q c3' [] t true HRT.out wfl_none HWT.out w (IntAt.nil _ _ _) h (by omega) (by omega))
      have CF := Lib.hid (fun w h => implIsLoopFree W H none (some ⟨bt, ot, none⟩) 0 0 q c3' [] t true HFR.out wfl_none HWT.out w (IntAt.nil _ _ _) h (by omega) (by omega))
      have CP := Lib.hid (fun w h => show Calls Try.prog 14 #[.agg #[.int .i64 W, .int .i64 H, .slice none 0 0], .agg #[.slice A2 P.length c2], .int .i64 y0, .int .i64 y1] w (RetI p none w) from HPA.out ▸ implPortAt W H none A2 0 0 P.length c2 [] P y0 y1 wfl_none w (IntAt.nil _ _ _) h (by omega) (by omega))
      have q1 := Q1.out
      clear et
      go_wp2_with fail
      go_region_held3 (fun w' => w'.cell? ⟨b0, 0, none⟩ = some (.int .i64 W) ∧ w'.cell? ⟨b0, 1, none⟩ = some (.int .i64 H) ∧ w'.cell? ⟨b0, 2, none⟩ = some (.slice none 0 0) ∧ w'.cell? ⟨b1, 0, none⟩ = some (.slice A2 P.length c2) ∧ w'.cell? ⟨bt, ot, none⟩ = some (.int .i64 f0))
        (first | with_reducible exact ⟨n0, n1, n2, n3, n4⟩ | with_reducible exact ⟨g0, g1, g2, g3, g4⟩ | with_reducible exact ⟨h0, h1, h2, h3, h4⟩ | with_reducible exact ⟨i0, i1, i2, i3, i4⟩ | with_reducible exact ⟨j0, j1, j2, j3, j4⟩ | fail)
        (first
          | (go_at_call 17; (with_reducible refine (CR.out _ T5d.out).mono ?_); rintro e w6 ⟨rfl, hg6⟩; have LE := Lib.hid (LDd.out.gb hg6); have T6 := Lib.hid (it_gb T5d.out hg6); obtain ⟨h0, h1, h2, h3, _, _⟩ := LE.out.cells; have h4 : w6.cell? ⟨bt, ot, none⟩ = some (.int .i64 f0) := (gb_undrew3 hg6).cell g4 (by simp); clear hg6)
          | (go_at_call 18; (with_reducible refine (CF.out _ T6.out).mono ?_); rintro e w7 ⟨rfl, hg7⟩; have LF := Lib.hid (LE.out.gb hg7); obtain ⟨i0, i1, i2, i3, _, _⟩ := LF.out.cells; have i4 := hg7.cell h4 (by simp); clear hg7)
          | (go_at_call 14; (with_reducible refine (CP.out _ LF.out.row).mono ?_); rintro e w8 ⟨rfl, hg8⟩; have LG := Lib.hid (LF.out.gb hg8); obtain ⟨j0, j1, j2, j3, _, _⟩ := LG.out.cells; have j4 := hg8.cell i4 (by simp); clear hg8)
          | fail)
      all_goals
        go_wp2_with fail
        go_ret
        exact ⟨rfl, LG.out.old⟩
end Go.Proofs.Ytakigpgkcneboaa
