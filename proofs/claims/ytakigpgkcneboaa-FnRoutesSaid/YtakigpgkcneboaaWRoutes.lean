/- What is proved here: the law on routes answers true, for every draw; only new blocks are written. -/
import Derived.Test.YtakigpgkcneboaaDrawRoute
import Derived.Test.YtakigpgkcneboaaSameI
import Derived.Test.YtakigpgkcneboaaBig
import Derived.Test.YtakigpgkcneboaaRevI
import Derived.Test.YtakigpgkcneboaaJoinI
namespace Go.Proofs.Ytakigpgkcneboaa
open Go.ChangeShapes Go.WideShapes Go.ChangeAt Go.RowKit
set_option linter.unusedVariables false

theorem route_wf {W H : Int} {L r : List Int} (h : routeG W H L r = true) : WfL r := fun x hx => by
  obtain ⟨j, hj, rfl⟩ := List.getElem_of_mem hx
  have q := (route_at h hj).1
  rw [List.getD_eq_getElem?_getD, List.getElem?_eq_getElem hj] at q
  simp only [hasChG, Bool.and_eq_true] at q
  exact leads_wf q.1
theorem ia_gb {w w' : World} {A : Option Addr} {n : Nat} {L : List Int} (h : IntAt w w.heap.size A n L) (hg : w.grownBy w' none) : IntAt w' w'.heap.size A n L := (h.none (Nat.le_refl _) hg).more hg.size
/-- The drawn mesh and the drawn list. -/
structure RtAt (W H : Int) (A A4 : Option Addr) (cap : Nat) (L r : List Int) (w : World) (b0 : Nat) (wr : World) : Prop where
  mesh : Blk wr b0 28 #[.int .i64 W, .int .i64 H, .slice A L.length cap]
  mrow : IntAt wr wr.heap.size A L.length L
  rrow : IntAt wr wr.heap.size A4 r.length r
  old : Below w.heap.size w wr
section
variable {W H : Int} {A A4 : Option Addr} {cap : Nat} {L r : List Int} {w wr w' : World} {b0 : Nat}
theorem RtAt.gb (h : RtAt W H A A4 cap L r w b0 wr) (hg : wr.grownBy w' none) : RtAt W H A A4 cap L r w b0 w' := ⟨h.mesh.grown hg (by simp), ia_gb h.mrow hg, ia_gb h.rrow hg, below_gb h.old (Nat.le_refl _) hg⟩
theorem RtAt.cells (h : RtAt W H A A4 cap L r w b0 wr) : wr.cell? ⟨b0, 0, none⟩ = some (.int .i64 W) ∧ wr.cell? ⟨b0, 1, none⟩ = some (.int .i64 H) ∧ wr.cell? ⟨b0, 2, none⟩ = some (.slice A L.length cap) := ⟨h.mesh.cell 0, h.mesh.cell 1, h.mesh.cell 2⟩
end

set_option maxRecDepth 20000 in
set_option maxHeartbeats 4000000 in
theorem walk_FnRoutes (A : Option Addr) (n cap : Nat) (w : World) (hr : ByteRow w w.heap.size A n) :
    Calls Try.prog 4 #[.slice A n cap] w fun e w' => e = .returned (.bool true) ∧ Below w.heap.size w w' := by
  by_cases hbig : 1048576 < n
  · go_enter Try.func4, Try.ntmps4
    go_wp2_with fail
    refine (lawsBig A n cap _).mono ?_
    rintro e w1 ⟨rfl, rfl⟩
    rw [decide_eq_true hbig]
    go_wp2_with fail
    go_ret
    exact ⟨rfl, Below.refl _ _⟩
  · have HR := Lib.hid hr
    have hn : n ≤ 1048576 := by omega
    clear hr
    go_enter Try.func4, Try.ntmps4
    go_wp2_with fail
    refine (lawsBig A n cap _).mono ?_
    rintro e w1 ⟨rfl, rfl⟩
    rw [decide_eq_false hbig]
    go_wp2_with fail
    refine (drawRoute A n cap _ HR.out hn).mono ?_
    rintro e w1 ⟨W, H, v, v2, L, r, rfl, hm, hrr, hLl, hrl, ho, ho2, hb⟩
    obtain ⟨Am, cm, rfl, _⟩ := own_form ho
    obtain ⟨Ar, cr, rfl, _⟩ := own_form ho2
    have hcr := (own_cap ho2).1
    have R0 := Lib.hid (show RtAt W H Am Ar cm L r w w1.heap.size (w1.alloc (.cells #[.int .i64 W, .int .i64 H, .slice Am L.length cm] 28)) from
      ⟨Blk.new w1 _ _, ia_gb (intAt_own ho rfl (Nat.le_refl _)) (gb_alloc (gb_refl _ none) _), ia_gb (intAt_own ho2 rfl (Nat.le_refl _)) (gb_alloc (gb_refl _ none) _), hb.alloc hb.size _⟩)
    have HWL := Lib.hid (mesh_wf hm)
    have HM := Lib.hid hm
    clear ho ho2 hb hm
    obtain ⟨b0, hb0⟩ : ∃ b, w1.heap.size = b := ⟨_, rfl⟩
    rw [hb0] at R0
    have HB0 := Lib.hid hb0
    clear hb0
    obtain ⟨a0, a1, a2⟩ := R0.out.cells
    rcases hrr with rfl | hrt
    · -- nothing was drawn
      have HN := Lib.hid (nodes_no (route_nil (W := W) (H := H) (L := L)))
      have hnil : WfL [] := fun x h => by cases h
      go_wp2_with fail
      (try rw [HB0.out])
      go_wp2_with fail
      refine (implRouteNodes W H Am Ar L.length cm _ cr L [] HWL.out hnil _ R0.out.mrow R0.out.rrow (by omega) (by simp)).mono ?_
      rintro e w2 ⟨v5, rfl, o5, b5⟩
      rw [HN.out] at o5
      obtain ⟨A5, c5, rfl, _⟩ := own_form o5
      have R2 := Lib.hid (R0.out.gb (gb_of_below b5 none))
      clear o5 b5 a0 a1 a2
      obtain ⟨a0, a1, a2⟩ := R2.out.cells
      go_wp2_with fail
      refine (implIsRoute W H Am Ar L.length cm _ cr L [] false route_nil HWL.out hnil _ R2.out.mrow R2.out.rrow (by omega) (by simp)).mono ?_
      rintro e w3 ⟨rfl, hg3⟩
      have R3 := Lib.hid (R2.out.gb hg3)
      clear hg3 a0 a1 a2
      go_wp2_with fail
      go_ret
      exact ⟨rfl, R3.out.old⟩
    · have HWR := Lib.hid (route_wf hrt)
      have HRT := Lib.hid hrt
      have hr0 := route_pos hrt
      have hzb : (((r.length : Nat) : Int) == 0) = false := beq_false_of_ne (by omega)
      obtain ⟨N, hN⟩ : ∃ N, nodesG W H L r = N := ⟨_, rfl⟩
      have hNl := nodes_len hrt
      rw [hN] at hNl
      obtain ⟨q, hq⟩ : ∃ q, r.length = q := ⟨_, rfl⟩
      rw [hq] at hNl hr0 hzb hrl hcr
      have HN := Lib.hid hN
      have HQ := Lib.hid hq
      have HNL := Lib.hid hNl
      rw [hq]
      clear hrt hN hq hNl
      go_wp2_with fail
      (try rw [HB0.out])
      go_wp2_with fail
      have hi1 := R0.out.rrow
      rw [HQ.out] at hi1
      refine (implRouteNodes W H Am Ar L.length cm q cr L r HWL.out HWR.out _ R0.out.mrow hi1 (by omega) (by omega)).mono ?_
      rintro e w2 ⟨v5, rfl, o5, b5⟩
      rw [HN.out, HNL.out] at o5
      obtain ⟨A5, c5, rfl, _⟩ := own_form o5
      have R2 := Lib.hid (R0.out.gb (gb_of_below b5 none))
      have N2 := Lib.hid (intAt_own o5 HNL.out (Nat.le_refl _))
      have hz1 : (((q + 1 : Nat) : Int) != (q : Int) + 1) = false := by simp
      have hz2 : wrap64 ((q : Int) + 1) = (q : Int) + 1 := IntWalk.wrap64_in _ (by omega)
      clear o5 b5 a0 a1 a2 hi1
      obtain ⟨a0, a1, a2⟩ := R2.out.cells
      go_wp2_with fail
      obtain ⟨bb, hbb⟩ : ∃ b, backOk W H L r = b := ⟨_, rfl⟩
      have hi2 := R2.out.rrow
      rw [HQ.out] at hi2
      refine (implReverseRoute W H Am Ar L.length cm q cr L r bb hbb HWL.out HWR.out _ R2.out.mrow hi2 (by omega) (by omega)).mono ?_
      rintro e w3 ⟨v6, rfl, o6, b6⟩
      have R3 := Lib.hid (R2.out.gb (gb_of_below b6 none))
      have N3 := Lib.hid (ia_gb N2.out (gb_of_below b6 none))
      have HO6 := Lib.hid o6
      clear b6 a0 a1 a2 hi2 hz1 hz2
      obtain ⟨a0, a1, a2⟩ := R3.out.cells
      cases bb with
      | false =>
        have hL : (L.length : Int) > 0 := by
          rcases Nat.eq_zero_or_pos L.length with h0 | h0
          · have hL0 := List.eq_nil_of_length_eq_zero h0
            subst hL0
            rw [back_free HRT.out] at hbb
            cases hbb
          · omega
        have hLd : decide ((L.length : Int) > 0) = true := decide_eq_true hL
        obtain ⟨A6, c6, rfl, _⟩ := own_form o6
        clear o6 hbb
        go_wp2_with fail
        go_ret
        exact ⟨ret_bool (by first | rfl | exact hLd | (simp; omega)), R3.out.old⟩
      | true =>
        obtain ⟨g1, g2, g3, g4⟩ := back_route hbb
        obtain ⟨k1, k2⟩ := back_back hbb
        have k3 := back_round hbb
        obtain ⟨B, hB⟩ : ∃ B, backG W H L r = B := ⟨_, rfl⟩
        rw [hB] at g1 g2 g3 g4 k1 k2 k3 o6
        rw [HQ.out] at g2 g4
        rw [g2] at o6
        obtain ⟨A6, c6, rfl, _⟩ := own_form o6
        have hc6 := (own_cap o6).1
        have HG2 := Lib.hid g2
        have N6 := Lib.hid (intAt_own o6 g2 (Nat.le_refl _))
        have HWB := Lib.hid (route_wf g1)
        have HK1 := Lib.hid k1
        have HK2 := Lib.hid k2
        have HK3 := Lib.hid k3
        have HG1 := Lib.hid g1
        have HNB := Lib.hid (nodes_len g1)
        have HG4 := Lib.hid g4
        clear o6 hbb hB g1 g3 g4 k1 k2 k3 g2 HO6
        go_wp2_with fail
        refine (implReverseRoute W H Am A6 L.length cm q c6 L B true HK1.out HWL.out HWB.out _ R3.out.mrow N6.out (by omega) (by omega)).mono ?_
        rintro e w4 ⟨v8, rfl, o8, b8⟩
        rw [HK2.out, HQ.out] at o8
        obtain ⟨A8, c8, rfl, _⟩ := own_form o8
        have R4 := Lib.hid (R3.out.gb (gb_of_below b8 none))
        have N4 := Lib.hid (ia_gb N3.out (gb_of_below b8 none))
        have N64 := Lib.hid (ia_gb N6.out (gb_of_below b8 none))
        have N8 := Lib.hid (intAt_own o8 HQ.out (Nat.le_refl _))
        clear o8 b8 a0 a1 a2
        obtain ⟨a0, a1, a2⟩ := R4.out.cells
        go_wp2_with fail
        obtain ⟨M, hM⟩ : ∃ M, nodesG W H L B = M := ⟨_, rfl⟩
        have hMl : M.length = q + 1 := by rw [← hM, HNB.out, HG2.out]
        have HMM := Lib.hid hM
        refine (implRouteNodes W H Am A6 L.length cm q c6 L B HWL.out HWB.out _ R4.out.mrow N64.out (by omega) (by omega)).mono ?_
        rintro e w5 ⟨v10, rfl, o10, b10⟩
        rw [hM, hMl] at o10
        obtain ⟨A10, c10, rfl, _⟩ := own_form o10
        have R5 := Lib.hid (R4.out.gb (gb_of_below b10 none))
        have N5 := Lib.hid (ia_gb N4.out (gb_of_below b10 none))
        have N65 := Lib.hid (ia_gb N64.out (gb_of_below b10 none))
        have N85 := Lib.hid (ia_gb N8.out (gb_of_below b10 none))
        have N10 := Lib.hid (intAt_own o10 hMl (Nat.le_refl _))
        have HMN := Lib.hid (fun (k j : Nat) (hk : k < q + 1) (hj : j = q - k) => show M.getD k 0 = N.getD j 0 by
          rw [← hM, ← HN.out, nodes_at HG1.out (by rw [HG2.out]; omega), nodes_at HRT.out (by rw [HQ.out]; omega), HG4.out k (by omega), hj])
        clear o10 b10 a0 a1 a2 hM hMl
        go_wp2_with fail
        go_loopw [11] (fun i wr => ∃ k : Nat, i = .int .i64 (k : Int) ∧ k ≤ q + 1 ∧ w5.grownBy wr none) (fun i _ => q + 1 - (intOf i).toNat)
        case atStart => exact ⟨0, rfl, Nat.zero_le _, gb_refl _ _⟩
        case round =>
          obtain ⟨k, rfl, hk, hgr⟩ := hrel
          have HGR := Lib.hid hgr
          by_cases hlt : k < q + 1
          · obtain ⟨j, hj⟩ : ∃ j : Nat, (q : Int) - (k : Int) = (j : Int) := ⟨q - k, by omega⟩
            have hjq : j < q + 1 := by omega
            obtain ⟨gB, oB, rfl, _, eB⟩ := (ia_gb N10.out hgr).at k hlt
            obtain ⟨gA, oA, rfl, _, eA⟩ := (ia_gb N5.out hgr).at j hjq
            rw [HMN.out k j hlt (by omega)] at eB
            obtain ⟨z, hz⟩ : ∃ z, N.getD j 0 = z := ⟨_, rfl⟩
            rw [hz] at eA eB
            have e1 : wrap64 (((q : Int) + 1) - 1) = (q : Int) := by rw [Int.add_sub_cancel]; exact IntWalk.wrap64_in _ (by omega)
            have e2 : wrap64 ((q : Int) - (k : Int)) = (j : Int) := by rw [hj]; exact IntWalk.wrap64_in _ (by omega)
            have e3 : IntKind.i64.wrap (((q : Int) + 1) - 1) = (q : Int) := by rw [Int.add_sub_cancel]; exact IntWalk.i64_in _ (by omega)
            have e4 : IntKind.i64.wrap ((q : Int) - (k : Int)) = (j : Int) := by rw [hj]; exact IntWalk.i64_in _ (by omega)
            have j0 : (0 : Int) ≤ (j : Int) := by omega
            have j1 : (j : Int) < (q : Int) + 1 := by omega
            have k0 : (0 : Int) ≤ (k : Int) := by omega
            have k1 : (k : Int) < (q : Int) + 1 := by omega
            clear hz hgr hj
            go_wp2_with fail
            go_quiet (fail)
            go_wp2_with fail
            go_roundw
            case rel => exact ⟨k + 1, by go_num, by omega, gb_drewN HGR.out _⟩
            case measure => simp [intOf]; omega
          · obtain rfl : k = q + 1 := by omega
            have R6 := Lib.hid (R5.out.gb hgr)
            have N66 := Lib.hid (ia_gb N65.out hgr)
            have N86 := Lib.hid (ia_gb N85.out hgr)
            obtain ⟨a0, a1, a2⟩ := R6.out.cells
            clear hgr
            go_wp2_with fail
            have hi3 := R6.out.rrow
            rw [HQ.out] at hi3
            refine (implJoinRoutes W H Am Ar A6 L.length cm q cr q c6 L r B true HK3.out HWL.out HWR.out HWB.out _ R6.out.mrow hi3 N66.out hcr (by omega) (by omega)).mono ?_
            rintro e w7 ⟨v12, rfl, o12, b12⟩
            have hjl : (joinG W H L r B).length = q + q := by rw [joinG_yes HK3.out, List.length_append, HQ.out, HG2.out]
            rw [hjl] at o12
            obtain ⟨A12, c12, rfl, _⟩ := own_form o12
            have R7 := Lib.hid (R6.out.gb (gb_of_below b12 none))
            have N87 := Lib.hid (ia_gb N86.out (gb_of_below b12 none))
            have e5 : wrap64 (2 * (q : Int)) = 2 * (q : Int) := IntWalk.wrap64_in _ (by omega)
            have e6 : (((q : Int) + (q : Int)) == 2 * (q : Int)) = true := beq_iff_eq.2 (by omega)
            clear o12 b12 a0 a1 a2 hi3 hjl
            go_wp2_with fail
            have hi4 := R7.out.rrow
            rw [HQ.out] at hi4
            refine (lawsSameInts A8 Ar q c8 cr _ _ r _ N87.out hi4 (by omega)).mono ?_
            rintro e w8 ⟨rfl, hg8⟩
            have R8 := Lib.hid (R7.out.gb hg8)
            clear hg8 hi4
            go_wp2_with fail
            go_ret
            exact ⟨ret_bool (by first | rfl | exact e6 | (simp; omega)), R8.out.old⟩
end Go.Proofs.Ytakigpgkcneboaa
