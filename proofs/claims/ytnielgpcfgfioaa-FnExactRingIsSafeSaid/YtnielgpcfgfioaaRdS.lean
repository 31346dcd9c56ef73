/- What is proved here: what the model's RingDepends and RingIsSafe return, for all arguments; only new blocks are written. -/
import Derived.Test.YtnielgpcfgfioaaRhS
import Derived.Test.YtnielgpcfgfioaaRingC
import Derived.Test.YtnielgpcfgfioaaDvS
import Derived.Test.YtnielgpcfgfioaaHasCS
import Derived.Deep.RegionHeld3
namespace Go.Proofs.Ytnielgpcfgfioaa
open Go.ChangeShapes Go.WideShapes Go.ChangeAt Go.RowKit
set_option linter.unusedVariables false
set_option maxRecDepth 20000

theorem gb_drR {a b : World} {row : Option Nat} (h : a.drew.grownBy b row) : a.grownBy b row := ⟨h.os, h.tape, h.output, h.size, h.block⟩
theorem clsH_01 (n a : Nat) (d : Bool) (k : Nat) : 0 ≤ clsH n a d k ∧ clsH n a d k ≤ 1 := by unfold clsH; split <;> omega
theorem ring_ok {n x : Nat} (h2 : 2 ≤ n) (h12 : n ≤ 12) (hx : x < n * n) : ringOk (n : Int) ((x / n : Nat) : Int) ((x % n : Nat) : Int) = true := by
  have h1 := div_lt hx
  have h3 : x % n < n := Nat.mod_lt _ (by omega)
  obtain ⟨u, hu⟩ : ∃ u, x / n = u := ⟨_, rfl⟩
  obtain ⟨v, hv⟩ : ∃ v, x % n = v := ⟨_, rfl⟩
  rw [hu] at h1 ⊢
  rw [hv] at h3 ⊢
  exact ringOk_iff.2 ⟨by omega, by omega, by omega⟩

set_option maxHeartbeats 3200000 in
theorem specRingDepends (n : Int) (d : Bool) (w : World) :
    Calls Try.prog 19 #[.int .i64 n, .bool d] w (NewD (ringD n d) w) := by
  have X0 := Lib.hid (DvAt.start (B := w.heap.size) w (Nat.le_refl _))
  cases hr : rinG n with
  | false =>
    have HIN := Lib.hid (specInV n 2 12 false hr)
    rw [ringD_no hr]
    clear hr
    go_enter Try.func19, Try.ntmps19
    go_wp2_with fail
    go_loopw [5, 6] (fun v i wr => v = .slice (some ⟨w.heap.size, 0, none⟩) 0 0 ∧ i = .int .i64 0 ∧ wr = w.alloc (.cells #[] 49)) (fun _ _ _ => 0)
    case atStart => exact ⟨rfl, rfl, rfl⟩
    case round =>
      obtain ⟨rfl, rfl, rfl⟩ := hrel
      by_cases hlt : (0 : Int) < wrap64 (n * n)
      · go_wp2_with fail
        refine (HIN.out _).mono ?_
        rintro e w1 ⟨rfl, rfl⟩
        go_wp2_with fail
        go_ret
        exact ⟨_, rfl, X0.out.2.1, X0.out.2.2.2⟩
      · go_wp2_with fail
        go_ret
        exact ⟨_, rfl, X0.out.2.1, X0.out.2.2.2⟩
  | true =>
    obtain ⟨r1, r2⟩ := rinG_iff.1 hr
    obtain ⟨n, rfl⟩ : ∃ m : Nat, n = (m : Int) := ⟨n.toNat, by omega⟩
    have h2 : 2 ≤ n := by omega
    have h12 : n ≤ 12 := by omega
    have HIN := Lib.hid (specInV (n : Int) 2 12 true hr)
    rw [ringD_nat h2 h12]
    obtain ⟨q, hq⟩ : ∃ q, n * n = q := ⟨_, rfl⟩
    have hq144 : q ≤ 144 := by rw [← hq]; exact ring_sq h12
    have hw : wrap64 ((n : Int) * (n : Int)) = (q : Int) := by
      rw [← hq, IntWalk.wrap64_in _ (by rw [show (n : Int) * (n : Int) = ((n * n : Nat) : Int) by simp, hq]; omega)]
      simp
    have HOK := Lib.hid (fun x (hx : x < q) => ring_ok h2 h12 (by rw [hq]; exact hx))
    have hq0 : n ≠ 0 := by omega
    have q0 : ((n : Int) == 0) = false := by simp; omega
    have q1 : ¬ (n : Int) = 0 := by omega
    rw [hq]
    clear hr hq
    go_enter Try.func19, Try.ntmps19
    go_wp2_with fail
    go_loopw [5, 6] (fun v i wr => ∃ x : Nat, i = .int .i64 (x : Int) ∧ x ≤ q ∧ DvAt w.heap.size w (ringTo n d x) v wr) (fun _ i _ => 145 - (intOf i).toNat)
    case atStart => exact ⟨0, rfl, Nat.zero_le _, X0.out⟩
    case round =>
      obtain ⟨x, rfl, hx, hxx⟩ := hrel
      have X3 := Lib.hid hxx
      obtain ⟨gv, cv, rfl⟩ := hxx.1
      clear hxx
      by_cases hlt : x < q
      · have hxi : (x : Int) < (q : Int) := by omega
        obtain ⟨a, ha⟩ : ∃ a, x / n = a := ⟨_, rfl⟩
        obtain ⟨b, hb⟩ : ∃ b, x % n = b := ⟨_, rfl⟩
        have hok := HOK.out x hlt
        have q2 : (x : Int).tdiv (n : Int) = (a : Int) := by rw [tdiv_nat, ha]
        have q3 : (x : Int).tmod (n : Int) = (b : Int) := by rw [tmod_nat, hb]
        have hnx : ringTo n d (x + 1) = insAll (ringTo n d x) (hopP n a d (hopN n a b - 1)) := by rw [ringTo, ha, hb]
        rw [ha, hb] at hok
        obtain ⟨_, ho1, ho2⟩ := ringOk_iff.1 hok
        have q4 : IntKind.i64.wrap (a : Int) = (a : Int) := IntWalk.i64_in _ (by omega)
        have q5 : IntKind.i64.wrap (b : Int) = (b : Int) := IntWalk.i64_in _ (by omega)
        have HRH := Lib.hid (fun w => specRingHops (n : Int) (a : Int) (b : Int) d w)
        rw [hopG_nat hok] at HRH
        obtain ⟨m, hm⟩ : ∃ m, hopN n a b = m := ⟨_, rfl⟩
        have hmn : m < n := by rw [← hm]; exact hopN_lt (by omega)
        rw [hm] at HRH hnx
        have HNX := Lib.hid hnx
        obtain ⟨D, hD⟩ : ∃ D, ringTo n d x = D := ⟨_, rfl⟩
        have HASC := Lib.hid (fun j => insAll_asc (ringTo_asc n d x) (hopP n a d j))
        have HLEN := Lib.hid (fun j (hj : j ≤ 12) => show (insAll (ringTo n d x) (hopP n a d j)).length ≤ 2000000000 by
          have h1 := (insAll_length (ringTo n d x) (hopP n a d j)).1
          have h3 := ringTo_len (n := n) (d := d) h2 h12 x
          rw [hopP_length] at h1
          omega)
        rw [hD] at X3 HNX HASC HLEN
        rw [hD]
        have HAN := Lib.hid (show a < n by omega)
        clear hok ha hb hnx hm hD ho1 ho2
        go_wp2_with fail
        refine (HIN.out _).mono ?_
        rintro e w1 ⟨rfl, rfl⟩
        go_wp2_with fail
        go_region_held3 Tru
          (first | exact rfl | fail)
          (first
            | (go_at_call 15; (with_reducible refine (HRH.out _).mono ?_); rintro e w4 ⟨v, rfl, o4, b4⟩; have X4 := Lib.hid (X3.out.gb (gb_drR (gb_of_below b4 none))); have O4 := Lib.hid (own_less o4 (show w.heap.size ≤ wr.drew.heap.size from X3.out.le)); obtain ⟨AR, capR, rfl, hAR⟩ := own_form o4; have HAR := Lib.hid hAR; clear o4 b4 hAR)
            | fail)
        all_goals
          have X6 := Lib.hid (show DvAt w.heap.size w (insAll D (hopP n a d 0)) _ w4 from X4.out)
          rw [hopTo_length] at O4 HAR ⊢
          clear X4 q2 q3 q4 q5
          go_wp2_with fail
          go_loopw [5, 8] (fun v i ws => ∃ j : Nat, i = .int .i64 ((j : Int) + 1) ∧ j ≤ m - 1 ∧ DvAt w.heap.size w (insAll D (hopP n a d j)) v ws ∧ ws.ownsRow w.heap.size 31 2 (.slice AR m capR) m (depV (hopTo n a d m))) (fun _ i _ => 17 - (intOf i).toNat)
          case atStart => exact ⟨0, rfl, Nat.zero_le _, X6.out, O4.out⟩
          case round =>
            obtain ⟨j, rfl, hj, hx, ho⟩ := hrel
            have X7 := Lib.hid hx
            have O7 := Lib.hid ho
            obtain ⟨gv, cv, rfl⟩ := hx.1
            clear hx ho
            by_cases hlt3 : j + 1 < m
            · obtain ⟨gr, hgr⟩ := HAR.out (by omega)
              subst hgr
              obtain ⟨k0, k1⟩ := hop_cell O7.out j (by rw [hopTo_length]; omega)
              obtain ⟨k2, k3⟩ := hop_cell O7.out (j + 1) (by rw [hopTo_length]; omega)
              rw [hopTo_at (by omega)] at k0 k1
              rw [hopTo_at hlt3] at k2 k3
              have hp : pairH n a d j = ((hopAt n a d j).2 * 64 + (hopAt n a d j).1, (hopAt n a d (j + 1)).2 * 64 + (hopAt n a d (j + 1)).1) := rfl
              have z1 := clsH_01 n a d j
              have z2 := clsH_01 n a d (j + 1)
              have z3 : (a + j) % n < n := Nat.mod_lt _ (by omega)
              have z4 : (a + (j + 1)) % n < n := Nat.mod_lt _ (by omega)
              simp only [hopAt] at k0 k1 k2 k3 hp
              obtain ⟨x1, hx1⟩ : ∃ z, (((a + j) % n : Nat) : Int) = z := ⟨_, rfl⟩
              obtain ⟨x2, hx2⟩ : ∃ z, (((a + (j + 1)) % n : Nat) : Int) = z := ⟨_, rfl⟩
              obtain ⟨y1, hy1⟩ : ∃ z, clsH n a d j = z := ⟨_, rfl⟩
              obtain ⟨y2, hy2⟩ : ∃ z, clsH n a d (j + 1) = z := ⟨_, rfl⟩
              have z5 : 0 ≤ x1 ∧ x1 ≤ 12 := by omega
              have z6 : 0 ≤ x2 ∧ x2 ≤ 12 := by omega
              rw [hx1, hy1] at hp
              rw [hx2, hy2] at hp
              rw [hx1] at k0
              rw [hy1] at k1 z1
              rw [hx2] at k2
              rw [hy2] at k3 z2
              have e1 : IntKind.i64.wrap (y1 * 64) = y1 * 64 := IntWalk.i64_in _ (by omega)
              have e2 : IntKind.i64.wrap (y2 * 64) = y2 * 64 := IntWalk.i64_in _ (by omega)
              have e3 : wrap64 (y1 * 64) = y1 * 64 := IntWalk.wrap64_in _ (by omega)
              have e4 : wrap64 (y2 * 64) = y2 * 64 := IntWalk.wrap64_in _ (by omega)
              have e5 : IntKind.i64.wrap (y1 * 64 + x1) = y1 * 64 + x1 := IntWalk.i64_in _ (by omega)
              have e6 : IntKind.i64.wrap (y2 * 64 + x2) = y2 * 64 + x2 := IntWalk.i64_in _ (by omega)
              have hwn := Lib.hid (ins_hop (D := D) (n := n) (a := a) (d := d) (j := j) hp)
              obtain ⟨E, hE⟩ : ∃ E, insAll D (hopP n a d j) = E := ⟨_, rfl⟩
              have hEA := HASC.out j
              have hEL := HLEN.out j (by omega)
              rw [hE] at X7 hwn hEA hEL
              rw [hE]
              have HA := Lib.hid (fun (w' : World) (h : w'.ownsRow w.heap.size 49 2 (.slice (some ⟨gv, 0, none⟩) E.length cv) E.length (depV E)) (hb : w.heap.size ≤ w'.heap.size) => specPut w.heap.size E.length gv cv E (y1 * 64 + x1, y2 * 64 + x2) hEA w' h hb hEL)
              obtain ⟨t, ht⟩ : ∃ t : Nat, j + 1 = t := ⟨_, rfl⟩
              have hti : (j : Int) + 1 = (t : Int) := by omega
              rw [ht] at k2 k3
              have j0 : (0 : Int) ≤ (j : Int) := by omega
              have j1 : (j : Int) < (m : Int) := by omega
              have j2 : (0 : Int) ≤ (t : Int) := by omega
              have j3 : (t : Int) < (m : Int) := by omega
              have e7 : IntKind.i64.wrap ((t : Int) - 1) = (j : Int) := by rw [IntWalk.i64_in _ (by omega)]; omega
              have HMM := Lib.hid (And.intro ht hlt3)
              rw [hti]
              clear hx1 hx2 hy1 hy2 hp z1 z2 z3 z4 z5 z6 hlt3 hti ht hE hEA hEL
              go_wp2_with fail
              go_region_held3 (fun w' => w'.cell? ⟨gr, j * 2, none⟩ = some (.int .i64 x1) ∧ w'.cell? ⟨gr, j * 2 + 1, none⟩ = some (.int .i64 y1) ∧ w'.cell? ⟨gr, t * 2, none⟩ = some (.int .i64 x2) ∧ w'.cell? ⟨gr, t * 2 + 1, none⟩ = some (.int .i64 y2))
                (first | exact ⟨k0, k1, k2, k3⟩ | exact ⟨d0, d1, d2, d3⟩ | fail)
                (first
                  | (go_at_call 33; (with_reducible refine (HA.out _ ?_ ?_).mono ?_); exact own_none X7.out.2.1 (gb_drew (gb_refl _ _)); exact X7.out.le; rintro e w7 ⟨g7, q7, rfl, ho7, hg7⟩; have d0 := (gb_drR hg7).cell k0 (by simp); have d1 := (gb_drR hg7).cell k1 (by simp); have d2 := (gb_drR hg7).cell k2 (by simp); have d3 := (gb_drR hg7).cell k3 (by simp))
                  | fail)
              all_goals
                have X8 := Lib.hid (show DvAt w.heap.size w (insAll D (hopP n a d (j + 1))) _ w7 from ⟨⟨g7, q7, by rw [← hwn.out]⟩, by rw [← hwn.out]; exact ho7, X7.out.2.2.1, below_gb X7.out.2.2.2 X7.out.2.2.1 (gb_drR hg7)⟩)
                have O8 := Lib.hid (own_none O7.out (gb_drR hg7))
                clear ho7 hg7 d0 d1 d2 d3 k0 k1 k2 k3
                go_wp2_with fail
                go_roundw
                case rel => exact ⟨j + 1, by have hm := HMM.out.1; go_num, by have := HMM.out.2; omega, X8.out, O8.out⟩
                case measure => have hm := HMM.out; simp [intOf]; omega
            · obtain rfl : j = m - 1 := by omega
              have hl3 : ¬ ((m - 1 : Nat) : Int) + 1 < (m : Int) := by omega
              have X8 := Lib.hid (show DvAt w.heap.size w (ringTo n d (x + 1)) _ _ from by
                rw [HNX.out]
                exact X7.out)
              clear X7 O7
              go_wp2_with fail
              go_roundw
              case rel => exact ⟨x + 1, by go_num, by omega, X8.out⟩
              case measure => simp [intOf]; omega
      · have hxk : x = q := by omega
        have HXK := Lib.hid hxk
        have hxi : ¬ (x : Int) < (q : Int) := by omega
        clear hxk
        go_wp2_with fail
        go_ret
        exact ⟨_, rfl, by have := X3.out.2.1; rw [HXK.out] at this ⊢; exact this, X3.out.2.2.2⟩
theorem specRingIsSafe (n : Int) (d : Bool) (w : World) :
    Calls Try.prog 24 #[.int .i64 n, .bool d] w (RetB (ringS n d) w) := by
  cases hr : rinG n with
  | false =>
    have HIN := Lib.hid (specInV n 2 12 false hr w)
    have HS := Lib.hid (show false = ringS n d by rw [ringS, hr]; rfl)
    clear hr
    go_enter Try.func24, Try.ntmps24
    go_wp2_with fail
    refine HIN.out.mono ?_
    rintro e w1 ⟨rfl, rfl⟩
    go_wp2_with fail
    go_ret
    exact ⟨ret_bool HS.out, gb_refl _ _⟩
  | true =>
    have HIN := Lib.hid (specInV n 2 12 true hr w)
    have HRD := Lib.hid (fun w => specRingDepends n d w)
    have HRL := Lib.hid (ringD_len n d)
    have HS := Lib.hid (show (!hasCyc (ringD n d)) = ringS n d by rw [ringS, hr]; rfl)
    obtain ⟨D, hD⟩ : ∃ D, ringD n d = D := ⟨_, rfl⟩
    rw [hD] at HRD HRL HS
    have HHC := Lib.hid (fun A c w h => specHasCycle A D.length c D w h (by have := HRL.out; omega))
    obtain ⟨c, hc⟩ : ∃ c, hasCyc D = c := ⟨_, rfl⟩
    rw [hc] at HS HHC
    clear hr hD hc
    go_enter Try.func24, Try.ntmps24
    go_wp2_with fail
    refine HIN.out.mono ?_
    rintro e w1 ⟨rfl, rfl⟩
    go_wp2_with fail
    refine (HRD.out _).mono ?_
    rintro e w2 ⟨v2, rfl, o2, b2⟩
    obtain ⟨A2, c2, rfl, _⟩ := own_form o2
    have O2 := Lib.hid (depAt_own o2 (Nat.le_refl _))
    have G2 := Lib.hid (gb_of_below b2 none)
    clear o2 b2
    go_wp2_with fail
    refine (HHC.out A2 c2 _ O2.out).mono ?_
    rintro e w3 ⟨rfl, hg3⟩
    have G3 := Lib.hid (gb_trans G2.out hg3)
    clear hg3
    go_wp2_with fail
    go_ret
    exact ⟨ret_bool HS.out, G3.out⟩
end Go.Proofs.Ytnielgpcfgfioaa
