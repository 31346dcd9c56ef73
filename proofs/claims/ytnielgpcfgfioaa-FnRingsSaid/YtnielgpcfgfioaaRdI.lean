/- What is proved here: what the program's RingDepends and RingIsSafe return, for all arguments; only new blocks are written. -/
import Derived.Test.YtnielgpcfgfioaaRhI
import Derived.Test.YtnielgpcfgfioaaRingC
import Derived.Test.YtnielgpcfgfioaaInsertI
import Derived.Test.YtnielgpcfgfioaaHasCI
import Derived.Deep.RegionHeld3
namespace Go.Proofs.Ytnielgpcfgfioaa
open Go.ChangeShapes Go.WideShapes Go.ChangeAt Go.RowKit
set_option linter.unusedVariables false
set_option maxRecDepth 20000

/-- Rows of different types lie in different blocks. -/
theorem own_typesR {w : World} {b1 b2 s1 s2 n1 n2 : Nat} {e1 e2 : TypeId} {v1 v2 : Value} {x1 x2 : List Value} (h1 : w.ownsRow b1 e1 s1 v1 n1 x1) (h2 : w.ownsRow b2 e2 s2 v2 n2 x2) (hne : e1 ≠ e2) : v1.ownBlock = none ∨ v1.ownBlock ≠ v2.ownBlock := by
  rcases h1.2 with ⟨h3, _⟩ | ⟨g1, c1, cur1, h3, _, hg1, _⟩
  · rw [h3]; exact .inl rfl
  · right
    rw [h3]
    rcases h2.2 with ⟨h4, _⟩ | ⟨g, c4, cur, h4, _, hg, _⟩
    · rw [h4]; intro e; cases e
    · rw [h4]
      intro e
      have e2 : g1 = g := Option.some.inj e
      subst e2
      rw [hg] at hg1
      have e3 := Option.some.inj hg1
      injection e3 with _ e4 _
      exact hne e4.symm
theorem gb_drI {a b : World} {row : Option Nat} (h : a.drew.grownBy b row) : a.grownBy b row := ⟨h.os, h.tape, h.output, h.size, h.block⟩
theorem clsH_01I (n a : Nat) (d : Bool) (k : Nat) : 0 ≤ clsH n a d k ∧ clsH n a d k ≤ 1 := by unfold clsH; split <;> omega
theorem ring_step {n a b : Nat} (d : Bool) (hb : b < n) : ringTo n d (a * n + (b + 1)) = insAll (ringTo n d (a * n + b)) (hopP n a d (hopN n a b - 1)) := by
  obtain ⟨h1, h2⟩ := pair_no (a := a) hb
  rw [← Nat.add_assoc, ringTo, h1, h2]
theorem ring_row {n a : Nat} (d : Bool) : ringTo n d (a * n + n) = ringTo n d ((a + 1) * n) := by rw [Nat.succ_mul]

theorem implNumber (c k : Int) (hc : 0 ≤ c ∧ c ≤ 12) (hk : 0 ≤ k ∧ k ≤ 1) (w : World) :
    Calls Try.prog 35 #[.agg #[.int .i64 c, .int .i64 k]] w (RetI (k * 64 + c) none w) := by
  have e1 : IntKind.i64.wrap (k * 64) = k * 64 := IntWalk.i64_in _ (by omega)
  have e2 : IntKind.i64.wrap (k * 64 + c) = k * 64 + c := IntWalk.i64_in _ (by omega)
  have BG := Lib.hid (gb_alloc (gb_refl w none) (.cells #[.int .i64 c, .int .i64 k] 31))
  clear hc hk
  go_enter Try.func35, Try.ntmps35
  go_wp2_with fail
  go_ret
  exact ⟨rfl, BG.out⟩

/-- A list of dependencies of the call's own. -/
def DiAt (w : World) (D : List Dep) (v : Value) (wr : World) : Prop :=
  wr.ownsRow w.heap.size 49 2 v D.length (depV D) ∧ Below w.heap.size w wr
section
variable {w wr w' : World} {D D' : List Dep} {v v' : Value}
theorem DiAt.gb (h : DiAt w D v wr) (hg : wr.grownBy w' none) : DiAt w D v w' := ⟨own_none h.1 hg, h.2.grown hg h.2.size (fun q hq => by cases hq)⟩
theorem DiAt.put (h : DiAt w D v wr) (ho : w'.ownsRow w.heap.size 49 2 v' D'.length (depV D')) (hg : wr.grownBy w' v.ownBlock) : DiAt w D' v' w' :=
  ⟨ho, h.2.grown hg h.2.size (fun q hq => (h.1.lt q hq).1)⟩
theorem DiAt.nil (w : World) : DiAt w [] (.slice none 0 0) w := ⟨World.ownsRow_nil _ _ _ _, Below.refl _ _⟩
end

set_option maxHeartbeats 3200000 in
theorem implRingDepends (n : Int) (d : Bool) (w : World) :
    Calls Try.prog 20 #[.int .i64 n, .bool d] w (NewD (ringD n d) w) := by
  have X0 := Lib.hid (DiAt.nil w)
  cases hr : rinG n with
  | false =>
    have HIN := Lib.hid (implIsRing n false hr)
    rw [ringD_no hr]
    clear hr
    go_enter Try.func20, Try.ntmps20
    go_wp2_with fail
    refine (HIN.out _).mono ?_
    rintro e w1 ⟨rfl, rfl⟩
    go_wp2_with fail
    go_ret
    exact ⟨_, rfl, X0.out.1, X0.out.2⟩
  | true =>
    obtain ⟨r1, r2⟩ := rinG_iff.1 hr
    obtain ⟨n, rfl⟩ : ∃ m : Nat, n = (m : Int) := ⟨n.toNat, by omega⟩
    have h2 : 2 ≤ n := by omega
    have h12 : n ≤ 12 := by omega
    have HIN := Lib.hid (implIsRing (n : Int) true hr)
    rw [ringD_nat h2 h12]
    clear hr r1 r2
    go_enter Try.func20, Try.ntmps20
    go_wp2_with fail
    refine (HIN.out _).mono ?_
    rintro e w1 ⟨rfl, rfl⟩
    go_wp2_with fail
    go_loopw [5, 14] (fun v i wr => ∃ a : Nat, i = .int .i64 (a : Int) ∧ a ≤ n ∧ DiAt w (ringTo n d (a * n)) v wr) (fun _ i _ => 13 - (intOf i).toNat)
    case atStart => exact ⟨0, rfl, Nat.zero_le _, by rw [Nat.zero_mul]; exact X0.out⟩
    case round =>
      obtain ⟨a, rfl, ha, hx⟩ := hrel
      have X1 := Lib.hid hx
      obtain ⟨Av, cv, rfl, _⟩ := own_form hx.1
      clear hx
      by_cases hla : a < n
      · have l1 : (a : Int) < (n : Int) := by omega
        have X2 := Lib.hid (show DiAt w (ringTo n d (a * n + 0)) _ _ from X1.out)
        clear X1
        go_wp2_with fail
        go_loopw [5, 18] (fun v i wr => ∃ b : Nat, i = .int .i64 (b : Int) ∧ b ≤ n ∧ DiAt w (ringTo n d (a * n + b)) v wr) (fun _ i _ => 13 - (intOf i).toNat)
        case atStart => exact ⟨0, rfl, Nat.zero_le _, X2.out⟩
        case round =>
          obtain ⟨b, rfl, hb, hx⟩ := hrel
          have X3 := Lib.hid hx
          obtain ⟨Av, cv, rfl, _⟩ := own_form hx.1
          clear hx X2
          by_cases hlb : b < n
          · have l2 : (b : Int) < (n : Int) := by omega
            have hok : ringOk (n : Int) (a : Int) (b : Int) = true := ringOk_iff.2 ⟨by omega, by omega, by omega⟩
            have HRH := Lib.hid (fun w => implRingHops (n : Int) (a : Int) (b : Int) d w)
            rw [hopG_nat hok] at HRH
            have hnx := ring_step (a := a) d hlb
            have hx144 : a * n + b ≤ 143 := by
              have h1 := pair_lt hla hlb
              have h3 := ring_sq h12
              omega
            obtain ⟨m, hm⟩ : ∃ m, hopN n a b = m := ⟨_, rfl⟩
            have hmn : m < n := by rw [← hm]; exact hopN_lt (by omega)
            rw [hm] at HRH hnx
            have HNX := Lib.hid hnx
            obtain ⟨x, hx⟩ : ∃ x, a * n + b = x := ⟨_, rfl⟩
            have HX := Lib.hid hx
            rw [hx] at X3 HNX hx144
            have HASC := Lib.hid (fun j => insAll_asc (ringTo_asc n d x) (hopP n a d j))
            have HLEN := Lib.hid (fun j (hj : j ≤ 12) => show (insAll (ringTo n d x) (hopP n a d j)).length ≤ 2000000000 by
              have h1 := (insAll_length (ringTo n d x) (hopP n a d j)).1
              have h3 := ringTo_len (n := n) (d := d) h2 h12 x
              rw [hopP_length] at h1
              omega)
            obtain ⟨D, hD⟩ : ∃ D, ringTo n d x = D := ⟨_, rfl⟩
            rw [hD] at X3 HNX HASC HLEN
            rw [hx, hD]
            clear hok hnx hm hD hx hx144
            go_wp2_with fail
            refine (HRH.out _).mono ?_
            rintro e w4 ⟨v, rfl, o4, b4⟩
            have X4 := Lib.hid (X3.out.gb (gb_of_below b4 none))
            have O4 := Lib.hid (own_less o4 (show w.heap.size ≤ wr.heap.size from X3.out.2.size))
            obtain ⟨AR, capR, rfl, hAR⟩ := own_form o4
            have HAR := Lib.hid hAR
            clear o4 b4 hAR X3
            rw [hopTo_length] at O4 HAR ⊢
            have X6 := Lib.hid (show DiAt w (insAll D (hopP n a d 0)) _ w4 from X4.out)
            clear X4
            go_wp2_with fail
            go_loopw [5, 9] (fun v i ws => ∃ j : Nat, i = .int .i64 ((j : Int) + 1) ∧ j ≤ m - 1 ∧ DiAt w (insAll D (hopP n a d j)) v ws ∧ ws.ownsRow w.heap.size 31 2 (.slice AR m capR) m (depV (hopTo n a d m))) (fun _ i _ => 17 - (intOf i).toNat)
            case atStart => exact ⟨0, rfl, Nat.zero_le _, X6.out, O4.out⟩
            case round =>
              obtain ⟨j, rfl, hj, hx, ho⟩ := hrel
              have X7 := Lib.hid hx
              have O7 := Lib.hid ho
              obtain ⟨Av, cv, rfl, _⟩ := own_form hx.1
              clear hx ho X6 O4
              by_cases hlt3 : j + 1 < m
              · obtain ⟨gr, hgr⟩ := HAR.out (by omega)
                subst hgr
                obtain ⟨k0, k1⟩ := hop_cell O7.out j (by rw [hopTo_length]; omega)
                obtain ⟨k2, k3⟩ := hop_cell O7.out (j + 1) (by rw [hopTo_length]; omega)
                rw [hopTo_at (by omega)] at k0 k1
                rw [hopTo_at hlt3] at k2 k3
                have hp : pairH n a d j = ((hopAt n a d j).2 * 64 + (hopAt n a d j).1, (hopAt n a d (j + 1)).2 * 64 + (hopAt n a d (j + 1)).1) := rfl
                have z1 := clsH_01I n a d j
                have z2 := clsH_01I n a d (j + 1)
                have z3 : (a + j) % n < n := Nat.mod_lt _ (by omega)
                have z4 : (a + (j + 1)) % n < n := Nat.mod_lt _ (by omega)
                simp only [hopAt] at k0 k1 k2 k3 hp
                obtain ⟨x1, hx1⟩ : ∃ z, (((a + j) % n : Nat) : Int) = z := ⟨_, rfl⟩
                obtain ⟨x2, hx2⟩ : ∃ z, (((a + (j + 1)) % n : Nat) : Int) = z := ⟨_, rfl⟩
                obtain ⟨y1, hy1⟩ : ∃ z, clsH n a d j = z := ⟨_, rfl⟩
                obtain ⟨y2, hy2⟩ : ∃ z, clsH n a d (j + 1) = z := ⟨_, rfl⟩
                have z5 : 0 ≤ x1 ∧ x1 ≤ 12 := by omega
                have z6 : 0 ≤ x2 ∧ x2 ≤ 12 := by omega
                rw [hx1, hy1] at hp
                rw [hx2, hy2] at hp
                rw [hx1] at k0
                rw [hy1] at k1 z1
                rw [hx2] at k2
                rw [hy2] at k3 z2
                have N1 := Lib.hid (implNumber x1 y1 z5 z1)
                have N2 := Lib.hid (implNumber x2 y2 z6 z2)
                have hwn := Lib.hid (ins_hop (D := D) (n := n) (a := a) (d := d) (j := j) hp)
                obtain ⟨E, hE⟩ : ∃ E, insAll D (hopP n a d j) = E := ⟨_, rfl⟩
                have hEA := HASC.out j
                have hEL := HLEN.out j (by omega)
                rw [hE] at X7 hwn hEA hEL
                rw [hE]
                have HA := Lib.hid (fun (w' : World) (h : w'.ownsRow w.heap.size 49 2 (.slice Av E.length cv) E.length (depV E)) (hb : w.heap.size ≤ w'.heap.size) => implInsert w.heap.size E.length (.slice Av E.length cv) E (y1 * 64 + x1, y2 * 64 + x2) hEA w' h hb (by omega))
                have HNE := Lib.hid (show some gr ≠ (Value.slice Av E.length cv).ownBlock by
                  rcases own_typesR O7.out X7.out.1 (by decide) with h | h
                  · cases h
                  · exact h)
                obtain ⟨t, ht⟩ : ∃ t : Nat, j + 1 = t := ⟨_, rfl⟩
                have hti : (j : Int) + 1 = (t : Int) := by omega
                rw [ht] at k2 k3
                have j0 : (0 : Int) ≤ (j : Int) := by omega
                have j1 : (j : Int) < (m : Int) := by omega
                have j2 : (0 : Int) ≤ (t : Int) := by omega
                have j3 : (t : Int) < (m : Int) := by omega
                have e7 : IntKind.i64.wrap ((t : Int) - 1) = (j : Int) := by rw [IntWalk.i64_in _ (by omega)]; omega
                have HMM := Lib.hid (And.intro ht hlt3)
                rw [hti]
                clear hx1 hx2 hy1 hy2 hp z1 z2 z3 z4 z5 z6 hlt3 hti ht hE hEA hEL
                go_wp2_with fail
                go_region_held3 (fun w' => w'.cell? ⟨gr, j * 2, none⟩ = some (.int .i64 x1) ∧ w'.cell? ⟨gr, j * 2 + 1, none⟩ = some (.int .i64 y1) ∧ w'.cell? ⟨gr, t * 2, none⟩ = some (.int .i64 x2) ∧ w'.cell? ⟨gr, t * 2 + 1, none⟩ = some (.int .i64 y2))
                  (first | exact ⟨k0, k1, k2, k3⟩ | exact ⟨d0, d1, d2, d3⟩ | exact ⟨f0, f1, f2, f3⟩ | exact ⟨i0, i1, i2, i3⟩ | fail)
                  (first
                    | (go_at_call 35; (with_reducible refine (N1.out _).mono ?_); rintro e w5 ⟨rfl, hg5⟩; have h5 := gb_drI hg5; have d0 := h5.cell k0 (by simp); have d1 := h5.cell k1 (by simp); have d2 := h5.cell k2 (by simp); have d3 := h5.cell k3 (by simp); have G5 := Lib.hid h5; clear h5 hg5)
                    | (go_at_call 35; (with_reducible refine (N2.out _).mono ?_); rintro e w6 ⟨rfl, hg6⟩; have f0 := hg6.cell d0 (by simp); have f1 := hg6.cell d1 (by simp); have f2 := hg6.cell d2 (by simp); have f3 := hg6.cell d3 (by simp); have G6 := Lib.hid (gb_trans G5.out hg6); clear hg6)
                    | (go_at_call 34; (with_reducible refine (HA.out _ ?_ ?_).mono ?_); exact own_none X7.out.1 G6.out; exact Nat.le_trans X7.out.2.size G6.out.size; rintro e w7 ⟨v7, rfl, ho7, hg7⟩; have i0 := hg7.cell f0 HNE.out; have i1 := hg7.cell f1 HNE.out; have i2 := hg7.cell f2 HNE.out; have i3 := hg7.cell f3 HNE.out)
                    | fail)
                all_goals
                  rw [hwn.out] at ho7
                  have X8 := Lib.hid ((X7.out.gb G6.out).put ho7 hg7)
                  have O8 := Lib.hid ((own_none O7.out G6.out).kept hg7 (.inr HNE.out))
                  clear ho7 hg7 d0 d1 d2 d3 k0 k1 k2 k3 f0 f1 f2 f3 i0 i1 i2 i3
                  go_wp2_with fail
                  go_roundw
                  case rel => exact ⟨j + 1, by have hm := HMM.out.1; go_num, by have := HMM.out.2; omega, X8.out, O8.out⟩
                  case measure => have hm := HMM.out; simp [intOf]; omega
              · obtain rfl : j = m - 1 := by omega
                have hl3 : ¬ ((m - 1 : Nat) : Int) + 1 < (m : Int) := by omega
                have X8 := Lib.hid (show DiAt w (ringTo n d (a * n + (b + 1))) _ _ from by
                  rw [HNX.out]
                  exact X7.out)
                clear X7 O7
                go_wp2_with fail
                go_roundw
                case rel => exact ⟨b + 1, by go_num, by omega, X8.out⟩
                case measure => simp [intOf]; omega
          · obtain rfl : b = n := by omega
            have l2 : ¬ (b : Int) < (b : Int) := by omega
            have X8 := Lib.hid (show DiAt w (ringTo b d ((a + 1) * b)) _ _ from by
              rw [← ring_row]
              exact X3.out)
            clear X3
            go_wp2_with fail
            go_roundw
            case rel => exact ⟨a + 1, by go_num, by omega, X8.out⟩
            case measure => simp [intOf]; omega
      · obtain rfl : a = n := by omega
        have l1 : ¬ (a : Int) < (a : Int) := by omega
        go_wp2_with fail
        go_ret
        exact ⟨_, rfl, X1.out.1, X1.out.2⟩
theorem implRingIsSafe (n : Int) (d : Bool) (w : World) :
    Calls Try.prog 11 #[.int .i64 n, .bool d] w (RetB (ringS n d) w) := by
  cases hr : rinG n with
  | false =>
    have HIN := Lib.hid (implIsRing n false hr w)
    have HS := Lib.hid (show false = ringS n d by rw [ringS, hr]; rfl)
    clear hr
    go_enter Try.func11, Try.ntmps11
    go_wp2_with fail
    refine HIN.out.mono ?_
    rintro e w1 ⟨rfl, rfl⟩
    go_wp2_with fail
    go_ret
    exact ⟨ret_bool HS.out, gb_refl _ _⟩
  | true =>
    have HIN := Lib.hid (implIsRing n true hr w)
    have HRD := Lib.hid (fun w => implRingDepends n d w)
    have HRL := Lib.hid (ringD_len n d)
    have HS := Lib.hid (show (!hasCyc (ringD n d)) = ringS n d by rw [ringS, hr]; rfl)
    obtain ⟨D, hD⟩ : ∃ D, ringD n d = D := ⟨_, rfl⟩
    rw [hD] at HRD HRL HS
    have HHC := Lib.hid (fun A c w h => implHasCycle A D.length c D w h (by have := HRL.out; omega))
    obtain ⟨c, hc⟩ : ∃ c, hasCyc D = c := ⟨_, rfl⟩
    rw [hc] at HS HHC
    clear hr hD hc
    go_enter Try.func11, Try.ntmps11
    go_wp2_with fail
    refine HIN.out.mono ?_
    rintro e w1 ⟨rfl, rfl⟩
    go_wp2_with fail
    refine (HRD.out _).mono ?_
    rintro e w2 ⟨v2, rfl, o2, b2⟩
    obtain ⟨A2, c2, rfl, _⟩ := own_form o2
    have O2 := Lib.hid (depAt_own o2 (Nat.le_refl _))
    have G2 := Lib.hid (gb_of_below b2 none)
    clear o2 b2
    go_wp2_with fail
    refine (HHC.out A2 c2 _ O2.out).mono ?_
    rintro e w3 ⟨rfl, hg3⟩
    have G3 := Lib.hid (gb_trans G2.out hg3)
    clear hg3
    go_wp2_with fail
    go_ret
    exact ⟨ret_bool HS.out, G3.out⟩
end Go.Proofs.Ytnielgpcfgfioaa
