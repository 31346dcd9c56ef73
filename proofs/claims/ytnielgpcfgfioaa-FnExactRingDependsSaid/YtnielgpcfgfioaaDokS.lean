/- What is proved here: what the model says of a list of dependencies, of successors, and what its ShiftDepends and MergeDepends return; only new blocks are written. -/
import Derived.Test.YtnielgpcfgfioaaPutS
import Derived.Test.YtnielgpcfgfioaaInS
namespace Go.Proofs.Ytnielgpcfgfioaa
open Go.ChangeShapes Go.WideShapes Go.ChangeAt Go.RowKit
set_option linter.unusedVariables false
set_option maxRecDepth 20000

set_option maxHeartbeats 1600000 in
theorem specDependsOk (A : Option Addr) (n cap : Nat) (D : List Dep) (w : World) (h : DepAt w w.heap.size A n D) (hn : n ≤ 4000000000) :
    Calls Try.prog 54 #[.slice A n cap] w (RetB (okD D) w) := by
  have HI := Lib.hid h
  have hl := h.1
  have HR := Lib.hid (fun (x : Int) (b : Bool) (hb : decide (0 ≤ x ∧ x ≤ 127) = b) w => specInV x 0 127 b hb w)
  have HC := Lib.hid (fun (a b : Dep) w => specLess a b w)
  have HYES := Lib.hid (okD_iff (D := D)).2
  have HNO := Lib.hid (fun k hk (h : stepD D k = false) => okD_not (D := D) (k := k) hk h)
  obtain ⟨b, hb⟩ : ∃ b, okD D = b := ⟨_, rfl⟩
  rw [hb] at HYES HNO
  rw [hb]
  clear h hb
  go_enter Try.func54, Try.ntmps54
  go_wp2_with fail
  go_loopw [3] (fun i wr => ∃ k : Nat, i = .int .i64 (k : Int) ∧ k ≤ n ∧ (∀ j, j < k → stepD D j = true) ∧ w.grownBy wr none) (fun i _ => n - (intOf i).toNat)
  case atStart => exact ⟨0, rfl, Nat.zero_le _, fun j hj => by omega, gb_refl _ _⟩
  case round =>
    obtain ⟨k, rfl, hk, hs, hg⟩ := hrel
    have HS := Lib.hid hs
    have HG := Lib.hid hg
    have hai := HI.out.none (Nat.le_refl _) hg
    clear hs hg
    by_cases hlt : k < n
    · obtain ⟨b1, off, rfl, hb1, c0, c1⟩ := hai.at k hlt
      obtain ⟨x, hx⟩ : ∃ x, atD D k = x := ⟨_, rfl⟩
      rw [hx] at c0 c1
      have HAI := Lib.hid hai
      have k0 : (0 : Int) ≤ (k : Int) := by omega
      have k1 : (k : Int) < (n : Int) := by omega
      have hin : inD x = (decide (0 ≤ x.1 ∧ x.1 ≤ 127) && decide (0 ≤ x.2 ∧ x.2 ≤ 127)) := by
        unfold inD
        rw [← Bool.decide_and]
        exact decide_eq_decide.2 (by omega)
      clear hai
      cases hi1 : decide (0 ≤ x.1 ∧ x.1 ≤ 127) with
      | false =>
        have hst : stepD D k = false := by unfold stepD; rw [hx, hin, hi1, Bool.false_and, Bool.false_and]
        have HB := Lib.hid (HNO.out k (by omega) hst)
        have HR1 := Lib.hid (fun w => HR.out x.1 false hi1 w)
        clear hin hi1 hst hx
        go_wp2_with fail
        go_quiet (first
          | (with_reducible refine Calls.quiet_of_same (still_of (HR1.out _))))
        go_wp2_with fail
        go_ret
        exact ⟨ret_bool HB.out.symm, gb_drewN HG.out _⟩
      | true =>
        cases hi2 : decide (0 ≤ x.2 ∧ x.2 ≤ 127) with
        | false =>
          have hst : stepD D k = false := by unfold stepD; rw [hx, hin, hi1, hi2, Bool.true_and, Bool.false_and]
          have HB := Lib.hid (HNO.out k (by omega) hst)
          have HR1 := Lib.hid (fun w => HR.out x.1 true hi1 w)
          have HR2 := Lib.hid (fun w => HR.out x.2 false hi2 w)
          clear hin hi1 hi2 hst hx
          go_wp2_with fail
          go_quiet (first
            | (with_reducible refine Calls.quiet_of_same (still_of (HR1.out _)))
            | (with_reducible refine Calls.quiet_of_same (still_of (HR2.out _))))
          go_wp2_with fail
          go_ret
          exact ⟨ret_bool HB.out.symm, gb_drewN HG.out _⟩
        | true =>
          have HR1 := Lib.hid (fun w => HR.out x.1 true hi1 w)
          have HR2 := Lib.hid (fun w => HR.out x.2 true hi2 w)
          have hinx : inD x = true := by rw [hin, hi1, hi2]; rfl
          by_cases h0 : k = 0
          · have hst : stepD D k = true := by unfold stepD; rw [hx, hinx, h0]; rfl
            have HST := Lib.hid hst
            have H0 := Lib.hid h0
            have hd : decide (0 < k) = false := decide_eq_false (by omega)
            clear hin hinx hi1 hi2 hst hx h0
            go_wp2_with fail
            go_quiet (first
              | (with_reducible refine Calls.quiet_of_same (still_of (HR1.out _)))
              | (with_reducible refine Calls.quiet_of_same (still_of (HR2.out _))))
            go_wp2_with fail
            go_roundw
            case rel => exact ⟨k + 1, by go_num, by omega, fun j hj => by have h0 := H0.out; obtain rfl : j = k := (by omega); exact HST.out, gb_drewN HG.out _⟩
            case measure => simp [intOf]; omega
          · obtain ⟨m, hm⟩ : ∃ m, k = m + 1 := ⟨k - 1, by omega⟩
            obtain ⟨_, _, hA, _, e0, e1⟩ := HAI.out.at m (by omega)
            injection hA with hA
            injection hA with hA1 hA2
            subst hA1
            subst hA2
            obtain ⟨y, hy⟩ : ∃ y, atD D m = y := ⟨_, rfl⟩
            rw [hy] at e0 e1
            have m0 : (0 : Int) ≤ (m : Int) := by omega
            have m1 : (m : Int) < (n : Int) := by omega
            have e2 : IntKind.i64.wrap ((k : Int) - 1) = (m : Int) := by rw [IntWalk.i64_in _ (by omega)]; omega
            have hd : decide (0 < k) = true := decide_eq_true (by omega)
            have hpos : (0 : Int) < (k : Int) := by omega
            have HM := Lib.hid hm
            obtain ⟨r, hr⟩ : ∃ r, ltD y x = r := ⟨_, rfl⟩
            have HC2 := Lib.hid (fun w => show Calls _ _ _ w (RetB r w) from hr ▸ HC.out y x w)
            have hstep : stepD D k = r := by
              have e : (decide (k = 0)) = false := decide_eq_false h0
              unfold stepD
              rw [hx, hinx, e, Bool.false_or, Bool.true_and, show k - 1 = m by omega, hy, hr]
            cases r with
            | true =>
              have HST := Lib.hid hstep
              clear hin hinx hi1 hi2 hx hy hr hm hstep h0
              go_wp2_with fail
              go_region_held3 (fun w' => w'.cell? ⟨b1, off + k * 2, none⟩ = some (.int .i64 x.1) ∧ w'.cell? ⟨b1, off + k * 2 + 1, none⟩ = some (.int .i64 x.2) ∧ w'.cell? ⟨b1, off + m * 2, none⟩ = some (.int .i64 y.1) ∧ w'.cell? ⟨b1, off + m * 2 + 1, none⟩ = some (.int .i64 y.2))
                (first | exact ⟨c0, c1, e0, e1⟩ | exact ⟨d0, d1, d2, d3⟩ | fail)
                (first
                  | (go_at_call 41; (with_reducible refine (HC2.out _).mono ?_); rintro e w5 ⟨rfl, hg5⟩; have h5 := gb_drP hg5; have d0 := h5.cell c0 (by simp); have d1 := h5.cell c1 (by simp); have d2 := h5.cell e0 (by simp); have d3 := h5.cell e1 (by simp); have G5 := Lib.hid (gb_trans HG.out h5); clear h5 hg5)
                  | (go_at_call 32; (with_reducible refine (HR1.out _).mono ?_); rintro e w6 ⟨rfl, rfl⟩)
                  | (go_at_call 32; (with_reducible refine (HR2.out _).mono ?_); rintro e w7 ⟨rfl, rfl⟩)
                  | fail)
              all_goals
                clear d0 d1 d2 d3 c0 c1 e0 e1
                go_wp2_with fail
                go_roundw
                case rel => exact ⟨k + 1, by go_num, by omega, fun j hj => by rcases Nat.lt_succ_iff_lt_or_eq.1 hj with h | h; exact HS.out j h; rw [h]; exact HST.out, G5.out⟩
                case measure => simp [intOf]; omega
            | false =>
              have HB := Lib.hid (HNO.out k (by omega) hstep)
              clear hin hinx hi1 hi2 hx hy hr hm hstep h0
              go_wp2_with fail
              go_region_held3 (fun w' => w'.cell? ⟨b1, off + k * 2, none⟩ = some (.int .i64 x.1) ∧ w'.cell? ⟨b1, off + k * 2 + 1, none⟩ = some (.int .i64 x.2) ∧ w'.cell? ⟨b1, off + m * 2, none⟩ = some (.int .i64 y.1) ∧ w'.cell? ⟨b1, off + m * 2 + 1, none⟩ = some (.int .i64 y.2))
                (first | exact ⟨c0, c1, e0, e1⟩ | exact ⟨d0, d1, d2, d3⟩ | fail)
                (first
                  | (go_at_call 41; (with_reducible refine (HC2.out _).mono ?_); rintro e w5 ⟨rfl, hg5⟩; have h5 := gb_drP hg5; have d0 := h5.cell c0 (by simp); have d1 := h5.cell c1 (by simp); have d2 := h5.cell e0 (by simp); have d3 := h5.cell e1 (by simp); have G5 := Lib.hid (gb_trans HG.out h5); clear h5 hg5)
                  | (go_at_call 32; (with_reducible refine (HR1.out _).mono ?_); rintro e w6 ⟨rfl, rfl⟩)
                  | (go_at_call 32; (with_reducible refine (HR2.out _).mono ?_); rintro e w7 ⟨rfl, rfl⟩)
                  | fail)
              all_goals
                clear d0 d1 d2 d3 c0 c1 e0 e1
                go_wp2_with fail
                go_ret
                exact ⟨ret_bool HB.out.symm, G5.out⟩
    · obtain rfl : k = n := by omega
      have HB := Lib.hid (HYES.out (fun j hj => HS.out j (by omega)))
      clear hai
      go_wp2_with fail
      go_ret
      exact ⟨ret_bool HB.out.symm, HG.out⟩
end Go.Proofs.Ytnielgpcfgfioaa
