/- What is proved here: what the program says of one dependency's range and of a whole list; only new blocks are written. -/
import Derived.Test.YtnielgpcfgfioaaDepI
import Derived.Test.YtnielgpcfgfioaaCmpI
namespace Go.Proofs.Ytnielgpcfgfioaa
open Go.ChangeShapes Go.WideShapes Go.ChangeAt Go.RowKit
set_option linter.unusedVariables false
set_option maxRecDepth 20000

theorem ret_b2 {c b : Bool} (h : c = b) : Ending.returned (.bool c) = Ending.returned (.bool b) := by rw [h]
theorem in_yes {x y z : Int} (h : (z < 128) ↔ (0 ≤ x ∧ x ≤ 127 ∧ 0 ≤ y ∧ y ≤ 127)) : decide (z < 128) = inD (x, y) := decide_eq_decide.2 h
theorem in_no {x y : Int} (h : ¬ (0 ≤ x ∧ x ≤ 127 ∧ 0 ≤ y ∧ y ≤ 127)) : false = inD (x, y) := (inD_no.2 h).symm
theorem implInRange (d : Dep) (w : World) : Calls Try.prog 57 #[.agg #[.int .i64 d.1, .int .i64 d.2]] w (RetB (inD d) w) := by
  obtain ⟨x, y⟩ := d
  obtain ⟨b, hb⟩ : ∃ b, inD (x, y) = b := ⟨_, rfl⟩
  rw [hb]
  have HB := Lib.hid hb
  clear hb
  have BG := Lib.hid (boxD_gb (x, y) w)
  go_enter Try.func57, Try.ntmps57
  go_wp2_with fail
  all_goals
    go_ret
    refine ⟨ret_b2 ?_, BG.out⟩
    rw [← HB.out]
    first
      | exact in_yes (by omega)
      | exact in_no (by omega)

theorem implDependsOk (A : Option Addr) (n cap : Nat) (D : List Dep) (w : World) (h : DepAt w w.heap.size A n D) (hn : n ≤ 4000000000) :
    Calls Try.prog 47 #[.slice A n cap] w (RetB (okD D) w) := by
  have HI := Lib.hid h
  have hl := h.1
  have HR := Lib.hid (fun (a : Dep) w => implInRange a w)
  have HC := Lib.hid (fun (a b : Dep) w => implCompare a b w)
  have HYES := Lib.hid (okD_iff (D := D)).2
  have HNO := Lib.hid (fun k hk (h : stepD D k = false) => okD_not (D := D) (k := k) hk h)
  obtain ⟨b, hb⟩ : ∃ b, okD D = b := ⟨_, rfl⟩
  rw [hb] at HYES HNO
  rw [hb]
  clear h hb
  go_enter Try.func47, Try.ntmps47
  go_wp2_with fail
  go_loopw [7] (fun i wr => ∃ k : Nat, i = .int .i64 (k : Int) ∧ k ≤ n ∧ (∀ j, j < k → stepD D j = true) ∧ w.grownBy wr none) (fun i _ => n - (intOf i).toNat)
  case atStart => exact ⟨0, rfl, Nat.zero_le _, fun j hj => by omega, gb_refl _ _⟩
  case round =>
    obtain ⟨k, rfl, hk, hs, hg⟩ := hrel
    have HS := Lib.hid hs
    have HG := Lib.hid hg
    have hai := HI.out.none (Nat.le_refl _) hg
    clear hs hg
    by_cases hlt : k < n
    · obtain ⟨b1, off, rfl, hb1, c0, c1⟩ := hai.at k hlt
      obtain ⟨x, hx⟩ : ∃ x, atD D k = x := ⟨_, rfl⟩
      rw [hx] at c0 c1
      have HAI := Lib.hid hai
      have k0 : (0 : Int) ≤ (k : Int) := by omega
      have k1 : (k : Int) < (n : Int) := by omega
      clear hai
      cases hin : inD x with
      | false =>
        have hst : stepD D k = false := by unfold stepD; rw [hx, hin, Bool.false_and]
        have HB := Lib.hid (HNO.out k (by omega) hst)
        have HRX := Lib.hid (fun w => hin ▸ HR.out x w)
        clear hin hst hx
        go_wp2_with fail
        refine (HRX.out _).mono ?_
        rintro e w4 ⟨rfl, hg4⟩
        have G4 := Lib.hid (gb_trans HG.out (gb_trans (gb_alloc (gb_refl _ _) _) hg4))
        clear hg4 c0 c1
        go_wp2_with fail
        go_ret
        exact ⟨ret_b2 HB.out.symm, G4.out⟩
      | true =>
        have HRX := Lib.hid (fun w => hin ▸ HR.out x w)
        have BN := Lib.hid (Blk.new wr 49 #[.int .i64 x.1, .int .i64 x.2])
        by_cases h0 : k = 0
        · have hst : stepD D k = true := by unfold stepD; rw [hx, hin, h0]; rfl
          have HST := Lib.hid hst
          have H0 := Lib.hid h0
          have hd : decide (0 < k) = false := decide_eq_false (by omega)
          clear hin hst hx h0
          go_wp2_with fail
          refine (HRX.out _).mono ?_
          rintro e w4 ⟨rfl, hg4⟩
          have G4 := Lib.hid (gb_trans HG.out (gb_trans (gb_alloc (gb_refl _ _) _) hg4))
          clear hg4 c0 c1
          go_wp2_with fail
          (try go_quiet (fail))
          (try go_wp2_with fail)
          go_roundw
          case rel => exact ⟨k + 1, by go_num, by omega, fun j hj => by have h0 := H0.out; obtain rfl : j = k := (by omega); exact HST.out, gb_drewN G4.out _⟩
          case measure => simp [intOf]; omega
        · obtain ⟨m, hm⟩ : ∃ m, k = m + 1 := ⟨k - 1, by omega⟩
          obtain ⟨_, _, hA, _, e0, e1⟩ := HAI.out.at m (by omega)
          injection hA with hA
          injection hA with hA1 hA2
          subst hA1
          subst hA2
          obtain ⟨y, hy⟩ : ∃ y, atD D m = y := ⟨_, rfl⟩
          rw [hy] at e0 e1
          obtain ⟨r, hr⟩ : ∃ r, cmpD y x = r := ⟨_, rfl⟩
          have HC2 := Lib.hid (fun w => show Calls _ _ _ w (RetI r none w) from hr ▸ HC.out y x w)
          have m0 : (0 : Int) ≤ (m : Int) := by omega
          have m1 : (m : Int) < (n : Int) := by omega
          have e2 : IntKind.i64.wrap ((k : Int) - 1) = (m : Int) := by rw [IntWalk.i64_in _ (by omega)]; omega
          have hd : decide (0 < k) = true := decide_eq_true (by omega)
          have hpos : (0 : Int) < (k : Int) := by omega
          have HM := Lib.hid hm
          have hstep : stepD D k = decide (r < 0) := by
            have e : (decide (k = 0)) = false := decide_eq_false h0
            unfold stepD
            rw [hx, hin, e, Bool.false_or, Bool.true_and, show k - 1 = m by omega, hy]
            cases hlt2 : ltD y x with
            | true => exact (decide_eq_true (by rw [← hr]; exact cmpD_neg.2 hlt2)).symm
            | false => exact (decide_eq_false (fun h => by rw [← hr] at h; rw [cmpD_neg.1 h] at hlt2; cases hlt2)).symm
          by_cases hneg : r < 0
          · have HST := Lib.hid (hstep.trans (decide_eq_true hneg))
            have hge : ¬ 0 ≤ r := by omega
            clear hin hx hy hr hm hstep h0
            go_wp2_with fail
            refine (HRX.out _).mono ?_
            rintro e w4 ⟨rfl, hg4⟩
            have hga := gb_trans (gb_alloc (gb_refl wr none) (.cells #[.int .i64 x.1, .int .i64 x.2] 49)) hg4
            have G4 := Lib.hid (gb_trans HG.out hga)
            have bb := BN.out.grown hg4 (by simp)
            have t0 : w4.cell? ⟨wr.heap.size, 0, none⟩ = some (.int .i64 x.1) := bb.cell 0
            have t1 : w4.cell? ⟨wr.heap.size, 1, none⟩ = some (.int .i64 x.2) := bb.cell 1
            have s0 := hga.cell e0 (by simp)
            have s1 := hga.cell e1 (by simp)
            obtain ⟨B, hB⟩ : ∃ B, wr.heap.size = B := ⟨_, rfl⟩
            rw [hB] at t0 t1
            clear hg4 hga bb c0 c1 e0 e1
            go_wp2_with fail
            (try rw [hB])
            go_region_held3 (fun w' => w'.cell? ⟨B, 0, none⟩ = some (.int .i64 x.1) ∧ w'.cell? ⟨B, 1, none⟩ = some (.int .i64 x.2) ∧ w'.cell? ⟨b1, off + m * 2, none⟩ = some (.int .i64 y.1) ∧ w'.cell? ⟨b1, off + m * 2 + 1, none⟩ = some (.int .i64 y.2))
              (first | exact ⟨t0, t1, s0, s1⟩ | exact ⟨d0, d1, d2, d3⟩ | fail)
              (first
                | (go_at_call 36; (with_reducible refine (HC2.out _).mono ?_); rintro e w5 ⟨rfl, hg5⟩; have h5 := gb_dr hg5; have d0 := h5.cell t0 (by simp); have d1 := h5.cell t1 (by simp); have d2 := h5.cell s0 (by simp); have d3 := h5.cell s1 (by simp); have G5 := Lib.hid (gb_trans G4.out h5); clear h5 hg5)
                | fail)
            all_goals
              clear d0 d1 d2 d3 t0 t1 s0 s1
              go_wp2_with fail
              go_roundw
              case rel => exact ⟨k + 1, by go_num, by omega, fun j hj => by rcases Nat.lt_succ_iff_lt_or_eq.1 hj with h | h; exact HS.out j h; rw [h]; exact HST.out, G5.out⟩
              case measure => simp [intOf]; omega
          · have HB := Lib.hid (HNO.out k (by omega) (hstep.trans (decide_eq_false hneg)))
            have hge : 0 ≤ r := by omega
            clear hin hx hy hr hm hstep h0
            go_wp2_with fail
            refine (HRX.out _).mono ?_
            rintro e w4 ⟨rfl, hg4⟩
            have hga := gb_trans (gb_alloc (gb_refl wr none) (.cells #[.int .i64 x.1, .int .i64 x.2] 49)) hg4
            have G4 := Lib.hid (gb_trans HG.out hga)
            have bb := BN.out.grown hg4 (by simp)
            have t0 : w4.cell? ⟨wr.heap.size, 0, none⟩ = some (.int .i64 x.1) := bb.cell 0
            have t1 : w4.cell? ⟨wr.heap.size, 1, none⟩ = some (.int .i64 x.2) := bb.cell 1
            have s0 := hga.cell e0 (by simp)
            have s1 := hga.cell e1 (by simp)
            obtain ⟨B, hB⟩ : ∃ B, wr.heap.size = B := ⟨_, rfl⟩
            rw [hB] at t0 t1
            clear hg4 hga bb c0 c1 e0 e1
            go_wp2_with fail
            (try rw [hB])
            go_region_held3 (fun w' => w'.cell? ⟨B, 0, none⟩ = some (.int .i64 x.1) ∧ w'.cell? ⟨B, 1, none⟩ = some (.int .i64 x.2) ∧ w'.cell? ⟨b1, off + m * 2, none⟩ = some (.int .i64 y.1) ∧ w'.cell? ⟨b1, off + m * 2 + 1, none⟩ = some (.int .i64 y.2))
              (first | exact ⟨t0, t1, s0, s1⟩ | exact ⟨d0, d1, d2, d3⟩ | fail)
              (first
                | (go_at_call 36; (with_reducible refine (HC2.out _).mono ?_); rintro e w5 ⟨rfl, hg5⟩; have h5 := gb_dr hg5; have d0 := h5.cell t0 (by simp); have d1 := h5.cell t1 (by simp); have d2 := h5.cell s0 (by simp); have d3 := h5.cell s1 (by simp); have G5 := Lib.hid (gb_trans G4.out h5); clear h5 hg5)
                | fail)
            all_goals
              clear d0 d1 d2 d3 t0 t1 s0 s1
              go_wp2_with fail
              go_ret
              exact ⟨ret_b2 HB.out.symm, G5.out⟩
    · obtain rfl : k = n := by omega
      have HB := Lib.hid (HYES.out (fun j hj => HS.out j (by omega)))
      clear hai
      go_wp2_with fail
      go_ret
      exact ⟨ret_b2 HB.out.symm, HG.out⟩
end Go.Proofs.Ytnielgpcfgfioaa
