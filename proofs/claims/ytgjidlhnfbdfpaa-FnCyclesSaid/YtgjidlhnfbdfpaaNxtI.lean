/- What is proved here: what the program's search of the next channel returns; only new blocks are written. -/
import Derived.Test.YtgjidlhnfbdfpaaRk
import Derived.Test.YtgjidlhnfbdfpaaDokI
namespace Go.Proofs.Ytgjidlhnfbdfpaa
open Go.ChangeShapes Go.WideShapes Go.ChangeAt Go.RowKit
set_option linter.unusedVariables false
set_option maxRecDepth 20000

/-- The next channel as a number, or -1. -/
def nxtO (D : List Dep) (R : List Int) : Int := match bestO D R with | none => -1 | some c => (c : Int)
theorem nxt_none {D : List Dep} {R : List Int} (h : bestO D R = none) : nxtO D R = -1 := by simp [nxtO, h]
theorem nxt_some {D : List Dep} {R : List Int} {c : Nat} (h : bestO D R = some c) : nxtO D R = (c : Int) := by simp [nxtO, h]
set_option maxHeartbeats 1600000 in
theorem implNext (A AR : Option Addr) (n cap cR : Nat) (D : List Dep) (R : List Int) (z : Int) (hz : nxtO D R = z) (w : World) (h : DepAt w w.heap.size A n D) (hR : IntAt w w.heap.size AR 128 R) (hok : okD D = true)
    (hmin : ∀ c, c < 128 → R.getD c 0 = -1 ∨ 0 ≤ R.getD c 0) (hn : n ≤ 1000000000) :
    Calls Try.prog 33 #[.slice A n cap, .slice AR 128 cR] w (RetI z none w) := by
  have hl := h.1
  have HI := Lib.hid h
  have HR := Lib.hid hR
  have HM := Lib.hid hmin
  have HIN := Lib.hid (fun k (hk : k < D.length) => inD_iff.1 (okD_in hok (atD_mem hk)))
  have HSOME := Lib.hid (fun c (hc : c < 128) h h0 => hz.symm.trans (nxt_some (bestO_some (D := D) (R := R) (c := c) hc h h0)))
  have HNONE := Lib.hid (fun h0 => hz.symm.trans (nxt_none (bestO_none (D := D) (R := R) h0)))
  clear h hR hmin hok hz
  go_enter Try.func33, Try.ntmps33
  go_wp2_with fail
  go_step3
  go_wp2_with fail
  go_step3
  go_wp2_with fail
  go_loopw [11] (fun i wr => ∃ c : Nat, i = .int .i64 (c : Int) ∧ c ≤ 128 ∧ (∀ j, j < c → candO D R j = false) ∧ w.grownBy wr none) (fun i _ => 128 - (intOf i).toNat)
  case atStart => exact ⟨0, rfl, Nat.zero_le _, fun j h => by omega, gb_refl _ _⟩
  case round =>
    obtain ⟨c, rfl, hc, hall, hg⟩ := hrel
    have HA := Lib.hid hall
    have HG := Lib.hid hg
    clear hall hg
    by_cases hlt : c < 128
    · obtain ⟨b2, off2, rfl, hb2, e0⟩ := (HR.out.none (Nat.le_refl _) HG.out).at c (by have := HR.out.1; omega)
      obtain ⟨y, hy⟩ : ∃ y, R.getD c 0 = y := ⟨_, rfl⟩
      have hy2 := HM.out c hlt
      rw [hy] at e0 hy2
      have hcand : candO D R c = (decide (y < 0) && freeO D R c) := by unfold candO; rw [hy]
      have k0 : (0 : Int) ≤ (c : Int) := by omega
      have k1 : (c : Int) < 128 := by omega
      clear hy
      rcases hy2 with hy2 | hy2
      · subst hy2
        have HC := Lib.hid (show candO D R c = freeO D R c by rw [hcand]; rfl)
        have HLT := Lib.hid hlt
        clear hcand
        go_wp2_with fail
        go_loopw [20] (fun i wr => ∃ k : Nat, i = .int .i64 (k : Int) ∧ k ≤ n ∧ (∀ j, j < k → holdO R (atD D j) c = false) ∧ w.grownBy wr none) (fun i _ => n - (intOf i).toNat)
        case atStart => exact ⟨0, rfl, Nat.zero_le _, fun j h => by omega, HG.out⟩
        case round =>
          obtain ⟨k, rfl, hk, hne, hg⟩ := hrel
          have HNE := Lib.hid hne
          have HG2 := Lib.hid hg
          clear hne hg
          by_cases hlt2 : k < n
          · obtain ⟨b1, off, rfl, hb1, c0, c1⟩ := (HI.out.none (Nat.le_refl _) HG2.out).at k hlt2
            obtain ⟨x, hx⟩ : ∃ x, atD D k = x := ⟨_, rfl⟩
            obtain ⟨x0, x1, x2, x3⟩ := HIN.out k (by omega)
            rw [hx] at c0 c1 x0 x1 x2 x3
            obtain ⟨m, hm⟩ : ∃ m : Nat, x.1 = (m : Int) := ⟨x.1.toNat, by omega⟩
            obtain ⟨q, hq⟩ : ∃ q : Nat, x.2 = (q : Int) := ⟨x.2.toNat, by omega⟩
            rw [hm] at c0 x0 x1
            rw [hq] at c1 x2 x3
            have hm128 : m < 128 := by omega
            obtain ⟨_, _, hA3, hb3, f0⟩ := (HR.out.none (Nat.le_refl _) HG2.out).at m (by omega)
            injection hA3 with hA
            injection hA with hA1 hA2
            subst hA1
            subst hA2
            obtain ⟨u, hu⟩ : ∃ u, R.getD m 0 = u := ⟨_, rfl⟩
            have hu2 := HM.out m hm128
            rw [hu] at f0 hu2
            have hh : holdO R (atD D k) c = (decide ((q : Int) = (c : Int)) && decide (u < 0)) := by unfold holdO; rw [hx, hm, hq, Int.toNat_natCast, hu]
            have j0 : (0 : Int) ≤ (k : Int) := by omega
            have j1 : (k : Int) < (n : Int) := by omega
            have m0 : (0 : Int) ≤ (m : Int) := by omega
            have m1 : (m : Int) < 128 := by omega
            have hga := gb_alloc (gb_refl wr none) (.cells #[.int .i64 (m : Int), .int .i64 (q : Int)] 55)
            have GA := Lib.hid (gb_trans HG2.out hga)
            have bn := Blk.new wr 55 #[.int .i64 (m : Int), .int .i64 (q : Int)]
            have t0 : (wr.alloc (.cells #[.int .i64 (m : Int), .int .i64 (q : Int)] 55)).cell? ⟨wr.heap.size, 0, none⟩ = some (.int .i64 (m : Int)) := bn.cell 0
            have t1 : (wr.alloc (.cells #[.int .i64 (m : Int), .int .i64 (q : Int)] 55)).cell? ⟨wr.heap.size, 1, none⟩ = some (.int .i64 (q : Int)) := bn.cell 1
            have s0 := hga.cell f0 (by simp)
            clear hga bn f0 hx hm hq hu
            by_cases hqc : (q : Int) = (c : Int)
            · have hh2 : holdO R (atD D k) c = decide (u < 0) := by rw [hh, decide_eq_true hqc, Bool.true_and]
              obtain rfl : q = c := by omega
              clear hh hqc
              rcases hu2 with hu2 | hu2
              · subst hu2
                have HB := Lib.hid (HC.out.trans (freeO_no (i := k) (by omega) (by rw [hh2]; rfl)))
                clear hh2
                go_wp2_with fail
                go_roundw
                case rel => exact ⟨q + 1, by go_num, by have := HLT.out; omega, fun j hj => by rcases Nat.lt_succ_iff_lt_or_eq.1 hj with h | h; exact HA.out j h; rw [h]; exact HB.out, GA.out⟩
                case measure => have := HLT.out; simp [intOf]; omega
              · have HB := Lib.hid (hh2.trans (decide_eq_false (p := u < 0) (by omega)))
                have hub : (u == -1) = false := by simp; omega
                clear hh2
                go_wp2_with fail
                go_roundw
                case rel => exact ⟨k + 1, by go_num, by omega, fun j hj => by rcases Nat.lt_succ_iff_lt_or_eq.1 hj with h | h; exact HNE.out j h; rw [h]; exact HB.out, GA.out⟩
                case measure => simp [intOf]; omega
            · have HB := Lib.hid (show holdO R (atD D k) c = false by rw [hh, decide_eq_false hqc, Bool.false_and])
              have hqb : ((q : Int) == (c : Int)) = false := by simpa using hqc
              clear hh
              go_wp2_with fail
              go_roundw
              case rel => exact ⟨k + 1, by go_num, by omega, fun j hj => by rcases Nat.lt_succ_iff_lt_or_eq.1 hj with h | h; exact HNE.out j h; rw [h]; exact HB.out, GA.out⟩
              case measure => simp [intOf]; omega
          · obtain rfl : k = n := by omega
            have HB := Lib.hid (HSOME.out c HLT.out (HC.out.trans (freeO_iff.2 (fun j hj => HNE.out j (by omega)))) HA.out)
            go_wp2_with fail
            go_ret
            exact ⟨ret_int64 HB.out.symm, HG2.out⟩
      · have HB := Lib.hid (show candO D R c = false by rw [hcand, decide_eq_false (p := y < 0) (by omega), Bool.false_and])
        have hyb : (y != -1) = true := by simp; omega
        clear hcand
        go_wp2_with fail
        go_roundw
        case rel => exact ⟨c + 1, by go_num, by omega, fun j hj => by rcases Nat.lt_succ_iff_lt_or_eq.1 hj with h | h; exact HA.out j h; rw [h]; exact HB.out, HG.out⟩
        case measure => simp [intOf]; omega
    · obtain rfl : c = 128 := by omega
      have HB := Lib.hid (HNONE.out HA.out)
      go_wp2_with fail
      go_ret
      exact ⟨ret_int64 HB.out.symm, HG.out⟩
end Go.Proofs.Ytgjidlhnfbdfpaa
