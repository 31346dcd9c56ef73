/- What is proved here: what the model's IsWhole, CountPackets and SameFlits return, for all arguments; only new blocks are written. -/
import Derived.Test.YtcjidpegmlbenaaFltE
namespace Go.Proofs.Ytcjidpegmlbenaa
open Go.ChangeShapes Go.WideShapes Go.ChangeAt Go.RowKit
set_option linter.unusedVariables false
set_option maxRecDepth 20000

theorem run_neF {x d : Flt} {b : Bool} (h : decide (x ≠ d) = b) (w : World) : (binOp .neq 39 (.agg #[.int .i64 x.pk, .int .i64 x.to, .int .i64 x.cl, .bool x.hd, .bool x.tl]) (.agg #[.int .i64 d.pk, .int .i64 d.to, .int .i64 d.cl, .bool d.hd, .bool d.tl])).run Try.prog w = .ok (.bool b) w := by
  have hst : Try.prog.stoodInHeld 39 = false := by kernel_rfl
  subst h
  by_cases h1 : x.pk = d.pk
  · by_cases h2 : x.to = d.to
    · by_cases h3 : x.cl = d.cl
      · by_cases h4 : x.hd = d.hd
        · by_cases h5 : x.tl = d.tl
          · have e : x = d := Flt.ext' h1 h2 h3 h4 h5
            simp [go_sem, Try.underlying39, Try.underlying3, Try.underlying4, hst, e]
          · have e : x ≠ d := fun e => h5 (by rw [e])
            simp [go_sem, Try.underlying39, Try.underlying3, Try.underlying4, hst, h1, h2, h3, h4, h5, e]
        · have e : x ≠ d := fun e => h4 (by rw [e])
          simp [go_sem, Try.underlying39, Try.underlying3, Try.underlying4, hst, h1, h2, h3, h4, e]
      · have e : x ≠ d := fun e => h3 (by rw [e])
        simp [go_sem, Try.underlying39, Try.underlying3, Try.underlying4, hst, h1, h2, h3, e]
    · have e : x ≠ d := fun e => h2 (by rw [e])
      simp [go_sem, Try.underlying39, Try.underlying3, Try.underlying4, hst, h1, h2, e]
  · have e : x ≠ d := fun e => h1 (by rw [e])
    simp [go_sem, Try.underlying39, Try.underlying3, Try.underlying4, hst, h1, e]
def fltB (x : Flt) (wr : World) : World := wr.alloc (.cells #[.int .i64 x.pk, .int .i64 x.to, .int .i64 x.cl, .bool x.hd, .bool x.tl] 39)
theorem fltB_blk (x : Flt) (wr : World) : Blk (fltB x wr) wr.heap.size 39 #[.int .i64 x.pk, .int .i64 x.to, .int .i64 x.cl, .bool x.hd, .bool x.tl] := Blk.new wr _ _
theorem tailsN_next {D : List Flt} {k : Nat} {x : Flt} (h : D[k]? = some x) {t : Bool} (ht : x.tl = t) : tailsN (D.take (k + 1)) = tailsN (D.take k) + (if t then 1 else 0) := by subst ht; exact tails_next h
set_option maxHeartbeats 1600000 in
theorem specCountPackets (A : Option Addr) (n cap : Nat) (D : List Flt) (w : World) (h : RecAt 5 fltC w w.heap.size A n D) (hn : n ≤ 1000000000) :
    Calls Try.prog 27 #[.slice A n cap] w (RetI (tailsN D : Int) none w) := by
  have HI := Lib.hid h
  have hl := h.1
  have HZ := Lib.hid (tails_zero D)
  clear h
  go_enter Try.func27, Try.ntmps27
  go_wp2_with fail
  go_loopw [3, 4] (fun c i wr => ∃ k : Nat, i = .int .i64 (k : Int) ∧ k ≤ n ∧ c = .int .i64 (tailsN (D.take k) : Int) ∧ w.grownBy wr none) (fun _ i _ => n - (intOf i).toNat)
  case atStart => exact ⟨0, rfl, Nat.zero_le _, by rw [HZ.out]; rfl, gb_refl _ _⟩
  case round =>
    obtain ⟨k, rfl, hk, rfl, hg⟩ := hrel
    have HG := Lib.hid hg
    obtain ⟨t, ht⟩ : ∃ t, tailsN (D.take k) = t := ⟨_, rfl⟩
    have ht9 : t ≤ 1000000000 := by rw [← ht]; have := tails_le (D.take k); simp at this; omega
    rw [ht]
    by_cases hlt : k < n
    · obtain ⟨b, o, x, rfl, _, hx, hc⟩ := (HI.out.none (Nat.le_refl _) hg).at k hlt
      obtain ⟨_, _, _, _, a4⟩ := flt_five hc
      have k0 : (0 : Int) ≤ (k : Int) := by omega
      have k1 : (k : Int) < (n : Int) := by omega
      have e1 : IntKind.i64.wrap ((t : Int) + 1) = ((t + 1 : Nat) : Int) := by rw [IntWalk.i64_in _ (by omega)]; omega
      obtain ⟨b, hb⟩ : ∃ b, x.tl = b := ⟨_, rfl⟩
      have HNX := Lib.hid (tailsN_next hx hb)
      rw [hb] at a4
      rw [ht] at HNX
      clear hx hc hg ht hb
      cases b with
      | true =>
        go_wp2_with fail
        go_roundw
        case rel => exact ⟨k + 1, by go_num, by omega, by rw [HNX.out]; simp, by first | exact HG.out | exact gb_drewN HG.out _⟩
        case measure => simp [intOf]; omega
      | false =>
        go_wp2_with fail
        go_roundw
        case rel => exact ⟨k + 1, by go_num, by omega, by rw [HNX.out]; simp, by first | exact HG.out | exact gb_drewN HG.out _⟩
        case measure => simp [intOf]; omega
    · obtain rfl : k = n := by omega
      have HT := Lib.hid (show t = tailsN D by rw [← ht, ← hl, tails_all])
      have k1 : ¬ (k : Int) < (k : Int) := by omega
      clear hg ht
      go_wp2_with fail
      go_ret
      exact ⟨by rw [HT.out]; rfl, HG.out⟩

set_option maxHeartbeats 1600000 in
theorem specSameFlits (A A2 : Option Addr) (n cap n2 c2 : Nat) (D E : List Flt) (w : World) (h : RecAt 5 fltC w w.heap.size A n D) (h2 : RecAt 5 fltC w w.heap.size A2 n2 E) (hn : n ≤ 1000000000) (hn2 : n2 ≤ 1000000000) :
    Calls Try.prog 28 #[.slice A n cap, .slice A2 n2 c2] w (RetB (sameF D E) w) := by
  have HI := Lib.hid h
  have HI2 := Lib.hid h2
  have hl := h.1
  have hl2 := h2.1
  have HNO := Lib.hid (fun i => same_no (D := D) (E := E) (i := i))
  have HYES := Lib.hid (same_yes (D := D) (E := E))
  have HLEN := Lib.hid (same_len (D := D) (E := E))
  obtain ⟨r, hr⟩ : ∃ r, sameF D E = r := ⟨_, rfl⟩
  rw [hr] at HNO HYES HLEN
  rw [hr]
  clear h h2 hr
  by_cases hnn : n = n2
  · subst hnn
    have q0 : ((n : Int) != (n : Int)) = false := by simp
    go_enter Try.func28, Try.ntmps28
    go_wp2_with fail
    go_loopw [5] (fun i wr => ∃ k : Nat, i = .int .i64 (k : Int) ∧ k ≤ n ∧ (∀ j, j < k → atF D j = atF E j) ∧ w.grownBy wr none) (fun i _ => n - (intOf i).toNat)
    case atStart => exact ⟨0, rfl, Nat.zero_le _, fun j hj => by omega, gb_refl _ _⟩
    case round =>
      obtain ⟨k, rfl, hk, hs, hg⟩ := hrel
      have HG := Lib.hid hg
      have HS := Lib.hid hs
      by_cases hlt : k < n
      · obtain ⟨b1, o1, x, rfl, _, hx, ha⟩ := (HI.out.none (Nat.le_refl _) hg).at k hlt
        obtain ⟨b2, o2, y, rfl, _, hy, hb⟩ := (HI2.out.none (Nat.le_refl _) hg).at k hlt
        obtain ⟨a0, a1, a2, a3, a4⟩ := flt_five ha
        obtain ⟨b0, b1', b2', b3, b4⟩ := flt_five hb
        have HX := Lib.hid (atF_of hx)
        have HY := Lib.hid (atF_of hy)
        have k0 : (0 : Int) ≤ (k : Int) := by omega
        have k1 : (k : Int) < (n : Int) := by omega
        clear hx hy ha hb hs hg
        by_cases hxy : x = y
        · have HE := run_neF (x := x) (d := y) (b := false) (by simp [hxy])
          have HXY := Lib.hid hxy
          clear hxy
          go_wp2_with fail
          go_quiet (fail)
          go_wp2_with fail
          go_roundw
          case rel => exact ⟨k + 1, by go_num, by omega, fun j hj => by
            rcases Nat.lt_succ_iff_lt_or_eq.1 hj with h | h
            · exact HS.out j h
            · rw [h, HX.out, HY.out, HXY.out], by first | exact HG.out | exact gb_drewN HG.out _⟩
          case measure => simp [intOf]; omega
        · have HE := run_neF (x := x) (d := y) (b := true) (by simp [hxy])
          have HR := Lib.hid (HNO.out k (by rw [HX.out, HY.out]; exact hxy))
          clear hxy
          go_wp2_with fail
          go_quiet (fail)
          go_wp2_with fail
          go_ret
          exact ⟨ret_bool HR.out.symm, by first | exact HG.out | exact gb_drewN HG.out _⟩
      · have k1 : ¬ (k : Int) < (n : Int) := by omega
        have HR := Lib.hid (HYES.out (by omega) (fun j hj => hs j (by omega)))
        clear hs hg
        go_wp2_with fail
        go_ret
        exact ⟨ret_bool HR.out.symm, HG.out⟩
  · have HR := Lib.hid (HLEN.out (by omega))
    have q0 : ((n : Int) != (n2 : Int)) = true := by simp; omega
    clear hnn
    go_enter Try.func28, Try.ntmps28
    go_wp2_with fail
    go_ret
    exact ⟨ret_bool HR.out.symm, gb_refl _ _⟩

set_option maxHeartbeats 3200000 in
theorem specIsWhole (A : Option Addr) (n cap : Nat) (D : List Flt) (w : World) (h : RecAt 5 fltC w w.heap.size A n D) (hn : n ≤ 1000000000) :
    Calls Try.prog 25 #[.slice A n cap] w (RetB (wholeG D) w) := by
  have HI := Lib.hid h
  have hl := h.1
  have HNO := Lib.hid (fun i => whole_no (D := D) (i := i))
  have HYES := Lib.hid (whole_yes (D := D))
  have HNIL := Lib.hid (fun (e : D = []) => show wholeG D = false by rw [e]; rfl)
  obtain ⟨r, hr⟩ : ∃ r, wholeG D = r := ⟨_, rfl⟩
  rw [hr] at HNO HYES HNIL
  rw [hr]
  have hlw : IntKind.i64.wrap ((n : Int) - 1) = (n : Int) - 1 := IntWalk.i64_in _ (by omega)
  clear h hr
  go_enter Try.func25, Try.ntmps25
  go_wp2_with fail
  go_loopw [3] (fun i wr => ∃ k : Nat, i = .int .i64 (k : Int) ∧ k ≤ n ∧ (∀ j, j < k → wholeAt D j = true) ∧ w.grownBy wr none) (fun i _ => n - (intOf i).toNat)
  case atStart => exact ⟨0, rfl, Nat.zero_le _, fun j hj => by omega, gb_refl _ _⟩
  case round =>
    obtain ⟨k, rfl, hk, hs, hg⟩ := hrel
    have HG := Lib.hid (gb_trans hg (gb_refl wr none))
    have HS := Lib.hid hs
    by_cases hlt : k < n
    · obtain ⟨b1, o1, x, rfl, hb1, hx, ha⟩ := (HI.out.none (Nat.le_refl _) hg).at k hlt
      obtain ⟨b2, o2, y, e2, _, hy, hb⟩ := (HI.out.none (Nat.le_refl _) hg).at 0 (by omega)
      injection e2 with e2
      injection e2 with e3 e4
      subst e3 e4
      rw [Nat.zero_mul, Nat.add_zero] at hb
      obtain ⟨a0, a1, a2, a3, a4⟩ := flt_five ha
      obtain ⟨b0, b1', b2', b3, b4⟩ := flt_five hb
      have hat : wholeAt D k = decide (x.pk = y.pk ∧ x.to = y.to ∧ x.cl = y.cl ∧ x.hd = decide (k = 0) ∧ x.tl = decide (k + 1 = n)) := by
        rw [wholeAt, atF_of hx, atF_of hy, hl]
      have k0 : (0 : Int) ≤ (k : Int) := by omega
      have k1 : (k : Int) < (n : Int) := by omega
      obtain ⟨t4, ht4⟩ : ∃ t, decide (k = 0) = t := ⟨_, rfl⟩
      obtain ⟨t5, ht5⟩ : ∃ t, decide (k + 1 = n) = t := ⟨_, rfl⟩
      have u4 : ((k : Int) == 0) = t4 := by rw [← ht4]; by_cases h : k = 0 <;> simp [h]
      have u5 : ((k : Int) == (n : Int) - 1) = t5 := by rw [← ht5]; exact Bool.eq_iff_iff.2 (by simp; omega)
      rw [ht4, ht5] at hat
      have hsz := hg.size
      have g0 := Lib.hid (show w.grownBy (fltB x wr) none from gb_alloc hg _)
      have c0 : (fltB x wr).cell? ⟨b1, o1, none⟩ = some (.int .i64 y.pk) := (gb_alloc (gb_refl wr none) _).cell b0 (by simp)
      have c1 : (fltB x wr).cell? ⟨b1, o1 + 1, none⟩ = some (.int .i64 y.to) := (gb_alloc (gb_refl wr none) _).cell b1' (by simp)
      have c2 : (fltB x wr).cell? ⟨b1, o1 + 2, none⟩ = some (.int .i64 y.cl) := (gb_alloc (gb_refl wr none) _).cell b2' (by simp)
      have d0 : (fltB x wr).cell? ⟨wr.heap.size, 0, none⟩ = some (.int .i64 x.pk) := (fltB_blk x wr).cell 0
      have d1 : (fltB x wr).cell? ⟨wr.heap.size, 1, none⟩ = some (.int .i64 x.to) := (fltB_blk x wr).cell 1
      have d2 : (fltB x wr).cell? ⟨wr.heap.size, 2, none⟩ = some (.int .i64 x.cl) := (fltB_blk x wr).cell 2
      have d3 : (fltB x wr).cell? ⟨wr.heap.size, 3, none⟩ = some (.bool x.hd) := (fltB_blk x wr).cell 3
      have d4 : (fltB x wr).cell? ⟨wr.heap.size, 4, none⟩ = some (.bool x.tl) := (fltB_blk x wr).cell 4
      clear hx hy ha hb hs hg ht4 ht5 b0 b1' b2' b3 b4
      go_wp2_with fail
      change Code.wp _ _ _ _ (fltB x wr)
      clear a0 a1 a2 a3 a4
      obtain ⟨gx, hgx⟩ : ∃ gx, wr.heap.size = gx := ⟨_, rfl⟩
      obtain ⟨W1, hW1⟩ : ∃ W1, fltB x wr = W1 := ⟨_, rfl⟩
      rw [hW1] at g0 c0 c1 c2 d0 d1 d2 d3 d4 ⊢
      rw [hgx] at d0 d1 d2 d3 d4 hsz ⊢
      clear hW1 hgx
      obtain ⟨xp, xt, xc, xh, xl⟩ := x
      simp only at hat d0 d1 d2 d3 d4
      cases p1 : (xp != y.pk) with
      | true =>
        have HR := Lib.hid (HNO.out k (by omega) (by rw [hat]; exact decide_eq_false (fun h => by have h9 := h.1; simp [h9] at p1)))
        clear hat
        go_wp2_with fail
        go_quiet (fail)
        go_wp2_with fail
        go_ret
        exact ⟨ret_bool HR.out.symm, by first | exact g0.out | exact gb_drewN g0.out _⟩
      | false =>
        cases p2 : (xt != y.to) with
        | true =>
          have HR := Lib.hid (HNO.out k (by omega) (by rw [hat]; exact decide_eq_false (fun h => by have h9 := h.2.1; simp [h9] at p2)))
          clear hat
          go_wp2_with fail
          go_quiet (fail)
          go_wp2_with fail
          go_ret
          exact ⟨ret_bool HR.out.symm, by first | exact g0.out | exact gb_drewN g0.out _⟩
        | false =>
          cases p3 : (xc != y.cl) with
          | true =>
            have HR := Lib.hid (HNO.out k (by omega) (by rw [hat]; exact decide_eq_false (fun h => by have h9 := h.2.2.1; simp [h9] at p3)))
            clear hat
            go_wp2_with fail
            go_quiet (fail)
            go_wp2_with fail
            go_ret
            exact ⟨ret_bool HR.out.symm, by first | exact g0.out | exact gb_drewN g0.out _⟩
          | false =>
            cases xh with
            | true =>
              cases t4 with
              | true =>
                cases xl with
                | true =>
                  cases t5 with
                  | true =>
                    have HR := Lib.hid (show wholeAt D k = true by rw [hat]; exact decide_eq_true ⟨by simpa using p1, by simpa using p2, by simpa using p3, rfl, rfl⟩)
                    clear hat
                    go_wp2_with fail
                    go_quiet (fail)
                    go_wp2_with fail
                    go_roundw
                    case rel => exact ⟨k + 1, by go_num, by omega, fun j hj => by
                      rcases Nat.lt_succ_iff_lt_or_eq.1 hj with h | h
                      · exact HS.out j h
                      · rw [h]; exact HR.out, by first | exact g0.out | exact gb_drewN g0.out _⟩
                    case measure => simp [intOf]; omega
                  | false =>
                    have HR := Lib.hid (HNO.out k (by omega) (by rw [hat]; exact decide_eq_false (fun h => by have h9 := h.2.2.2.2; cases h9)))
                    clear hat
                    go_wp2_with fail
                    go_quiet (fail)
                    go_wp2_with fail
                    go_ret
                    exact ⟨ret_bool HR.out.symm, by first | exact g0.out | exact gb_drewN g0.out _⟩
                | false =>
                  cases t5 with
                  | true =>
                    have HR := Lib.hid (HNO.out k (by omega) (by rw [hat]; exact decide_eq_false (fun h => by have h9 := h.2.2.2.2; cases h9)))
                    clear hat
                    go_wp2_with fail
                    go_quiet (fail)
                    go_wp2_with fail
                    go_ret
                    exact ⟨ret_bool HR.out.symm, by first | exact g0.out | exact gb_drewN g0.out _⟩
                  | false =>
                    have HR := Lib.hid (show wholeAt D k = true by rw [hat]; exact decide_eq_true ⟨by simpa using p1, by simpa using p2, by simpa using p3, rfl, rfl⟩)
                    clear hat
                    go_wp2_with fail
                    go_quiet (fail)
                    go_wp2_with fail
                    go_roundw
                    case rel => exact ⟨k + 1, by go_num, by omega, fun j hj => by
                      rcases Nat.lt_succ_iff_lt_or_eq.1 hj with h | h
                      · exact HS.out j h
                      · rw [h]; exact HR.out, by first | exact g0.out | exact gb_drewN g0.out _⟩
                    case measure => simp [intOf]; omega
              | false =>
                have HR := Lib.hid (HNO.out k (by omega) (by rw [hat]; exact decide_eq_false (fun h => by have h9 := h.2.2.2.1; cases h9)))
                clear hat
                go_wp2_with fail
                go_quiet (fail)
                go_wp2_with fail
                go_ret
                exact ⟨ret_bool HR.out.symm, by first | exact g0.out | exact gb_drewN g0.out _⟩
            | false =>
              cases t4 with
              | true =>
                have HR := Lib.hid (HNO.out k (by omega) (by rw [hat]; exact decide_eq_false (fun h => by have h9 := h.2.2.2.1; cases h9)))
                clear hat
                go_wp2_with fail
                go_quiet (fail)
                go_wp2_with fail
                go_ret
                exact ⟨ret_bool HR.out.symm, by first | exact g0.out | exact gb_drewN g0.out _⟩
              | false =>
                cases xl with
                | true =>
                  cases t5 with
                  | true =>
                    have HR := Lib.hid (show wholeAt D k = true by rw [hat]; exact decide_eq_true ⟨by simpa using p1, by simpa using p2, by simpa using p3, rfl, rfl⟩)
                    clear hat
                    go_wp2_with fail
                    go_quiet (fail)
                    go_wp2_with fail
                    go_roundw
                    case rel => exact ⟨k + 1, by go_num, by omega, fun j hj => by
                      rcases Nat.lt_succ_iff_lt_or_eq.1 hj with h | h
                      · exact HS.out j h
                      · rw [h]; exact HR.out, by first | exact g0.out | exact gb_drewN g0.out _⟩
                    case measure => simp [intOf]; omega
                  | false =>
                    have HR := Lib.hid (HNO.out k (by omega) (by rw [hat]; exact decide_eq_false (fun h => by have h9 := h.2.2.2.2; cases h9)))
                    clear hat
                    go_wp2_with fail
                    go_quiet (fail)
                    go_wp2_with fail
                    go_ret
                    exact ⟨ret_bool HR.out.symm, by first | exact g0.out | exact gb_drewN g0.out _⟩
                | false =>
                  cases t5 with
                  | true =>
                    have HR := Lib.hid (HNO.out k (by omega) (by rw [hat]; exact decide_eq_false (fun h => by have h9 := h.2.2.2.2; cases h9)))
                    clear hat
                    go_wp2_with fail
                    go_quiet (fail)
                    go_wp2_with fail
                    go_ret
                    exact ⟨ret_bool HR.out.symm, by first | exact g0.out | exact gb_drewN g0.out _⟩
                  | false =>
                    have HR := Lib.hid (show wholeAt D k = true by rw [hat]; exact decide_eq_true ⟨by simpa using p1, by simpa using p2, by simpa using p3, rfl, rfl⟩)
                    clear hat
                    go_wp2_with fail
                    go_quiet (fail)
                    go_wp2_with fail
                    go_roundw
                    case rel => exact ⟨k + 1, by go_num, by omega, fun j hj => by
                      rcases Nat.lt_succ_iff_lt_or_eq.1 hj with h | h
                      · exact HS.out j h
                      · rw [h]; exact HR.out, by first | exact g0.out | exact gb_drewN g0.out _⟩
                    case measure => simp [intOf]; omega
    · obtain rfl : k = n := by omega
      have k1 : ¬ (k : Int) < (k : Int) := by omega
      clear hs hg
      by_cases hp : 0 < k
      · have HR := Lib.hid (HYES.out (by omega) (fun i hi => HS.out i (by omega)))
        have k2 : (0 : Int) < (k : Int) := by omega
        go_wp2_with fail
        go_ret
        exact ⟨ret_bool HR.out.symm, HG.out⟩
      · have HR := Lib.hid (HNIL.out (List.eq_nil_of_length_eq_zero (by omega)))
        have k2 : ¬ (0 : Int) < (k : Int) := by omega
        go_wp2_with fail
        go_ret
        exact ⟨ret_bool HR.out.symm, HG.out⟩
end Go.Proofs.Ytcjidpegmlbenaa
