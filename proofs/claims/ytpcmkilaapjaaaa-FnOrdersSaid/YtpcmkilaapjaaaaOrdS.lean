/- What is proved here: what the model's OrderOf and IsOrder return, for all arguments; only new blocks are written. -/
import Derived.Test.YtpcmkilaapjaaaaOrdM
import Derived.Test.YtpcmkilaapjaaaaDokS
import Derived.Test.YtpcmkilaapjaaaaFindS
import Derived.Test.YtpcmkilaapjaaaaRk
namespace Go.Proofs.Ytpcmkilaapjaaaa
open Go.ChangeShapes Go.WideShapes Go.ChangeAt Go.RowKit
set_option linter.unusedVariables false
set_option maxRecDepth 20000

theorem specFree (A AR : Option Addr) (n cap cR B B2 : Nat) (D : List Dep) (R : List Int) (c : Nat) (b : Bool) (hb : freeO D R c = b) (w : World) (h : DepAt w B A n D) (hR : IntAt w B2 AR 128 R) (hok : okD D = true) (hn : n ≤ 1000000000) :
    Calls Try.prog 38 #[.slice A n cap, .slice AR 128 cR, .int .i64 (c : Int)] w fun e w' => e = .returned (.bool b) ∧ w = w' := by
  have hl := h.1
  have HI := Lib.hid h
  have HR := Lib.hid hR
  have HIN := Lib.hid (fun k (hk : k < D.length) => inD_iff.1 (okD_in hok (atD_mem hk)))
  have HYES := Lib.hid (fun (h : ∀ i, i < D.length → holdO R (atD D i) c = false) => hb.symm.trans (freeO_iff.2 h))
  have HNO := Lib.hid (fun i (hi : i < D.length) (h : holdO R (atD D i) c = true) => hb.symm.trans (freeO_no hi h))
  clear h hR hok hb
  go_enter Try.func38, Try.ntmps38
  go_wp2_with fail
  go_loop [7] (fun i => ∃ k : Nat, i = .int .i64 (k : Int) ∧ k ≤ n ∧ ∀ j, j < k → holdO R (atD D j) c = false) (fun i => n - (intOf i).toNat)
  case atStart => exact ⟨0, rfl, Nat.zero_le _, fun j h => by omega⟩
  case round =>
    obtain ⟨k, rfl, hk, hne⟩ := hrel
    have HNE := Lib.hid hne
    clear hne
    by_cases hlt : k < n
    · obtain ⟨b1, off, rfl, hb1, c0, c1⟩ := HI.out.at k hlt
      obtain ⟨x, hx⟩ : ∃ x, atD D k = x := ⟨_, rfl⟩
      obtain ⟨x0, x1, x2, x3⟩ := HIN.out k (by omega)
      rw [hx] at c0 c1 x0 x1 x2 x3
      obtain ⟨m, hm⟩ : ∃ m : Nat, x.1 = (m : Int) := ⟨x.1.toNat, by omega⟩
      obtain ⟨q, hq⟩ : ∃ q : Nat, x.2 = (q : Int) := ⟨x.2.toNat, by omega⟩
      rw [hm] at c0 x0 x1
      rw [hq] at c1 x2 x3
      obtain ⟨b2, off2, rfl, hb2, hc2⟩ := HR.out.at m (by omega)
      obtain ⟨y, hy⟩ : ∃ y, R.getD m 0 = y := ⟨_, rfl⟩
      rw [hy] at hc2
      have hh : holdO R (atD D k) c = (decide ((q : Int) = (c : Int)) && decide (y < 0)) := by unfold holdO; rw [hx, hm, hq, Int.toNat_natCast, hy]
      have k0 : (0 : Int) ≤ (k : Int) := by omega
      have k1 : (k : Int) < (n : Int) := by omega
      have m0 : (0 : Int) ≤ (m : Int) := by omega
      have m1 : (m : Int) < 128 := by omega
      clear hx hm hq hy
      by_cases hqc : (q : Int) = (c : Int)
      · by_cases hyn : y < 0
        · have HB := Lib.hid (HNO.out k (by omega) (by rw [hh, decide_eq_true hqc, decide_eq_true hyn]; rfl))
          clear hh
          go_wp2_with fail
          go_ret
          exact ⟨ret_bool HB.out.symm, rfl⟩
        · have HB := Lib.hid (show holdO R (atD D k) c = false by rw [hh, decide_eq_false hyn, Bool.and_false])
          clear hh
          go_wp2_with fail
          go_round
          case rel => exact ⟨k + 1, by go_num, by omega, fun j hj => by rcases Nat.lt_succ_iff_lt_or_eq.1 hj with h | h; exact HNE.out j h; rw [h]; exact HB.out⟩
          case measure => simp [intOf]; omega
      · have HB := Lib.hid (show holdO R (atD D k) c = false by rw [hh, decide_eq_false hqc, Bool.false_and])
        have hqb : ((q : Int) == (c : Int)) = false := by simpa using hqc
        clear hh
        go_wp2_with fail
        go_round
        case rel => exact ⟨k + 1, by go_num, by omega, fun j hj => by rcases Nat.lt_succ_iff_lt_or_eq.1 hj with h | h; exact HNE.out j h; rw [h]; exact HB.out⟩
        case measure => simp [intOf]; omega
    · obtain rfl : k = n := by omega
      have HB := Lib.hid (HYES.out (fun j hj => HNE.out j (by omega)))
      go_wp2_with fail
      go_ret
      exact ⟨ret_bool HB.out.symm, rfl⟩

theorem new_none {D : List Dep} {w wr : World} (h : orderO D = none) (hb : Below w.heap.size w wr) : NewR (ranksO D) (canO D) w (.returned (.tuple #[.slice (some ⟨wr.heap.size, 0, none⟩) 0 0, .bool false])) (wr.alloc (.cells #[] 3)) := by
  obtain ⟨e1, e2⟩ := order_none h
  rw [e2]
  obtain ⟨h1, h2⟩ := own_empty e1 hb
  exact ⟨_, rfl, h1, h2⟩

/-- None of the first c channels can be ranked next; or the last one of them is the least that can. -/
def seekO (D : List Dep) (R : List Int) (z : Int) (c : Nat) : Prop :=
  (z = -1 ∧ c ≤ 128 ∧ ∀ j, j < c → candO D R j = false) ∨ (∃ c0 : Nat, z = (c0 : Int) ∧ c = c0 + 1 ∧ c0 < 128 ∧ bestO D R = some c0)
theorem seek_next {D : List Dep} {R : List Int} {z : Int} {c : Nat} (hz : z = -1) (hc : c < 128) (h : ∀ j, j < c → candO D R j = false) (hn : candO D R c = false) : seekO D R z (c + 1) :=
  .inl ⟨hz, hc, fun j hj => by rcases Nat.lt_succ_iff_lt_or_eq.1 hj with h1 | h1; exact h j h1; rw [h1]; exact hn⟩
set_option maxHeartbeats 1600000 in
theorem specOrderOf (A : Option Addr) (n cap : Nat) (D : List Dep) (w : World) (h : DepAt w w.heap.size A n D) (hn : n ≤ 1000000000) :
    Calls Try.prog 12 #[.slice A n cap] w (NewR (ranksO D) (canO D) w) := by
  obtain ⟨i0, hi, hz0, hz1, hz2⟩ := info_parts info_int
  have HI := Lib.hid h
  have HB0 := Lib.hid (show Below w.heap.size w (w.alloc (.cells #[] 3)) from (Below.refl _ _).alloc (Nat.le_refl _) _)
  have HOK := Lib.hid (fun (w' : World) (hb : Below w.heap.size w w') => specDependsOk A n cap D w' ((h.below hb).more hb.size) (by omega))
  clear h
  cases hok : okD D with
  | false =>
    have HN := Lib.hid (orderO_bad hok)
    have HRE := Lib.hid (own_empty (L := ranksO D) (order_none HN.out).1 (Below.refl w.heap.size w))
    have HC := Lib.hid (order_none HN.out).2
    rw [hok] at HOK
    clear hok
    go_enter Try.func12, Try.ntmps12
    go_wp2_with fail
    refine (HOK.out _ HB0.out).mono ?_
    rintro e w1 ⟨rfl, hg1⟩
    have O1 := Lib.hid (own_none HRE.out.1 hg1)
    have B1 := Lib.hid (below_gb HRE.out.2 (Nat.le_refl _) hg1)
    clear hg1
    go_wp2_with fail
    go_ret2
    exact ⟨_, ret_pair HC.out.symm, O1.out, B1.out⟩
  | true =>
    have HORD := Lib.hid (orderO_ok hok)
    have HOKD := Lib.hid hok
    rw [hok] at HOK
    clear hok
    go_enter Try.func12, Try.ntmps12
    go_wp2_with fail
    refine (HOK.out _ HB0.out).mono ?_
    rintro e w1 ⟨rfl, hg1⟩
    have X1 := Lib.hid (show RkAt w 0 (List.replicate 0 (-1)) (.slice (some ⟨w.heap.size, 0, none⟩) 0 0) w1 from ⟨own_none (World.ownsRow_made (base := w.heap.size) (e := 3) (size := 1) w #[] 0 (Nat.le_refl _) (by decide) rfl) hg1, below_gb HB0.out (Nat.le_refl _) hg1⟩)
    clear hg1
    go_wp2_with fail
    go_loopw [4, 5] (fun v i wr => ∃ k : Nat, i = .int .i64 (k : Int) ∧ k ≤ 128 ∧ RkAt w k (List.replicate k (-1)) v wr) (fun _ i _ => 128 - (intOf i).toNat)
    case atStart => exact ⟨0, rfl, Nat.zero_le _, X1.out⟩
    case round =>
      obtain ⟨k, rfl, hk, hx⟩ := hrel
      have X2 := Lib.hid hx
      obtain ⟨Av, cv, rfl, hav⟩ := own_form hx.1
      have HAV := Lib.hid hav
      clear hx hav
      by_cases hlt : k < 128
      · have b3 := Lib.hid (show ∀ u ∈ [Value.int .i64 (-1)], u.oneCell' = true by simp [Value.oneCell'])
        have b4 := Lib.hid (show k + 1 ≤ maxLen by unfold maxLen; omega)
        go_wp2_with (at_builtin; refine wpList_append_own _ rfl _ _ 26 rfl w.heap.size 3 i0 (.int .i64 0) 1 8 Try.underlying26 hi hz0 hz1 hz2 rfl (by decide) _ k _ rfl (X2.out.1.alloc _) ⟨wr.heap.size, 0, none⟩ 1 1 [.int .i64 (-1)] rfl rfl (World.news_of_block (cs := #[.int .i64 (-1)]) (t := 3) (fr := (0, 0)) (heap_alloc_new wr _)) b3.out b4.out (by omega) (by have := X2.out.2.size; simp; omega) ?_; intro v' w4 hown4 hgrow4 _)
        have X4 := Lib.hid (show RkAt w (k + 1) (List.replicate (k + 1) (-1)) v' w4 from by
          refine ⟨by rw [List.replicate_succ', intsV_append]; exact hown4, ?_⟩
          exact (X2.out.2.alloc X2.out.2.size _).grown hgrow4 (by have := X2.out.2.size; simp; omega) (fun j hj => (X2.out.1.lt j hj).1))
        clear hown4 hgrow4
        go_wp2_with fail
        go_roundw
        case rel => exact ⟨k + 1, by go_num, by omega, X4.out⟩
        case measure => simp [intOf]; omega
      · obtain rfl : k = 128 := by omega
        obtain ⟨g, hg⟩ := HAV.out (by omega)
        subst hg
        go_wp2_with fail
        simp only [show ((128 : Nat) : Int) = 128 from rfl]
        go_loopw [6] (fun i wr => ∃ (r : Nat) (R : List Int), i = .int .i64 (r : Int) ∧ r ≤ 128 ∧ ordTo D r = some R ∧ RkAt w 128 R (.slice (some ⟨g, 0, none⟩) 128 cv) wr) (fun i _ => 128 - (intOf i).toNat)
        case atStart => exact ⟨0, _, rfl, Nat.zero_le _, rfl, X2.out⟩
        case round =>
          obtain ⟨r, R, rfl, hr, hord, hx⟩ := hrel
          have X5 := Lib.hid hx
          have HO := Lib.hid hord
          clear hx hord
          by_cases hlt : r < 128
          · have hRl := ordTo_len HO.out
            have HLT := Lib.hid hlt
            go_wp2_with fail
            simp only [show ((r : Int) < 128) = True from eq_true (by have := HLT.out; omega), decide_true]
            clear hlt
            go_loopw [7, 8] (fun b i ws => ∃ (z : Int) (c : Nat), b = .int .i64 z ∧ i = .int .i64 (c : Int) ∧ RkAt w 128 R (.slice (some ⟨g, 0, none⟩) 128 cv) ws ∧ seekO D R z c) (fun _ i _ => 129 - (intOf i).toNat)
            case atStart => exact ⟨-1, 0, rfl, rfl, X5.out, .inl ⟨rfl, Nat.zero_le _, fun j h => by omega⟩⟩
            case round =>
              obtain ⟨z, c, rfl, rfl, hx, hseek⟩ := hrel
              have X7 := Lib.hid hx
              clear hx
              rcases hseek with ⟨hz, hc, hall⟩ | ⟨c0', hz, hcc, hc, hbest⟩
              · have HALL := Lib.hid hall
                have HZ := Lib.hid hz
                have hzn : z < 0 := by omega
                clear hall hz
                by_cases hlt2 : c < 128
                · have c0 := ints_cell X7.out.1 c (R.getD c 0) (by rw [List.getD, List.getElem?_eq_getElem (by omega)]; rfl) hRl
                  obtain ⟨y, hy⟩ : ∃ y, R.getD c 0 = y := ⟨_, rfl⟩
                  rw [hy] at c0
                  have k0 : (0 : Int) ≤ (c : Int) := by omega
                  have k1 : (c : Int) < 128 := by omega
                  have hcand : candO D R c = (decide (y < 0) && freeO D R c) := by unfold candO; rw [hy]
                  by_cases hyn : y < 0
                  · cases hf : freeO D R c with
                    | false =>
                      have HF := Lib.hid (fun B B2 w h hR => specFree A (some ⟨g, 0, none⟩) n cap cv B B2 D R c false hf w h hR HOKD.out hn)
                      have HCN := Lib.hid (show candO D R c = false by rw [hcand, hf, Bool.and_false])
                      clear hy hcand hf
                      go_wp2_with fail
                      refine (HF.out _ _ _ (HI.out.below X7.out.2) (intAt_own X7.out.1 hRl (Nat.le_refl _))).mono ?_
                      rintro e w6 ⟨rfl, rfl⟩
                      go_wp2_with fail
                      go_roundw
                      case rel => exact ⟨z, c + 1, rfl, by go_num, X7.out, seek_next HZ.out hlt2 HALL.out HCN.out⟩
                      case measure => simp [intOf]; omega
                    | true =>
                      have HF := Lib.hid (fun B B2 w h hR => specFree A (some ⟨g, 0, none⟩) n cap cv B B2 D R c true hf w h hR HOKD.out hn)
                      have HCN := Lib.hid (bestO_some hlt2 (by rw [hcand, hf, decide_eq_true hyn]; rfl) HALL.out)
                      clear hy hcand hf
                      go_wp2_with fail
                      refine (HF.out _ _ _ (HI.out.below X7.out.2) (intAt_own X7.out.1 hRl (Nat.le_refl _))).mono ?_
                      rintro e w6 ⟨rfl, rfl⟩
                      go_wp2_with fail
                      go_roundw
                      case rel => exact ⟨(c : Int), c + 1, rfl, by go_num, X7.out, .inr ⟨c, rfl, rfl, hlt2, HCN.out⟩⟩
                      case measure => simp [intOf]; omega
                  · have HCN := Lib.hid (show candO D R c = false by rw [hcand, decide_eq_false hyn, Bool.false_and])
                    clear hy hcand
                    go_wp2_with fail
                    go_roundw
                    case rel => exact ⟨z, c + 1, rfl, by go_num, X7.out, seek_next HZ.out hlt2 HALL.out HCN.out⟩
                    case measure => simp [intOf]; omega
                · obtain rfl : c = 128 := by omega
                  have HE := Lib.hid (HORD.out.trans (ordTo_dead (ordTo_stop HO.out (bestO_none HALL.out)) (by have := HLT.out; omega)))
                  go_wp2_with fail
                  go_ret2
                  exact new_none HE.out X7.out.2
              · have HNX := Lib.hid (ordTo_next HO.out hbest)
                have X6 := Lib.hid (X7.out.set c0' (r : Int))
                have c0 := ints_cell X7.out.1 c0' (R.getD c0' 0) (by rw [List.getD, List.getElem?_eq_getElem (by omega)]; rfl) hRl
                have f0 := X7.out.1.frozenAt c0'
                have k0 : (0 : Int) ≤ (c0' : Int) := by omega
                have k1 : (c0' : Int) < 128 := by omega
                have k2 : ¬ (c0' : Int) < 0 := by omega
                subst hz
                clear hbest
                by_cases h9 : c < 128
                · have h8 : (c : Int) < 128 := by omega
                  clear hcc
                  go_wp2_with fail
                  go_roundw
                  case rel => exact ⟨r + 1, _, by go_num, by have := HLT.out; omega, HNX.out, X6.out⟩
                  case measure => have := HLT.out; simp [intOf]; omega
                · have h8 : ¬ (c : Int) < 128 := by omega
                  clear hcc
                  go_wp2_with fail
                  go_roundw
                  case rel => exact ⟨r + 1, _, by go_num, by have := HLT.out; omega, HNX.out, X6.out⟩
                  case measure => have := HLT.out; simp [intOf]; omega
          · obtain rfl : r = 128 := by omega
            have HE := Lib.hid (order_some (HORD.out.trans HO.out))
            have hRl := ordTo_len HO.out
            go_wp2_with fail
            go_ret2
            refine ⟨_, ret_pair HE.out.2.symm, ?_, X5.out.2⟩
            have h3 := X5.out.1
            rw [HE.out.1, hRl]
            exact h3
end Go.Proofs.Ytpcmkilaapjaaaa
