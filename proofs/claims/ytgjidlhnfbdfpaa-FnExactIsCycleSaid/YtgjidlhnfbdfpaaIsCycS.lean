/- What is proved here: what the model's IsCycle returns, for all arguments; only new blocks are written. -/
import Derived.Test.YtgjidlhnfbdfpaaHasDS
import Derived.Test.YtgjidlhnfbdfpaaFindS
import Derived.Test.YtgjidlhnfbdfpaaNewR
namespace Go.Proofs.Ytgjidlhnfbdfpaa
open Go.ChangeShapes Go.WideShapes Go.ChangeAt Go.RowKit
set_option linter.unusedVariables false
set_option maxRecDepth 20000

/-- The place behind k, around the end. -/
theorem around (k n : Nat) (hn : 0 < n) : Int.tmod ((k : Int) + 1) (n : Int) = (((k + 1) % n : Nat) : Int) := by
  rw [show (k : Int) + 1 = ((k + 1 : Nat) : Int) from by omega, Int.tmod_eq_emod_of_nonneg (by omega)]
  rfl
set_option maxHeartbeats 1600000 in
theorem specIsCycle (A AC : Option Addr) (n cap nC cC : Nat) (D : List Dep) (C : List Int) (w : World) (h : DepAt w w.heap.size A n D) (hC : IntAt w w.heap.size AC nC C) (hcc : nC ≤ cC) (hn : n ≤ 1000000000) (hnC : nC ≤ 1000000000) :
    Calls Try.prog 18 #[.slice A n cap, .slice AC nC cC] w (RetB (isCycG D C) w) := by
  have hl := h.1
  have hCl := hC.1
  have HI := Lib.hid h
  have HC := Lib.hid hC
  have HOK := Lib.hid (specDependsOk A n cap D w h (by omega))
  clear h hC
  cases hok : okD D with
  | false =>
    rw [isCyc_bad hok]
    rw [hok] at HOK
    clear hok
    go_enter Try.func18, Try.ntmps18
    go_wp2_with fail
    refine HOK.out.mono ?_
    rintro e w1 ⟨rfl, hg1⟩
    have G1 := Lib.hid hg1
    clear hg1
    go_wp2_with fail
    go_ret
    exact ⟨rfl, G1.out⟩
  | true =>
    have HYES := Lib.hid (fun h => isCyc_yes (D := D) (C := C) hok h)
    have HNO := Lib.hid (fun (i : Nat) (hi : i < C.length) h => isCyc_no (D := D) (C := C) (i := i) hi h)
    have HAT := Lib.hid (fun i => show cycAt D C i = (!inG (C.take i) (C.getD i 0) && hasD D (C.getD i 0) (C.getD ((i + 1) % nC) 0)) by unfold cycAt; rw [hCl])
    obtain ⟨b, hb⟩ : ∃ b, isCycG D C = b := ⟨_, rfl⟩
    rw [hb] at HYES HNO
    rw [hb]
    rw [hok] at HOK
    have HF := Lib.hid (fun (A : Option Addr) (k : Nat) (hk : k ≤ nC) (x : Int) (b : Bool) (hb : inG (C.take k) x = b) B (w : World) (h : IntAt w B A k (C.take k)) => specFindV A k cC B (C.take k) x b hb w h (by omega))
    have HH := Lib.hid (fun (A : Option Addr) (x y : Int) (b : Bool) (hb : hasD D x y = b) B (w : World) (h : DepAt w B A n D) => specHasD A n cap B D x y b hb w h hn)
    clear hok hb
    go_enter Try.func18, Try.ntmps18
    go_wp2_with fail
    refine HOK.out.mono ?_
    rintro e w1 ⟨rfl, hg1⟩
    have G1 := Lib.hid hg1
    clear hg1
    go_wp2_with fail
    go_loopw [5] (fun i wr => ∃ k : Nat, i = .int .i64 (k : Int) ∧ k ≤ nC ∧ (∀ j : Nat, j < k → cycAt D C j = true) ∧ w.grownBy wr none) (fun i _ => nC - (intOf i).toNat)
    case atStart => exact ⟨0, rfl, Nat.zero_le _, fun j h => by omega, G1.out⟩
    case round =>
      obtain ⟨k, rfl, hk, hall, hg⟩ := hrel
      have HA := Lib.hid hall
      have HG := Lib.hid hg
      clear hall hg
      by_cases hlt : k < nC
      · have HCW := Lib.hid (HC.out.none (Nat.le_refl _) HG.out)
        have HIW := Lib.hid (HI.out.none (Nat.le_refl _) HG.out)
        obtain ⟨b1, off, rfl, hb1, c0⟩ := HCW.out.at k hlt
        obtain ⟨q, hq⟩ : ∃ q, (k + 1) % nC = q := ⟨_, rfl⟩
        have hqn : q < nC := by rw [← hq]; exact Nat.mod_lt _ (by omega)
        obtain ⟨_, _, hA, _, c1⟩ := HCW.out.at q hqn
        injection hA with hA
        injection hA with hA1 hA2
        subst hA1
        subst hA2
        obtain ⟨x, hx⟩ : ∃ x, C.getD k 0 = x := ⟨_, rfl⟩
        obtain ⟨y, hy⟩ : ∃ y, C.getD q 0 = y := ⟨_, rfl⟩
        have hat := HAT.out k
        rw [hq, hx, hy] at hat
        rw [hx] at c0
        rw [hy] at c1
        have k0 : (0 : Int) ≤ (k : Int) := by omega
        have k1 : (k : Int) < (nC : Int) := by omega
        have k2 : (k : Int) ≤ (cC : Int) := by omega
        have q0 : (0 : Int) ≤ (q : Int) := by omega
        have q1 : (q : Int) < (nC : Int) := by omega
        have r0 := around k nC (by omega)
        rw [hq] at r0
        have r1 : IntKind.i64.wrap ((k : Int) + 1) = (k : Int) + 1 := IntWalk.i64_in _ (by omega)
        have r2 : IntKind.i64.wrap (q : Int) = (q : Int) := IntWalk.i64_in _ (by omega)
        have r3 : ¬ nC = 0 := by omega
        have ht := HCW.out.take (Nat.le_of_lt hlt)
        have HT : Hid (IntAt wr.drew w.heap.size (some ⟨b1, off, none⟩) k (C.take k)) := ht
        have HD : Hid (DepAt wr.drew w.heap.size A n D) := HIW.out
        clear ht
        cases hin : inG (C.take k) x with
        | true =>
          have HF2 := Lib.hid (fun B w h => HF.out (some ⟨b1, off, none⟩) k hk x true hin B w h)
          have HB := Lib.hid (HNO.out k (by omega) (by rw [hat, hin]; rfl))
          clear hin hat hx hy hq
          go_wp2_with fail
          go_quiet (first
            | (refine Calls.quiet_of_same (still_of (HF2.out _ _ HT.out))))
          go_wp2_with fail
          go_ret
          exact ⟨ret_bool HB.out.symm, gb_drewN HG.out _⟩
        | false =>
          have HF2 := Lib.hid (fun B w h => HF.out (some ⟨b1, off, none⟩) k hk x false hin B w h)
          cases hha : hasD D x y with
          | true =>
            have HH2 := Lib.hid (fun B w h => HH.out A x y true hha B w h)
            have HB := Lib.hid (show cycAt D C k = true by rw [hat, hin, hha]; rfl)
            clear hin hat hx hy hq hha
            go_wp2_with fail
            go_quiet (first
              | (refine Calls.quiet_of_same (still_of (HF2.out _ _ HT.out)))
              | (refine Calls.quiet_of_same (still_of (HH2.out _ _ HD.out))))
            go_wp2_with fail
            go_roundw
            case rel => exact ⟨k + 1, by go_num, by omega, fun j hj => by rcases Nat.lt_succ_iff_lt_or_eq.1 hj with h | h; exact HA.out j h; rw [h]; exact HB.out, gb_drewN HG.out _⟩
            case measure => simp [intOf]; omega
          | false =>
            have HH2 := Lib.hid (fun B w h => HH.out A x y false hha B w h)
            have HB := Lib.hid (HNO.out k (by omega) (by rw [hat, hin, hha]; rfl))
            clear hin hat hx hy hq hha
            go_wp2_with fail
            go_quiet (first
              | (refine Calls.quiet_of_same (still_of (HF2.out _ _ HT.out)))
              | (refine Calls.quiet_of_same (still_of (HH2.out _ _ HD.out))))
            go_wp2_with fail
            go_ret
            exact ⟨ret_bool HB.out.symm, gb_drewN HG.out _⟩
      · obtain rfl : k = nC := by omega
        have HB := Lib.hid (HYES.out (fun i hi => HA.out i (by omega)))
        rw [hCl] at HB
        by_cases h0 : 0 < k
        · have hp : (0 : Int) < (k : Int) := by omega
          have HB2 := Lib.hid (HB.out.trans (decide_eq_true h0))
          clear HB
          go_wp2_with fail
          go_ret
          exact ⟨ret_bool HB2.out.symm, HG.out⟩
        · have hp : ¬ (0 : Int) < (k : Int) := by omega
          have HB2 := Lib.hid (HB.out.trans (decide_eq_false h0))
          clear HB
          go_wp2_with fail
          go_ret
          exact ⟨ret_bool HB2.out.symm, HG.out⟩
end Go.Proofs.Ytgjidlhnfbdfpaa
