/- What is proved here: the laws' helpers for lists of lists of flits: count and compare; only new blocks are written. -/
import Derived.Test.YtfloekbmgjmhbaaFltE
import Derived.Test.YtfloekbmgjmhbaaFam
namespace Go.Proofs.Ytfloekbmgjmhbaa
open Go.ChangeShapes Go.WideShapes Go.ChangeAt Go.RowKit
set_option linter.unusedVariables false
set_option maxRecDepth 20000

/-- How many flits lists hold. -/
def sumL (DD : List (List Flt)) : Nat := (DD.map List.length).sum
theorem sumL_zero (DD : List (List Flt)) : sumL (DD.take 0) = 0 := by simp [sumL]
theorem sumL_next {DD : List (List Flt)} {k : Nat} {D : List Flt} (h : DD[k]? = some D) : sumL (DD.take (k + 1)) = sumL (DD.take k) + D.length := by
  have hk := (List.getElem?_eq_some_iff.1 h).1
  have e : DD[k] = D := (List.getElem?_eq_some_iff.1 h).2
  rw [List.take_succ_eq_append_getElem hk, sumL, List.map_append, List.sum_append, e]
  simp [sumL]
theorem sumL_all (DD : List (List Flt)) : sumL (DD.take DD.length) = sumL DD := by rw [List.take_length]
theorem sumL_le (DD : List (List Flt)) (k : Nat) : sumL (DD.take k) ≤ sumL DD := by
  have h : sumL DD = sumL (DD.take k) + sumL (DD.drop k) := by
    rw [sumL, sumL, sumL, ← List.sum_append, ← List.map_append, List.take_append_drop]
  omega
theorem sumL_at {DD : List (List Flt)} {k : Nat} {D : List Flt} (h : DD[k]? = some D) : sumL (DD.take k) + D.length ≤ sumL DD := by
  rw [← sumL_next h]; exact sumL_le _ _
/-- What is left of m. -/
def leftL (m : Int) (t : Nat) : Int := if m < (t : Int) then -1 else m - t

set_option maxHeartbeats 1600000 in
theorem lawsSzFSS (A : Option Addr) (n cap : Nat) (DD : List (List Flt)) (m : Int) (w : World) (h : RecsAt 5 fltC w w.heap.size A n DD) (hn : n ≤ 9223372036854775807) (hm0 : 0 ≤ m) (hm1 : m ≤ 1048576) :
    Calls Try.prog 48 #[.slice A n cap, .int .i64 m] w fun e w' => e = .returned (.int .i64 (leftL m (n + sumL DD))) ∧ w.grownBy w' none := by
  have HI := Lib.hid h
  have hl := h.1
  clear h
  by_cases hlt : m < (n : Int)
  · have hr : leftL m (n + sumL DD) = -1 := if_pos (by omega)
    rw [hr]
    go_enter Try.func48, Try.ntmps48
    go_wp2_with fail
    go_ret
    exact ⟨rfl, gb_refl _ _⟩
  · have HZ := Lib.hid (sumL_zero DD)
    have e1 : IntKind.i64.wrap (m - (n : Int)) = m - (n : Int) := IntWalk.i64_in _ (by omega)
    have h0 : ¬ m - (n : Int) < 0 := by omega
    obtain ⟨r, hr⟩ : ∃ r, leftL m (n + sumL DD) = r := ⟨_, rfl⟩
    have HR := Lib.hid hr
    rw [hr]
    clear hr
    go_enter Try.func48, Try.ntmps48
    go_wp2_with fail
    go_loopw [1, 5] (fun q i wr => ∃ k : Nat, i = .int .i64 (k : Int) ∧ k ≤ n ∧ ((n + sumL (DD.take k) : Nat) : Int) ≤ m ∧ q = .int .i64 (m - ((n + sumL (DD.take k) : Nat) : Int)) ∧ w.grownBy wr none) (fun _ i _ => n - (intOf i).toNat)
    case atStart => exact ⟨0, rfl, Nat.zero_le _, by rw [HZ.out]; omega, by rw [HZ.out]; simp, gb_refl _ _⟩
    case round =>
      obtain ⟨k, rfl, hk, hle, rfl, hg⟩ := hrel
      have HG := Lib.hid hg
      obtain ⟨t, ht⟩ : ∃ t, n + sumL (DD.take k) = t := ⟨_, rfl⟩
      rw [ht] at hle ⊢
      by_cases hlt2 : k < n
      · obtain ⟨b, off, D, A', c', rfl, _, hD, hc, hcap, _⟩ := (HI.out.none (Nat.le_refl _) hg).at k hlt2
        have hat := sumL_at hD
        have HNX := Lib.hid (sumL_next hD)
        have HT := Lib.hid ht
        have k0 : (0 : Int) ≤ (k : Int) := by omega
        have k1 : (k : Int) < (n : Int) := by omega
        obtain ⟨x, hx⟩ : ∃ x, D.length = x := ⟨_, rfl⟩
        have hx9 : x ≤ 9223372036854775807 := by rw [← hx]; exact Nat.le_trans hcap.1 (Nat.le_trans hcap.2 (by decide))
        rw [hx] at hc HNX hat
        obtain ⟨q, hq⟩ : ∃ q : Int, m - (t : Int) = q := ⟨_, rfl⟩
        rw [hq]
        have HSZ := Lib.hid (fun w => lawsSzF A' x c' q w hx9 (by omega) (by omega))
        by_cases hbig : q < (x : Int)
        · have HRE := Lib.hid (show r = -1 by rw [← HR.out]; exact if_pos (by have := HT.out; omega))
          have hm1' : (-1 : Int) < 0 := by omega
          rw [if_pos hbig] at HSZ
          clear hg ht hD hcap hx hq hat
          go_wp2_with fail
          refine (HSZ.out _).mono ?_
          rintro e w2 ⟨rfl, g2⟩
          have G2 := Lib.hid (gb_trans HG.out g2)
          clear g2
          go_wp2_with fail
          go_ret
          exact ⟨by rw [HRE.out]; rfl, G2.out⟩
        · rw [if_neg hbig] at HSZ
          have hnn : ¬ q - (x : Int) < 0 := by omega
          have HQ := Lib.hid hq
          clear hg ht hD hcap hx hq hat
          go_wp2_with fail
          refine (HSZ.out _).mono ?_
          rintro e w2 ⟨rfl, g2⟩
          have G2 := Lib.hid (gb_trans HG.out g2)
          clear g2
          go_wp2_with fail
          go_roundw
          case rel => exact ⟨k + 1, by go_num, by omega, by rw [HNX.out]; have := HT.out; have := HQ.out; omega, by rw [HNX.out]; have := HT.out; have := HQ.out; congr 1; omega, G2.out⟩
          case measure => simp [intOf]; omega
      · have hkn : k = n := by omega
        have HRE := Lib.hid (show r = m - (t : Int) by
          rw [← HR.out, ← ht, hkn, ← hl, sumL_all, hl]
          exact if_neg (by rw [← ht, hkn, ← hl, sumL_all, hl] at hle; omega))
        have k1 : ¬ (k : Int) < (n : Int) := by omega
        clear hg ht hkn
        go_wp2_with fail
        go_ret
        exact ⟨by rw [HRE.out]; rfl, HG.out⟩
/-- Two lists of lists with the same flits are the same. -/
theorem lawsEqFSS (A1 A2 : Option Addr) (n c1 c2 : Nat) (DD : List (List Flt)) (w : World) (h1 : RecsAt 5 fltC w w.heap.size A1 n DD) (h2 : RecsAt 5 fltC w w.heap.size A2 n DD) (hn : n ≤ 1000000000) (hs : sumL DD ≤ 1000000000) :
    Calls Try.prog 60 #[.slice A1 n c1, .slice A2 n c2] w (RetB true w) := by
  have H1 := Lib.hid h1
  have H2 := Lib.hid h2
  clear h1 h2
  go_enter Try.func60, Try.ntmps60
  go_wp2_with fail
  go_loopw [5] (fun i wr => ∃ k : Nat, i = .int .i64 (k : Int) ∧ k ≤ n ∧ w.grownBy wr none) (fun i _ => n - (intOf i).toNat)
  case atStart => exact ⟨0, rfl, Nat.zero_le _, gb_refl _ _⟩
  case round =>
    obtain ⟨k, rfl, hk, hg⟩ := hrel
    have HG := Lib.hid hg
    by_cases hlt : k < n
    · obtain ⟨g1, o1, D, B1, d1, rfl, _, hD, a0, _, r1⟩ := (H1.out.none (Nat.le_refl _) hg).at k hlt
      obtain ⟨g2, o2, E, B2, d2, rfl, _, hE, b0, _, r2⟩ := (H2.out.none (Nat.le_refl _) hg).at k hlt
      obtain rfl : D = E := by rw [hD] at hE; exact Option.some.inj hE
      have hat := sumL_at hD
      have k0 : (0 : Int) ≤ (k : Int) := by omega
      have k1 : (k : Int) < (n : Int) := by omega
      have HE := Lib.hid (fun w h1 h2 => lawsEqF B1 B2 D.length d1 d2 D w h1 h2 (by omega))
      have R1 : Hid (RecAt 5 fltC wr.drew wr.drew.heap.size B1 D.length D) := Lib.hid (r1.more (Nat.le_trans hg.size (Nat.le_refl _)) |>.none (Nat.le_refl _) (gb_drew (gb_refl wr none)))
      have R2 : Hid (RecAt 5 fltC wr.drew wr.drew.heap.size B2 D.length D) := Lib.hid (r2.more (Nat.le_trans hg.size (Nat.le_refl _)) |>.none (Nat.le_refl _) (gb_drew (gb_refl wr none)))
      clear hD hE hat r1 r2 hg
      go_wp2_with fail
      go_region_held3 (fun w' => w'.cell? ⟨g1, o1 + k, none⟩ = some (.slice B1 D.length d1) ∧ w'.cell? ⟨g2, o2 + k, none⟩ = some (.slice B2 D.length d2))
        (first | with_reducible exact ⟨a0, b0⟩ | exact ⟨a0, b0⟩ | exact ⟨x0, x1⟩ | fail)
        (first
          | (go_at_call 98; (with_reducible refine (HE.out _ R1.out R2.out).mono ?_); rintro e w4 ⟨rfl, hg4⟩; have h4 := gb_drF hg4; have x0 := h4.cell a0 (by simp); have x1 := h4.cell b0 (by simp); have G4 := Lib.hid (gb_trans HG.out h4); clear h4 hg4)
          | fail)
      all_goals
        clear x0 x1 a0 b0
        go_wp2_with fail
        go_roundw
        case rel => exact ⟨k + 1, by go_num, by omega, G4.out⟩
        case measure => simp [intOf]; omega
    · obtain rfl : k = n := by omega
      clear hg
      go_wp2_with fail
      go_ret
      exact ⟨rfl, HG.out⟩
end Go.Proofs.Ytfloekbmgjmhbaa
