/- What is proved here: the exact law on SameFlits answers true, for every argument; only new blocks are written. -/
import Derived.Test.YtcjidpegmlbenaaRecC
import Derived.Test.YtcjidpegmlbenaaFltL
import Derived.Test.YtcjidpegmlbenaaFlS
import Derived.Test.YtcjidpegmlbenaaWhI
import Derived.Deep.Cut
namespace Go.Proofs.Ytcjidpegmlbenaa
open Go.ChangeShapes Go.WideShapes Go.ChangeAt Go.RowKit
set_option linter.unusedVariables false
set_option maxRecDepth 20000

set_option maxHeartbeats 6400000 in
theorem walk_FnExactSameFlits (A0a : Option Addr) (n0a c0a : Nat) (L0a : List Flt) (A1a : Option Addr) (n1a c1a : Nat) (L1a : List Flt) (w : World) (hncA0a : n0a ≤ c0a) (hcmA0a : c0a ≤ maxLen) (hA0a : RecAt 5 fltC w w.heap.size A0a n0a L0a) (hlA0a : ∀ x ∈ L0a, wfF x) (hncA1a : n1a ≤ c1a) (hcmA1a : c1a ≤ maxLen) (hA1a : RecAt 5 fltC w w.heap.size A1a n1a L1a) (hlA1a : ∀ x ∈ L1a, wfF x) :
    Calls Try.prog 8 #[.slice A0a n0a c0a, .slice A1a n1a c1a] w fun e w' => e = .returned (.bool true) ∧ Below w.heap.size w w' := by
  have h9A0a : n0a ≤ 9223372036854775807 := Nat.le_trans hncA0a (Nat.le_trans hcmA0a (by decide))
  have hLA0a := hA0a.1
  have HA0a := Lib.hid (hA0a)
  have HWXA0a := Lib.hid (hlA0a)
  have h9A1a : n1a ≤ 9223372036854775807 := Nat.le_trans hncA1a (Nat.le_trans hcmA1a (by decide))
  have hLA1a := hA1a.1
  have HA1a := Lib.hid (hA1a)
  have HWXA1a := Lib.hid (hlA1a)
  clear hncA0a hcmA0a hA0a hlA0a hncA1a hcmA1a hA1a hlA1a
  subst hLA0a
  subst hLA1a
  by_cases hbig0 : (1048576 : Int) < (L0a.length : Int)
  · skip
    go_enter Try.func8, Try.ntmps8
    go_wp2_with fail
    have GE := Lib.hid (gb_refl w none)
    have RZ0 := Lib.hid (Chg.refl 0 0 w)
    refine (lawsSzF _ _ _ _ _ h9A0a (by omega) (by omega)).mono ?_
    rintro e wz1 ⟨rfl, hg⟩
    rw [if_pos hbig0]
    have RZ1 := Lib.hid (RZ0.out.gb hg)
    clear hg 
    go_wp2_with fail
    go_ret
    exact ⟨rfl, (gb_below_none GE.out (Nat.le_refl _)).trans (RZ1.out.below (.inr (Nat.le_refl _)) GE.out.size)⟩
  have hnA0a : L0a.length ≤ 1048576 := by omega
  obtain ⟨q1, hq1⟩ : ∃ q : Int, (1048576 : Int) - (L0a.length : Int) = q := ⟨_, rfl⟩
  have hqa1 : ¬ q1 < 0 := by omega
  have hqb1 : q1 ≤ 1048576 := by omega
  by_cases hbig1 : q1 < (L1a.length : Int)
  · skip
    go_enter Try.func8, Try.ntmps8
    go_wp2_with fail
    have GE := Lib.hid (gb_refl w none)
    have RZ0 := Lib.hid (Chg.refl 0 0 w)
    refine (lawsSzF _ _ _ _ _ h9A0a (by omega) (by omega)).mono ?_
    rintro e wz1 ⟨rfl, hg⟩
    rw [if_neg (by omega), hq1]
    have RZ1 := Lib.hid (RZ0.out.gb hg)
    clear hg  hq1
    go_wp2_with fail
    refine (lawsSzF _ _ _ _ _ h9A1a (by omega) (by omega)).mono ?_
    rintro e wz2 ⟨rfl, hg⟩
    rw [if_pos hbig1]
    have RZ2 := Lib.hid (RZ1.out.gb hg)
    clear hg 
    go_wp2_with fail
    go_ret
    exact ⟨rfl, (gb_below_none GE.out (Nat.le_refl _)).trans (RZ2.out.below (.inr (Nat.le_refl _)) GE.out.size)⟩
  have hnA1a : L1a.length ≤ 1048576 := by omega
  obtain ⟨q2, hq2⟩ : ∃ q : Int, q1 - (L1a.length : Int) = q := ⟨_, rfl⟩
  have hqa2 : ¬ q2 < 0 := by omega
  have hqb2 : q2 ≤ 1048576 := by omega
  go_enter Try.func8, Try.ntmps8
  go_wp2_with fail
  have GE := Lib.hid (gb_refl w none)
  have RZ0 := Lib.hid (Chg.refl 0 0 w)
  refine (lawsSzF _ _ _ _ _ h9A0a (by omega) (by omega)).mono ?_
  rintro e wz1 ⟨rfl, hg⟩
  rw [if_neg (by omega), hq1]
  have RZ1 := Lib.hid (RZ0.out.gb hg)
  clear hg  hq1
  go_wp2_with fail
  refine (lawsSzF _ _ _ _ _ h9A1a (by omega) (by omega)).mono ?_
  rintro e wz2 ⟨rfl, hg⟩
  rw [if_neg (by omega), hq2]
  have RZ2 := Lib.hid (RZ1.out.gb hg)
  clear hg  hq2
  obtain ⟨res, hres⟩ : ∃ r, sameF L0a L1a = r := ⟨_, rfl⟩
  have HSP := Lib.hid (fun (A0a : Option Addr) (n0a c0a : Nat) (A1a : Option Addr) (n1a c1a : Nat) (w : World) (hA0a : RecAt 5 fltC w w.heap.size A0a n0a L0a) (hA1a : RecAt 5 fltC w w.heap.size A1a n1a L1a) (hnA0a : n0a ≤ 1000000000) (hnA1a : n1a ≤ 1000000000) (hcA0a : n0a ≤ c0a) (hcA1a : n1a ≤ c1a) => show Calls Try.prog 28 #[.slice A0a n0a c0a, .slice A1a n1a c1a] w (RetB res w) from hres ▸ specSameFlits A0a A1a n0a c0a n1a c1a L0a L1a w hA0a hA1a hnA0a hnA1a)
  have HIM := Lib.hid (fun (A0a : Option Addr) (n0a c0a : Nat) (A1a : Option Addr) (n1a c1a : Nat) (w : World) (hA0a : RecAt 5 fltC w w.heap.size A0a n0a L0a) (hA1a : RecAt 5 fltC w w.heap.size A1a n1a L1a) (hnA0a : n0a ≤ 1000000000) (hnA1a : n1a ≤ 1000000000) (hcA0a : n0a ≤ c0a) (hcA1a : n1a ≤ c1a) => show Calls Try.prog 16 #[.slice A0a n0a c0a, .slice A1a n1a c1a] w (RetB res w) from hres ▸ implSameFlits A0a A1a n0a c0a n1a c1a L0a L1a w hA0a hA1a hnA0a hnA1a)
  clear hres
  have BE := Lib.hid (gb_below_none GE.out (Nat.le_refl _))
  have RDA0a := Lib.hid (fun (w' : World) (hq : Chg 0 0 w w') => HA0a.out.chg BE.out hq (.inr (Nat.le_refl _)))
  have RDA1a := Lib.hid (fun (w' : World) (hq : Chg 0 0 w w') => HA1a.out.chg BE.out hq (.inr (Nat.le_refl _)))
  go_wp2_with fail
  refine (lawsToFltS _ _ _ _ _ (RDA0a.out _ (RZ2.out)) hnA0a).mono ?_
  rintro e w1 ⟨gw0, rfl, ow0, bw0⟩
  have R1 : Hid (Chg 0 0 w w1) := Lib.hid ((RZ2.out).bl bw0)
  have Q1 := Lib.hid (chg_gb 0 0 (gb_of_below bw0 none))
  have F1 := Lib.hid (fix_row ow0)
  clear bw0 ow0
  go_wp2_with fail
  refine (lawsToFltS _ _ _ _ _ (RDA1a.out _ (R1.out)) hnA1a).mono ?_
  rintro e w2 ⟨gw1, rfl, ow1, bw1⟩
  have R2 : Hid (Chg 0 0 w w2) := Lib.hid ((R1.out).bl bw1)
  have Q2 := Lib.hid (chg_gb 0 0 (gb_of_below bw1 none))
  have F2 := Lib.hid (fix_row ow1)
  clear bw1 ow1
  go_wp2_with fail
  refine (HSP.out _ _ _ _ _ _ _ (recAt_own fltL (by decide) ((F1.out.nx Q2.out).here) (Nat.le_refl _)) (recAt_own fltL (by decide) (F2.out.here) (Nat.le_refl _)) (by omega) (by omega) (own_cap ((F1.out.nx Q2.out).here)).1 (own_cap (F2.out.here)).1).mono ?_
  rintro e w3 ⟨rfl, bw⟩
  have R3 : Hid (Chg 0 0 w w3) := Lib.hid ((R2.out).gb bw)
  have Q3 := Lib.hid (chg_gb 0 0 bw)
  clear bw
  have HS0 := Lib.hid ((R3.out).size)
  go_wp2_with fail
  refine (lawsToFltS _ _ _ _ _ (RDA0a.out _ (R3.out)) hnA0a).mono ?_
  rintro e w4 ⟨gx0, rfl, ox0, bx0⟩
  have HLX0 := Lib.hid ((fix_row ox0).here.lt)
  have FX0 := Lib.hid (fix_row ox0)
  have Q4 := Lib.hid (chg_gb 0 0 (gb_of_below bx0 none))
  have R4 := Lib.hid ((R3.out).bl bx0)
  clear bx0 ox0
  go_wp2_with fail
  refine (lawsToFltS _ _ _ _ _ (RDA1a.out _ (R4.out)) hnA1a).mono ?_
  rintro e w5 ⟨gx1, rfl, ox1, bx1⟩
  have HLX1 := Lib.hid ((fix_row ox1).here.lt)
  have FX1 := Lib.hid (fix_row ox1)
  have Q5 := Lib.hid (chg_gb 0 0 (gb_of_below bx1 none))
  have R5 := Lib.hid ((R4.out).bl bx1)
  clear bx1 ox1
  replace FX0 := Lib.hid (FX0.out.nx Q5.out)
  go_wp2_with fail
  refine (HIM.out _ _ _ _ _ _ _ (recAt_own fltL (by decide) (FX0.out.here) (Nat.le_refl _)) (recAt_own fltL (by decide) (FX1.out.here) (Nat.le_refl _)) (by omega) (by omega) (own_cap (FX0.out.here)).1 (own_cap (FX1.out.here)).1).mono ?_
  rintro e w6 ⟨rfl, bg⟩
  have R6 : Hid (Chg 0 0 w w6) := Lib.hid ((R5.out).gb bg)
  have Q6 := Lib.hid (chg_gb 0 0 bg)
  clear bg
  replace FX0 := Lib.hid (FX0.out.nx Q6.out)
  replace FX1 := Lib.hid (FX1.out.nx Q6.out)
  obtain ⟨B0, E0, B1, E1, eE0, eE1, fx0, hx0, fx1, hx1, hn⟩ : ∃ B0 E0 B1 E1 : Nat, w4.heap.size = E0 ∧ w5.heap.size = E1 ∧ Fix B0 E0 (fun w => w.ownsRow B0 39 5 (.slice (some ⟨gx0, 0, none⟩) L0a.length L0a.length) L0a.length (recV fltC L0a)) w6 ∧ (∀ k, Value.ownBlock (.slice (some ⟨gx0, 0, none⟩) L0a.length L0a.length) = some k → B0 ≤ k ∧ k < E0) ∧ Fix B1 E1 (fun w => w.ownsRow B1 39 5 (.slice (some ⟨gx1, 0, none⟩) L1a.length L1a.length) L1a.length (recV fltC L1a)) w6 ∧ (∀ k, Value.ownBlock (.slice (some ⟨gx1, 0, none⟩) L1a.length L1a.length) = some k → B1 ≤ k ∧ k < E1) ∧ w.heap.size ≤ B0 ∧ B0 ≤ E0 ∧ E0 ≤ B1 ∧ B1 ≤ E1 := ⟨_, _, _, _, rfl, rfl, FX0.out, HLX0.out, FX1.out, HLX1.out, (by have hsQ4 := Q4.out.size; have hsQ5 := Q5.out.size; have hsQ6 := Q6.out.size; have h0 := HS0.out; (try simp only [alloc_size] at *); omega)⟩
  (try rw [eE0])
  (try rw [eE1])
  have Zfx0 := Lib.hid (fx0)
  have Zhx0 := Lib.hid (hx0)
  have Zfx1 := Lib.hid (fx1)
  have Zhx1 := Lib.hid (hx1)
  have Zhn := Lib.hid (hn)
  clear fx0 hx0 fx1 hx1 hn
  have RS := Lib.hid (R6.out)
  have T0 := Lib.hid (Chg.refl 0 0 w6)
  go_wp2_with fail
  refine (lawsToFltS _ _ _ _ _ (RDA0a.out _ (RS.out.trans T0.out)) hnA0a).mono ?_
  rintro e w7 ⟨gy0, rfl, oy0, by0⟩
  have T7 := Lib.hid (T0.out.bl by0)
  have F7 := Lib.hid (fix_row oy0)
  clear by0 oy0
  go_wp2_with fail
  refine (lawsEqOwnF _ _ _ _ L0a _ (Zfx0.out.nx T7.out).here F7.out.here (by omega)).mono ?_
  rintro e w8 ⟨rfl, hg⟩
  have T8 := Lib.hid (T7.out.gb hg)
  clear hg
  go_wp2_with fail
  refine (lawsToFltS _ _ _ _ _ (RDA1a.out _ (RS.out.trans T8.out)) hnA1a).mono ?_
  rintro e w9 ⟨gy1, rfl, oy1, by1⟩
  have T9 := Lib.hid (T8.out.bl by1)
  have F9 := Lib.hid (fix_row oy1)
  clear by1 oy1
  go_wp2_with fail
  refine (lawsEqOwnF _ _ _ _ L1a _ (Zfx1.out.nx T9.out).here F9.out.here (by omega)).mono ?_
  rintro e w10 ⟨rfl, hg⟩
  have T10 := Lib.hid (T9.out.gb hg)
  clear hg
  go_wp2_with fail
  go_ret
  exact ⟨rfl, BE.out.trans ((RS.out.trans T10.out).below (.inr (Nat.le_refl _)) BE.out.size)⟩
end Go.Proofs.Ytcjidpegmlbenaa
