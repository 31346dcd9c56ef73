/- What is proved here: the exact law on IdsDistinct answers true, for every argument; only new blocks are written. -/
import Derived.Test.YtfloekbmgjmhbaaRecC
import Derived.Test.YtfloekbmgjmhbaaPksL
import Derived.Test.YtfloekbmgjmhbaaIdsS
import Derived.Test.YtfloekbmgjmhbaaIdsI
import Derived.Deep.Cut
namespace Go.Proofs.Ytfloekbmgjmhbaa
open Go.ChangeShapes Go.WideShapes Go.ChangeAt Go.RowKit
set_option linter.unusedVariables false
set_option maxRecDepth 20000

set_option maxHeartbeats 6400000 in
theorem walk_FnExactIdsDistinct (A0a : Option Addr) (n0a c0a : Nat) (L0a : List Pkt) (w : World) (hncA0a : n0a ≤ c0a) (hcmA0a : c0a ≤ maxLen) (hA0a : RecAt 5 pktC w w.heap.size A0a n0a L0a) (hlA0a : ∀ x ∈ L0a, wfP x) :
    Calls Try.prog 6 #[.slice A0a n0a c0a] w fun e w' => e = .returned (.bool true) ∧ Below w.heap.size w w' := by
  have h9A0a : n0a ≤ 9223372036854775807 := Nat.le_trans hncA0a (Nat.le_trans hcmA0a (by decide))
  have hLA0a := hA0a.1
  have HA0a := Lib.hid (hA0a)
  have HWXA0a := Lib.hid (hlA0a)
  clear hncA0a hcmA0a hA0a hlA0a
  subst hLA0a
  by_cases hbig0 : (1048576 : Int) < (L0a.length : Int)
  · skip
    go_enter Try.func6, Try.ntmps6
    go_wp2_with fail
    have GE := Lib.hid (gb_refl w none)
    have RZ0 := Lib.hid (Chg.refl 0 0 w)
    refine (lawsSzP _ _ _ _ _ h9A0a (by omega) (by omega)).mono ?_
    rintro e wz1 ⟨rfl, hg⟩
    rw [if_pos hbig0]
    have RZ1 := Lib.hid (RZ0.out.gb hg)
    clear hg 
    go_wp2_with fail
    go_ret
    exact ⟨rfl, (gb_below_none GE.out (Nat.le_refl _)).trans (RZ1.out.below (.inr (Nat.le_refl _)) GE.out.size)⟩
  have hnA0a : L0a.length ≤ 1048576 := by omega
  obtain ⟨q1, hq1⟩ : ∃ q : Int, (1048576 : Int) - (L0a.length : Int) = q := ⟨_, rfl⟩
  have hqa1 : ¬ q1 < 0 := by omega
  have hqb1 : q1 ≤ 1048576 := by omega
  go_enter Try.func6, Try.ntmps6
  go_wp2_with fail
  have GE := Lib.hid (gb_refl w none)
  have RZ0 := Lib.hid (Chg.refl 0 0 w)
  refine (lawsSzP _ _ _ _ _ h9A0a (by omega) (by omega)).mono ?_
  rintro e wz1 ⟨rfl, hg⟩
  rw [if_neg (by omega), hq1]
  have RZ1 := Lib.hid (RZ0.out.gb hg)
  clear hg  hq1
  obtain ⟨res, hres⟩ : ∃ r, idsG L0a = r := ⟨_, rfl⟩
  have HSP := Lib.hid (fun (A0a : Option Addr) (n0a c0a : Nat) (w : World) (hA0a : RecAt 5 pktC w w.heap.size A0a n0a L0a) (hnA0a : n0a ≤ 1000000000) (hcA0a : n0a ≤ c0a) => show Calls Try.prog 30 #[.slice A0a n0a c0a] w (RetB res w) from hres ▸ specIdsDistinct A0a n0a c0a L0a w hA0a hnA0a)
  have HIM := Lib.hid (fun (A0a : Option Addr) (n0a c0a : Nat) (w : World) (hA0a : RecAt 5 pktC w w.heap.size A0a n0a L0a) (hnA0a : n0a ≤ 1000000000) (hcA0a : n0a ≤ c0a) => show Calls Try.prog 14 #[.slice A0a n0a c0a] w (RetB res w) from hres ▸ implIdsDistinct A0a n0a c0a L0a w hA0a hnA0a HWXA0a.out)
  clear hres
  have BE := Lib.hid (gb_below_none GE.out (Nat.le_refl _))
  have RDA0a := Lib.hid (fun (w' : World) (hq : Chg 0 0 w w') => HA0a.out.chg BE.out hq (.inr (Nat.le_refl _)))
  go_wp2_with fail
  refine (lawsToPktS _ _ _ _ _ (RDA0a.out _ (RZ1.out)) hnA0a).mono ?_
  rintro e w1 ⟨gw0, rfl, ow0, bw0⟩
  have R1 : Hid (Chg 0 0 w w1) := Lib.hid ((RZ1.out).bl bw0)
  have Q1 := Lib.hid (chg_gb 0 0 (gb_of_below bw0 none))
  have F1 := Lib.hid (fix_row ow0)
  clear bw0 ow0
  go_wp2_with fail
  refine (HSP.out _ _ _ _ (recAt_own pktL (by decide) (F1.out.here) (Nat.le_refl _)) (by omega) (own_cap (F1.out.here)).1).mono ?_
  rintro e w2 ⟨rfl, bw⟩
  have R2 : Hid (Chg 0 0 w w2) := Lib.hid ((R1.out).gb bw)
  have Q2 := Lib.hid (chg_gb 0 0 bw)
  clear bw
  have HS0 := Lib.hid ((R2.out).size)
  go_wp2_with fail
  refine (lawsToPktS _ _ _ _ _ (RDA0a.out _ (R2.out)) hnA0a).mono ?_
  rintro e w3 ⟨gx0, rfl, ox0, bx0⟩
  have HLX0 := Lib.hid ((fix_row ox0).here.lt)
  have FX0 := Lib.hid (fix_row ox0)
  have Q3 := Lib.hid (chg_gb 0 0 (gb_of_below bx0 none))
  have R3 := Lib.hid ((R2.out).bl bx0)
  clear bx0 ox0
  go_wp2_with fail
  refine (HIM.out _ _ _ _ (recAt_own pktL (by decide) (FX0.out.here) (Nat.le_refl _)) (by omega) (own_cap (FX0.out.here)).1).mono ?_
  rintro e w4 ⟨rfl, bg⟩
  have R4 : Hid (Chg 0 0 w w4) := Lib.hid ((R3.out).gb bg)
  have Q4 := Lib.hid (chg_gb 0 0 bg)
  clear bg
  replace FX0 := Lib.hid (FX0.out.nx Q4.out)
  obtain ⟨B0, E0, eE0, fx0, hx0, hn⟩ : ∃ B0 E0 : Nat, w3.heap.size = E0 ∧ Fix B0 E0 (fun w => w.ownsRow B0 44 5 (.slice (some ⟨gx0, 0, none⟩) L0a.length L0a.length) L0a.length (recV pktC L0a)) w4 ∧ (∀ k, Value.ownBlock (.slice (some ⟨gx0, 0, none⟩) L0a.length L0a.length) = some k → B0 ≤ k ∧ k < E0) ∧ w.heap.size ≤ B0 ∧ B0 ≤ E0 := ⟨_, _, rfl, FX0.out, HLX0.out, (by have hsQ3 := Q3.out.size; have hsQ4 := Q4.out.size; have h0 := HS0.out; (try simp only [alloc_size] at *); omega)⟩
  (try rw [eE0])
  have Zfx0 := Lib.hid (fx0)
  have Zhx0 := Lib.hid (hx0)
  have Zhn := Lib.hid (hn)
  clear fx0 hx0 hn
  have RS := Lib.hid (R4.out)
  have T0 := Lib.hid (Chg.refl 0 0 w4)
  go_wp2_with fail
  refine (lawsToPktS _ _ _ _ _ (RDA0a.out _ (RS.out.trans T0.out)) hnA0a).mono ?_
  rintro e w5 ⟨gy0, rfl, oy0, by0⟩
  have T5 := Lib.hid (T0.out.bl by0)
  have F5 := Lib.hid (fix_row oy0)
  clear by0 oy0
  go_wp2_with fail
  refine (lawsEqOwnP _ _ _ _ L0a _ (Zfx0.out.nx T5.out).here F5.out.here (by omega)).mono ?_
  rintro e w6 ⟨rfl, hg⟩
  have T6 := Lib.hid (T5.out.gb hg)
  clear hg
  go_wp2_with fail
  go_ret
  exact ⟨rfl, BE.out.trans ((RS.out.trans T6.out).below (.inr (Nat.le_refl _)) BE.out.size)⟩
end Go.Proofs.Ytfloekbmgjmhbaa
