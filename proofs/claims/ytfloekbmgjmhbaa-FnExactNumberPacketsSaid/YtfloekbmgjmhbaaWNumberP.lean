/- What is proved here: the exact law on NumberPackets answers true, for every argument; only new blocks are written. -/
import Derived.Test.YtfloekbmgjmhbaaRecC
import Derived.Test.YtfloekbmgjmhbaaPksL
import Derived.Test.YtfloekbmgjmhbaaPksH
import Derived.Test.YtfloekbmgjmhbaaNumS
import Derived.Test.YtfloekbmgjmhbaaNumI
import Derived.Deep.Cut
namespace Go.Proofs.Ytfloekbmgjmhbaa
open Go.ChangeShapes Go.WideShapes Go.ChangeAt Go.RowKit
set_option linter.unusedVariables false
set_option maxRecDepth 20000

set_option maxHeartbeats 6400000 in
theorem walk_FnExactNumberPackets (A0a : Option Addr) (n0a c0a : Nat) (L0a : List Pkt) (w : World) (hncA0a : n0a ≤ c0a) (hcmA0a : c0a ≤ maxLen) (hA0a : RecAt 5 pktC w w.heap.size A0a n0a L0a) (hlA0a : ∀ x ∈ L0a, wfP x) :
    Calls Try.prog 5 #[.slice A0a n0a c0a] w fun e w' => e = .returned (.bool true) ∧ Below w.heap.size w w' := by
  have h9A0a : n0a ≤ 9223372036854775807 := Nat.le_trans hncA0a (Nat.le_trans hcmA0a (by decide))
  have hLA0a := hA0a.1
  have HA0a := Lib.hid (hA0a)
  have HWXA0a := Lib.hid (hlA0a)
  clear hncA0a hcmA0a hA0a hlA0a
  subst hLA0a
  by_cases hbig0 : (1048576 : Int) < (L0a.length : Int)
  · skip
    go_enter Try.func5, Try.ntmps5
    go_wp2_with fail
    have GE := Lib.hid (gb_refl w none)
    have RZ0 := Lib.hid (Chg.refl 0 0 w)
    refine (lawsSzP _ _ _ _ _ h9A0a (by omega) (by omega)).mono ?_
    rintro e wz1 ⟨rfl, hg⟩
    rw [if_pos hbig0]
    have RZ1 := Lib.hid (RZ0.out.gb hg)
    clear hg 
    go_wp2_with fail
    go_ret
    exact ⟨rfl, (gb_below_none GE.out (Nat.le_refl _)).trans (RZ1.out.below (.inr (Nat.le_refl _)) GE.out.size)⟩
  have hnA0a : L0a.length ≤ 1048576 := by omega
  obtain ⟨q1, hq1⟩ : ∃ q : Int, (1048576 : Int) - (L0a.length : Int) = q := ⟨_, rfl⟩
  have hqa1 : ¬ q1 < 0 := by omega
  have hqb1 : q1 ≤ 1048576 := by omega
  go_enter Try.func5, Try.ntmps5
  go_wp2_with fail
  have GE := Lib.hid (gb_refl w none)
  have RZ0 := Lib.hid (Chg.refl 0 0 w)
  refine (lawsSzP _ _ _ _ _ h9A0a (by omega) (by omega)).mono ?_
  rintro e wz1 ⟨rfl, hg⟩
  rw [if_neg (by omega), hq1]
  have RZ1 := Lib.hid (RZ0.out.gb hg)
  clear hg  hq1
  have hrl : (numG L0a).length ≤ 1048576 := by rw [numG_length]; exact hnA0a
  obtain ⟨R, hR⟩ : ∃ R, numG L0a = R := ⟨_, rfl⟩
  rw [hR] at hrl
  have HSP := Lib.hid (fun (A0a : Option Addr) (n0a c0a : Nat) (w : World) (hA0a : RecAt 5 pktC w w.heap.size A0a n0a L0a) (hnA0a : n0a ≤ 1000000000) (hcA0a : n0a ≤ c0a) => show Calls Try.prog 25 #[.slice A0a n0a c0a] w (NewPL R w) from hR ▸ specNumberPackets A0a n0a c0a L0a w hA0a hnA0a)
  have HIM := Lib.hid (fun (A0a : Option Addr) (n0a c0a : Nat) (w : World) (hA0a : RecAt 5 pktC w w.heap.size A0a n0a L0a) (hnA0a : n0a ≤ 1000000000) (hcA0a : n0a ≤ c0a) => show Calls Try.prog 15 #[.slice A0a n0a c0a] w (NewPL R w) from hR ▸ implNumberPackets A0a n0a c0a L0a w hA0a hnA0a)
  clear hR
  have BE := Lib.hid (gb_below_none GE.out (Nat.le_refl _))
  have RDA0a := Lib.hid (fun (w' : World) (hq : Chg 0 0 w w') => HA0a.out.chg BE.out hq (.inr (Nat.le_refl _)))
  go_wp2_with fail
  refine (lawsToPktS _ _ _ _ _ (RDA0a.out _ (RZ1.out)) hnA0a).mono ?_
  rintro e w1 ⟨gw0, rfl, ow0, bw0⟩
  have R1 : Hid (Chg 0 0 w w1) := Lib.hid ((RZ1.out).bl bw0)
  have Q1 := Lib.hid (chg_gb 0 0 (gb_of_below bw0 none))
  have F1 := Lib.hid (fix_row ow0)
  clear bw0 ow0
  go_wp2_with fail
  refine (HSP.out _ _ _ _ (recAt_own pktL (by decide) (F1.out.here) (Nat.le_refl _)) (by omega) (own_cap (F1.out.here)).1).mono ?_
  rintro e w2 ⟨pw, rfl, ow, bw⟩
  obtain ⟨Arw, crw, rfl, _⟩ := own_form ow
  have R2 : Hid (Chg 0 0 w w2) := Lib.hid ((R1.out).bl bw)
  have Q2 := Lib.hid (chg_gb 0 0 (gb_of_below bw none))
  have F2 := Lib.hid (fix_row ow)
  have HLw := Lib.hid (F2.out.here.lt)
  clear bw ow
  have FW := Lib.hid (F2.out)
  have HE0 := Lib.hid (FW.out.1)
  have HS0 := Lib.hid ((R2.out).size)
  go_wp2_with fail
  refine (lawsToPktS _ _ _ _ _ (RDA0a.out _ (R2.out)) hnA0a).mono ?_
  rintro e w3 ⟨gx0, rfl, ox0, bx0⟩
  have HLX0 := Lib.hid ((fix_row ox0).here.lt)
  have FX0 := Lib.hid (fix_row ox0)
  have Q3 := Lib.hid (chg_gb 0 0 (gb_of_below bx0 none))
  have R3 := Lib.hid ((R2.out).bl bx0)
  clear bx0 ox0
  replace FW := Lib.hid (FW.out.nx Q3.out)
  go_wp2_with fail
  refine (HIM.out _ _ _ _ (recAt_own pktL (by decide) (FX0.out.here) (Nat.le_refl _)) (by omega) (own_cap (FX0.out.here)).1).mono ?_
  rintro e w4 ⟨pg, rfl, og, bg⟩
  obtain ⟨Arg, crg, rfl, _⟩ := own_form og
  have R4 : Hid (Chg 0 0 w w4) := Lib.hid ((R3.out).bl bg)
  have Q4 := Lib.hid (chg_gb 0 0 (gb_of_below bg none))
  have F4 := Lib.hid (fix_row og)
  have HLg := Lib.hid (F4.out.here.lt)
  clear bg og
  replace FW := Lib.hid (FW.out.nx Q4.out)
  replace FX0 := Lib.hid (FX0.out.nx Q4.out)
  have FG := Lib.hid (F4.out)
  obtain ⟨B0, E0, Bg, Eg, Bv, Ev, eE0, fx0, hx0, fg, hg, fw, hn⟩ : ∃ B0 E0 Bg Eg Bv Ev : Nat, w3.heap.size = E0 ∧ Fix B0 E0 (fun w => w.ownsRow B0 44 5 (.slice (some ⟨gx0, 0, none⟩) L0a.length L0a.length) L0a.length (recV pktC L0a)) w4 ∧ (∀ k, Value.ownBlock (.slice (some ⟨gx0, 0, none⟩) L0a.length L0a.length) = some k → B0 ≤ k ∧ k < E0) ∧ Fix Bg Eg (fun w => w.ownsRow Bg 44 5 (.slice Arg R.length crg) R.length (recV pktC R)) w4 ∧ (∀ k, Value.ownBlock (.slice Arg R.length crg) = some k → Bg ≤ k ∧ k < Eg) ∧ Fix Bv Ev (fun w => w.ownsRow Bv 44 5 (.slice Arw R.length crw) R.length (recV pktC R)) w4 ∧ w.heap.size ≤ B0 ∧ B0 ≤ E0 ∧ E0 ≤ Bg ∧ Bg ≤ Eg ∧ Ev ≤ B0 := ⟨_, _, _, _, _, _, rfl, FX0.out, HLX0.out, FG.out, HLg.out, FW.out, (by have hsQ3 := Q3.out.size; have hsQ4 := Q4.out.size; have h0 := HS0.out; have h1 := HE0.out; (try simp only [alloc_size] at *); omega)⟩
  (try rw [eE0])
  have Zfx0 := Lib.hid (fx0)
  have Zhx0 := Lib.hid (hx0)
  have Zfg := Lib.hid (fg)
  have Zhg := Lib.hid (hg)
  have Zfw := Lib.hid (fw)
  have Zhn := Lib.hid (hn)
  clear fx0 hx0 fg hg fw hn
  have RS := Lib.hid (R4.out)
  have T0 := Lib.hid (Chg.refl 0 0 w4)
  go_wp2_with fail
  refine (lawsEqOwnP _ _ _ _ R _ Zfg.out.here Zfw.out.here (by omega)).mono ?_
  rintro e w5 ⟨rfl, hg⟩
  have T5 := Lib.hid (T0.out.gb hg)
  clear hg
  go_wp2_with fail
  refine (lawsToPktS _ _ _ _ _ (RDA0a.out _ (RS.out.trans T5.out)) hnA0a).mono ?_
  rintro e w6 ⟨gy0, rfl, oy0, by0⟩
  have T6 := Lib.hid (T5.out.bl by0)
  have F6 := Lib.hid (fix_row oy0)
  clear by0 oy0
  go_wp2_with fail
  refine (lawsEqOwnP _ _ _ _ L0a _ (Zfx0.out.nx T6.out).here F6.out.here (by omega)).mono ?_
  rintro e w7 ⟨rfl, hg⟩
  have T7 := Lib.hid (T6.out.gb hg)
  clear hg
  have M0 := Lib.hid (T7.out.mono (lo' := 0) (hi' := 0) (Nat.le_refl _) (Nat.le_refl _))
  go_wp2_with fail
  refine (lawsMarkP _ _ L0a.length 1 L0a _ (Zfx0.out.nx T7.out).here (by omega)).mono ?_
  rintro e w8 ⟨rfl, om0, ggm0⟩
  have M8 := Lib.hid (((chg_none_to T7.out : Chg B0 E0 w4 w7)).row ggm0 (fun j hj => by have hx := Zhx0.out j hj; have hn := Zhn.out; omega))
  obtain ⟨k8, hk8⟩ : ∃ k : Nat, 1 + L0a.length * 5 = k := ⟨_, rfl⟩
  rw [hk8]
  have hkb8 : k8 ≤ 10000000 := by omega
  clear om0 ggm0 hk8
  have hk0 : ¬ (k8 : Int) < 0 := by omega
  go_wp2_with fail
  refine (lawsEqOwnP _ _ _ _ R _ (Zfg.out.chg M8.out (by have hn := Zhn.out; omega)).here (Zfw.out.chg M8.out (by have hn := Zhn.out; omega)).here (by omega)).mono ?_
  rintro e w9 ⟨rfl, hg⟩
  have M9 := Lib.hid (M8.out.gb hg)
  clear hg hk0
  go_wp2_with fail
  refine (lawsMarkP _ _ R.length 1 R _ (Zfg.out.chg M9.out (by have hn := Zhn.out; omega)).here (by omega)).mono ?_
  rintro e w10 ⟨rfl, omg, ggmg⟩
  have MG := Lib.hid (((M9.out.mono (lo' := B0) (hi' := Eg) (Nat.le_refl _) (by have hn := Zhn.out; omega))).row ggmg (fun j hj => by have hx := Zhg.out j hj; have hn := Zhn.out; omega))
  obtain ⟨km, hkm⟩ : ∃ k : Nat, 1 + R.length * 5 = k := ⟨_, rfl⟩
  rw [hkm]
  have hkb : km ≤ 100000000 := by omega
  have HKM := Lib.hid (hkm)
  have hkn : ¬ (km : Int) < 0 := by omega
  have FM := Lib.hid (fix_row omg)
  clear omg ggmg hkm
  have BEm := Lib.hid ((BE.out.trans (RS.out.below (.inr (Nat.le_refl _)) BE.out.size)).trans (MG.out.below (.inl (by have hb := GE.out.size; have hn := Zhn.out; omega)) (by have hb := BE.out.size; have hc := RS.out.size; omega)))
  have FWm := Lib.hid (Zfw.out.chg MG.out (by have hn := Zhn.out; omega))
  have RDA0am := Lib.hid (fun (w' : World) (hq : Chg 0 0 w10 w') => HA0a.out.chg BEm.out hq (.inr (Nat.le_refl _)))
  have U0 := Lib.hid (Chg.refl 0 0 w10)
  go_wp2_with fail
  refine (lawsHeldOwnP _ _ R.length 1 _ (FM.out.nx (U0.out)).here (by omega)).mono ?_
  rintro e w11 ⟨rfl, hg⟩
  rw [HKM.out]
  have U11 := Lib.hid ((U0.out).gb hg)
  clear hg
  go_wp2_with fail
  refine (lawsToPktS _ _ _ _ _ (RDA0am.out _ (U11.out)) hnA0a).mono ?_
  rintro e w12 ⟨gh0, rfl, oh0, bh0⟩
  have R12 : Hid (Chg 0 0 w10 w12) := Lib.hid ((U11.out).bl bh0)
  have Q12 := Lib.hid (chg_gb 0 0 (gb_of_below bh0 none))
  have F12 := Lib.hid (fix_row oh0)
  clear bh0 oh0
  go_wp2_with fail
  refine (HIM.out _ _ _ _ (recAt_own pktL (by decide) (F12.out.here) (Nat.le_refl _)) (by omega) (own_cap (F12.out.here)).1).mono ?_
  rintro e w13 ⟨ph, rfl, oh, bh⟩
  obtain ⟨Arh, crh, rfl, _⟩ := own_form oh
  have R13 : Hid (Chg 0 0 w10 w13) := Lib.hid ((R12.out).bl bh)
  have Q13 := Lib.hid (chg_gb 0 0 (gb_of_below bh none))
  have F13 := Lib.hid (fix_row oh)
  have HLh := Lib.hid (F13.out.here.lt)
  clear bh oh
  go_wp2_with fail
  refine (lawsEqOwnP _ _ _ _ R _ F13.out.here (FWm.out.nx (R13.out)).here (by omega)).mono ?_
  rintro e w14 ⟨rfl, hg⟩
  have U14 := Lib.hid ((R13.out).gb hg)
  clear hg
  go_wp2_with fail
  refine (lawsHeldOwnP _ _ R.length 1 _ (FM.out.nx (U14.out)).here (by omega)).mono ?_
  rintro e w15 ⟨rfl, hg⟩
  rw [HKM.out]
  have U15 := Lib.hid ((U14.out).gb hg)
  clear hg
  go_wp2_with fail
  go_ret
  exact ⟨rfl, BEm.out.trans ((U15.out).below (.inr (Nat.le_refl _)) BEm.out.size)⟩
end Go.Proofs.Ytfloekbmgjmhbaa
