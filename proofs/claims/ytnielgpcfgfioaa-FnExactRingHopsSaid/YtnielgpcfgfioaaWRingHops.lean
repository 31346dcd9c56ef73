/- What is proved here: the exact law on RingHops answers true, for every argument; only new blocks are written. -/
import Derived.Test.YtnielgpcfgfioaaChgW
import Derived.Test.YtnielgpcfgfioaaHopE
import Derived.Test.YtnielgpcfgfioaaHopH
import Derived.Test.YtnielgpcfgfioaaRhS
import Derived.Test.YtnielgpcfgfioaaRhI
import Derived.Deep.Cut
namespace Go.Proofs.Ytnielgpcfgfioaa
open Go.ChangeShapes Go.WideShapes Go.ChangeAt Go.RowKit
set_option linter.unusedVariables false
set_option maxRecDepth 20000

set_option maxHeartbeats 6400000 in
theorem walk_FnExactRingHops (S0a : Int) (S1a : Int) (S2a : Int) (b3 : Bool) (w : World) (hwS0a : (Lit.int .i64 S0a).wf = true) (hwS1a : (Lit.int .i64 S1a).wf = true) (hwS2a : (Lit.int .i64 S2a).wf = true) :
    Calls Try.prog 5 #[.int .i64 S0a, .int .i64 S1a, .int .i64 S2a, .bool b3] w fun e w' => e = .returned (.bool true) ∧ Below w.heap.size w w' := by
  have HWS0a := Lib.hid (hwS0a)
  have HWS1a := Lib.hid (hwS1a)
  have HWS2a := Lib.hid (hwS2a)
  clear hwS0a hwS1a hwS2a
  go_enter Try.func5, Try.ntmps5
  go_wp2_with fail
  have GE := Lib.hid (gb_refl w none)
  have RZ0 := Lib.hid (Chg.refl 0 0 w)
  obtain ⟨R, hR⟩ : ∃ R, hopG S0a S1a S2a b3 = R := ⟨_, rfl⟩
  have hrl : R.length ≤ 11 := by rw [← hR]; exact hopG_len _ _ _ _
  have HSP := Lib.hid (fun (w : World) => show Calls Try.prog 15 #[.int .i64 S0a, .int .i64 S1a, .int .i64 S2a, .bool b3] w (NewHp R w) from hR ▸ specRingHops S0a S1a S2a b3 w)
  have HIM := Lib.hid (fun (w : World) => show Calls Try.prog 12 #[.int .i64 S0a, .int .i64 S1a, .int .i64 S2a, .bool b3] w (NewHp R w) from hR ▸ implRingHops S0a S1a S2a b3 w)
  clear hR
  have BE := Lib.hid (gb_below_none GE.out (Nat.le_refl _))
  go_wp2_with fail
  refine (HSP.out _).mono ?_
  rintro e w1 ⟨pw, rfl, ow, bw⟩
  obtain ⟨Arw, crw, rfl, _⟩ := own_form ow
  have R1 : Hid (Chg 0 0 w w1) := Lib.hid ((RZ0.out).bl bw)
  have Q1 := Lib.hid (chg_gb 0 0 (gb_of_below bw none))
  have F1 := Lib.hid (fix_row ow)
  have HLw := Lib.hid (F1.out.here.lt)
  clear bw ow
  have FW := Lib.hid (F1.out)
  have HE0 := Lib.hid (FW.out.1)
  have HS0 := Lib.hid ((R1.out).size)
  go_wp2_with fail
  refine (HIM.out _).mono ?_
  rintro e w2 ⟨pg, rfl, og, bg⟩
  obtain ⟨Arg, crg, rfl, _⟩ := own_form og
  have R2 : Hid (Chg 0 0 w w2) := Lib.hid ((R1.out).bl bg)
  have Q2 := Lib.hid (chg_gb 0 0 (gb_of_below bg none))
  have F2 := Lib.hid (fix_row og)
  have HLg := Lib.hid (F2.out.here.lt)
  clear bg og
  replace FW := Lib.hid (FW.out.nx Q2.out)
  have FG := Lib.hid (F2.out)
  obtain ⟨Bg, Eg, Bv, Ev, fg, hg, fw, hn⟩ : ∃ Bg Eg Bv Ev : Nat, Fix Bg Eg (fun w => w.ownsRow Bg 31 2 (.slice Arg R.length crg) R.length (depV R)) w2 ∧ (∀ k, Value.ownBlock (.slice Arg R.length crg) = some k → Bg ≤ k ∧ k < Eg) ∧ Fix Bv Ev (fun w => w.ownsRow Bv 31 2 (.slice Arw R.length crw) R.length (depV R)) w2 ∧ w.heap.size ≤ Bg ∧ Bg ≤ Eg ∧ Ev ≤ Bg := ⟨_, _, _, _, FG.out, HLg.out, FW.out, (by have hsQ2 := Q2.out.size; have h0 := HS0.out; have h1 := HE0.out; (try simp only [alloc_size] at *); omega)⟩
  have Zfg := Lib.hid (fg)
  have Zhg := Lib.hid (hg)
  have Zfw := Lib.hid (fw)
  have Zhn := Lib.hid (hn)
  clear fg hg fw hn
  have RS := Lib.hid (R2.out)
  have T0 := Lib.hid (Chg.refl 0 0 w2)
  go_wp2_with fail
  refine (lawsEqOwnHp _ _ _ _ R _ Zfg.out.here Zfw.out.here (by omega)).mono ?_
  rintro e w3 ⟨rfl, hg⟩
  have T3 := Lib.hid (T0.out.gb hg)
  clear hg
  go_wp2_with fail
  refine (lawsMarkHp _ _ R.length 1 R _ (Zfg.out.nx T3.out).here (by omega)).mono ?_
  rintro e w4 ⟨rfl, omg, ggmg⟩
  have MG := Lib.hid (((chg_none_to T3.out : Chg Bg Eg w2 w3)).row ggmg (fun j hj => by have hx := Zhg.out j hj; have hn := Zhn.out; omega))
  obtain ⟨km, hkm⟩ : ∃ k : Nat, 1 + R.length * 2 = k := ⟨_, rfl⟩
  rw [hkm]
  have hkb : km ≤ 100000000 := by omega
  have HKM := Lib.hid (hkm)
  have hkn : ¬ (km : Int) < 0 := by omega
  have FM := Lib.hid (fix_row omg)
  clear omg ggmg hkm
  have BEm := Lib.hid ((BE.out.trans (RS.out.below (.inr (Nat.le_refl _)) BE.out.size)).trans (MG.out.below (.inl (by have hb := GE.out.size; have hn := Zhn.out; omega)) (by have hb := BE.out.size; have hc := RS.out.size; omega)))
  have FWm := Lib.hid (Zfw.out.chg MG.out (by have hn := Zhn.out; omega))
  have U0 := Lib.hid (Chg.refl 0 0 w4)
  go_wp2_with fail
  refine (lawsHeldOwnHp _ _ R.length 1 _ (FM.out.nx (U0.out)).here (by omega)).mono ?_
  rintro e w5 ⟨rfl, hg⟩
  rw [HKM.out]
  have U5 := Lib.hid ((U0.out).gb hg)
  clear hg
  go_wp2_with fail
  refine (HIM.out _).mono ?_
  rintro e w6 ⟨ph, rfl, oh, bh⟩
  obtain ⟨Arh, crh, rfl, _⟩ := own_form oh
  have R6 : Hid (Chg 0 0 w4 w6) := Lib.hid ((U5.out).bl bh)
  have Q6 := Lib.hid (chg_gb 0 0 (gb_of_below bh none))
  have F6 := Lib.hid (fix_row oh)
  have HLh := Lib.hid (F6.out.here.lt)
  clear bh oh
  go_wp2_with fail
  refine (lawsEqOwnHp _ _ _ _ R _ F6.out.here (FWm.out.nx (R6.out)).here (by omega)).mono ?_
  rintro e w7 ⟨rfl, hg⟩
  have U7 := Lib.hid ((R6.out).gb hg)
  clear hg
  go_wp2_with fail
  refine (lawsHeldOwnHp _ _ R.length 1 _ (FM.out.nx (U7.out)).here (by omega)).mono ?_
  rintro e w8 ⟨rfl, hg⟩
  rw [HKM.out]
  have U8 := Lib.hid ((U7.out).gb hg)
  clear hg
  go_wp2_with fail
  go_ret
  exact ⟨rfl, BEm.out.trans ((U8.out).below (.inr (Nat.le_refl _)) BEm.out.size)⟩
end Go.Proofs.Ytnielgpcfgfioaa
