/- What is proved here: the exact law on FlitsOf answers true, for every argument; only new blocks are written. -/
import Derived.Test.YtcjidpegmlbenaaChgW
import Derived.Test.YtcjidpegmlbenaaToGrid
import Derived.Test.YtcjidpegmlbenaaPktE
import Derived.Test.YtcjidpegmlbenaaFltH
import Derived.Test.YtcjidpegmlbenaaPkS
import Derived.Test.YtcjidpegmlbenaaPkI
import Derived.Deep.Cut
namespace Go.Proofs.Ytcjidpegmlbenaa
open Go.ChangeShapes Go.WideShapes Go.ChangeAt Go.RowKit
set_option linter.unusedVariables false
set_option maxRecDepth 20000

set_option maxHeartbeats 6400000 in
theorem walk_FnExactFlitsOf (S0a : Int) (S0b : Int) (P1 : Pkt) (w : World) (hwS0a : (Lit.int .i64 S0a).wf = true) (hwS0b : (Lit.int .i64 S0b).wf = true) (hwP1 : wfP P1) :
    Calls Try.prog 5 #[.agg #[.int .i64 S0a, .int .i64 S0b], .agg #[.int .i64 P1.id, .int .i64 P1.fr, .int .i64 P1.to, .int .i64 P1.cl, .int .i64 P1.ln]] w fun e w' => e = .returned (.bool true) ∧ Below w.heap.size w w' := by
  have HWS0a := Lib.hid (hwS0a)
  have HWS0b := Lib.hid (hwS0b)
  have HWP1 := Lib.hid (hwP1)
  clear hwS0a hwS0b hwP1
  go_enter Try.func5, Try.ntmps5
  go_wp2_with fail
  have ke0 := (Blk.new w 40 #[.int .i64 S0a, .int .i64 S0b]).alloc (.cells #[.int .i64 P1.id, .int .i64 P1.fr, .int .i64 P1.to, .int .i64 P1.cl, .int .i64 P1.ln] 41)
  have ke1 := Blk.new (w.alloc (.cells #[.int .i64 S0a, .int .i64 S0b] 40)) 41 #[.int .i64 P1.id, .int .i64 P1.fr, .int .i64 P1.to, .int .i64 P1.cl, .int .i64 P1.ln]
  have ge := gb_alloc (gb_alloc (gb_refl w none) (.cells #[.int .i64 S0a, .int .i64 S0b] 40)) (.cells #[.int .i64 P1.id, .int .i64 P1.fr, .int .i64 P1.to, .int .i64 P1.cl, .int .i64 P1.ln] 41)
  simp only [alloc_size] at ke1
  generalize ((w.alloc (.cells #[.int .i64 S0a, .int .i64 S0b] 40)).alloc (.cells #[.int .i64 P1.id, .int .i64 P1.fr, .int .i64 P1.to, .int .i64 P1.cl, .int .i64 P1.ln] 41)) = we at *
  have KE0 : Hid (Blk we (w.heap.size) 40 #[.int .i64 S0a, .int .i64 S0b]) := Lib.hid (ke0)
  have KE1 : Hid (Blk we (w.heap.size + 1) 41 #[.int .i64 P1.id, .int .i64 P1.fr, .int .i64 P1.to, .int .i64 P1.cl, .int .i64 P1.ln]) := Lib.hid (ke1)
  have GE := Lib.hid (ge)
  have RZ0 := Lib.hid (Chg.refl 0 0 we)
  clear ge ke0 ke1
  obtain ⟨R, hR⟩ : ∃ R, flitsG S0a S0b P1 = R := ⟨_, rfl⟩
  have hrl : R.length ≤ 5 := by rw [← hR]; exact flitsG_len _ _ _
  have HSP := Lib.hid (fun (w : World) => show Calls Try.prog 20 #[.agg #[.int .i64 S0a, .int .i64 S0b], .agg #[.int .i64 P1.id, .int .i64 P1.fr, .int .i64 P1.to, .int .i64 P1.cl, .int .i64 P1.ln]] w (NewF R w) from hR ▸ specFlitsOf S0a S0b P1 w)
  have HIM := Lib.hid (fun (w : World) => show Calls Try.prog 11 #[.agg #[.int .i64 S0a, .int .i64 S0b], .agg #[.int .i64 P1.id, .int .i64 P1.fr, .int .i64 P1.to, .int .i64 P1.cl, .int .i64 P1.ln]] w (NewF R w) from hR ▸ implFlitsOf S0a S0b P1 w)
  clear hR
  have BE := Lib.hid (gb_below_none GE.out (Nat.le_refl _))
  have KPw := Lib.hid (fun (w' : World) (hq : Chg 0 0 we w') => (show w'.cell? ⟨w.heap.size, 0, none⟩ = some (.int .i64 S0a) ∧ w'.cell? ⟨w.heap.size, 1, none⟩ = some (.int .i64 S0b) ∧ w'.cell? ⟨w.heap.size + 1, 0, none⟩ = some (.int .i64 P1.id) ∧ w'.cell? ⟨w.heap.size + 1, 1, none⟩ = some (.int .i64 P1.fr) ∧ w'.cell? ⟨w.heap.size + 1, 2, none⟩ = some (.int .i64 P1.to) ∧ w'.cell? ⟨w.heap.size + 1, 3, none⟩ = some (.int .i64 P1.cl) ∧ w'.cell? ⟨w.heap.size + 1, 4, none⟩ = some (.int .i64 P1.ln) from ⟨(KE0.out.nx hq).cell 0, (KE0.out.nx hq).cell 1, (KE1.out.nx hq).cell 0, (KE1.out.nx hq).cell 1, (KE1.out.nx hq).cell 2, (KE1.out.nx hq).cell 3, (KE1.out.nx hq).cell 4⟩))
  go_region_held3 (fun w' => w'.cell? ⟨w.heap.size, 0, none⟩ = some (.int .i64 S0a) ∧ w'.cell? ⟨w.heap.size, 1, none⟩ = some (.int .i64 S0b) ∧ w'.cell? ⟨w.heap.size + 1, 0, none⟩ = some (.int .i64 P1.id) ∧ w'.cell? ⟨w.heap.size + 1, 1, none⟩ = some (.int .i64 P1.fr) ∧ w'.cell? ⟨w.heap.size + 1, 2, none⟩ = some (.int .i64 P1.to) ∧ w'.cell? ⟨w.heap.size + 1, 3, none⟩ = some (.int .i64 P1.cl) ∧ w'.cell? ⟨w.heap.size + 1, 4, none⟩ = some (.int .i64 P1.ln))
    (first | with_reducible exact KPw.out _ (RZ0.out) | with_reducible exact KPw.out _ (RZ0.out.dr) | with_reducible exact KPw.out _ (R1.out) | with_reducible exact KPw.out _ (R2.out) | with_reducible exact KPw.out _ (R3.out) | fail)
    (first
      | (go_at_call 18; (with_reducible refine (lawsToGrid _ _ _ ).mono ?_); rintro e w1 ⟨rfl, bw0⟩; have R1 : Hid (Chg 0 0 we w1) := Lib.hid ((RZ0.out.dr).gb bw0); have Q1 := Lib.hid (chg_gb 0 0 bw0); clear bw0)
      | (go_at_call 19; (with_reducible refine (lawsToPacket P1 _ ).mono ?_); rintro e w2 ⟨rfl, bw1⟩; have R2 : Hid (Chg 0 0 we w2) := Lib.hid ((R1.out).gb bw1); have Q2 := Lib.hid (chg_gb 0 0 bw1); clear bw1)
      | (go_at_call 20; (with_reducible refine (HSP.out _).mono ?_); rintro e w3 ⟨pw, rfl, ow, bw⟩; obtain ⟨Arw, crw, rfl, _⟩ := own_form ow; have R3 : Hid (Chg 0 0 we w3) := Lib.hid ((R2.out).bl bw); have Q3 := Lib.hid (chg_gb 0 0 (gb_of_below bw none)); have F3 := Lib.hid (fix_row ow); have HLw := Lib.hid (F3.out.here.lt); clear bw ow)
      | fail)
  all_goals
    have FW := Lib.hid (F3.out)
    have HE0 := Lib.hid (FW.out.1)
    have HS0 := Lib.hid ((R3.out).size)
    have KE0v := Lib.hid (KE0.out.nx (R3.out))
    have KE1v := Lib.hid (KE1.out.nx (R3.out))
    have BEv := Lib.hid (BE.out.trans ((R3.out).below (.inr (Nat.le_refl _)) BE.out.size))
    have Rv := Lib.hid (Chg.refl 0 0 w3)
    go_wp2_with fail
    have KPg := Lib.hid (fun (w' : World) (hq : Chg 0 0 w3 w') => (show w'.cell? ⟨w.heap.size, 0, none⟩ = some (.int .i64 S0a) ∧ w'.cell? ⟨w.heap.size, 1, none⟩ = some (.int .i64 S0b) ∧ w'.cell? ⟨w.heap.size + 1, 0, none⟩ = some (.int .i64 P1.id) ∧ w'.cell? ⟨w.heap.size + 1, 1, none⟩ = some (.int .i64 P1.fr) ∧ w'.cell? ⟨w.heap.size + 1, 2, none⟩ = some (.int .i64 P1.to) ∧ w'.cell? ⟨w.heap.size + 1, 3, none⟩ = some (.int .i64 P1.cl) ∧ w'.cell? ⟨w.heap.size + 1, 4, none⟩ = some (.int .i64 P1.ln) from ⟨(KE0v.out.nx hq).cell 0, (KE0v.out.nx hq).cell 1, (KE1v.out.nx hq).cell 0, (KE1v.out.nx hq).cell 1, (KE1v.out.nx hq).cell 2, (KE1v.out.nx hq).cell 3, (KE1v.out.nx hq).cell 4⟩))
    go_region_held3 (fun w' => w'.cell? ⟨w.heap.size, 0, none⟩ = some (.int .i64 S0a) ∧ w'.cell? ⟨w.heap.size, 1, none⟩ = some (.int .i64 S0b) ∧ w'.cell? ⟨w.heap.size + 1, 0, none⟩ = some (.int .i64 P1.id) ∧ w'.cell? ⟨w.heap.size + 1, 1, none⟩ = some (.int .i64 P1.fr) ∧ w'.cell? ⟨w.heap.size + 1, 2, none⟩ = some (.int .i64 P1.to) ∧ w'.cell? ⟨w.heap.size + 1, 3, none⟩ = some (.int .i64 P1.cl) ∧ w'.cell? ⟨w.heap.size + 1, 4, none⟩ = some (.int .i64 P1.ln))
      (first | with_reducible exact KPg.out _ (Rv.out) | with_reducible exact KPg.out _ (Rv.out.dr) | with_reducible exact KPg.out _ (R4.out) | with_reducible exact KPg.out _ (R5.out) | with_reducible exact KPg.out _ (R6.out) | fail)
      (first
        | (go_at_call 18; (with_reducible refine (lawsToGrid _ _ _ ).mono ?_); rintro e w4 ⟨rfl, bg0⟩; have R4 : Hid (Chg 0 0 w3 w4) := Lib.hid ((Rv.out.dr).gb bg0); have Q4 := Lib.hid (chg_gb 0 0 bg0); clear bg0)
        | (go_at_call 19; (with_reducible refine (lawsToPacket P1 _ ).mono ?_); rintro e w5 ⟨rfl, bg1⟩; have R5 : Hid (Chg 0 0 w3 w5) := Lib.hid ((R4.out).gb bg1); have Q5 := Lib.hid (chg_gb 0 0 bg1); clear bg1)
        | (go_at_call 11; (with_reducible refine (HIM.out _).mono ?_); rintro e w6 ⟨pg, rfl, og, bg⟩; obtain ⟨Arg, crg, rfl, _⟩ := own_form og; have R6 : Hid (Chg 0 0 w3 w6) := Lib.hid ((R5.out).bl bg); have Q6 := Lib.hid (chg_gb 0 0 (gb_of_below bg none)); have F6 := Lib.hid (fix_row og); have HLg := Lib.hid (F6.out.here.lt); clear bg og)
        | fail)
    all_goals
      replace FW := Lib.hid (FW.out.nx (R6.out))
      have FG := Lib.hid (F6.out)
      obtain ⟨Bg, Eg, Bv, Ev, fg, hg, fw, hn⟩ : ∃ Bg Eg Bv Ev : Nat, Fix Bg Eg (fun w => w.ownsRow Bg 39 5 (.slice Arg R.length crg) R.length (recV fltC R)) w6 ∧ (∀ k, Value.ownBlock (.slice Arg R.length crg) = some k → Bg ≤ k ∧ k < Eg) ∧ Fix Bv Ev (fun w => w.ownsRow Bv 39 5 (.slice Arw R.length crw) R.length (recV fltC R)) w6 ∧ we.heap.size ≤ Bg ∧ Bg ≤ Eg ∧ Ev ≤ Bg := ⟨_, _, _, _, FG.out, HLg.out, FW.out, (by have hsR5 := R5.out.size; have hsQ6 := Q6.out.size; have h0 := HS0.out; have h1 := HE0.out; (try simp only [alloc_size] at *); omega)⟩
      have Zfg := Lib.hid (fg)
      have Zhg := Lib.hid (hg)
      have Zfw := Lib.hid (fw)
      have Zhn := Lib.hid (hn)
      clear fg hg fw hn
      have RS := Lib.hid (R6.out)
      have T0 := Lib.hid (Chg.refl 0 0 w6)
      go_wp2_with fail
      refine (lawsEqOwnF _ _ _ _ R _ Zfg.out.here Zfw.out.here (by omega)).mono ?_
      rintro e w7 ⟨rfl, hg⟩
      have T7 := Lib.hid (T0.out.gb hg)
      clear hg
      go_wp2_with fail
      refine (lawsMarkF _ _ R.length 1 R _ (Zfg.out.nx T7.out).here (by omega)).mono ?_
      rintro e w8 ⟨rfl, omg, ggmg⟩
      have MG := Lib.hid (((chg_none_to T7.out : Chg Bg Eg w6 w7)).row ggmg (fun j hj => by have hx := Zhg.out j hj; have hn := Zhn.out; omega))
      obtain ⟨km, hkm⟩ : ∃ k : Nat, 1 + R.length * 5 = k := ⟨_, rfl⟩
      rw [hkm]
      have hkb : km ≤ 100000000 := by omega
      have HKM := Lib.hid (hkm)
      have hkn : ¬ (km : Int) < 0 := by omega
      have FM := Lib.hid (fix_row omg)
      clear omg ggmg hkm
      have KE0m := Lib.hid ((KE0v.out.nx RS.out).chg MG.out (by have hb := KE0.out.lt; have hn := Zhn.out; omega))
      have KE1m := Lib.hid ((KE1v.out.nx RS.out).chg MG.out (by have hb := KE1.out.lt; have hn := Zhn.out; omega))
      have BEm := Lib.hid ((BEv.out.trans (RS.out.below (.inr (Nat.le_refl _)) BEv.out.size)).trans (MG.out.below (.inl (by have hb := GE.out.size; have hn := Zhn.out; omega)) (by have hb := BEv.out.size; have hc := RS.out.size; omega)))
      have FWm := Lib.hid (Zfw.out.chg MG.out (by have hn := Zhn.out; omega))
      have U0 := Lib.hid (Chg.refl 0 0 w8)
      go_wp2_with fail
      refine (lawsHeldOwnF _ _ R.length 1 _ (FM.out.nx (U0.out)).here (by omega)).mono ?_
      rintro e w9 ⟨rfl, hg⟩
      rw [HKM.out]
      have U9 := Lib.hid ((U0.out).gb hg)
      clear hg
      go_wp2_with fail
      have KPh := Lib.hid (fun (w' : World) (hq : Chg 0 0 w8 w') => (show w'.cell? ⟨w.heap.size, 0, none⟩ = some (.int .i64 S0a) ∧ w'.cell? ⟨w.heap.size, 1, none⟩ = some (.int .i64 S0b) ∧ w'.cell? ⟨w.heap.size + 1, 0, none⟩ = some (.int .i64 P1.id) ∧ w'.cell? ⟨w.heap.size + 1, 1, none⟩ = some (.int .i64 P1.fr) ∧ w'.cell? ⟨w.heap.size + 1, 2, none⟩ = some (.int .i64 P1.to) ∧ w'.cell? ⟨w.heap.size + 1, 3, none⟩ = some (.int .i64 P1.cl) ∧ w'.cell? ⟨w.heap.size + 1, 4, none⟩ = some (.int .i64 P1.ln) from ⟨(KE0m.out.nx hq).cell 0, (KE0m.out.nx hq).cell 1, (KE1m.out.nx hq).cell 0, (KE1m.out.nx hq).cell 1, (KE1m.out.nx hq).cell 2, (KE1m.out.nx hq).cell 3, (KE1m.out.nx hq).cell 4⟩))
      go_region_held3 (fun w' => w'.cell? ⟨w.heap.size, 0, none⟩ = some (.int .i64 S0a) ∧ w'.cell? ⟨w.heap.size, 1, none⟩ = some (.int .i64 S0b) ∧ w'.cell? ⟨w.heap.size + 1, 0, none⟩ = some (.int .i64 P1.id) ∧ w'.cell? ⟨w.heap.size + 1, 1, none⟩ = some (.int .i64 P1.fr) ∧ w'.cell? ⟨w.heap.size + 1, 2, none⟩ = some (.int .i64 P1.to) ∧ w'.cell? ⟨w.heap.size + 1, 3, none⟩ = some (.int .i64 P1.cl) ∧ w'.cell? ⟨w.heap.size + 1, 4, none⟩ = some (.int .i64 P1.ln))
        (first | with_reducible exact KPh.out _ (U9.out) | with_reducible exact KPh.out _ (U9.out.dr) | with_reducible exact KPh.out _ (R10.out) | with_reducible exact KPh.out _ (R11.out) | with_reducible exact KPh.out _ (R12.out) | fail)
        (first
          | (go_at_call 18; (with_reducible refine (lawsToGrid _ _ _ ).mono ?_); rintro e w10 ⟨rfl, bh0⟩; have R10 : Hid (Chg 0 0 w8 w10) := Lib.hid ((U9.out.dr).gb bh0); have Q10 := Lib.hid (chg_gb 0 0 bh0); clear bh0)
          | (go_at_call 19; (with_reducible refine (lawsToPacket P1 _ ).mono ?_); rintro e w11 ⟨rfl, bh1⟩; have R11 : Hid (Chg 0 0 w8 w11) := Lib.hid ((R10.out).gb bh1); have Q11 := Lib.hid (chg_gb 0 0 bh1); clear bh1)
          | (go_at_call 11; (with_reducible refine (HIM.out _).mono ?_); rintro e w12 ⟨ph, rfl, oh, bh⟩; obtain ⟨Arh, crh, rfl, _⟩ := own_form oh; have R12 : Hid (Chg 0 0 w8 w12) := Lib.hid ((R11.out).bl bh); have Q12 := Lib.hid (chg_gb 0 0 (gb_of_below bh none)); have F12 := Lib.hid (fix_row oh); have HLh := Lib.hid (F12.out.here.lt); clear bh oh)
          | fail)
      all_goals
        go_wp2_with fail
        refine (lawsEqOwnF _ _ _ _ R _ F12.out.here (FWm.out.nx (R12.out)).here (by omega)).mono ?_
        rintro e w13 ⟨rfl, hg⟩
        have U13 := Lib.hid ((R12.out).gb hg)
        clear hg
        go_wp2_with fail
        refine (lawsHeldOwnF _ _ R.length 1 _ (FM.out.nx (U13.out)).here (by omega)).mono ?_
        rintro e w14 ⟨rfl, hg⟩
        rw [HKM.out]
        have U14 := Lib.hid ((U13.out).gb hg)
        clear hg
        go_wp2_with fail
        go_ret
        exact ⟨rfl, BEm.out.trans ((U14.out).below (.inr (Nat.le_refl _)) BEm.out.size)⟩
end Go.Proofs.Ytcjidpegmlbenaa
