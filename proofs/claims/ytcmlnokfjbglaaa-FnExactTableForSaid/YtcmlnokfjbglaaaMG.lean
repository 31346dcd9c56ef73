/- What is proved here: the exact law on SplitClasses answers true, for every argument; only new blocks are written; a drawn grid is valid; only new blocks are written; the law on split classes answers true, for every draw; only new blocks are written. -/
import Derived.Test.YtcmlnokfjbglaaaMF
import Derived.Deep.Cut
section
namespace Go.Proofs.Ytcmlnokfjbglaaa
open Go.ChangeShapes Go.WideShapes Go.ChangeAt Go.RowKit
set_option linter.unusedVariables false
set_option maxRecDepth 20000

set_option maxHeartbeats 6400000 in
theorem walk_FnExactSplitClasses (S0a : Int) (S0b : Int) (w : World) (hwS0a : (Lit.int .i64 S0a).wf = true) (hwS0b : (Lit.int .i64 S0b).wf = true) :
    Calls Try.prog 10 #[.agg #[.int .i64 S0a, .int .i64 S0b]] w fun e w' => e = .returned (.bool true) ∧ Below w.heap.size w w' := by
  have HWS0a := Lib.hid (hwS0a)
  have HWS0b := Lib.hid (hwS0b)
  clear hwS0a hwS0b
  go_enter Try.func10, Try.ntmps10
  go_wp2_with fail
  have ke0 := Blk.new w 56 #[.int .i64 S0a, .int .i64 S0b]
  have ge := gb_alloc (gb_refl w none) (.cells #[.int .i64 S0a, .int .i64 S0b] 56)
  generalize (w.alloc (.cells #[.int .i64 S0a, .int .i64 S0b] 56)) = we at *
  have KE0 : Hid (Blk we (w.heap.size) 56 #[.int .i64 S0a, .int .i64 S0b]) := Lib.hid (ke0)
  have GE := Lib.hid (ge)
  have RZ0 := Lib.hid (Chg.refl 0 0 we)
  clear ge ke0
  obtain ⟨R, hR⟩ : ∃ R, stdRes S0a S0b 1 = R := ⟨_, rfl⟩
  obtain ⟨C, hC⟩ : ∃ C, stdRes S0a S0b 2 = C := ⟨_, rfl⟩
  obtain ⟨bb, hbb⟩ : ∃ b, okG S0a S0b = b := ⟨_, rfl⟩
  have hrl : R.length ≤ 256 := by rw [← hR]; exact stdRes_length _ _ _
  have hcl : C.length ≤ 256 := by rw [← hC]; exact stdRes_length _ _ _
  have HSP := Lib.hid (fun (w : World) => show Calls Try.prog 48 #[.agg #[.int .i64 S0a, .int .i64 S0b]] w (RetCls R C bb w) from hR ▸ hC ▸ hbb ▸ specSplit S0a S0b w)
  have HIM := Lib.hid (fun (w : World) => show Calls Try.prog 19 #[.agg #[.int .i64 S0a, .int .i64 S0b]] w (RetCls R C bb w) from hR ▸ hC ▸ hbb ▸ implSplit S0a S0b w)
  clear hR hC hbb
  have BE := Lib.hid (gb_below_none GE.out (Nat.le_refl _))
  have a0_0 : we.cell? ⟨w.heap.size, 0, none⟩ = some (.int .i64 S0a) := (KE0.out.nx (RZ0.out)).cell 0
  have a0_1 : we.cell? ⟨w.heap.size, 1, none⟩ = some (.int .i64 S0b) := (KE0.out.nx (RZ0.out)).cell 1
  go_wp2_with fail
  refine (lawsToGrid _ _ _ ).mono ?_
  rintro e w1 ⟨rfl, bw0⟩
  have R1 : Hid (Chg 0 0 we w1) := Lib.hid ((RZ0.out).gb bw0)
  have Q1 := Lib.hid (chg_gb 0 0 bw0)
  clear bw0 a0_0 a0_1
  go_wp2_with fail
  refine (HSP.out _).mono ?_
  rintro e w2 ⟨pw, qw, rfl, ow, bw⟩
  obtain ⟨Arw, crw, rfl, _⟩ := own_form ow.r
  obtain ⟨Acw, ccw, rfl, _⟩ := own_form ow.c
  have R2 : Hid (Chg 0 0 we w2) := Lib.hid ((R1.out).bl bw)
  have Q2 := Lib.hid (chg_gb 0 0 (gb_of_below bw none))
  have F2 := Lib.hid (fix_vrow ow)
  have HLw := Lib.hid (F2.out.here.lt)
  clear bw ow
  have KCw := Lib.hid (Blk.new w2 43 #[.slice Arw R.length crw, .slice Acw C.length ccw])
  have FCw := Lib.hid (F2.out.al (.cells #[.slice Arw R.length crw, .slice Acw C.length ccw] 43))
  have RCw := Lib.hid (R2.out.al (.cells #[.slice Arw R.length crw, .slice Acw C.length ccw] 43))
  have FW := Lib.hid (FCw.out)
  have KW := Lib.hid (KCw.out)
  have HE0 := Lib.hid (FW.out.1)
  have HW0 := Lib.hid (KW.out.lt)
  have HS0 := Lib.hid ((RCw.out).size)
  have a0_0 : (w2.alloc (.cells #[.slice Arw R.length crw, .slice Acw C.length ccw] 43)).cell? ⟨w.heap.size, 0, none⟩ = some (.int .i64 S0a) := (KE0.out.nx (RCw.out)).cell 0
  have a0_1 : (w2.alloc (.cells #[.slice Arw R.length crw, .slice Acw C.length ccw] 43)).cell? ⟨w.heap.size, 1, none⟩ = some (.int .i64 S0b) := (KE0.out.nx (RCw.out)).cell 1
  go_wp2_with fail
  refine (lawsToGrid _ _ _ ).mono ?_
  rintro e w3 ⟨rfl, bg0⟩
  have R3 : Hid (Chg 0 0 we w3) := Lib.hid ((RCw.out).gb bg0)
  have Q3 := Lib.hid (chg_gb 0 0 bg0)
  clear bg0 a0_0 a0_1
  go_wp2_with fail
  refine (HIM.out _).mono ?_
  rintro e w4 ⟨pg, qg, rfl, og, bg⟩
  obtain ⟨Arg, crg, rfl, _⟩ := own_form og.r
  obtain ⟨Acg, ccg, rfl, _⟩ := own_form og.c
  have R4 : Hid (Chg 0 0 we w4) := Lib.hid ((R3.out).bl bg)
  have Q4 := Lib.hid (chg_gb 0 0 (gb_of_below bg none))
  have F4 := Lib.hid (fix_vrow og)
  have HLg := Lib.hid (F4.out.here.lt)
  clear bg og
  have KCg := Lib.hid (Blk.new w4 43 #[.slice Arg R.length crg, .slice Acg C.length ccg])
  have FCg := Lib.hid (F4.out.al (.cells #[.slice Arg R.length crg, .slice Acg C.length ccg] 43))
  have RCg := Lib.hid (R4.out.al (.cells #[.slice Arg R.length crg, .slice Acg C.length ccg] 43))
  replace FW := Lib.hid (FW.out.nx Q3.out)
  replace KW := Lib.hid (KW.out.nx Q3.out)
  replace FW := Lib.hid ((FW.out.nx Q4.out).al (.cells #[.slice Arg R.length crg, .slice Acg C.length ccg] 43))
  replace KW := Lib.hid ((KW.out.nx Q4.out).alloc (.cells #[.slice Arg R.length crg, .slice Acg C.length ccg] 43))
  have FG := Lib.hid (FCg.out)
  have KG := Lib.hid (KCg.out)
  obtain ⟨Bg, Eg, Bv, Ev, bg, bv, ebg, ebv, fg, hg, fw, kg, kw, hn⟩ : ∃ Bg Eg Bv Ev bg bv : Nat, w4.heap.size = bg ∧ w2.heap.size = bv ∧ Fix Bg Eg (fun w => VRow w Bg (.slice Arg R.length crg) (.slice Acg C.length ccg) R.length C.length R C) (w4.alloc (.cells #[.slice Arg R.length crg, .slice Acg C.length ccg] 43)) ∧ (∀ k, (Value.ownBlock (.slice Arg R.length crg) = some k ∨ Value.ownBlock (.slice Acg C.length ccg) = some k) → Bg ≤ k ∧ k < Eg) ∧ Fix Bv Ev (fun w => VRow w Bv (.slice Arw R.length crw) (.slice Acw C.length ccw) R.length C.length R C) (w4.alloc (.cells #[.slice Arg R.length crg, .slice Acg C.length ccg] 43)) ∧ Blk (w4.alloc (.cells #[.slice Arg R.length crg, .slice Acg C.length ccg] 43)) bg 43 #[.slice Arg R.length crg, .slice Acg C.length ccg] ∧ Blk (w4.alloc (.cells #[.slice Arg R.length crg, .slice Acg C.length ccg] 43)) bv 43 #[.slice Arw R.length crw, .slice Acw C.length ccw] ∧ we.heap.size ≤ Bg ∧ Bg ≤ Eg ∧ Ev ≤ Bg ∧ bv < Bg ∧ Eg ≤ bg := ⟨_, _, _, _, _, _, rfl, rfl, FG.out, HLg.out, FW.out, KG.out, KW.out, (by have hsQ3 := Q3.out.size; have hsQ4 := Q4.out.size; have h0 := HS0.out; have h1 := HE0.out; have h2 := HW0.out; (try simp only [alloc_size] at *); omega)⟩
  (try simp only)
  (try simp only [ebv])
  have Zfg := Lib.hid (fg)
  have Zhg := Lib.hid (hg)
  have Zfw := Lib.hid (fw)
  have Zkg := Lib.hid (kg)
  have Zkw := Lib.hid (kw)
  have Zhn := Lib.hid (hn)
  clear fg hg fw kg kw hn
  have RS := Lib.hid (RCg.out)
  have T0 := Lib.hid (Chg.refl 0 0 (w4.alloc (.cells #[.slice Arg R.length crg, .slice Acg C.length ccg] 43)))
  have rg_0 : (w4.alloc (.cells #[.slice Arg R.length crg, .slice Acg C.length ccg] 43)).cell? ⟨bg, 0, none⟩ = some (.slice Arg R.length crg) := (Zkg.out.nx (T0.out)).cell 0
  have rg_1 : (w4.alloc (.cells #[.slice Arg R.length crg, .slice Acg C.length ccg] 43)).cell? ⟨bg, 1, none⟩ = some (.slice Acg C.length ccg) := (Zkg.out.nx (T0.out)).cell 1
  have rw_0 : (w4.alloc (.cells #[.slice Arg R.length crg, .slice Acg C.length ccg] 43)).cell? ⟨bv, 0, none⟩ = some (.slice Arw R.length crw) := (Zkw.out.nx (T0.out)).cell 0
  have rw_1 : (w4.alloc (.cells #[.slice Arg R.length crg, .slice Acg C.length ccg] 43)).cell? ⟨bv, 1, none⟩ = some (.slice Acw C.length ccw) := (Zkw.out.nx (T0.out)).cell 1
  go_wp2_with fail
  refine (lawsEqClasses _ _ _ _ _ _ R C _ Zfg.out.here Zfw.out.here (by omega) (by omega)).mono ?_
  rintro e w5 ⟨rfl, hg⟩
  have T5 := Lib.hid (T0.out.gb hg)
  clear hg rg_0 rg_1 rw_0 rw_1
  have r_0 : w5.cell? ⟨bg, 0, none⟩ = some (.slice Arg R.length crg) := (Zkg.out.nx T5.out).cell 0
  have r_1 : w5.cell? ⟨bg, 1, none⟩ = some (.slice Acg C.length ccg) := (Zkg.out.nx T5.out).cell 1
  go_wp2_with fail
  refine (lawsMarkClasses _ _ _ R.length C.length 1 R C _ (Zfg.out.nx T5.out).here (by omega)).mono ?_
  rintro e w6 ⟨rfl, omg, wmmg, ommg, ggmg, ghmg⟩
  have MG := Lib.hid ((((chg_none_to T5.out : Chg Bg Eg (w4.alloc (.cells #[.slice Arg R.length crg, .slice Acg C.length ccg] 43)) w5)).row ggmg (fun j hj => by have hx := Zhg.out j (.inl hj); have hn := Zhn.out; omega)).row ghmg (fun j hj => by have hx := Zhg.out j (.inr hj); have hn := Zhn.out; omega))
  obtain ⟨km, hkm⟩ : ∃ k : Nat, 1 + R.length + C.length = k := ⟨_, rfl⟩
  rw [hkm]
  have hkb : km ≤ 100000000 := by omega
  have HKM := Lib.hid (hkm)
  have hkn : ¬ (km : Int) < 0 := by omega
  have FM := Lib.hid (fix_vrow omg)
  clear omg ggmg ghmg hkm ommg r_0 r_1
  have KE0m := Lib.hid ((KE0.out.nx RS.out).chg MG.out (by have hb := KE0.out.lt; have hn := Zhn.out; omega))
  have BEm := Lib.hid ((BE.out.trans (RS.out.below (.inr (Nat.le_refl _)) BE.out.size)).trans (MG.out.below (.inl (by have hb := GE.out.size; have hn := Zhn.out; omega)) (by have hb := BE.out.size; have hc := RS.out.size; omega)))
  have FWm := Lib.hid (Zfw.out.chg MG.out (by have hn := Zhn.out; omega))
  have KWm := Lib.hid (Zkw.out.chg MG.out (by have hn := Zhn.out; omega))
  have KGm := Lib.hid (Zkg.out.chg MG.out (by have hn := Zhn.out; omega))
  have U0 := Lib.hid (Chg.refl 0 0 w6)
  have r_0 : w6.cell? ⟨bg, 0, none⟩ = some (.slice Arg R.length crg) := (KGm.out.nx (U0.out)).cell 0
  have r_1 : w6.cell? ⟨bg, 1, none⟩ = some (.slice Acg C.length ccg) := (KGm.out.nx (U0.out)).cell 1
  go_wp2_with fail
  refine (lawsHeldClasses _ _ _ R.length C.length 1 _ (FM.out.nx (U0.out)).here (by omega)).mono ?_
  rintro e w7 ⟨rfl, hg⟩
  rw [HKM.out]
  have U7 := Lib.hid ((U0.out).gb hg)
  clear hg r_0 r_1
  have a0_0 : w7.cell? ⟨w.heap.size, 0, none⟩ = some (.int .i64 S0a) := (KE0m.out.nx (U7.out)).cell 0
  have a0_1 : w7.cell? ⟨w.heap.size, 1, none⟩ = some (.int .i64 S0b) := (KE0m.out.nx (U7.out)).cell 1
  go_wp2_with fail
  refine (lawsToGrid _ _ _ ).mono ?_
  rintro e w8 ⟨rfl, bh0⟩
  have R8 : Hid (Chg 0 0 w6 w8) := Lib.hid ((U7.out).gb bh0)
  have Q8 := Lib.hid (chg_gb 0 0 bh0)
  clear bh0 a0_0 a0_1
  go_wp2_with fail
  refine (HIM.out _).mono ?_
  rintro e w9 ⟨ph, qh, rfl, oh, bh⟩
  obtain ⟨Arh, crh, rfl, _⟩ := own_form oh.r
  obtain ⟨Ach, cch, rfl, _⟩ := own_form oh.c
  have R9 : Hid (Chg 0 0 w6 w9) := Lib.hid ((R8.out).bl bh)
  have Q9 := Lib.hid (chg_gb 0 0 (gb_of_below bh none))
  have F9 := Lib.hid (fix_vrow oh)
  have HLh := Lib.hid (F9.out.here.lt)
  clear bh oh
  have KCh := Lib.hid (Blk.new w9 43 #[.slice Arh R.length crh, .slice Ach C.length cch])
  have FCh := Lib.hid (F9.out.al (.cells #[.slice Arh R.length crh, .slice Ach C.length cch] 43))
  have RCh := Lib.hid (R9.out.al (.cells #[.slice Arh R.length crh, .slice Ach C.length cch] 43))
  have rh_0 : (w9.alloc (.cells #[.slice Arh R.length crh, .slice Ach C.length cch] 43)).cell? ⟨w9.heap.size, 0, none⟩ = some (.slice Arh R.length crh) := KCh.out.cell 0
  have rh_1 : (w9.alloc (.cells #[.slice Arh R.length crh, .slice Ach C.length cch] 43)).cell? ⟨w9.heap.size, 1, none⟩ = some (.slice Ach C.length cch) := KCh.out.cell 1
  have rw_0 : (w9.alloc (.cells #[.slice Arh R.length crh, .slice Ach C.length cch] 43)).cell? ⟨bv, 0, none⟩ = some (.slice Arw R.length crw) := (KWm.out.nx (RCh.out)).cell 0
  have rw_1 : (w9.alloc (.cells #[.slice Arh R.length crh, .slice Ach C.length cch] 43)).cell? ⟨bv, 1, none⟩ = some (.slice Acw C.length ccw) := (KWm.out.nx (RCh.out)).cell 1
  go_wp2_with fail
  refine (lawsEqClasses _ _ _ _ _ _ R C _ FCh.out.here (FWm.out.nx (RCh.out)).here (by omega) (by omega)).mono ?_
  rintro e w10 ⟨rfl, hg⟩
  have U10 := Lib.hid ((RCh.out).gb hg)
  clear hg rh_0 rh_1 rw_0 rw_1
  have r_0 : w10.cell? ⟨bg, 0, none⟩ = some (.slice Arg R.length crg) := (KGm.out.nx (U10.out)).cell 0
  have r_1 : w10.cell? ⟨bg, 1, none⟩ = some (.slice Acg C.length ccg) := (KGm.out.nx (U10.out)).cell 1
  go_wp2_with fail
  refine (lawsHeldClasses _ _ _ R.length C.length 1 _ (FM.out.nx (U10.out)).here (by omega)).mono ?_
  rintro e w11 ⟨rfl, hg⟩
  rw [HKM.out]
  have U11 := Lib.hid ((U10.out).gb hg)
  clear hg r_0 r_1
  go_wp2_with fail
  go_ret
  exact ⟨rfl, BEm.out.trans ((U11.out).below (.inr (Nat.le_refl _)) BEm.out.size)⟩
end Go.Proofs.Ytcmlnokfjbglaaa
end

section
namespace Go.Proofs.Ytcmlnokfjbglaaa
open Go.ChangeShapes Go.WideShapes Go.ChangeAt Go.RowKit
set_option linter.unusedVariables false

/-- A grid with sides from 1 to 4 is returned; only new blocks are written. -/
def DrawnGrid (w : World) (e : Ending) (w' : World) : Prop := ∃ W H : Int, e = .returned (.agg #[.int .i64 W, .int .i64 H]) ∧ okG W H = true ∧ Below w.heap.size w w'

theorem drawGrid (A : Option Addr) (n cap : Nat) (w : World) (hr : ByteRow w w.heap.size A n) (hn : n ≤ 1048576) :
    Calls Try.prog 18 #[.slice A n cap] w (DrawnGrid w) := by
  have hr0 : ByteRow (w.alloc (.cells #[.int .i64 0, .int .i64 0] 27)) (w.alloc (.cells #[.int .i64 0, .int .i64 0] 27)).heap.size A n := (hr.keep fun p hp => World.cell?_of_block (Below.heap_alloc _ _ _ hp)).more (by simp)
  have HB := Lib.hid (Blk.new w 27 #[.int .i64 0, .int .i64 0])
  have HA := Lib.hid (show Below w.heap.size w (w.alloc (.cells #[.int .i64 0, .int .i64 0] 27)) from (Below.refl _ _).alloc (Nat.le_refl _) _)
  have HR := Lib.hid hr0
  clear hr hr0
  go_enter Try.func18, Try.ntmps18
  go_wp2_with fail
  refine (l01New _ _ _ _ HR.out hn).mono ?_
  rintro e w1 ⟨g, rfl, hg, hc1, hbel⟩
  simp at hg
  have hs : (w.alloc (.cells #[.int .i64 0, .int .i64 0] 27)).heap.size = w.heap.size + 1 := by simp
  have HG := Lib.hid hg
  have hb1 := HB.out.below hbel (by simp)
  have HB1 := Lib.hid hb1
  have HA1 := Lib.hid (show Below w.heap.size w w1 from ⟨hbel.os.trans HA.out.os, hbel.tape.trans HA.out.tape, hbel.output.trans HA.out.output, Nat.le_trans HA.out.size hbel.size, fun i hi => (hbel.block i (by simp; omega)).trans (HA.out.block i hi)⟩)
  clear hbel hb1 hg
  go_wp2_with fail
  refine (l02Grid g _ hc1).mono ?_
  rintro e w2 ⟨W, H, rfl, hok, hc2, hg2⟩
  have hb2 := HB1.out.grown hg2 (fun e => by cases e; have := HG.out; omega)
  have HB2 := Lib.hid hb2
  have HA2 := Lib.hid (HA1.out.trans (gb_below hg2 HA1.out.size (by have := HG.out; omega)))
  have c0 := hb2.cell 0
  have c1 := hb2.cell 1
  have f0 := hb2.frozen 0
  have f1 := hb2.frozen 1
  simp at c0 c1
  clear hb2 hg2 hc1 hc2 hs
  go_wp2_with fail
  have d1 := ((HB2.out.set_ 0 (.int .i64 W)).set_ 1 (.int .i64 H)).cell 0
  have d2 := ((HB2.out.set_ 0 (.int .i64 W)).set_ 1 (.int .i64 H)).cell 1
  simp at d1 d2
  refine bodyPost_ret (v := .agg #[.int .i64 W, .int .i64 H]) (by simp [results, Try.results18, go_sem, d1, d2]) rfl ⟨W, H, rfl, hok, ?_⟩
  have hz : w.grownBy w2 none := gb_of_below HA2.out none
  exact gb_below_none (gb_set2 hz (Nat.le_refl _) _ _) (Nat.le_refl _)
end Go.Proofs.Ytcmlnokfjbglaaa
end

section
namespace Go.Proofs.Ytcmlnokfjbglaaa
open Go.ChangeShapes Go.WideShapes Go.ChangeAt Go.RowKit
set_option linter.unusedVariables false
set_option maxRecDepth 20000

set_option maxHeartbeats 3200000 in
theorem walk_FnSplitSafe (A : Option Addr) (n cap : Nat) (w : World) (hr : ByteRow w w.heap.size A n) :
    Calls Try.prog 4 #[.slice A n cap] w fun e w' => e = .returned (.bool true) ∧ Below w.heap.size w w' := by
  by_cases hbig : 1048576 < n
  · go_enter Try.func4, Try.ntmps4
    go_wp2_with fail
    refine (lawsBig A n cap _).mono ?_
    rintro e w1 ⟨rfl, rfl⟩
    rw [decide_eq_true hbig]
    go_wp2_with fail
    go_ret
    exact ⟨rfl, Below.refl _ _⟩
  · have HR := Lib.hid hr
    have hn : n ≤ 1048576 := by omega
    clear hr
    go_enter Try.func4, Try.ntmps4
    go_wp2_with fail
    refine (lawsBig A n cap _).mono ?_
    rintro e w1 ⟨rfl, rfl⟩
    rw [decide_eq_false hbig]
    clear hbig
    go_wp2_with fail
    refine (drawGrid A n cap _ HR.out hn).mono ?_
    rintro e w2 ⟨W, H, rfl, hok, hb2⟩
    have hsp := split_safe hok
    have hs1 : stdRes W H 1 = stdTab W H 1 ∧ stdRes W H 2 = stdTab W H 2 := by unfold stdRes stdOk; rw [hok]; exact ⟨rfl, rfl⟩
    have hl1 := stdRes_length W H 1
    have hl2 := stdRes_length W H 2
    have HSP := Lib.hid (fun w => implSplit W H w)
    rw [hok] at HSP
    rw [hs1.1, hs1.2] at HSP
    rw [hs1.1] at hl1
    rw [hs1.2] at hl2
    have HOK := Lib.hid (fun AP AQ nP cP nQ cQ w h hP hQ hnP hnQ => implClassesOk W H none AP AQ 0 0 nP cP nQ cQ [] (stdTab W H 1) (stdTab W H 2) (fun x h => by cases h) w h hP hQ (by omega) hnP hnQ)
    have HCK := Lib.hid (fun AP AQ nP cP nQ cQ w h hP hQ hnP hnQ => implCheckClasses W H none AP AQ 0 0 nP cP nQ cQ [] (stdTab W H 1) (stdTab W H 2) (fun x h => by cases h) w h hP hQ (by omega) hnP hnQ)
    rw [hsp.1] at HOK
    have hz := hsp.2
    obtain ⟨vd, hvd⟩ : ∃ vd, verdC W H [] (stdTab W H 1) (stdTab W H 2) = vd := ⟨_, rfl⟩
    rw [hvd] at HCK hz
    obtain ⟨P, hP⟩ : ∃ P, stdTab W H 1 = P := ⟨_, rfl⟩
    obtain ⟨Q, hQ⟩ : ∃ Q, stdTab W H 2 = Q := ⟨_, rfl⟩
    rw [hP, hQ] at HSP HOK HCK
    rw [hP] at hl1
    rw [hQ] at hl2
    obtain ⟨z, R, C⟩ := vd
    have hz1 : z = 1 := hz
    subst hz1
    have K3 := Lib.hid (Blk.new w2 27 #[.int .i64 W, .int .i64 H])
    have B3 := Lib.hid (show Below w.heap.size w (w2.alloc (.cells #[.int .i64 W, .int .i64 H] 27)) from hb2.alloc hb2.size _)
    clear hb2 hok hsp hs1 hvd hP hQ hz
    go_wp2_with fail
    refine (HSP.out _).mono ?_
    rintro e w4 ⟨vp, vq, rfl, o4, b4⟩
    obtain ⟨Ap, cp, rfl, _⟩ := own_form o4.r
    obtain ⟨Aq, cq, rfl, _⟩ := own_form o4.c
    have Q4 := Lib.hid (chg_gb 0 0 (gb_of_below b4 none))
    have F4 := Lib.hid (fix_vrow o4)
    have B4 := Lib.hid (below_gb B3.out (Nat.le_refl _) (gb_of_below b4 none))
    have K4 := Lib.hid ((K3.out.nx Q4.out).alloc (.cells #[.slice Ap P.length cp, .slice Aq Q.length cq] 43))
    have KC4 := Lib.hid (Blk.new w4 43 #[.slice Ap P.length cp, .slice Aq Q.length cq])
    have F5 := Lib.hid (F4.out.al (.cells #[.slice Ap P.length cp, .slice Aq Q.length cq] 43))
    have a0 : (w4.alloc (.cells #[.slice Ap P.length cp, .slice Aq Q.length cq] 43)).cell? ⟨w2.heap.size, 0, none⟩ = some (.int .i64 W) := K4.out.cell 0
    have a1 : (w4.alloc (.cells #[.slice Ap P.length cp, .slice Aq Q.length cq] 43)).cell? ⟨w2.heap.size, 1, none⟩ = some (.int .i64 H) := K4.out.cell 1
    clear o4 b4
    have hbm := Blk.new (w4.alloc (.cells #[.slice Ap P.length cp, .slice Aq Q.length cq] 43)) 30 #[.int .i64 W, .int .i64 H, .slice none 0 0]
    rw [alloc_size] at hbm
    have F6 := Lib.hid (F5.out.al (.cells #[.int .i64 W, .int .i64 H, .slice none 0 0] 30))
    have KC6 := Lib.hid (KC4.out.alloc (.cells #[.int .i64 W, .int .i64 H, .slice none 0 0] 30))
    have B6 := Lib.hid (below_gb B4.out (Nat.le_refl _) (gb_alloc (gb_alloc (gb_refl w4 none) (.cells #[.slice Ap P.length cp, .slice Aq Q.length cq] 43)) (.cells #[.int .i64 W, .int .i64 H, .slice none 0 0] 30)))
    have KM6 := Lib.hid hbm
    clear hbm
    go_wp2_with fail
    refine (HOK.out _ _ _ _ _ _ _ (IntAt.nil _ _ none) (intAt_own F6.out.here.r rfl (Nat.le_refl _)) (intAt_own F6.out.here.c rfl (Nat.le_refl _)) (by omega) (by omega)).mono ?_
    rintro e w7 ⟨rfl, hg⟩
    have F7 := Lib.hid (F6.out.gb hg)
    have B7 := Lib.hid (below_gb B6.out (Nat.le_refl _) hg)
    have KM7 := Lib.hid (KM6.out.grown hg (by simp))
    have KC7 := Lib.hid (KC6.out.grown hg (by simp))
    have m0 : w7.cell? ⟨w4.heap.size + 1, 0, none⟩ = some (.int .i64 W) := KM7.out.cell 0
    have m1 : w7.cell? ⟨w4.heap.size + 1, 1, none⟩ = some (.int .i64 H) := KM7.out.cell 1
    have m2 : w7.cell? ⟨w4.heap.size + 1, 2, none⟩ = some (.slice none 0 0) := KM7.out.cell 2
    have c0 : w7.cell? ⟨w4.heap.size, 0, none⟩ = some (.slice Ap P.length cp) := KC7.out.cell 0
    have c1 : w7.cell? ⟨w4.heap.size, 1, none⟩ = some (.slice Aq Q.length cq) := KC7.out.cell 1
    have hfld : ∀ (x : Int) (b c : Value) (w : World), (Instr.field 48 (.agg #[.int .i64 x, b, c]) 0).run Try.prog w = .ok (.int .i64 x) w := fun x b c w => by kernel_rfl
    clear hg a0 a1
    go_wp2_with fail
    refine (HCK.out _ _ _ _ _ _ _ (IntAt.nil _ _ none) (intAt_own F7.out.here.r rfl (Nat.le_refl _)) (intAt_own F7.out.here.c rfl (Nat.le_refl _)) (by omega) (by omega)).mono ?_
    rintro e w8 ⟨vr, vc, rfl, o8, b8⟩
    obtain ⟨A8, c8, rfl, _⟩ := own_form o8.r
    obtain ⟨A9, c9, rfl, _⟩ := own_form o8.c
    have B8 := Lib.hid (below_gb B7.out (Nat.le_refl _) (gb_of_below b8 none))
    clear o8 b8
    go_wp2_with fail
    go_ret
    exact ⟨rfl, B8.out⟩
end Go.Proofs.Ytcmlnokfjbglaaa
end
