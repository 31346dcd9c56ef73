/- What is proved here: the exact law on WantedPort answers true, for every argument; only new blocks are written; the exact law on HasRoom answers true, for every argument; only new blocks are written; the exact law on IsRequest answers true, for every argument; only new blocks are written; what the laws' marks in a list and their search for marks do; the laws' marks on a table; only the marked row and new blocks are written; the laws' marks on pairs of tables and what is held of them; nothing of the program; the laws' marks on a mesh; only the marked row and new blocks are written; the laws' marks in networks; only the network's own rows and new blocks are written; the exact law on RequestsAt answers true, for every argument; only new blocks are written. -/
import Derived.Test.YtplpdjpldadcmaaED
import Derived.Deep.Cut
section
namespace Go.Proofs.Ytplpdjpldadcmaa
open Go.ChangeShapes Go.WideShapes Go.ChangeAt Go.RowKit
set_option linter.unusedVariables false
set_option maxRecDepth 20000

set_option maxHeartbeats 6400000 in
theorem walk_FnExactWantedPort (A0a : Na) (L0a : Nt) (S1a : Int) (S2a : Int) (w : World) (hcmA0a : NetCap A0a L0a) (hA0a : NetIn w w.heap.size A0a L0a) (hlA0a : NetWf L0a) (hwS1a : (Lit.int .i64 S1a).wf = true) (hwS2a : (Lit.int .i64 S2a).wf = true) :
    Calls Try.prog 3 #[.agg #[.int .i64 L0a.W, .int .i64 L0a.H, .slice A0a.br.A L0a.br.length A0a.br.c, .slice A0a.ta.A L0a.ta.length A0a.ta.c, .slice A0a.tb.A L0a.tb.length A0a.tb.c, .slice A0a.bu.A L0a.bu.length A0a.bu.c, .slice A0a.ow.A L0a.ow.length A0a.ow.c, .slice A0a.tu.A L0a.tu.length A0a.tu.c, .slice A0a.so.A L0a.so.length A0a.so.c, .slice A0a.ar.A L0a.ar.length A0a.ar.c, .int .i64 L0a.ti], .int .i64 S1a, .int .i64 S2a] w fun e w' => e = .returned (.bool true) ∧ Below w.heap.size w w' := by
  have HA0a := Lib.hid (hA0a)
  have HCA0a := Lib.hid (hcmA0a)
  have HWF0 := Lib.hid (hlA0a)
  have HWS1a := Lib.hid (hwS1a)
  have HWS2a := Lib.hid (hwS2a)
  clear hcmA0a hA0a hlA0a hwS1a hwS2a
  by_cases hbig0 : (1048576 : Int) < ((sizeN L0a : Nat) : Int)
  · skip
    go_enter Try.func3, Try.ntmps3
    go_wp2_with fail
    have ke0 := Blk.new w 33 #[.int .i64 L0a.W, .int .i64 L0a.H, .slice A0a.br.A L0a.br.length A0a.br.c, .slice A0a.ta.A L0a.ta.length A0a.ta.c, .slice A0a.tb.A L0a.tb.length A0a.tb.c, .slice A0a.bu.A L0a.bu.length A0a.bu.c, .slice A0a.ow.A L0a.ow.length A0a.ow.c, .slice A0a.tu.A L0a.tu.length A0a.tu.c, .slice A0a.so.A L0a.so.length A0a.so.c, .slice A0a.ar.A L0a.ar.length A0a.ar.c, .int .i64 L0a.ti]
    have ge := gb_alloc (gb_refl w none) (.cells #[.int .i64 L0a.W, .int .i64 L0a.H, .slice A0a.br.A L0a.br.length A0a.br.c, .slice A0a.ta.A L0a.ta.length A0a.ta.c, .slice A0a.tb.A L0a.tb.length A0a.tb.c, .slice A0a.bu.A L0a.bu.length A0a.bu.c, .slice A0a.ow.A L0a.ow.length A0a.ow.c, .slice A0a.tu.A L0a.tu.length A0a.tu.c, .slice A0a.so.A L0a.so.length A0a.so.c, .slice A0a.ar.A L0a.ar.length A0a.ar.c, .int .i64 L0a.ti] 33)
    generalize (w.alloc (.cells #[.int .i64 L0a.W, .int .i64 L0a.H, .slice A0a.br.A L0a.br.length A0a.br.c, .slice A0a.ta.A L0a.ta.length A0a.ta.c, .slice A0a.tb.A L0a.tb.length A0a.tb.c, .slice A0a.bu.A L0a.bu.length A0a.bu.c, .slice A0a.ow.A L0a.ow.length A0a.ow.c, .slice A0a.tu.A L0a.tu.length A0a.tu.c, .slice A0a.so.A L0a.so.length A0a.so.c, .slice A0a.ar.A L0a.ar.length A0a.ar.c, .int .i64 L0a.ti] 33)) = we at *
    have KE0 : Hid (Blk we (w.heap.size) 33 #[.int .i64 L0a.W, .int .i64 L0a.H, .slice A0a.br.A L0a.br.length A0a.br.c, .slice A0a.ta.A L0a.ta.length A0a.ta.c, .slice A0a.tb.A L0a.tb.length A0a.tb.c, .slice A0a.bu.A L0a.bu.length A0a.bu.c, .slice A0a.ow.A L0a.ow.length A0a.ow.c, .slice A0a.tu.A L0a.tu.length A0a.tu.c, .slice A0a.so.A L0a.so.length A0a.so.c, .slice A0a.ar.A L0a.ar.length A0a.ar.c, .int .i64 L0a.ti]) := Lib.hid (ke0)
    have GE := Lib.hid (ge)
    have RZ0 := Lib.hid (Chg.refl 0 0 we)
    clear ge ke0
    have a0_0 : we.cell? ⟨w.heap.size, 0, none⟩ = some (.int .i64 L0a.W) := (KE0.out.nx (RZ0.out)).cell 0
    have a0_1 : we.cell? ⟨w.heap.size, 1, none⟩ = some (.int .i64 L0a.H) := (KE0.out.nx (RZ0.out)).cell 1
    have a0_2 : we.cell? ⟨w.heap.size, 2, none⟩ = some (.slice A0a.br.A L0a.br.length A0a.br.c) := (KE0.out.nx (RZ0.out)).cell 2
    have a0_3 : we.cell? ⟨w.heap.size, 3, none⟩ = some (.slice A0a.ta.A L0a.ta.length A0a.ta.c) := (KE0.out.nx (RZ0.out)).cell 3
    have a0_4 : we.cell? ⟨w.heap.size, 4, none⟩ = some (.slice A0a.tb.A L0a.tb.length A0a.tb.c) := (KE0.out.nx (RZ0.out)).cell 4
    have a0_5 : we.cell? ⟨w.heap.size, 5, none⟩ = some (.slice A0a.bu.A L0a.bu.length A0a.bu.c) := (KE0.out.nx (RZ0.out)).cell 5
    have a0_6 : we.cell? ⟨w.heap.size, 6, none⟩ = some (.slice A0a.ow.A L0a.ow.length A0a.ow.c) := (KE0.out.nx (RZ0.out)).cell 6
    have a0_7 : we.cell? ⟨w.heap.size, 7, none⟩ = some (.slice A0a.tu.A L0a.tu.length A0a.tu.c) := (KE0.out.nx (RZ0.out)).cell 7
    have a0_8 : we.cell? ⟨w.heap.size, 8, none⟩ = some (.slice A0a.so.A L0a.so.length A0a.so.c) := (KE0.out.nx (RZ0.out)).cell 8
    have a0_9 : we.cell? ⟨w.heap.size, 9, none⟩ = some (.slice A0a.ar.A L0a.ar.length A0a.ar.c) := (KE0.out.nx (RZ0.out)).cell 9
    have a0_10 : we.cell? ⟨w.heap.size, 10, none⟩ = some (.int .i64 L0a.ti) := (KE0.out.nx (RZ0.out)).cell 10
    refine (lawsSzNet _ _ _ _ ((HA0a.out.none (Nat.le_refl _) (gb_trans GE.out RZ0.out.still)).more (Nat.le_trans GE.out.size RZ0.out.size)) HCA0a.out (by omega) (by omega)).mono ?_
    rintro e wz1 ⟨rfl, hg⟩
    rw [leftL, if_pos hbig0]
    have RZ1 := Lib.hid (RZ0.out.gb hg)
    clear hg a0_0 a0_1 a0_2 a0_3 a0_4 a0_5 a0_6 a0_7 a0_8 a0_9 a0_10
    go_wp2_with fail
    go_ret
    exact ⟨rfl, (gb_below_none GE.out (Nat.le_refl _)).trans (RZ1.out.below (.inr (Nat.le_refl _)) GE.out.size)⟩
  have hnA0a : sizeN L0a ≤ 1048576 := by omega
  obtain ⟨q1, hq1⟩ : ∃ q : Int, (1048576 : Int) - ((sizeN L0a : Nat) : Int) = q := ⟨_, rfl⟩
  have hqa1 : ¬ q1 < 0 := by omega
  have hqb1 : q1 ≤ 1048576 := by omega
  go_enter Try.func3, Try.ntmps3
  go_wp2_with fail
  have ke0 := Blk.new w 33 #[.int .i64 L0a.W, .int .i64 L0a.H, .slice A0a.br.A L0a.br.length A0a.br.c, .slice A0a.ta.A L0a.ta.length A0a.ta.c, .slice A0a.tb.A L0a.tb.length A0a.tb.c, .slice A0a.bu.A L0a.bu.length A0a.bu.c, .slice A0a.ow.A L0a.ow.length A0a.ow.c, .slice A0a.tu.A L0a.tu.length A0a.tu.c, .slice A0a.so.A L0a.so.length A0a.so.c, .slice A0a.ar.A L0a.ar.length A0a.ar.c, .int .i64 L0a.ti]
  have ge := gb_alloc (gb_refl w none) (.cells #[.int .i64 L0a.W, .int .i64 L0a.H, .slice A0a.br.A L0a.br.length A0a.br.c, .slice A0a.ta.A L0a.ta.length A0a.ta.c, .slice A0a.tb.A L0a.tb.length A0a.tb.c, .slice A0a.bu.A L0a.bu.length A0a.bu.c, .slice A0a.ow.A L0a.ow.length A0a.ow.c, .slice A0a.tu.A L0a.tu.length A0a.tu.c, .slice A0a.so.A L0a.so.length A0a.so.c, .slice A0a.ar.A L0a.ar.length A0a.ar.c, .int .i64 L0a.ti] 33)
  generalize (w.alloc (.cells #[.int .i64 L0a.W, .int .i64 L0a.H, .slice A0a.br.A L0a.br.length A0a.br.c, .slice A0a.ta.A L0a.ta.length A0a.ta.c, .slice A0a.tb.A L0a.tb.length A0a.tb.c, .slice A0a.bu.A L0a.bu.length A0a.bu.c, .slice A0a.ow.A L0a.ow.length A0a.ow.c, .slice A0a.tu.A L0a.tu.length A0a.tu.c, .slice A0a.so.A L0a.so.length A0a.so.c, .slice A0a.ar.A L0a.ar.length A0a.ar.c, .int .i64 L0a.ti] 33)) = we at *
  have KE0 : Hid (Blk we (w.heap.size) 33 #[.int .i64 L0a.W, .int .i64 L0a.H, .slice A0a.br.A L0a.br.length A0a.br.c, .slice A0a.ta.A L0a.ta.length A0a.ta.c, .slice A0a.tb.A L0a.tb.length A0a.tb.c, .slice A0a.bu.A L0a.bu.length A0a.bu.c, .slice A0a.ow.A L0a.ow.length A0a.ow.c, .slice A0a.tu.A L0a.tu.length A0a.tu.c, .slice A0a.so.A L0a.so.length A0a.so.c, .slice A0a.ar.A L0a.ar.length A0a.ar.c, .int .i64 L0a.ti]) := Lib.hid (ke0)
  have GE := Lib.hid (ge)
  have RZ0 := Lib.hid (Chg.refl 0 0 we)
  clear ge ke0
  have a0_0 : we.cell? ⟨w.heap.size, 0, none⟩ = some (.int .i64 L0a.W) := (KE0.out.nx (RZ0.out)).cell 0
  have a0_1 : we.cell? ⟨w.heap.size, 1, none⟩ = some (.int .i64 L0a.H) := (KE0.out.nx (RZ0.out)).cell 1
  have a0_2 : we.cell? ⟨w.heap.size, 2, none⟩ = some (.slice A0a.br.A L0a.br.length A0a.br.c) := (KE0.out.nx (RZ0.out)).cell 2
  have a0_3 : we.cell? ⟨w.heap.size, 3, none⟩ = some (.slice A0a.ta.A L0a.ta.length A0a.ta.c) := (KE0.out.nx (RZ0.out)).cell 3
  have a0_4 : we.cell? ⟨w.heap.size, 4, none⟩ = some (.slice A0a.tb.A L0a.tb.length A0a.tb.c) := (KE0.out.nx (RZ0.out)).cell 4
  have a0_5 : we.cell? ⟨w.heap.size, 5, none⟩ = some (.slice A0a.bu.A L0a.bu.length A0a.bu.c) := (KE0.out.nx (RZ0.out)).cell 5
  have a0_6 : we.cell? ⟨w.heap.size, 6, none⟩ = some (.slice A0a.ow.A L0a.ow.length A0a.ow.c) := (KE0.out.nx (RZ0.out)).cell 6
  have a0_7 : we.cell? ⟨w.heap.size, 7, none⟩ = some (.slice A0a.tu.A L0a.tu.length A0a.tu.c) := (KE0.out.nx (RZ0.out)).cell 7
  have a0_8 : we.cell? ⟨w.heap.size, 8, none⟩ = some (.slice A0a.so.A L0a.so.length A0a.so.c) := (KE0.out.nx (RZ0.out)).cell 8
  have a0_9 : we.cell? ⟨w.heap.size, 9, none⟩ = some (.slice A0a.ar.A L0a.ar.length A0a.ar.c) := (KE0.out.nx (RZ0.out)).cell 9
  have a0_10 : we.cell? ⟨w.heap.size, 10, none⟩ = some (.int .i64 L0a.ti) := (KE0.out.nx (RZ0.out)).cell 10
  refine (lawsSzNet _ _ _ _ ((HA0a.out.none (Nat.le_refl _) (gb_trans GE.out RZ0.out.still)).more (Nat.le_trans GE.out.size RZ0.out.size)) HCA0a.out (by omega) (by omega)).mono ?_
  rintro e wz1 ⟨rfl, hg⟩
  rw [leftL, if_neg (by omega), hq1]
  have RZ1 := Lib.hid (RZ0.out.gb hg)
  clear hg a0_0 a0_1 a0_2 a0_3 a0_4 a0_5 a0_6 a0_7 a0_8 a0_9 a0_10 hq1
  obtain ⟨res, hres⟩ : ∃ r, wantedG L0a S1a S2a = r := ⟨_, rfl⟩
  have HSP := Lib.hid (fun (A0a : Na) (w : World) (hA0a : NetIn w w.heap.size A0a L0a) (hnA0a : NetSm L0a) (hcA0a : NetCap A0a L0a) => show Calls Try.prog 8 #[.agg #[.int .i64 L0a.W, .int .i64 L0a.H, .slice A0a.br.A L0a.br.length A0a.br.c, .slice A0a.ta.A L0a.ta.length A0a.ta.c, .slice A0a.tb.A L0a.tb.length A0a.tb.c, .slice A0a.bu.A L0a.bu.length A0a.bu.c, .slice A0a.ow.A L0a.ow.length A0a.ow.c, .slice A0a.tu.A L0a.tu.length A0a.tu.c, .slice A0a.so.A L0a.so.length A0a.so.c, .slice A0a.ar.A L0a.ar.length A0a.ar.c, .int .i64 L0a.ti], .int .i64 S1a, .int .i64 S2a] w (RetI res none w) from hres ▸ specWantedPort A0a L0a S1a S2a w hA0a hnA0a)
  have HIM := Lib.hid (fun (A0a : Na) (w : World) (hA0a : NetIn w w.heap.size A0a L0a) (hnA0a : NetSm L0a) (hcA0a : NetCap A0a L0a) => show Calls Try.prog 10 #[.agg #[.int .i64 L0a.W, .int .i64 L0a.H, .slice A0a.br.A L0a.br.length A0a.br.c, .slice A0a.ta.A L0a.ta.length A0a.ta.c, .slice A0a.tb.A L0a.tb.length A0a.tb.c, .slice A0a.bu.A L0a.bu.length A0a.bu.c, .slice A0a.ow.A L0a.ow.length A0a.ow.c, .slice A0a.tu.A L0a.tu.length A0a.tu.c, .slice A0a.so.A L0a.so.length A0a.so.c, .slice A0a.ar.A L0a.ar.length A0a.ar.c, .int .i64 L0a.ti], .int .i64 S1a, .int .i64 S2a] w (RetI res none w) from hres ▸ implWantedPort A0a L0a S1a S2a w hA0a hnA0a hcA0a HWF0.out.br)
  clear hres
  have BE := Lib.hid (gb_below_none GE.out (Nat.le_refl _))
  have RDA0a := Lib.hid (fun (w' : World) (hq : Chg 0 0 we w') => HA0a.out.chg BE.out hq (.inr (Nat.le_refl _)))
  have a0_0 : wz1.cell? ⟨w.heap.size, 0, none⟩ = some (.int .i64 L0a.W) := (KE0.out.nx (RZ1.out)).cell 0
  have a0_1 : wz1.cell? ⟨w.heap.size, 1, none⟩ = some (.int .i64 L0a.H) := (KE0.out.nx (RZ1.out)).cell 1
  have a0_2 : wz1.cell? ⟨w.heap.size, 2, none⟩ = some (.slice A0a.br.A L0a.br.length A0a.br.c) := (KE0.out.nx (RZ1.out)).cell 2
  have a0_3 : wz1.cell? ⟨w.heap.size, 3, none⟩ = some (.slice A0a.ta.A L0a.ta.length A0a.ta.c) := (KE0.out.nx (RZ1.out)).cell 3
  have a0_4 : wz1.cell? ⟨w.heap.size, 4, none⟩ = some (.slice A0a.tb.A L0a.tb.length A0a.tb.c) := (KE0.out.nx (RZ1.out)).cell 4
  have a0_5 : wz1.cell? ⟨w.heap.size, 5, none⟩ = some (.slice A0a.bu.A L0a.bu.length A0a.bu.c) := (KE0.out.nx (RZ1.out)).cell 5
  have a0_6 : wz1.cell? ⟨w.heap.size, 6, none⟩ = some (.slice A0a.ow.A L0a.ow.length A0a.ow.c) := (KE0.out.nx (RZ1.out)).cell 6
  have a0_7 : wz1.cell? ⟨w.heap.size, 7, none⟩ = some (.slice A0a.tu.A L0a.tu.length A0a.tu.c) := (KE0.out.nx (RZ1.out)).cell 7
  have a0_8 : wz1.cell? ⟨w.heap.size, 8, none⟩ = some (.slice A0a.so.A L0a.so.length A0a.so.c) := (KE0.out.nx (RZ1.out)).cell 8
  have a0_9 : wz1.cell? ⟨w.heap.size, 9, none⟩ = some (.slice A0a.ar.A L0a.ar.length A0a.ar.c) := (KE0.out.nx (RZ1.out)).cell 9
  have a0_10 : wz1.cell? ⟨w.heap.size, 10, none⟩ = some (.int .i64 L0a.ti) := (KE0.out.nx (RZ1.out)).cell 10
  go_wp2_with fail
  refine (lawsToNet _ _ _ (RDA0a.out _ (RZ1.out)) hnA0a).mono ?_
  rintro e w1 ⟨zw0, rfl, ow0, bw0⟩
  have R1 : Hid (Chg 0 0 we w1) := Lib.hid ((RZ1.out).bl bw0)
  have Q1 := Lib.hid (chg_gb 0 0 (gb_of_below bw0 none))
  have F1 := Lib.hid (fix_net ow0)
  clear bw0 ow0 a0_0 a0_1 a0_2 a0_3 a0_4 a0_5 a0_6 a0_7 a0_8 a0_9 a0_10
  go_wp2_with fail
  refine (HSP.out _ _ (NetOwn.at (F1.out.here) (Nat.le_refl _)) (netSm_of hnA0a) (NetOwn.cap (F1.out.here))).mono ?_
  rintro e w2 ⟨rfl, bw⟩
  have R2 : Hid (Chg 0 0 we w2) := Lib.hid ((R1.out).gb bw)
  have Q2 := Lib.hid (chg_gb 0 0 bw)
  clear bw
  have HS0 := Lib.hid ((R2.out).size)
  have a0_0 : w2.cell? ⟨w.heap.size, 0, none⟩ = some (.int .i64 L0a.W) := (KE0.out.nx (R2.out)).cell 0
  have a0_1 : w2.cell? ⟨w.heap.size, 1, none⟩ = some (.int .i64 L0a.H) := (KE0.out.nx (R2.out)).cell 1
  have a0_2 : w2.cell? ⟨w.heap.size, 2, none⟩ = some (.slice A0a.br.A L0a.br.length A0a.br.c) := (KE0.out.nx (R2.out)).cell 2
  have a0_3 : w2.cell? ⟨w.heap.size, 3, none⟩ = some (.slice A0a.ta.A L0a.ta.length A0a.ta.c) := (KE0.out.nx (R2.out)).cell 3
  have a0_4 : w2.cell? ⟨w.heap.size, 4, none⟩ = some (.slice A0a.tb.A L0a.tb.length A0a.tb.c) := (KE0.out.nx (R2.out)).cell 4
  have a0_5 : w2.cell? ⟨w.heap.size, 5, none⟩ = some (.slice A0a.bu.A L0a.bu.length A0a.bu.c) := (KE0.out.nx (R2.out)).cell 5
  have a0_6 : w2.cell? ⟨w.heap.size, 6, none⟩ = some (.slice A0a.ow.A L0a.ow.length A0a.ow.c) := (KE0.out.nx (R2.out)).cell 6
  have a0_7 : w2.cell? ⟨w.heap.size, 7, none⟩ = some (.slice A0a.tu.A L0a.tu.length A0a.tu.c) := (KE0.out.nx (R2.out)).cell 7
  have a0_8 : w2.cell? ⟨w.heap.size, 8, none⟩ = some (.slice A0a.so.A L0a.so.length A0a.so.c) := (KE0.out.nx (R2.out)).cell 8
  have a0_9 : w2.cell? ⟨w.heap.size, 9, none⟩ = some (.slice A0a.ar.A L0a.ar.length A0a.ar.c) := (KE0.out.nx (R2.out)).cell 9
  have a0_10 : w2.cell? ⟨w.heap.size, 10, none⟩ = some (.int .i64 L0a.ti) := (KE0.out.nx (R2.out)).cell 10
  go_wp2_with fail
  refine (lawsToNet _ _ _ (RDA0a.out _ (R2.out)) hnA0a).mono ?_
  rintro e w3 ⟨zx0, rfl, ox0, bx0⟩
  have HLX0 := Lib.hid (trivial)
  have FX0 := Lib.hid (fix_net ox0)
  have Q3 := Lib.hid (chg_gb 0 0 (gb_of_below bx0 none))
  have R3 := Lib.hid ((R2.out).bl bx0)
  clear bx0 ox0 a0_0 a0_1 a0_2 a0_3 a0_4 a0_5 a0_6 a0_7 a0_8 a0_9 a0_10
  replace FX0 := Lib.hid ((FX0.out).al (.cells #[.int .i64 L0a.W, .int .i64 L0a.H, .slice zx0.br.A L0a.br.length zx0.br.c, .slice zx0.ta.A L0a.ta.length zx0.ta.c, .slice zx0.tb.A L0a.tb.length zx0.tb.c, .slice zx0.bu.A L0a.bu.length zx0.bu.c, .slice zx0.ow.A L0a.ow.length zx0.ow.c, .slice zx0.tu.A L0a.tu.length zx0.tu.c, .slice zx0.so.A L0a.so.length zx0.so.c, .slice zx0.ar.A L0a.ar.length zx0.ar.c, .int .i64 L0a.ti] 44))
  have KX0 := Lib.hid (Blk.new w3 44 #[.int .i64 L0a.W, .int .i64 L0a.H, .slice zx0.br.A L0a.br.length zx0.br.c, .slice zx0.ta.A L0a.ta.length zx0.ta.c, .slice zx0.tb.A L0a.tb.length zx0.tb.c, .slice zx0.bu.A L0a.bu.length zx0.bu.c, .slice zx0.ow.A L0a.ow.length zx0.ow.c, .slice zx0.tu.A L0a.tu.length zx0.tu.c, .slice zx0.so.A L0a.so.length zx0.so.c, .slice zx0.ar.A L0a.ar.length zx0.ar.c, .int .i64 L0a.ti])
  have x0_0 : (w3.alloc (.cells #[.int .i64 L0a.W, .int .i64 L0a.H, .slice zx0.br.A L0a.br.length zx0.br.c, .slice zx0.ta.A L0a.ta.length zx0.ta.c, .slice zx0.tb.A L0a.tb.length zx0.tb.c, .slice zx0.bu.A L0a.bu.length zx0.bu.c, .slice zx0.ow.A L0a.ow.length zx0.ow.c, .slice zx0.tu.A L0a.tu.length zx0.tu.c, .slice zx0.so.A L0a.so.length zx0.so.c, .slice zx0.ar.A L0a.ar.length zx0.ar.c, .int .i64 L0a.ti] 44)).cell? ⟨w3.heap.size, 0, none⟩ = some (.int .i64 L0a.W) := KX0.out.cell 0
  have x0_1 : (w3.alloc (.cells #[.int .i64 L0a.W, .int .i64 L0a.H, .slice zx0.br.A L0a.br.length zx0.br.c, .slice zx0.ta.A L0a.ta.length zx0.ta.c, .slice zx0.tb.A L0a.tb.length zx0.tb.c, .slice zx0.bu.A L0a.bu.length zx0.bu.c, .slice zx0.ow.A L0a.ow.length zx0.ow.c, .slice zx0.tu.A L0a.tu.length zx0.tu.c, .slice zx0.so.A L0a.so.length zx0.so.c, .slice zx0.ar.A L0a.ar.length zx0.ar.c, .int .i64 L0a.ti] 44)).cell? ⟨w3.heap.size, 1, none⟩ = some (.int .i64 L0a.H) := KX0.out.cell 1
  have x0_2 : (w3.alloc (.cells #[.int .i64 L0a.W, .int .i64 L0a.H, .slice zx0.br.A L0a.br.length zx0.br.c, .slice zx0.ta.A L0a.ta.length zx0.ta.c, .slice zx0.tb.A L0a.tb.length zx0.tb.c, .slice zx0.bu.A L0a.bu.length zx0.bu.c, .slice zx0.ow.A L0a.ow.length zx0.ow.c, .slice zx0.tu.A L0a.tu.length zx0.tu.c, .slice zx0.so.A L0a.so.length zx0.so.c, .slice zx0.ar.A L0a.ar.length zx0.ar.c, .int .i64 L0a.ti] 44)).cell? ⟨w3.heap.size, 2, none⟩ = some (.slice zx0.br.A L0a.br.length zx0.br.c) := KX0.out.cell 2
  have x0_3 : (w3.alloc (.cells #[.int .i64 L0a.W, .int .i64 L0a.H, .slice zx0.br.A L0a.br.length zx0.br.c, .slice zx0.ta.A L0a.ta.length zx0.ta.c, .slice zx0.tb.A L0a.tb.length zx0.tb.c, .slice zx0.bu.A L0a.bu.length zx0.bu.c, .slice zx0.ow.A L0a.ow.length zx0.ow.c, .slice zx0.tu.A L0a.tu.length zx0.tu.c, .slice zx0.so.A L0a.so.length zx0.so.c, .slice zx0.ar.A L0a.ar.length zx0.ar.c, .int .i64 L0a.ti] 44)).cell? ⟨w3.heap.size, 3, none⟩ = some (.slice zx0.ta.A L0a.ta.length zx0.ta.c) := KX0.out.cell 3
  have x0_4 : (w3.alloc (.cells #[.int .i64 L0a.W, .int .i64 L0a.H, .slice zx0.br.A L0a.br.length zx0.br.c, .slice zx0.ta.A L0a.ta.length zx0.ta.c, .slice zx0.tb.A L0a.tb.length zx0.tb.c, .slice zx0.bu.A L0a.bu.length zx0.bu.c, .slice zx0.ow.A L0a.ow.length zx0.ow.c, .slice zx0.tu.A L0a.tu.length zx0.tu.c, .slice zx0.so.A L0a.so.length zx0.so.c, .slice zx0.ar.A L0a.ar.length zx0.ar.c, .int .i64 L0a.ti] 44)).cell? ⟨w3.heap.size, 4, none⟩ = some (.slice zx0.tb.A L0a.tb.length zx0.tb.c) := KX0.out.cell 4
  have x0_5 : (w3.alloc (.cells #[.int .i64 L0a.W, .int .i64 L0a.H, .slice zx0.br.A L0a.br.length zx0.br.c, .slice zx0.ta.A L0a.ta.length zx0.ta.c, .slice zx0.tb.A L0a.tb.length zx0.tb.c, .slice zx0.bu.A L0a.bu.length zx0.bu.c, .slice zx0.ow.A L0a.ow.length zx0.ow.c, .slice zx0.tu.A L0a.tu.length zx0.tu.c, .slice zx0.so.A L0a.so.length zx0.so.c, .slice zx0.ar.A L0a.ar.length zx0.ar.c, .int .i64 L0a.ti] 44)).cell? ⟨w3.heap.size, 5, none⟩ = some (.slice zx0.bu.A L0a.bu.length zx0.bu.c) := KX0.out.cell 5
  have x0_6 : (w3.alloc (.cells #[.int .i64 L0a.W, .int .i64 L0a.H, .slice zx0.br.A L0a.br.length zx0.br.c, .slice zx0.ta.A L0a.ta.length zx0.ta.c, .slice zx0.tb.A L0a.tb.length zx0.tb.c, .slice zx0.bu.A L0a.bu.length zx0.bu.c, .slice zx0.ow.A L0a.ow.length zx0.ow.c, .slice zx0.tu.A L0a.tu.length zx0.tu.c, .slice zx0.so.A L0a.so.length zx0.so.c, .slice zx0.ar.A L0a.ar.length zx0.ar.c, .int .i64 L0a.ti] 44)).cell? ⟨w3.heap.size, 6, none⟩ = some (.slice zx0.ow.A L0a.ow.length zx0.ow.c) := KX0.out.cell 6
  have x0_7 : (w3.alloc (.cells #[.int .i64 L0a.W, .int .i64 L0a.H, .slice zx0.br.A L0a.br.length zx0.br.c, .slice zx0.ta.A L0a.ta.length zx0.ta.c, .slice zx0.tb.A L0a.tb.length zx0.tb.c, .slice zx0.bu.A L0a.bu.length zx0.bu.c, .slice zx0.ow.A L0a.ow.length zx0.ow.c, .slice zx0.tu.A L0a.tu.length zx0.tu.c, .slice zx0.so.A L0a.so.length zx0.so.c, .slice zx0.ar.A L0a.ar.length zx0.ar.c, .int .i64 L0a.ti] 44)).cell? ⟨w3.heap.size, 7, none⟩ = some (.slice zx0.tu.A L0a.tu.length zx0.tu.c) := KX0.out.cell 7
  have x0_8 : (w3.alloc (.cells #[.int .i64 L0a.W, .int .i64 L0a.H, .slice zx0.br.A L0a.br.length zx0.br.c, .slice zx0.ta.A L0a.ta.length zx0.ta.c, .slice zx0.tb.A L0a.tb.length zx0.tb.c, .slice zx0.bu.A L0a.bu.length zx0.bu.c, .slice zx0.ow.A L0a.ow.length zx0.ow.c, .slice zx0.tu.A L0a.tu.length zx0.tu.c, .slice zx0.so.A L0a.so.length zx0.so.c, .slice zx0.ar.A L0a.ar.length zx0.ar.c, .int .i64 L0a.ti] 44)).cell? ⟨w3.heap.size, 8, none⟩ = some (.slice zx0.so.A L0a.so.length zx0.so.c) := KX0.out.cell 8
  have x0_9 : (w3.alloc (.cells #[.int .i64 L0a.W, .int .i64 L0a.H, .slice zx0.br.A L0a.br.length zx0.br.c, .slice zx0.ta.A L0a.ta.length zx0.ta.c, .slice zx0.tb.A L0a.tb.length zx0.tb.c, .slice zx0.bu.A L0a.bu.length zx0.bu.c, .slice zx0.ow.A L0a.ow.length zx0.ow.c, .slice zx0.tu.A L0a.tu.length zx0.tu.c, .slice zx0.so.A L0a.so.length zx0.so.c, .slice zx0.ar.A L0a.ar.length zx0.ar.c, .int .i64 L0a.ti] 44)).cell? ⟨w3.heap.size, 9, none⟩ = some (.slice zx0.ar.A L0a.ar.length zx0.ar.c) := KX0.out.cell 9
  have x0_10 : (w3.alloc (.cells #[.int .i64 L0a.W, .int .i64 L0a.H, .slice zx0.br.A L0a.br.length zx0.br.c, .slice zx0.ta.A L0a.ta.length zx0.ta.c, .slice zx0.tb.A L0a.tb.length zx0.tb.c, .slice zx0.bu.A L0a.bu.length zx0.bu.c, .slice zx0.ow.A L0a.ow.length zx0.ow.c, .slice zx0.tu.A L0a.tu.length zx0.tu.c, .slice zx0.so.A L0a.so.length zx0.so.c, .slice zx0.ar.A L0a.ar.length zx0.ar.c, .int .i64 L0a.ti] 44)).cell? ⟨w3.heap.size, 10, none⟩ = some (.int .i64 L0a.ti) := KX0.out.cell 10
  go_wp2_with fail
  refine (HIM.out _ _ (NetOwn.at (FX0.out.here) (Nat.le_refl _)) (netSm_of hnA0a) (NetOwn.cap (FX0.out.here))).mono ?_
  rintro e w4 ⟨rfl, bg⟩
  have R4 : Hid (Chg 0 0 we w4) := Lib.hid (((R3.out.al (.cells #[.int .i64 L0a.W, .int .i64 L0a.H, .slice zx0.br.A L0a.br.length zx0.br.c, .slice zx0.ta.A L0a.ta.length zx0.ta.c, .slice zx0.tb.A L0a.tb.length zx0.tb.c, .slice zx0.bu.A L0a.bu.length zx0.bu.c, .slice zx0.ow.A L0a.ow.length zx0.ow.c, .slice zx0.tu.A L0a.tu.length zx0.tu.c, .slice zx0.so.A L0a.so.length zx0.so.c, .slice zx0.ar.A L0a.ar.length zx0.ar.c, .int .i64 L0a.ti] 44))).gb bg)
  have Q4 := Lib.hid (chg_gb 0 0 bg)
  clear bg
  clear x0_0 x0_1 x0_2 x0_3 x0_4 x0_5 x0_6 x0_7 x0_8 x0_9 x0_10
  replace FX0 := Lib.hid (FX0.out.nx Q4.out)
  replace KX0 := Lib.hid (KX0.out.nx Q4.out)
  obtain ⟨B0, E0, eE0, fx0, kx0, hx0, hn⟩ : ∃ B0 E0 : Nat, w3.heap.size = E0 ∧ Fix B0 E0 (fun w => NetOwn w B0 E0 zx0 L0a) w4 ∧ Blk w4 E0 44 #[.int .i64 L0a.W, .int .i64 L0a.H, .slice zx0.br.A L0a.br.length zx0.br.c, .slice zx0.ta.A L0a.ta.length zx0.ta.c, .slice zx0.tb.A L0a.tb.length zx0.tb.c, .slice zx0.bu.A L0a.bu.length zx0.bu.c, .slice zx0.ow.A L0a.ow.length zx0.ow.c, .slice zx0.tu.A L0a.tu.length zx0.tu.c, .slice zx0.so.A L0a.so.length zx0.so.c, .slice zx0.ar.A L0a.ar.length zx0.ar.c, .int .i64 L0a.ti] ∧ True ∧ we.heap.size ≤ B0 ∧ B0 ≤ E0 := ⟨_, _, rfl, FX0.out, KX0.out, HLX0.out, (by have hsQ3 := Q3.out.size; have hsQ4 := Q4.out.size; have h0 := HS0.out; (try simp only [alloc_size] at *); omega)⟩
  (try rw [eE0])
  have Zfx0 := Lib.hid (fx0)
  have Zkx0 := Lib.hid (kx0)
  have Zhx0 := Lib.hid (hx0)
  have Zhn := Lib.hid (hn)
  clear fx0 kx0 hx0 hn
  have RS := Lib.hid (R4.out)
  have T0 := Lib.hid (Chg.refl 0 0 w4)
  have KPc0 := Lib.hid (fun (w' : World) (hq : Chg 0 0 w4 w') => (show w'.cell? ⟨w.heap.size, 0, none⟩ = some (.int .i64 L0a.W) ∧ w'.cell? ⟨w.heap.size, 1, none⟩ = some (.int .i64 L0a.H) ∧ w'.cell? ⟨w.heap.size, 2, none⟩ = some (.slice A0a.br.A L0a.br.length A0a.br.c) ∧ w'.cell? ⟨w.heap.size, 3, none⟩ = some (.slice A0a.ta.A L0a.ta.length A0a.ta.c) ∧ w'.cell? ⟨w.heap.size, 4, none⟩ = some (.slice A0a.tb.A L0a.tb.length A0a.tb.c) ∧ w'.cell? ⟨w.heap.size, 5, none⟩ = some (.slice A0a.bu.A L0a.bu.length A0a.bu.c) ∧ w'.cell? ⟨w.heap.size, 6, none⟩ = some (.slice A0a.ow.A L0a.ow.length A0a.ow.c) ∧ w'.cell? ⟨w.heap.size, 7, none⟩ = some (.slice A0a.tu.A L0a.tu.length A0a.tu.c) ∧ w'.cell? ⟨w.heap.size, 8, none⟩ = some (.slice A0a.so.A L0a.so.length A0a.so.c) ∧ w'.cell? ⟨w.heap.size, 9, none⟩ = some (.slice A0a.ar.A L0a.ar.length A0a.ar.c) ∧ w'.cell? ⟨w.heap.size, 10, none⟩ = some (.int .i64 L0a.ti) ∧ w'.cell? ⟨E0, 0, none⟩ = some (.int .i64 L0a.W) ∧ w'.cell? ⟨E0, 1, none⟩ = some (.int .i64 L0a.H) ∧ w'.cell? ⟨E0, 2, none⟩ = some (.slice zx0.br.A L0a.br.length zx0.br.c) ∧ w'.cell? ⟨E0, 3, none⟩ = some (.slice zx0.ta.A L0a.ta.length zx0.ta.c) ∧ w'.cell? ⟨E0, 4, none⟩ = some (.slice zx0.tb.A L0a.tb.length zx0.tb.c) ∧ w'.cell? ⟨E0, 5, none⟩ = some (.slice zx0.bu.A L0a.bu.length zx0.bu.c) ∧ w'.cell? ⟨E0, 6, none⟩ = some (.slice zx0.ow.A L0a.ow.length zx0.ow.c) ∧ w'.cell? ⟨E0, 7, none⟩ = some (.slice zx0.tu.A L0a.tu.length zx0.tu.c) ∧ w'.cell? ⟨E0, 8, none⟩ = some (.slice zx0.so.A L0a.so.length zx0.so.c) ∧ w'.cell? ⟨E0, 9, none⟩ = some (.slice zx0.ar.A L0a.ar.length zx0.ar.c) ∧ w'.cell? ⟨E0, 10, none⟩ = some (.int .i64 L0a.ti) from ⟨(KE0.out.nx (RS.out.trans hq)).cell 0, (KE0.out.nx (RS.out.trans hq)).cell 1, (KE0.out.nx (RS.out.trans hq)).cell 2, (KE0.out.nx (RS.out.trans hq)).cell 3, (KE0.out.nx (RS.out.trans hq)).cell 4, (KE0.out.nx (RS.out.trans hq)).cell 5, (KE0.out.nx (RS.out.trans hq)).cell 6, (KE0.out.nx (RS.out.trans hq)).cell 7, (KE0.out.nx (RS.out.trans hq)).cell 8, (KE0.out.nx (RS.out.trans hq)).cell 9, (KE0.out.nx (RS.out.trans hq)).cell 10, (Zkx0.out.nx hq).cell 0, (Zkx0.out.nx hq).cell 1, (Zkx0.out.nx hq).cell 2, (Zkx0.out.nx hq).cell 3, (Zkx0.out.nx hq).cell 4, (Zkx0.out.nx hq).cell 5, (Zkx0.out.nx hq).cell 6, (Zkx0.out.nx hq).cell 7, (Zkx0.out.nx hq).cell 8, (Zkx0.out.nx hq).cell 9, (Zkx0.out.nx hq).cell 10⟩))
  go_wp2_with fail
  go_region_held3 (fun w' => w'.cell? ⟨w.heap.size, 0, none⟩ = some (.int .i64 L0a.W) ∧ w'.cell? ⟨w.heap.size, 1, none⟩ = some (.int .i64 L0a.H) ∧ w'.cell? ⟨w.heap.size, 2, none⟩ = some (.slice A0a.br.A L0a.br.length A0a.br.c) ∧ w'.cell? ⟨w.heap.size, 3, none⟩ = some (.slice A0a.ta.A L0a.ta.length A0a.ta.c) ∧ w'.cell? ⟨w.heap.size, 4, none⟩ = some (.slice A0a.tb.A L0a.tb.length A0a.tb.c) ∧ w'.cell? ⟨w.heap.size, 5, none⟩ = some (.slice A0a.bu.A L0a.bu.length A0a.bu.c) ∧ w'.cell? ⟨w.heap.size, 6, none⟩ = some (.slice A0a.ow.A L0a.ow.length A0a.ow.c) ∧ w'.cell? ⟨w.heap.size, 7, none⟩ = some (.slice A0a.tu.A L0a.tu.length A0a.tu.c) ∧ w'.cell? ⟨w.heap.size, 8, none⟩ = some (.slice A0a.so.A L0a.so.length A0a.so.c) ∧ w'.cell? ⟨w.heap.size, 9, none⟩ = some (.slice A0a.ar.A L0a.ar.length A0a.ar.c) ∧ w'.cell? ⟨w.heap.size, 10, none⟩ = some (.int .i64 L0a.ti) ∧ w'.cell? ⟨E0, 0, none⟩ = some (.int .i64 L0a.W) ∧ w'.cell? ⟨E0, 1, none⟩ = some (.int .i64 L0a.H) ∧ w'.cell? ⟨E0, 2, none⟩ = some (.slice zx0.br.A L0a.br.length zx0.br.c) ∧ w'.cell? ⟨E0, 3, none⟩ = some (.slice zx0.ta.A L0a.ta.length zx0.ta.c) ∧ w'.cell? ⟨E0, 4, none⟩ = some (.slice zx0.tb.A L0a.tb.length zx0.tb.c) ∧ w'.cell? ⟨E0, 5, none⟩ = some (.slice zx0.bu.A L0a.bu.length zx0.bu.c) ∧ w'.cell? ⟨E0, 6, none⟩ = some (.slice zx0.ow.A L0a.ow.length zx0.ow.c) ∧ w'.cell? ⟨E0, 7, none⟩ = some (.slice zx0.tu.A L0a.tu.length zx0.tu.c) ∧ w'.cell? ⟨E0, 8, none⟩ = some (.slice zx0.so.A L0a.so.length zx0.so.c) ∧ w'.cell? ⟨E0, 9, none⟩ = some (.slice zx0.ar.A L0a.ar.length zx0.ar.c) ∧ w'.cell? ⟨E0, 10, none⟩ = some (.int .i64 L0a.ti))
    (first | with_reducible exact KPc0.out _ (T0.out) | with_reducible exact KPc0.out _ (T0.out.dr) | with_reducible exact KPc0.out _ (T5.out) | with_reducible exact KPc0.out _ (T6.out) | fail)
    (first
      | (go_at_call 9; (with_reducible refine (lawsToNet _ _ _ (RDA0a.out _ (RS.out.trans T0.out.dr)) hnA0a).mono ?_); rintro e w5 ⟨zy0, rfl, oy0, by0⟩; have T5 : Hid (Chg 0 0 w4 w5) := Lib.hid (T0.out.dr.bl by0); have F5 := Lib.hid (fix_net oy0); clear by0 oy0)
      | (go_at_call 11; (with_reducible refine (lawsEqNet _ _ L0a _ _ _ _ _ (Zfx0.out.nx T5.out).here F5.out.here (netSm_of hnA0a)).mono ?_); rintro e w6 ⟨rfl, hg⟩; have T6 : Hid (Chg 0 0 w4 w6) := Lib.hid (T5.out.gb hg); clear hg)
      | fail)
  all_goals
    go_wp2_with fail
    go_ret
    exact ⟨rfl, BE.out.trans ((RS.out.trans T6.out).below (.inr (Nat.le_refl _)) BE.out.size)⟩
end Go.Proofs.Ytplpdjpldadcmaa
end

section
namespace Go.Proofs.Ytplpdjpldadcmaa
open Go.ChangeShapes Go.WideShapes Go.ChangeAt Go.RowKit
set_option linter.unusedVariables false
set_option maxRecDepth 20000

set_option maxHeartbeats 6400000 in
theorem walk_FnExactHasRoom (A0a : Na) (L0a : Nt) (S1a : Int) (S2a : Int) (S3a : Int) (w : World) (hcmA0a : NetCap A0a L0a) (hA0a : NetIn w w.heap.size A0a L0a) (hlA0a : NetWf L0a) (hwS1a : (Lit.int .i64 S1a).wf = true) (hwS2a : (Lit.int .i64 S2a).wf = true) (hwS3a : (Lit.int .i64 S3a).wf = true) :
    Calls Try.prog 4 #[.agg #[.int .i64 L0a.W, .int .i64 L0a.H, .slice A0a.br.A L0a.br.length A0a.br.c, .slice A0a.ta.A L0a.ta.length A0a.ta.c, .slice A0a.tb.A L0a.tb.length A0a.tb.c, .slice A0a.bu.A L0a.bu.length A0a.bu.c, .slice A0a.ow.A L0a.ow.length A0a.ow.c, .slice A0a.tu.A L0a.tu.length A0a.tu.c, .slice A0a.so.A L0a.so.length A0a.so.c, .slice A0a.ar.A L0a.ar.length A0a.ar.c, .int .i64 L0a.ti], .int .i64 S1a, .int .i64 S2a, .int .i64 S3a] w fun e w' => e = .returned (.bool true) ∧ Below w.heap.size w w' := by
  have HA0a := Lib.hid (hA0a)
  have HCA0a := Lib.hid (hcmA0a)
  have HWF0 := Lib.hid (hlA0a)
  have HWS1a := Lib.hid (hwS1a)
  have HWS2a := Lib.hid (hwS2a)
  have HWS3a := Lib.hid (hwS3a)
  clear hcmA0a hA0a hlA0a hwS1a hwS2a hwS3a
  by_cases hbig0 : (1048576 : Int) < ((sizeN L0a : Nat) : Int)
  · skip
    go_enter Try.func4, Try.ntmps4
    go_wp2_with fail
    have ke0 := Blk.new w 33 #[.int .i64 L0a.W, .int .i64 L0a.H, .slice A0a.br.A L0a.br.length A0a.br.c, .slice A0a.ta.A L0a.ta.length A0a.ta.c, .slice A0a.tb.A L0a.tb.length A0a.tb.c, .slice A0a.bu.A L0a.bu.length A0a.bu.c, .slice A0a.ow.A L0a.ow.length A0a.ow.c, .slice A0a.tu.A L0a.tu.length A0a.tu.c, .slice A0a.so.A L0a.so.length A0a.so.c, .slice A0a.ar.A L0a.ar.length A0a.ar.c, .int .i64 L0a.ti]
    have ge := gb_alloc (gb_refl w none) (.cells #[.int .i64 L0a.W, .int .i64 L0a.H, .slice A0a.br.A L0a.br.length A0a.br.c, .slice A0a.ta.A L0a.ta.length A0a.ta.c, .slice A0a.tb.A L0a.tb.length A0a.tb.c, .slice A0a.bu.A L0a.bu.length A0a.bu.c, .slice A0a.ow.A L0a.ow.length A0a.ow.c, .slice A0a.tu.A L0a.tu.length A0a.tu.c, .slice A0a.so.A L0a.so.length A0a.so.c, .slice A0a.ar.A L0a.ar.length A0a.ar.c, .int .i64 L0a.ti] 33)
    generalize (w.alloc (.cells #[.int .i64 L0a.W, .int .i64 L0a.H, .slice A0a.br.A L0a.br.length A0a.br.c, .slice A0a.ta.A L0a.ta.length A0a.ta.c, .slice A0a.tb.A L0a.tb.length A0a.tb.c, .slice A0a.bu.A L0a.bu.length A0a.bu.c, .slice A0a.ow.A L0a.ow.length A0a.ow.c, .slice A0a.tu.A L0a.tu.length A0a.tu.c, .slice A0a.so.A L0a.so.length A0a.so.c, .slice A0a.ar.A L0a.ar.length A0a.ar.c, .int .i64 L0a.ti] 33)) = we at *
    have KE0 : Hid (Blk we (w.heap.size) 33 #[.int .i64 L0a.W, .int .i64 L0a.H, .slice A0a.br.A L0a.br.length A0a.br.c, .slice A0a.ta.A L0a.ta.length A0a.ta.c, .slice A0a.tb.A L0a.tb.length A0a.tb.c, .slice A0a.bu.A L0a.bu.length A0a.bu.c, .slice A0a.ow.A L0a.ow.length A0a.ow.c, .slice A0a.tu.A L0a.tu.length A0a.tu.c, .slice A0a.so.A L0a.so.length A0a.so.c, .slice A0a.ar.A L0a.ar.length A0a.ar.c, .int .i64 L0a.ti]) := Lib.hid (ke0)
    have GE := Lib.hid (ge)
    have RZ0 := Lib.hid (Chg.refl 0 0 we)
    clear ge ke0
    have a0_0 : we.cell? ⟨w.heap.size, 0, none⟩ = some (.int .i64 L0a.W) := (KE0.out.nx (RZ0.out)).cell 0
    have a0_1 : we.cell? ⟨w.heap.size, 1, none⟩ = some (.int .i64 L0a.H) := (KE0.out.nx (RZ0.out)).cell 1
    have a0_2 : we.cell? ⟨w.heap.size, 2, none⟩ = some (.slice A0a.br.A L0a.br.length A0a.br.c) := (KE0.out.nx (RZ0.out)).cell 2
    have a0_3 : we.cell? ⟨w.heap.size, 3, none⟩ = some (.slice A0a.ta.A L0a.ta.length A0a.ta.c) := (KE0.out.nx (RZ0.out)).cell 3
    have a0_4 : we.cell? ⟨w.heap.size, 4, none⟩ = some (.slice A0a.tb.A L0a.tb.length A0a.tb.c) := (KE0.out.nx (RZ0.out)).cell 4
    have a0_5 : we.cell? ⟨w.heap.size, 5, none⟩ = some (.slice A0a.bu.A L0a.bu.length A0a.bu.c) := (KE0.out.nx (RZ0.out)).cell 5
    have a0_6 : we.cell? ⟨w.heap.size, 6, none⟩ = some (.slice A0a.ow.A L0a.ow.length A0a.ow.c) := (KE0.out.nx (RZ0.out)).cell 6
    have a0_7 : we.cell? ⟨w.heap.size, 7, none⟩ = some (.slice A0a.tu.A L0a.tu.length A0a.tu.c) := (KE0.out.nx (RZ0.out)).cell 7
    have a0_8 : we.cell? ⟨w.heap.size, 8, none⟩ = some (.slice A0a.so.A L0a.so.length A0a.so.c) := (KE0.out.nx (RZ0.out)).cell 8
    have a0_9 : we.cell? ⟨w.heap.size, 9, none⟩ = some (.slice A0a.ar.A L0a.ar.length A0a.ar.c) := (KE0.out.nx (RZ0.out)).cell 9
    have a0_10 : we.cell? ⟨w.heap.size, 10, none⟩ = some (.int .i64 L0a.ti) := (KE0.out.nx (RZ0.out)).cell 10
    refine (lawsSzNet _ _ _ _ ((HA0a.out.none (Nat.le_refl _) (gb_trans GE.out RZ0.out.still)).more (Nat.le_trans GE.out.size RZ0.out.size)) HCA0a.out (by omega) (by omega)).mono ?_
    rintro e wz1 ⟨rfl, hg⟩
    rw [leftL, if_pos hbig0]
    have RZ1 := Lib.hid (RZ0.out.gb hg)
    clear hg a0_0 a0_1 a0_2 a0_3 a0_4 a0_5 a0_6 a0_7 a0_8 a0_9 a0_10
    go_wp2_with fail
    go_ret
    exact ⟨rfl, (gb_below_none GE.out (Nat.le_refl _)).trans (RZ1.out.below (.inr (Nat.le_refl _)) GE.out.size)⟩
  have hnA0a : sizeN L0a ≤ 1048576 := by omega
  obtain ⟨q1, hq1⟩ : ∃ q : Int, (1048576 : Int) - ((sizeN L0a : Nat) : Int) = q := ⟨_, rfl⟩
  have hqa1 : ¬ q1 < 0 := by omega
  have hqb1 : q1 ≤ 1048576 := by omega
  go_enter Try.func4, Try.ntmps4
  go_wp2_with fail
  have ke0 := Blk.new w 33 #[.int .i64 L0a.W, .int .i64 L0a.H, .slice A0a.br.A L0a.br.length A0a.br.c, .slice A0a.ta.A L0a.ta.length A0a.ta.c, .slice A0a.tb.A L0a.tb.length A0a.tb.c, .slice A0a.bu.A L0a.bu.length A0a.bu.c, .slice A0a.ow.A L0a.ow.length A0a.ow.c, .slice A0a.tu.A L0a.tu.length A0a.tu.c, .slice A0a.so.A L0a.so.length A0a.so.c, .slice A0a.ar.A L0a.ar.length A0a.ar.c, .int .i64 L0a.ti]
  have ge := gb_alloc (gb_refl w none) (.cells #[.int .i64 L0a.W, .int .i64 L0a.H, .slice A0a.br.A L0a.br.length A0a.br.c, .slice A0a.ta.A L0a.ta.length A0a.ta.c, .slice A0a.tb.A L0a.tb.length A0a.tb.c, .slice A0a.bu.A L0a.bu.length A0a.bu.c, .slice A0a.ow.A L0a.ow.length A0a.ow.c, .slice A0a.tu.A L0a.tu.length A0a.tu.c, .slice A0a.so.A L0a.so.length A0a.so.c, .slice A0a.ar.A L0a.ar.length A0a.ar.c, .int .i64 L0a.ti] 33)
  generalize (w.alloc (.cells #[.int .i64 L0a.W, .int .i64 L0a.H, .slice A0a.br.A L0a.br.length A0a.br.c, .slice A0a.ta.A L0a.ta.length A0a.ta.c, .slice A0a.tb.A L0a.tb.length A0a.tb.c, .slice A0a.bu.A L0a.bu.length A0a.bu.c, .slice A0a.ow.A L0a.ow.length A0a.ow.c, .slice A0a.tu.A L0a.tu.length A0a.tu.c, .slice A0a.so.A L0a.so.length A0a.so.c, .slice A0a.ar.A L0a.ar.length A0a.ar.c, .int .i64 L0a.ti] 33)) = we at *
  have KE0 : Hid (Blk we (w.heap.size) 33 #[.int .i64 L0a.W, .int .i64 L0a.H, .slice A0a.br.A L0a.br.length A0a.br.c, .slice A0a.ta.A L0a.ta.length A0a.ta.c, .slice A0a.tb.A L0a.tb.length A0a.tb.c, .slice A0a.bu.A L0a.bu.length A0a.bu.c, .slice A0a.ow.A L0a.ow.length A0a.ow.c, .slice A0a.tu.A L0a.tu.length A0a.tu.c, .slice A0a.so.A L0a.so.length A0a.so.c, .slice A0a.ar.A L0a.ar.length A0a.ar.c, .int .i64 L0a.ti]) := Lib.hid (ke0)
  have GE := Lib.hid (ge)
  have RZ0 := Lib.hid (Chg.refl 0 0 we)
  clear ge ke0
  have a0_0 : we.cell? ⟨w.heap.size, 0, none⟩ = some (.int .i64 L0a.W) := (KE0.out.nx (RZ0.out)).cell 0
  have a0_1 : we.cell? ⟨w.heap.size, 1, none⟩ = some (.int .i64 L0a.H) := (KE0.out.nx (RZ0.out)).cell 1
  have a0_2 : we.cell? ⟨w.heap.size, 2, none⟩ = some (.slice A0a.br.A L0a.br.length A0a.br.c) := (KE0.out.nx (RZ0.out)).cell 2
  have a0_3 : we.cell? ⟨w.heap.size, 3, none⟩ = some (.slice A0a.ta.A L0a.ta.length A0a.ta.c) := (KE0.out.nx (RZ0.out)).cell 3
  have a0_4 : we.cell? ⟨w.heap.size, 4, none⟩ = some (.slice A0a.tb.A L0a.tb.length A0a.tb.c) := (KE0.out.nx (RZ0.out)).cell 4
  have a0_5 : we.cell? ⟨w.heap.size, 5, none⟩ = some (.slice A0a.bu.A L0a.bu.length A0a.bu.c) := (KE0.out.nx (RZ0.out)).cell 5
  have a0_6 : we.cell? ⟨w.heap.size, 6, none⟩ = some (.slice A0a.ow.A L0a.ow.length A0a.ow.c) := (KE0.out.nx (RZ0.out)).cell 6
  have a0_7 : we.cell? ⟨w.heap.size, 7, none⟩ = some (.slice A0a.tu.A L0a.tu.length A0a.tu.c) := (KE0.out.nx (RZ0.out)).cell 7
  have a0_8 : we.cell? ⟨w.heap.size, 8, none⟩ = some (.slice A0a.so.A L0a.so.length A0a.so.c) := (KE0.out.nx (RZ0.out)).cell 8
  have a0_9 : we.cell? ⟨w.heap.size, 9, none⟩ = some (.slice A0a.ar.A L0a.ar.length A0a.ar.c) := (KE0.out.nx (RZ0.out)).cell 9
  have a0_10 : we.cell? ⟨w.heap.size, 10, none⟩ = some (.int .i64 L0a.ti) := (KE0.out.nx (RZ0.out)).cell 10
  refine (lawsSzNet _ _ _ _ ((HA0a.out.none (Nat.le_refl _) (gb_trans GE.out RZ0.out.still)).more (Nat.le_trans GE.out.size RZ0.out.size)) HCA0a.out (by omega) (by omega)).mono ?_
  rintro e wz1 ⟨rfl, hg⟩
  rw [leftL, if_neg (by omega), hq1]
  have RZ1 := Lib.hid (RZ0.out.gb hg)
  clear hg a0_0 a0_1 a0_2 a0_3 a0_4 a0_5 a0_6 a0_7 a0_8 a0_9 a0_10 hq1
  obtain ⟨res, hres⟩ : ∃ r, hasRoomG L0a S1a S2a S3a = r := ⟨_, rfl⟩
  have HSP := Lib.hid (fun (A0a : Na) (w : World) (hA0a : NetIn w w.heap.size A0a L0a) (hnA0a : NetSm L0a) (hcA0a : NetCap A0a L0a) => show Calls Try.prog 12 #[.agg #[.int .i64 L0a.W, .int .i64 L0a.H, .slice A0a.br.A L0a.br.length A0a.br.c, .slice A0a.ta.A L0a.ta.length A0a.ta.c, .slice A0a.tb.A L0a.tb.length A0a.tb.c, .slice A0a.bu.A L0a.bu.length A0a.bu.c, .slice A0a.ow.A L0a.ow.length A0a.ow.c, .slice A0a.tu.A L0a.tu.length A0a.tu.c, .slice A0a.so.A L0a.so.length A0a.so.c, .slice A0a.ar.A L0a.ar.length A0a.ar.c, .int .i64 L0a.ti], .int .i64 S1a, .int .i64 S2a, .int .i64 S3a] w (RetB res w) from hres ▸ specHasRoom A0a L0a S1a S2a S3a w hA0a hnA0a)
  have HIM := Lib.hid (fun (A0a : Na) (w : World) (hA0a : NetIn w w.heap.size A0a L0a) (hnA0a : NetSm L0a) (hcA0a : NetCap A0a L0a) => show Calls Try.prog 13 #[.agg #[.int .i64 L0a.W, .int .i64 L0a.H, .slice A0a.br.A L0a.br.length A0a.br.c, .slice A0a.ta.A L0a.ta.length A0a.ta.c, .slice A0a.tb.A L0a.tb.length A0a.tb.c, .slice A0a.bu.A L0a.bu.length A0a.bu.c, .slice A0a.ow.A L0a.ow.length A0a.ow.c, .slice A0a.tu.A L0a.tu.length A0a.tu.c, .slice A0a.so.A L0a.so.length A0a.so.c, .slice A0a.ar.A L0a.ar.length A0a.ar.c, .int .i64 L0a.ti], .int .i64 S1a, .int .i64 S2a, .int .i64 S3a] w (RetB res w) from hres ▸ implHasRoom A0a L0a S1a S2a S3a w hA0a hnA0a hcA0a HWF0.out.br)
  clear hres
  have BE := Lib.hid (gb_below_none GE.out (Nat.le_refl _))
  have RDA0a := Lib.hid (fun (w' : World) (hq : Chg 0 0 we w') => HA0a.out.chg BE.out hq (.inr (Nat.le_refl _)))
  have a0_0 : wz1.cell? ⟨w.heap.size, 0, none⟩ = some (.int .i64 L0a.W) := (KE0.out.nx (RZ1.out)).cell 0
  have a0_1 : wz1.cell? ⟨w.heap.size, 1, none⟩ = some (.int .i64 L0a.H) := (KE0.out.nx (RZ1.out)).cell 1
  have a0_2 : wz1.cell? ⟨w.heap.size, 2, none⟩ = some (.slice A0a.br.A L0a.br.length A0a.br.c) := (KE0.out.nx (RZ1.out)).cell 2
  have a0_3 : wz1.cell? ⟨w.heap.size, 3, none⟩ = some (.slice A0a.ta.A L0a.ta.length A0a.ta.c) := (KE0.out.nx (RZ1.out)).cell 3
  have a0_4 : wz1.cell? ⟨w.heap.size, 4, none⟩ = some (.slice A0a.tb.A L0a.tb.length A0a.tb.c) := (KE0.out.nx (RZ1.out)).cell 4
  have a0_5 : wz1.cell? ⟨w.heap.size, 5, none⟩ = some (.slice A0a.bu.A L0a.bu.length A0a.bu.c) := (KE0.out.nx (RZ1.out)).cell 5
  have a0_6 : wz1.cell? ⟨w.heap.size, 6, none⟩ = some (.slice A0a.ow.A L0a.ow.length A0a.ow.c) := (KE0.out.nx (RZ1.out)).cell 6
  have a0_7 : wz1.cell? ⟨w.heap.size, 7, none⟩ = some (.slice A0a.tu.A L0a.tu.length A0a.tu.c) := (KE0.out.nx (RZ1.out)).cell 7
  have a0_8 : wz1.cell? ⟨w.heap.size, 8, none⟩ = some (.slice A0a.so.A L0a.so.length A0a.so.c) := (KE0.out.nx (RZ1.out)).cell 8
  have a0_9 : wz1.cell? ⟨w.heap.size, 9, none⟩ = some (.slice A0a.ar.A L0a.ar.length A0a.ar.c) := (KE0.out.nx (RZ1.out)).cell 9
  have a0_10 : wz1.cell? ⟨w.heap.size, 10, none⟩ = some (.int .i64 L0a.ti) := (KE0.out.nx (RZ1.out)).cell 10
  go_wp2_with fail
  refine (lawsToNet _ _ _ (RDA0a.out _ (RZ1.out)) hnA0a).mono ?_
  rintro e w1 ⟨zw0, rfl, ow0, bw0⟩
  have R1 : Hid (Chg 0 0 we w1) := Lib.hid ((RZ1.out).bl bw0)
  have Q1 := Lib.hid (chg_gb 0 0 (gb_of_below bw0 none))
  have F1 := Lib.hid (fix_net ow0)
  clear bw0 ow0 a0_0 a0_1 a0_2 a0_3 a0_4 a0_5 a0_6 a0_7 a0_8 a0_9 a0_10
  go_wp2_with fail
  refine (HSP.out _ _ (NetOwn.at (F1.out.here) (Nat.le_refl _)) (netSm_of hnA0a) (NetOwn.cap (F1.out.here))).mono ?_
  rintro e w2 ⟨rfl, bw⟩
  have R2 : Hid (Chg 0 0 we w2) := Lib.hid ((R1.out).gb bw)
  have Q2 := Lib.hid (chg_gb 0 0 bw)
  clear bw
  have HS0 := Lib.hid ((R2.out).size)
  have a0_0 : w2.cell? ⟨w.heap.size, 0, none⟩ = some (.int .i64 L0a.W) := (KE0.out.nx (R2.out)).cell 0
  have a0_1 : w2.cell? ⟨w.heap.size, 1, none⟩ = some (.int .i64 L0a.H) := (KE0.out.nx (R2.out)).cell 1
  have a0_2 : w2.cell? ⟨w.heap.size, 2, none⟩ = some (.slice A0a.br.A L0a.br.length A0a.br.c) := (KE0.out.nx (R2.out)).cell 2
  have a0_3 : w2.cell? ⟨w.heap.size, 3, none⟩ = some (.slice A0a.ta.A L0a.ta.length A0a.ta.c) := (KE0.out.nx (R2.out)).cell 3
  have a0_4 : w2.cell? ⟨w.heap.size, 4, none⟩ = some (.slice A0a.tb.A L0a.tb.length A0a.tb.c) := (KE0.out.nx (R2.out)).cell 4
  have a0_5 : w2.cell? ⟨w.heap.size, 5, none⟩ = some (.slice A0a.bu.A L0a.bu.length A0a.bu.c) := (KE0.out.nx (R2.out)).cell 5
  have a0_6 : w2.cell? ⟨w.heap.size, 6, none⟩ = some (.slice A0a.ow.A L0a.ow.length A0a.ow.c) := (KE0.out.nx (R2.out)).cell 6
  have a0_7 : w2.cell? ⟨w.heap.size, 7, none⟩ = some (.slice A0a.tu.A L0a.tu.length A0a.tu.c) := (KE0.out.nx (R2.out)).cell 7
  have a0_8 : w2.cell? ⟨w.heap.size, 8, none⟩ = some (.slice A0a.so.A L0a.so.length A0a.so.c) := (KE0.out.nx (R2.out)).cell 8
  have a0_9 : w2.cell? ⟨w.heap.size, 9, none⟩ = some (.slice A0a.ar.A L0a.ar.length A0a.ar.c) := (KE0.out.nx (R2.out)).cell 9
  have a0_10 : w2.cell? ⟨w.heap.size, 10, none⟩ = some (.int .i64 L0a.ti) := (KE0.out.nx (R2.out)).cell 10
  go_wp2_with fail
  refine (lawsToNet _ _ _ (RDA0a.out _ (R2.out)) hnA0a).mono ?_
  rintro e w3 ⟨zx0, rfl, ox0, bx0⟩
  have HLX0 := Lib.hid (trivial)
  have FX0 := Lib.hid (fix_net ox0)
  have Q3 := Lib.hid (chg_gb 0 0 (gb_of_below bx0 none))
  have R3 := Lib.hid ((R2.out).bl bx0)
  clear bx0 ox0 a0_0 a0_1 a0_2 a0_3 a0_4 a0_5 a0_6 a0_7 a0_8 a0_9 a0_10
  replace FX0 := Lib.hid ((FX0.out).al (.cells #[.int .i64 L0a.W, .int .i64 L0a.H, .slice zx0.br.A L0a.br.length zx0.br.c, .slice zx0.ta.A L0a.ta.length zx0.ta.c, .slice zx0.tb.A L0a.tb.length zx0.tb.c, .slice zx0.bu.A L0a.bu.length zx0.bu.c, .slice zx0.ow.A L0a.ow.length zx0.ow.c, .slice zx0.tu.A L0a.tu.length zx0.tu.c, .slice zx0.so.A L0a.so.length zx0.so.c, .slice zx0.ar.A L0a.ar.length zx0.ar.c, .int .i64 L0a.ti] 44))
  have KX0 := Lib.hid (Blk.new w3 44 #[.int .i64 L0a.W, .int .i64 L0a.H, .slice zx0.br.A L0a.br.length zx0.br.c, .slice zx0.ta.A L0a.ta.length zx0.ta.c, .slice zx0.tb.A L0a.tb.length zx0.tb.c, .slice zx0.bu.A L0a.bu.length zx0.bu.c, .slice zx0.ow.A L0a.ow.length zx0.ow.c, .slice zx0.tu.A L0a.tu.length zx0.tu.c, .slice zx0.so.A L0a.so.length zx0.so.c, .slice zx0.ar.A L0a.ar.length zx0.ar.c, .int .i64 L0a.ti])
  have x0_0 : (w3.alloc (.cells #[.int .i64 L0a.W, .int .i64 L0a.H, .slice zx0.br.A L0a.br.length zx0.br.c, .slice zx0.ta.A L0a.ta.length zx0.ta.c, .slice zx0.tb.A L0a.tb.length zx0.tb.c, .slice zx0.bu.A L0a.bu.length zx0.bu.c, .slice zx0.ow.A L0a.ow.length zx0.ow.c, .slice zx0.tu.A L0a.tu.length zx0.tu.c, .slice zx0.so.A L0a.so.length zx0.so.c, .slice zx0.ar.A L0a.ar.length zx0.ar.c, .int .i64 L0a.ti] 44)).cell? ⟨w3.heap.size, 0, none⟩ = some (.int .i64 L0a.W) := KX0.out.cell 0
  have x0_1 : (w3.alloc (.cells #[.int .i64 L0a.W, .int .i64 L0a.H, .slice zx0.br.A L0a.br.length zx0.br.c, .slice zx0.ta.A L0a.ta.length zx0.ta.c, .slice zx0.tb.A L0a.tb.length zx0.tb.c, .slice zx0.bu.A L0a.bu.length zx0.bu.c, .slice zx0.ow.A L0a.ow.length zx0.ow.c, .slice zx0.tu.A L0a.tu.length zx0.tu.c, .slice zx0.so.A L0a.so.length zx0.so.c, .slice zx0.ar.A L0a.ar.length zx0.ar.c, .int .i64 L0a.ti] 44)).cell? ⟨w3.heap.size, 1, none⟩ = some (.int .i64 L0a.H) := KX0.out.cell 1
  have x0_2 : (w3.alloc (.cells #[.int .i64 L0a.W, .int .i64 L0a.H, .slice zx0.br.A L0a.br.length zx0.br.c, .slice zx0.ta.A L0a.ta.length zx0.ta.c, .slice zx0.tb.A L0a.tb.length zx0.tb.c, .slice zx0.bu.A L0a.bu.length zx0.bu.c, .slice zx0.ow.A L0a.ow.length zx0.ow.c, .slice zx0.tu.A L0a.tu.length zx0.tu.c, .slice zx0.so.A L0a.so.length zx0.so.c, .slice zx0.ar.A L0a.ar.length zx0.ar.c, .int .i64 L0a.ti] 44)).cell? ⟨w3.heap.size, 2, none⟩ = some (.slice zx0.br.A L0a.br.length zx0.br.c) := KX0.out.cell 2
  have x0_3 : (w3.alloc (.cells #[.int .i64 L0a.W, .int .i64 L0a.H, .slice zx0.br.A L0a.br.length zx0.br.c, .slice zx0.ta.A L0a.ta.length zx0.ta.c, .slice zx0.tb.A L0a.tb.length zx0.tb.c, .slice zx0.bu.A L0a.bu.length zx0.bu.c, .slice zx0.ow.A L0a.ow.length zx0.ow.c, .slice zx0.tu.A L0a.tu.length zx0.tu.c, .slice zx0.so.A L0a.so.length zx0.so.c, .slice zx0.ar.A L0a.ar.length zx0.ar.c, .int .i64 L0a.ti] 44)).cell? ⟨w3.heap.size, 3, none⟩ = some (.slice zx0.ta.A L0a.ta.length zx0.ta.c) := KX0.out.cell 3
  have x0_4 : (w3.alloc (.cells #[.int .i64 L0a.W, .int .i64 L0a.H, .slice zx0.br.A L0a.br.length zx0.br.c, .slice zx0.ta.A L0a.ta.length zx0.ta.c, .slice zx0.tb.A L0a.tb.length zx0.tb.c, .slice zx0.bu.A L0a.bu.length zx0.bu.c, .slice zx0.ow.A L0a.ow.length zx0.ow.c, .slice zx0.tu.A L0a.tu.length zx0.tu.c, .slice zx0.so.A L0a.so.length zx0.so.c, .slice zx0.ar.A L0a.ar.length zx0.ar.c, .int .i64 L0a.ti] 44)).cell? ⟨w3.heap.size, 4, none⟩ = some (.slice zx0.tb.A L0a.tb.length zx0.tb.c) := KX0.out.cell 4
  have x0_5 : (w3.alloc (.cells #[.int .i64 L0a.W, .int .i64 L0a.H, .slice zx0.br.A L0a.br.length zx0.br.c, .slice zx0.ta.A L0a.ta.length zx0.ta.c, .slice zx0.tb.A L0a.tb.length zx0.tb.c, .slice zx0.bu.A L0a.bu.length zx0.bu.c, .slice zx0.ow.A L0a.ow.length zx0.ow.c, .slice zx0.tu.A L0a.tu.length zx0.tu.c, .slice zx0.so.A L0a.so.length zx0.so.c, .slice zx0.ar.A L0a.ar.length zx0.ar.c, .int .i64 L0a.ti] 44)).cell? ⟨w3.heap.size, 5, none⟩ = some (.slice zx0.bu.A L0a.bu.length zx0.bu.c) := KX0.out.cell 5
  have x0_6 : (w3.alloc (.cells #[.int .i64 L0a.W, .int .i64 L0a.H, .slice zx0.br.A L0a.br.length zx0.br.c, .slice zx0.ta.A L0a.ta.length zx0.ta.c, .slice zx0.tb.A L0a.tb.length zx0.tb.c, .slice zx0.bu.A L0a.bu.length zx0.bu.c, .slice zx0.ow.A L0a.ow.length zx0.ow.c, .slice zx0.tu.A L0a.tu.length zx0.tu.c, .slice zx0.so.A L0a.so.length zx0.so.c, .slice zx0.ar.A L0a.ar.length zx0.ar.c, .int .i64 L0a.ti] 44)).cell? ⟨w3.heap.size, 6, none⟩ = some (.slice zx0.ow.A L0a.ow.length zx0.ow.c) := KX0.out.cell 6
  have x0_7 : (w3.alloc (.cells #[.int .i64 L0a.W, .int .i64 L0a.H, .slice zx0.br.A L0a.br.length zx0.br.c, .slice zx0.ta.A L0a.ta.length zx0.ta.c, .slice zx0.tb.A L0a.tb.length zx0.tb.c, .slice zx0.bu.A L0a.bu.length zx0.bu.c, .slice zx0.ow.A L0a.ow.length zx0.ow.c, .slice zx0.tu.A L0a.tu.length zx0.tu.c, .slice zx0.so.A L0a.so.length zx0.so.c, .slice zx0.ar.A L0a.ar.length zx0.ar.c, .int .i64 L0a.ti] 44)).cell? ⟨w3.heap.size, 7, none⟩ = some (.slice zx0.tu.A L0a.tu.length zx0.tu.c) := KX0.out.cell 7
  have x0_8 : (w3.alloc (.cells #[.int .i64 L0a.W, .int .i64 L0a.H, .slice zx0.br.A L0a.br.length zx0.br.c, .slice zx0.ta.A L0a.ta.length zx0.ta.c, .slice zx0.tb.A L0a.tb.length zx0.tb.c, .slice zx0.bu.A L0a.bu.length zx0.bu.c, .slice zx0.ow.A L0a.ow.length zx0.ow.c, .slice zx0.tu.A L0a.tu.length zx0.tu.c, .slice zx0.so.A L0a.so.length zx0.so.c, .slice zx0.ar.A L0a.ar.length zx0.ar.c, .int .i64 L0a.ti] 44)).cell? ⟨w3.heap.size, 8, none⟩ = some (.slice zx0.so.A L0a.so.length zx0.so.c) := KX0.out.cell 8
  have x0_9 : (w3.alloc (.cells #[.int .i64 L0a.W, .int .i64 L0a.H, .slice zx0.br.A L0a.br.length zx0.br.c, .slice zx0.ta.A L0a.ta.length zx0.ta.c, .slice zx0.tb.A L0a.tb.length zx0.tb.c, .slice zx0.bu.A L0a.bu.length zx0.bu.c, .slice zx0.ow.A L0a.ow.length zx0.ow.c, .slice zx0.tu.A L0a.tu.length zx0.tu.c, .slice zx0.so.A L0a.so.length zx0.so.c, .slice zx0.ar.A L0a.ar.length zx0.ar.c, .int .i64 L0a.ti] 44)).cell? ⟨w3.heap.size, 9, none⟩ = some (.slice zx0.ar.A L0a.ar.length zx0.ar.c) := KX0.out.cell 9
  have x0_10 : (w3.alloc (.cells #[.int .i64 L0a.W, .int .i64 L0a.H, .slice zx0.br.A L0a.br.length zx0.br.c, .slice zx0.ta.A L0a.ta.length zx0.ta.c, .slice zx0.tb.A L0a.tb.length zx0.tb.c, .slice zx0.bu.A L0a.bu.length zx0.bu.c, .slice zx0.ow.A L0a.ow.length zx0.ow.c, .slice zx0.tu.A L0a.tu.length zx0.tu.c, .slice zx0.so.A L0a.so.length zx0.so.c, .slice zx0.ar.A L0a.ar.length zx0.ar.c, .int .i64 L0a.ti] 44)).cell? ⟨w3.heap.size, 10, none⟩ = some (.int .i64 L0a.ti) := KX0.out.cell 10
  go_wp2_with fail
  refine (HIM.out _ _ (NetOwn.at (FX0.out.here) (Nat.le_refl _)) (netSm_of hnA0a) (NetOwn.cap (FX0.out.here))).mono ?_
  rintro e w4 ⟨rfl, bg⟩
  have R4 : Hid (Chg 0 0 we w4) := Lib.hid (((R3.out.al (.cells #[.int .i64 L0a.W, .int .i64 L0a.H, .slice zx0.br.A L0a.br.length zx0.br.c, .slice zx0.ta.A L0a.ta.length zx0.ta.c, .slice zx0.tb.A L0a.tb.length zx0.tb.c, .slice zx0.bu.A L0a.bu.length zx0.bu.c, .slice zx0.ow.A L0a.ow.length zx0.ow.c, .slice zx0.tu.A L0a.tu.length zx0.tu.c, .slice zx0.so.A L0a.so.length zx0.so.c, .slice zx0.ar.A L0a.ar.length zx0.ar.c, .int .i64 L0a.ti] 44))).gb bg)
  have Q4 := Lib.hid (chg_gb 0 0 bg)
  clear bg
  clear x0_0 x0_1 x0_2 x0_3 x0_4 x0_5 x0_6 x0_7 x0_8 x0_9 x0_10
  replace FX0 := Lib.hid (FX0.out.nx Q4.out)
  replace KX0 := Lib.hid (KX0.out.nx Q4.out)
  obtain ⟨B0, E0, eE0, fx0, kx0, hx0, hn⟩ : ∃ B0 E0 : Nat, w3.heap.size = E0 ∧ Fix B0 E0 (fun w => NetOwn w B0 E0 zx0 L0a) w4 ∧ Blk w4 E0 44 #[.int .i64 L0a.W, .int .i64 L0a.H, .slice zx0.br.A L0a.br.length zx0.br.c, .slice zx0.ta.A L0a.ta.length zx0.ta.c, .slice zx0.tb.A L0a.tb.length zx0.tb.c, .slice zx0.bu.A L0a.bu.length zx0.bu.c, .slice zx0.ow.A L0a.ow.length zx0.ow.c, .slice zx0.tu.A L0a.tu.length zx0.tu.c, .slice zx0.so.A L0a.so.length zx0.so.c, .slice zx0.ar.A L0a.ar.length zx0.ar.c, .int .i64 L0a.ti] ∧ True ∧ we.heap.size ≤ B0 ∧ B0 ≤ E0 := ⟨_, _, rfl, FX0.out, KX0.out, HLX0.out, (by have hsQ3 := Q3.out.size; have hsQ4 := Q4.out.size; have h0 := HS0.out; (try simp only [alloc_size] at *); omega)⟩
  (try rw [eE0])
  have Zfx0 := Lib.hid (fx0)
  have Zkx0 := Lib.hid (kx0)
  have Zhx0 := Lib.hid (hx0)
  have Zhn := Lib.hid (hn)
  clear fx0 kx0 hx0 hn
  have RS := Lib.hid (R4.out)
  have T0 := Lib.hid (Chg.refl 0 0 w4)
  have KPc0 := Lib.hid (fun (w' : World) (hq : Chg 0 0 w4 w') => (show w'.cell? ⟨w.heap.size, 0, none⟩ = some (.int .i64 L0a.W) ∧ w'.cell? ⟨w.heap.size, 1, none⟩ = some (.int .i64 L0a.H) ∧ w'.cell? ⟨w.heap.size, 2, none⟩ = some (.slice A0a.br.A L0a.br.length A0a.br.c) ∧ w'.cell? ⟨w.heap.size, 3, none⟩ = some (.slice A0a.ta.A L0a.ta.length A0a.ta.c) ∧ w'.cell? ⟨w.heap.size, 4, none⟩ = some (.slice A0a.tb.A L0a.tb.length A0a.tb.c) ∧ w'.cell? ⟨w.heap.size, 5, none⟩ = some (.slice A0a.bu.A L0a.bu.length A0a.bu.c) ∧ w'.cell? ⟨w.heap.size, 6, none⟩ = some (.slice A0a.ow.A L0a.ow.length A0a.ow.c) ∧ w'.cell? ⟨w.heap.size, 7, none⟩ = some (.slice A0a.tu.A L0a.tu.length A0a.tu.c) ∧ w'.cell? ⟨w.heap.size, 8, none⟩ = some (.slice A0a.so.A L0a.so.length A0a.so.c) ∧ w'.cell? ⟨w.heap.size, 9, none⟩ = some (.slice A0a.ar.A L0a.ar.length A0a.ar.c) ∧ w'.cell? ⟨w.heap.size, 10, none⟩ = some (.int .i64 L0a.ti) ∧ w'.cell? ⟨E0, 0, none⟩ = some (.int .i64 L0a.W) ∧ w'.cell? ⟨E0, 1, none⟩ = some (.int .i64 L0a.H) ∧ w'.cell? ⟨E0, 2, none⟩ = some (.slice zx0.br.A L0a.br.length zx0.br.c) ∧ w'.cell? ⟨E0, 3, none⟩ = some (.slice zx0.ta.A L0a.ta.length zx0.ta.c) ∧ w'.cell? ⟨E0, 4, none⟩ = some (.slice zx0.tb.A L0a.tb.length zx0.tb.c) ∧ w'.cell? ⟨E0, 5, none⟩ = some (.slice zx0.bu.A L0a.bu.length zx0.bu.c) ∧ w'.cell? ⟨E0, 6, none⟩ = some (.slice zx0.ow.A L0a.ow.length zx0.ow.c) ∧ w'.cell? ⟨E0, 7, none⟩ = some (.slice zx0.tu.A L0a.tu.length zx0.tu.c) ∧ w'.cell? ⟨E0, 8, none⟩ = some (.slice zx0.so.A L0a.so.length zx0.so.c) ∧ w'.cell? ⟨E0, 9, none⟩ = some (.slice zx0.ar.A L0a.ar.length zx0.ar.c) ∧ w'.cell? ⟨E0, 10, none⟩ = some (.int .i64 L0a.ti) from ⟨(KE0.out.nx (RS.out.trans hq)).cell 0, (KE0.out.nx (RS.out.trans hq)).cell 1, (KE0.out.nx (RS.out.trans hq)).cell 2, (KE0.out.nx (RS.out.trans hq)).cell 3, (KE0.out.nx (RS.out.trans hq)).cell 4, (KE0.out.nx (RS.out.trans hq)).cell 5, (KE0.out.nx (RS.out.trans hq)).cell 6, (KE0.out.nx (RS.out.trans hq)).cell 7, (KE0.out.nx (RS.out.trans hq)).cell 8, (KE0.out.nx (RS.out.trans hq)).cell 9, (KE0.out.nx (RS.out.trans hq)).cell 10, (Zkx0.out.nx hq).cell 0, (Zkx0.out.nx hq).cell 1, (Zkx0.out.nx hq).cell 2, (Zkx0.out.nx hq).cell 3, (Zkx0.out.nx hq).cell 4, (Zkx0.out.nx hq).cell 5, (Zkx0.out.nx hq).cell 6, (Zkx0.out.nx hq).cell 7, (Zkx0.out.nx hq).cell 8, (Zkx0.out.nx hq).cell 9, (Zkx0.out.nx hq).cell 10⟩))
  go_wp2_with fail
  go_region_held3 (fun w' => w'.cell? ⟨w.heap.size, 0, none⟩ = some (.int .i64 L0a.W) ∧ w'.cell? ⟨w.heap.size, 1, none⟩ = some (.int .i64 L0a.H) ∧ w'.cell? ⟨w.heap.size, 2, none⟩ = some (.slice A0a.br.A L0a.br.length A0a.br.c) ∧ w'.cell? ⟨w.heap.size, 3, none⟩ = some (.slice A0a.ta.A L0a.ta.length A0a.ta.c) ∧ w'.cell? ⟨w.heap.size, 4, none⟩ = some (.slice A0a.tb.A L0a.tb.length A0a.tb.c) ∧ w'.cell? ⟨w.heap.size, 5, none⟩ = some (.slice A0a.bu.A L0a.bu.length A0a.bu.c) ∧ w'.cell? ⟨w.heap.size, 6, none⟩ = some (.slice A0a.ow.A L0a.ow.length A0a.ow.c) ∧ w'.cell? ⟨w.heap.size, 7, none⟩ = some (.slice A0a.tu.A L0a.tu.length A0a.tu.c) ∧ w'.cell? ⟨w.heap.size, 8, none⟩ = some (.slice A0a.so.A L0a.so.length A0a.so.c) ∧ w'.cell? ⟨w.heap.size, 9, none⟩ = some (.slice A0a.ar.A L0a.ar.length A0a.ar.c) ∧ w'.cell? ⟨w.heap.size, 10, none⟩ = some (.int .i64 L0a.ti) ∧ w'.cell? ⟨E0, 0, none⟩ = some (.int .i64 L0a.W) ∧ w'.cell? ⟨E0, 1, none⟩ = some (.int .i64 L0a.H) ∧ w'.cell? ⟨E0, 2, none⟩ = some (.slice zx0.br.A L0a.br.length zx0.br.c) ∧ w'.cell? ⟨E0, 3, none⟩ = some (.slice zx0.ta.A L0a.ta.length zx0.ta.c) ∧ w'.cell? ⟨E0, 4, none⟩ = some (.slice zx0.tb.A L0a.tb.length zx0.tb.c) ∧ w'.cell? ⟨E0, 5, none⟩ = some (.slice zx0.bu.A L0a.bu.length zx0.bu.c) ∧ w'.cell? ⟨E0, 6, none⟩ = some (.slice zx0.ow.A L0a.ow.length zx0.ow.c) ∧ w'.cell? ⟨E0, 7, none⟩ = some (.slice zx0.tu.A L0a.tu.length zx0.tu.c) ∧ w'.cell? ⟨E0, 8, none⟩ = some (.slice zx0.so.A L0a.so.length zx0.so.c) ∧ w'.cell? ⟨E0, 9, none⟩ = some (.slice zx0.ar.A L0a.ar.length zx0.ar.c) ∧ w'.cell? ⟨E0, 10, none⟩ = some (.int .i64 L0a.ti))
    (first | with_reducible exact KPc0.out _ (T0.out) | with_reducible exact KPc0.out _ (T0.out.dr) | with_reducible exact KPc0.out _ (T5.out) | with_reducible exact KPc0.out _ (T6.out) | fail)
    (first
      | (go_at_call 9; (with_reducible refine (lawsToNet _ _ _ (RDA0a.out _ (RS.out.trans T0.out.dr)) hnA0a).mono ?_); rintro e w5 ⟨zy0, rfl, oy0, by0⟩; have T5 : Hid (Chg 0 0 w4 w5) := Lib.hid (T0.out.dr.bl by0); have F5 := Lib.hid (fix_net oy0); clear by0 oy0)
      | (go_at_call 11; (with_reducible refine (lawsEqNet _ _ L0a _ _ _ _ _ (Zfx0.out.nx T5.out).here F5.out.here (netSm_of hnA0a)).mono ?_); rintro e w6 ⟨rfl, hg⟩; have T6 : Hid (Chg 0 0 w4 w6) := Lib.hid (T5.out.gb hg); clear hg)
      | fail)
  all_goals
    go_wp2_with fail
    go_ret
    exact ⟨rfl, BE.out.trans ((RS.out.trans T6.out).below (.inr (Nat.le_refl _)) BE.out.size)⟩
end Go.Proofs.Ytplpdjpldadcmaa
end

section
namespace Go.Proofs.Ytplpdjpldadcmaa
open Go.ChangeShapes Go.WideShapes Go.ChangeAt Go.RowKit
set_option linter.unusedVariables false
set_option maxRecDepth 20000

set_option maxHeartbeats 6400000 in
theorem walk_FnExactIsRequest (A0a : Na) (L0a : Nt) (S1a : Int) (S2a : Int) (S3a : Int) (w : World) (hcmA0a : NetCap A0a L0a) (hA0a : NetIn w w.heap.size A0a L0a) (hlA0a : NetWf L0a) (hwS1a : (Lit.int .i64 S1a).wf = true) (hwS2a : (Lit.int .i64 S2a).wf = true) (hwS3a : (Lit.int .i64 S3a).wf = true) :
    Calls Try.prog 5 #[.agg #[.int .i64 L0a.W, .int .i64 L0a.H, .slice A0a.br.A L0a.br.length A0a.br.c, .slice A0a.ta.A L0a.ta.length A0a.ta.c, .slice A0a.tb.A L0a.tb.length A0a.tb.c, .slice A0a.bu.A L0a.bu.length A0a.bu.c, .slice A0a.ow.A L0a.ow.length A0a.ow.c, .slice A0a.tu.A L0a.tu.length A0a.tu.c, .slice A0a.so.A L0a.so.length A0a.so.c, .slice A0a.ar.A L0a.ar.length A0a.ar.c, .int .i64 L0a.ti], .int .i64 S1a, .int .i64 S2a, .int .i64 S3a] w fun e w' => e = .returned (.bool true) ∧ Below w.heap.size w w' := by
  have HA0a := Lib.hid (hA0a)
  have HCA0a := Lib.hid (hcmA0a)
  have HWF0 := Lib.hid (hlA0a)
  have HWS1a := Lib.hid (hwS1a)
  have HWS2a := Lib.hid (hwS2a)
  have HWS3a := Lib.hid (hwS3a)
  clear hcmA0a hA0a hlA0a hwS1a hwS2a hwS3a
  by_cases hbig0 : (1048576 : Int) < ((sizeN L0a : Nat) : Int)
  · skip
    go_enter Try.func5, Try.ntmps5
    go_wp2_with fail
    have ke0 := Blk.new w 33 #[.int .i64 L0a.W, .int .i64 L0a.H, .slice A0a.br.A L0a.br.length A0a.br.c, .slice A0a.ta.A L0a.ta.length A0a.ta.c, .slice A0a.tb.A L0a.tb.length A0a.tb.c, .slice A0a.bu.A L0a.bu.length A0a.bu.c, .slice A0a.ow.A L0a.ow.length A0a.ow.c, .slice A0a.tu.A L0a.tu.length A0a.tu.c, .slice A0a.so.A L0a.so.length A0a.so.c, .slice A0a.ar.A L0a.ar.length A0a.ar.c, .int .i64 L0a.ti]
    have ge := gb_alloc (gb_refl w none) (.cells #[.int .i64 L0a.W, .int .i64 L0a.H, .slice A0a.br.A L0a.br.length A0a.br.c, .slice A0a.ta.A L0a.ta.length A0a.ta.c, .slice A0a.tb.A L0a.tb.length A0a.tb.c, .slice A0a.bu.A L0a.bu.length A0a.bu.c, .slice A0a.ow.A L0a.ow.length A0a.ow.c, .slice A0a.tu.A L0a.tu.length A0a.tu.c, .slice A0a.so.A L0a.so.length A0a.so.c, .slice A0a.ar.A L0a.ar.length A0a.ar.c, .int .i64 L0a.ti] 33)
    generalize (w.alloc (.cells #[.int .i64 L0a.W, .int .i64 L0a.H, .slice A0a.br.A L0a.br.length A0a.br.c, .slice A0a.ta.A L0a.ta.length A0a.ta.c, .slice A0a.tb.A L0a.tb.length A0a.tb.c, .slice A0a.bu.A L0a.bu.length A0a.bu.c, .slice A0a.ow.A L0a.ow.length A0a.ow.c, .slice A0a.tu.A L0a.tu.length A0a.tu.c, .slice A0a.so.A L0a.so.length A0a.so.c, .slice A0a.ar.A L0a.ar.length A0a.ar.c, .int .i64 L0a.ti] 33)) = we at *
    have KE0 : Hid (Blk we (w.heap.size) 33 #[.int .i64 L0a.W, .int .i64 L0a.H, .slice A0a.br.A L0a.br.length A0a.br.c, .slice A0a.ta.A L0a.ta.length A0a.ta.c, .slice A0a.tb.A L0a.tb.length A0a.tb.c, .slice A0a.bu.A L0a.bu.length A0a.bu.c, .slice A0a.ow.A L0a.ow.length A0a.ow.c, .slice A0a.tu.A L0a.tu.length A0a.tu.c, .slice A0a.so.A L0a.so.length A0a.so.c, .slice A0a.ar.A L0a.ar.length A0a.ar.c, .int .i64 L0a.ti]) := Lib.hid (ke0)
    have GE := Lib.hid (ge)
    have RZ0 := Lib.hid (Chg.refl 0 0 we)
    clear ge ke0
    have a0_0 : we.cell? ⟨w.heap.size, 0, none⟩ = some (.int .i64 L0a.W) := (KE0.out.nx (RZ0.out)).cell 0
    have a0_1 : we.cell? ⟨w.heap.size, 1, none⟩ = some (.int .i64 L0a.H) := (KE0.out.nx (RZ0.out)).cell 1
    have a0_2 : we.cell? ⟨w.heap.size, 2, none⟩ = some (.slice A0a.br.A L0a.br.length A0a.br.c) := (KE0.out.nx (RZ0.out)).cell 2
    have a0_3 : we.cell? ⟨w.heap.size, 3, none⟩ = some (.slice A0a.ta.A L0a.ta.length A0a.ta.c) := (KE0.out.nx (RZ0.out)).cell 3
    have a0_4 : we.cell? ⟨w.heap.size, 4, none⟩ = some (.slice A0a.tb.A L0a.tb.length A0a.tb.c) := (KE0.out.nx (RZ0.out)).cell 4
    have a0_5 : we.cell? ⟨w.heap.size, 5, none⟩ = some (.slice A0a.bu.A L0a.bu.length A0a.bu.c) := (KE0.out.nx (RZ0.out)).cell 5
    have a0_6 : we.cell? ⟨w.heap.size, 6, none⟩ = some (.slice A0a.ow.A L0a.ow.length A0a.ow.c) := (KE0.out.nx (RZ0.out)).cell 6
    have a0_7 : we.cell? ⟨w.heap.size, 7, none⟩ = some (.slice A0a.tu.A L0a.tu.length A0a.tu.c) := (KE0.out.nx (RZ0.out)).cell 7
    have a0_8 : we.cell? ⟨w.heap.size, 8, none⟩ = some (.slice A0a.so.A L0a.so.length A0a.so.c) := (KE0.out.nx (RZ0.out)).cell 8
    have a0_9 : we.cell? ⟨w.heap.size, 9, none⟩ = some (.slice A0a.ar.A L0a.ar.length A0a.ar.c) := (KE0.out.nx (RZ0.out)).cell 9
    have a0_10 : we.cell? ⟨w.heap.size, 10, none⟩ = some (.int .i64 L0a.ti) := (KE0.out.nx (RZ0.out)).cell 10
    refine (lawsSzNet _ _ _ _ ((HA0a.out.none (Nat.le_refl _) (gb_trans GE.out RZ0.out.still)).more (Nat.le_trans GE.out.size RZ0.out.size)) HCA0a.out (by omega) (by omega)).mono ?_
    rintro e wz1 ⟨rfl, hg⟩
    rw [leftL, if_pos hbig0]
    have RZ1 := Lib.hid (RZ0.out.gb hg)
    clear hg a0_0 a0_1 a0_2 a0_3 a0_4 a0_5 a0_6 a0_7 a0_8 a0_9 a0_10
    go_wp2_with fail
    go_ret
    exact ⟨rfl, (gb_below_none GE.out (Nat.le_refl _)).trans (RZ1.out.below (.inr (Nat.le_refl _)) GE.out.size)⟩
  have hnA0a : sizeN L0a ≤ 1048576 := by omega
  obtain ⟨q1, hq1⟩ : ∃ q : Int, (1048576 : Int) - ((sizeN L0a : Nat) : Int) = q := ⟨_, rfl⟩
  have hqa1 : ¬ q1 < 0 := by omega
  have hqb1 : q1 ≤ 1048576 := by omega
  go_enter Try.func5, Try.ntmps5
  go_wp2_with fail
  have ke0 := Blk.new w 33 #[.int .i64 L0a.W, .int .i64 L0a.H, .slice A0a.br.A L0a.br.length A0a.br.c, .slice A0a.ta.A L0a.ta.length A0a.ta.c, .slice A0a.tb.A L0a.tb.length A0a.tb.c, .slice A0a.bu.A L0a.bu.length A0a.bu.c, .slice A0a.ow.A L0a.ow.length A0a.ow.c, .slice A0a.tu.A L0a.tu.length A0a.tu.c, .slice A0a.so.A L0a.so.length A0a.so.c, .slice A0a.ar.A L0a.ar.length A0a.ar.c, .int .i64 L0a.ti]
  have ge := gb_alloc (gb_refl w none) (.cells #[.int .i64 L0a.W, .int .i64 L0a.H, .slice A0a.br.A L0a.br.length A0a.br.c, .slice A0a.ta.A L0a.ta.length A0a.ta.c, .slice A0a.tb.A L0a.tb.length A0a.tb.c, .slice A0a.bu.A L0a.bu.length A0a.bu.c, .slice A0a.ow.A L0a.ow.length A0a.ow.c, .slice A0a.tu.A L0a.tu.length A0a.tu.c, .slice A0a.so.A L0a.so.length A0a.so.c, .slice A0a.ar.A L0a.ar.length A0a.ar.c, .int .i64 L0a.ti] 33)
  generalize (w.alloc (.cells #[.int .i64 L0a.W, .int .i64 L0a.H, .slice A0a.br.A L0a.br.length A0a.br.c, .slice A0a.ta.A L0a.ta.length A0a.ta.c, .slice A0a.tb.A L0a.tb.length A0a.tb.c, .slice A0a.bu.A L0a.bu.length A0a.bu.c, .slice A0a.ow.A L0a.ow.length A0a.ow.c, .slice A0a.tu.A L0a.tu.length A0a.tu.c, .slice A0a.so.A L0a.so.length A0a.so.c, .slice A0a.ar.A L0a.ar.length A0a.ar.c, .int .i64 L0a.ti] 33)) = we at *
  have KE0 : Hid (Blk we (w.heap.size) 33 #[.int .i64 L0a.W, .int .i64 L0a.H, .slice A0a.br.A L0a.br.length A0a.br.c, .slice A0a.ta.A L0a.ta.length A0a.ta.c, .slice A0a.tb.A L0a.tb.length A0a.tb.c, .slice A0a.bu.A L0a.bu.length A0a.bu.c, .slice A0a.ow.A L0a.ow.length A0a.ow.c, .slice A0a.tu.A L0a.tu.length A0a.tu.c, .slice A0a.so.A L0a.so.length A0a.so.c, .slice A0a.ar.A L0a.ar.length A0a.ar.c, .int .i64 L0a.ti]) := Lib.hid (ke0)
  have GE := Lib.hid (ge)
  have RZ0 := Lib.hid (Chg.refl 0 0 we)
  clear ge ke0
  have a0_0 : we.cell? ⟨w.heap.size, 0, none⟩ = some (.int .i64 L0a.W) := (KE0.out.nx (RZ0.out)).cell 0
  have a0_1 : we.cell? ⟨w.heap.size, 1, none⟩ = some (.int .i64 L0a.H) := (KE0.out.nx (RZ0.out)).cell 1
  have a0_2 : we.cell? ⟨w.heap.size, 2, none⟩ = some (.slice A0a.br.A L0a.br.length A0a.br.c) := (KE0.out.nx (RZ0.out)).cell 2
  have a0_3 : we.cell? ⟨w.heap.size, 3, none⟩ = some (.slice A0a.ta.A L0a.ta.length A0a.ta.c) := (KE0.out.nx (RZ0.out)).cell 3
  have a0_4 : we.cell? ⟨w.heap.size, 4, none⟩ = some (.slice A0a.tb.A L0a.tb.length A0a.tb.c) := (KE0.out.nx (RZ0.out)).cell 4
  have a0_5 : we.cell? ⟨w.heap.size, 5, none⟩ = some (.slice A0a.bu.A L0a.bu.length A0a.bu.c) := (KE0.out.nx (RZ0.out)).cell 5
  have a0_6 : we.cell? ⟨w.heap.size, 6, none⟩ = some (.slice A0a.ow.A L0a.ow.length A0a.ow.c) := (KE0.out.nx (RZ0.out)).cell 6
  have a0_7 : we.cell? ⟨w.heap.size, 7, none⟩ = some (.slice A0a.tu.A L0a.tu.length A0a.tu.c) := (KE0.out.nx (RZ0.out)).cell 7
  have a0_8 : we.cell? ⟨w.heap.size, 8, none⟩ = some (.slice A0a.so.A L0a.so.length A0a.so.c) := (KE0.out.nx (RZ0.out)).cell 8
  have a0_9 : we.cell? ⟨w.heap.size, 9, none⟩ = some (.slice A0a.ar.A L0a.ar.length A0a.ar.c) := (KE0.out.nx (RZ0.out)).cell 9
  have a0_10 : we.cell? ⟨w.heap.size, 10, none⟩ = some (.int .i64 L0a.ti) := (KE0.out.nx (RZ0.out)).cell 10
  refine (lawsSzNet _ _ _ _ ((HA0a.out.none (Nat.le_refl _) (gb_trans GE.out RZ0.out.still)).more (Nat.le_trans GE.out.size RZ0.out.size)) HCA0a.out (by omega) (by omega)).mono ?_
  rintro e wz1 ⟨rfl, hg⟩
  rw [leftL, if_neg (by omega), hq1]
  have RZ1 := Lib.hid (RZ0.out.gb hg)
  clear hg a0_0 a0_1 a0_2 a0_3 a0_4 a0_5 a0_6 a0_7 a0_8 a0_9 a0_10 hq1
  obtain ⟨res, hres⟩ : ∃ r, isReqG L0a S1a S2a S3a = r := ⟨_, rfl⟩
  have HSP := Lib.hid (fun (A0a : Na) (w : World) (hA0a : NetIn w w.heap.size A0a L0a) (hnA0a : NetSm L0a) (hcA0a : NetCap A0a L0a) => show Calls Try.prog 14 #[.agg #[.int .i64 L0a.W, .int .i64 L0a.H, .slice A0a.br.A L0a.br.length A0a.br.c, .slice A0a.ta.A L0a.ta.length A0a.ta.c, .slice A0a.tb.A L0a.tb.length A0a.tb.c, .slice A0a.bu.A L0a.bu.length A0a.bu.c, .slice A0a.ow.A L0a.ow.length A0a.ow.c, .slice A0a.tu.A L0a.tu.length A0a.tu.c, .slice A0a.so.A L0a.so.length A0a.so.c, .slice A0a.ar.A L0a.ar.length A0a.ar.c, .int .i64 L0a.ti], .int .i64 S1a, .int .i64 S2a, .int .i64 S3a] w (RetB res w) from hres ▸ specIsRequest A0a L0a S1a S2a S3a w hA0a hnA0a)
  have HIM := Lib.hid (fun (A0a : Na) (w : World) (hA0a : NetIn w w.heap.size A0a L0a) (hnA0a : NetSm L0a) (hcA0a : NetCap A0a L0a) => show Calls Try.prog 15 #[.agg #[.int .i64 L0a.W, .int .i64 L0a.H, .slice A0a.br.A L0a.br.length A0a.br.c, .slice A0a.ta.A L0a.ta.length A0a.ta.c, .slice A0a.tb.A L0a.tb.length A0a.tb.c, .slice A0a.bu.A L0a.bu.length A0a.bu.c, .slice A0a.ow.A L0a.ow.length A0a.ow.c, .slice A0a.tu.A L0a.tu.length A0a.tu.c, .slice A0a.so.A L0a.so.length A0a.so.c, .slice A0a.ar.A L0a.ar.length A0a.ar.c, .int .i64 L0a.ti], .int .i64 S1a, .int .i64 S2a, .int .i64 S3a] w (RetB res w) from hres ▸ implIsRequest A0a L0a S1a S2a S3a w hA0a hnA0a hcA0a HWF0.out.br)
  clear hres
  have BE := Lib.hid (gb_below_none GE.out (Nat.le_refl _))
  have RDA0a := Lib.hid (fun (w' : World) (hq : Chg 0 0 we w') => HA0a.out.chg BE.out hq (.inr (Nat.le_refl _)))
  have a0_0 : wz1.cell? ⟨w.heap.size, 0, none⟩ = some (.int .i64 L0a.W) := (KE0.out.nx (RZ1.out)).cell 0
  have a0_1 : wz1.cell? ⟨w.heap.size, 1, none⟩ = some (.int .i64 L0a.H) := (KE0.out.nx (RZ1.out)).cell 1
  have a0_2 : wz1.cell? ⟨w.heap.size, 2, none⟩ = some (.slice A0a.br.A L0a.br.length A0a.br.c) := (KE0.out.nx (RZ1.out)).cell 2
  have a0_3 : wz1.cell? ⟨w.heap.size, 3, none⟩ = some (.slice A0a.ta.A L0a.ta.length A0a.ta.c) := (KE0.out.nx (RZ1.out)).cell 3
  have a0_4 : wz1.cell? ⟨w.heap.size, 4, none⟩ = some (.slice A0a.tb.A L0a.tb.length A0a.tb.c) := (KE0.out.nx (RZ1.out)).cell 4
  have a0_5 : wz1.cell? ⟨w.heap.size, 5, none⟩ = some (.slice A0a.bu.A L0a.bu.length A0a.bu.c) := (KE0.out.nx (RZ1.out)).cell 5
  have a0_6 : wz1.cell? ⟨w.heap.size, 6, none⟩ = some (.slice A0a.ow.A L0a.ow.length A0a.ow.c) := (KE0.out.nx (RZ1.out)).cell 6
  have a0_7 : wz1.cell? ⟨w.heap.size, 7, none⟩ = some (.slice A0a.tu.A L0a.tu.length A0a.tu.c) := (KE0.out.nx (RZ1.out)).cell 7
  have a0_8 : wz1.cell? ⟨w.heap.size, 8, none⟩ = some (.slice A0a.so.A L0a.so.length A0a.so.c) := (KE0.out.nx (RZ1.out)).cell 8
  have a0_9 : wz1.cell? ⟨w.heap.size, 9, none⟩ = some (.slice A0a.ar.A L0a.ar.length A0a.ar.c) := (KE0.out.nx (RZ1.out)).cell 9
  have a0_10 : wz1.cell? ⟨w.heap.size, 10, none⟩ = some (.int .i64 L0a.ti) := (KE0.out.nx (RZ1.out)).cell 10
  go_wp2_with fail
  refine (lawsToNet _ _ _ (RDA0a.out _ (RZ1.out)) hnA0a).mono ?_
  rintro e w1 ⟨zw0, rfl, ow0, bw0⟩
  have R1 : Hid (Chg 0 0 we w1) := Lib.hid ((RZ1.out).bl bw0)
  have Q1 := Lib.hid (chg_gb 0 0 (gb_of_below bw0 none))
  have F1 := Lib.hid (fix_net ow0)
  clear bw0 ow0 a0_0 a0_1 a0_2 a0_3 a0_4 a0_5 a0_6 a0_7 a0_8 a0_9 a0_10
  go_wp2_with fail
  refine (HSP.out _ _ (NetOwn.at (F1.out.here) (Nat.le_refl _)) (netSm_of hnA0a) (NetOwn.cap (F1.out.here))).mono ?_
  rintro e w2 ⟨rfl, bw⟩
  have R2 : Hid (Chg 0 0 we w2) := Lib.hid ((R1.out).gb bw)
  have Q2 := Lib.hid (chg_gb 0 0 bw)
  clear bw
  have HS0 := Lib.hid ((R2.out).size)
  have a0_0 : w2.cell? ⟨w.heap.size, 0, none⟩ = some (.int .i64 L0a.W) := (KE0.out.nx (R2.out)).cell 0
  have a0_1 : w2.cell? ⟨w.heap.size, 1, none⟩ = some (.int .i64 L0a.H) := (KE0.out.nx (R2.out)).cell 1
  have a0_2 : w2.cell? ⟨w.heap.size, 2, none⟩ = some (.slice A0a.br.A L0a.br.length A0a.br.c) := (KE0.out.nx (R2.out)).cell 2
  have a0_3 : w2.cell? ⟨w.heap.size, 3, none⟩ = some (.slice A0a.ta.A L0a.ta.length A0a.ta.c) := (KE0.out.nx (R2.out)).cell 3
  have a0_4 : w2.cell? ⟨w.heap.size, 4, none⟩ = some (.slice A0a.tb.A L0a.tb.length A0a.tb.c) := (KE0.out.nx (R2.out)).cell 4
  have a0_5 : w2.cell? ⟨w.heap.size, 5, none⟩ = some (.slice A0a.bu.A L0a.bu.length A0a.bu.c) := (KE0.out.nx (R2.out)).cell 5
  have a0_6 : w2.cell? ⟨w.heap.size, 6, none⟩ = some (.slice A0a.ow.A L0a.ow.length A0a.ow.c) := (KE0.out.nx (R2.out)).cell 6
  have a0_7 : w2.cell? ⟨w.heap.size, 7, none⟩ = some (.slice A0a.tu.A L0a.tu.length A0a.tu.c) := (KE0.out.nx (R2.out)).cell 7
  have a0_8 : w2.cell? ⟨w.heap.size, 8, none⟩ = some (.slice A0a.so.A L0a.so.length A0a.so.c) := (KE0.out.nx (R2.out)).cell 8
  have a0_9 : w2.cell? ⟨w.heap.size, 9, none⟩ = some (.slice A0a.ar.A L0a.ar.length A0a.ar.c) := (KE0.out.nx (R2.out)).cell 9
  have a0_10 : w2.cell? ⟨w.heap.size, 10, none⟩ = some (.int .i64 L0a.ti) := (KE0.out.nx (R2.out)).cell 10
  go_wp2_with fail
  refine (lawsToNet _ _ _ (RDA0a.out _ (R2.out)) hnA0a).mono ?_
  rintro e w3 ⟨zx0, rfl, ox0, bx0⟩
  have HLX0 := Lib.hid (trivial)
  have FX0 := Lib.hid (fix_net ox0)
  have Q3 := Lib.hid (chg_gb 0 0 (gb_of_below bx0 none))
  have R3 := Lib.hid ((R2.out).bl bx0)
  clear bx0 ox0 a0_0 a0_1 a0_2 a0_3 a0_4 a0_5 a0_6 a0_7 a0_8 a0_9 a0_10
  replace FX0 := Lib.hid ((FX0.out).al (.cells #[.int .i64 L0a.W, .int .i64 L0a.H, .slice zx0.br.A L0a.br.length zx0.br.c, .slice zx0.ta.A L0a.ta.length zx0.ta.c, .slice zx0.tb.A L0a.tb.length zx0.tb.c, .slice zx0.bu.A L0a.bu.length zx0.bu.c, .slice zx0.ow.A L0a.ow.length zx0.ow.c, .slice zx0.tu.A L0a.tu.length zx0.tu.c, .slice zx0.so.A L0a.so.length zx0.so.c, .slice zx0.ar.A L0a.ar.length zx0.ar.c, .int .i64 L0a.ti] 44))
  have KX0 := Lib.hid (Blk.new w3 44 #[.int .i64 L0a.W, .int .i64 L0a.H, .slice zx0.br.A L0a.br.length zx0.br.c, .slice zx0.ta.A L0a.ta.length zx0.ta.c, .slice zx0.tb.A L0a.tb.length zx0.tb.c, .slice zx0.bu.A L0a.bu.length zx0.bu.c, .slice zx0.ow.A L0a.ow.length zx0.ow.c, .slice zx0.tu.A L0a.tu.length zx0.tu.c, .slice zx0.so.A L0a.so.length zx0.so.c, .slice zx0.ar.A L0a.ar.length zx0.ar.c, .int .i64 L0a.ti])
  have x0_0 : (w3.alloc (.cells #[.int .i64 L0a.W, .int .i64 L0a.H, .slice zx0.br.A L0a.br.length zx0.br.c, .slice zx0.ta.A L0a.ta.length zx0.ta.c, .slice zx0.tb.A L0a.tb.length zx0.tb.c, .slice zx0.bu.A L0a.bu.length zx0.bu.c, .slice zx0.ow.A L0a.ow.length zx0.ow.c, .slice zx0.tu.A L0a.tu.length zx0.tu.c, .slice zx0.so.A L0a.so.length zx0.so.c, .slice zx0.ar.A L0a.ar.length zx0.ar.c, .int .i64 L0a.ti] 44)).cell? ⟨w3.heap.size, 0, none⟩ = some (.int .i64 L0a.W) := KX0.out.cell 0
  have x0_1 : (w3.alloc (.cells #[.int .i64 L0a.W, .int .i64 L0a.H, .slice zx0.br.A L0a.br.length zx0.br.c, .slice zx0.ta.A L0a.ta.length zx0.ta.c, .slice zx0.tb.A L0a.tb.length zx0.tb.c, .slice zx0.bu.A L0a.bu.length zx0.bu.c, .slice zx0.ow.A L0a.ow.length zx0.ow.c, .slice zx0.tu.A L0a.tu.length zx0.tu.c, .slice zx0.so.A L0a.so.length zx0.so.c, .slice zx0.ar.A L0a.ar.length zx0.ar.c, .int .i64 L0a.ti] 44)).cell? ⟨w3.heap.size, 1, none⟩ = some (.int .i64 L0a.H) := KX0.out.cell 1
  have x0_2 : (w3.alloc (.cells #[.int .i64 L0a.W, .int .i64 L0a.H, .slice zx0.br.A L0a.br.length zx0.br.c, .slice zx0.ta.A L0a.ta.length zx0.ta.c, .slice zx0.tb.A L0a.tb.length zx0.tb.c, .slice zx0.bu.A L0a.bu.length zx0.bu.c, .slice zx0.ow.A L0a.ow.length zx0.ow.c, .slice zx0.tu.A L0a.tu.length zx0.tu.c, .slice zx0.so.A L0a.so.length zx0.so.c, .slice zx0.ar.A L0a.ar.length zx0.ar.c, .int .i64 L0a.ti] 44)).cell? ⟨w3.heap.size, 2, none⟩ = some (.slice zx0.br.A L0a.br.length zx0.br.c) := KX0.out.cell 2
  have x0_3 : (w3.alloc (.cells #[.int .i64 L0a.W, .int .i64 L0a.H, .slice zx0.br.A L0a.br.length zx0.br.c, .slice zx0.ta.A L0a.ta.length zx0.ta.c, .slice zx0.tb.A L0a.tb.length zx0.tb.c, .slice zx0.bu.A L0a.bu.length zx0.bu.c, .slice zx0.ow.A L0a.ow.length zx0.ow.c, .slice zx0.tu.A L0a.tu.length zx0.tu.c, .slice zx0.so.A L0a.so.length zx0.so.c, .slice zx0.ar.A L0a.ar.length zx0.ar.c, .int .i64 L0a.ti] 44)).cell? ⟨w3.heap.size, 3, none⟩ = some (.slice zx0.ta.A L0a.ta.length zx0.ta.c) := KX0.out.cell 3
  have x0_4 : (w3.alloc (.cells #[.int .i64 L0a.W, .int .i64 L0a.H, .slice zx0.br.A L0a.br.length zx0.br.c, .slice zx0.ta.A L0a.ta.length zx0.ta.c, .slice zx0.tb.A L0a.tb.length zx0.tb.c, .slice zx0.bu.A L0a.bu.length zx0.bu.c, .slice zx0.ow.A L0a.ow.length zx0.ow.c, .slice zx0.tu.A L0a.tu.length zx0.tu.c, .slice zx0.so.A L0a.so.length zx0.so.c, .slice zx0.ar.A L0a.ar.length zx0.ar.c, .int .i64 L0a.ti] 44)).cell? ⟨w3.heap.size, 4, none⟩ = some (.slice zx0.tb.A L0a.tb.length zx0.tb.c) := KX0.out.cell 4
  have x0_5 : (w3.alloc (.cells #[.int .i64 L0a.W, .int .i64 L0a.H, .slice zx0.br.A L0a.br.length zx0.br.c, .slice zx0.ta.A L0a.ta.length zx0.ta.c, .slice zx0.tb.A L0a.tb.length zx0.tb.c, .slice zx0.bu.A L0a.bu.length zx0.bu.c, .slice zx0.ow.A L0a.ow.length zx0.ow.c, .slice zx0.tu.A L0a.tu.length zx0.tu.c, .slice zx0.so.A L0a.so.length zx0.so.c, .slice zx0.ar.A L0a.ar.length zx0.ar.c, .int .i64 L0a.ti] 44)).cell? ⟨w3.heap.size, 5, none⟩ = some (.slice zx0.bu.A L0a.bu.length zx0.bu.c) := KX0.out.cell 5
  have x0_6 : (w3.alloc (.cells #[.int .i64 L0a.W, .int .i64 L0a.H, .slice zx0.br.A L0a.br.length zx0.br.c, .slice zx0.ta.A L0a.ta.length zx0.ta.c, .slice zx0.tb.A L0a.tb.length zx0.tb.c, .slice zx0.bu.A L0a.bu.length zx0.bu.c, .slice zx0.ow.A L0a.ow.length zx0.ow.c, .slice zx0.tu.A L0a.tu.length zx0.tu.c, .slice zx0.so.A L0a.so.length zx0.so.c, .slice zx0.ar.A L0a.ar.length zx0.ar.c, .int .i64 L0a.ti] 44)).cell? ⟨w3.heap.size, 6, none⟩ = some (.slice zx0.ow.A L0a.ow.length zx0.ow.c) := KX0.out.cell 6
  have x0_7 : (w3.alloc (.cells #[.int .i64 L0a.W, .int .i64 L0a.H, .slice zx0.br.A L0a.br.length zx0.br.c, .slice zx0.ta.A L0a.ta.length zx0.ta.c, .slice zx0.tb.A L0a.tb.length zx0.tb.c, .slice zx0.bu.A L0a.bu.length zx0.bu.c, .slice zx0.ow.A L0a.ow.length zx0.ow.c, .slice zx0.tu.A L0a.tu.length zx0.tu.c, .slice zx0.so.A L0a.so.length zx0.so.c, .slice zx0.ar.A L0a.ar.length zx0.ar.c, .int .i64 L0a.ti] 44)).cell? ⟨w3.heap.size, 7, none⟩ = some (.slice zx0.tu.A L0a.tu.length zx0.tu.c) := KX0.out.cell 7
  have x0_8 : (w3.alloc (.cells #[.int .i64 L0a.W, .int .i64 L0a.H, .slice zx0.br.A L0a.br.length zx0.br.c, .slice zx0.ta.A L0a.ta.length zx0.ta.c, .slice zx0.tb.A L0a.tb.length zx0.tb.c, .slice zx0.bu.A L0a.bu.length zx0.bu.c, .slice zx0.ow.A L0a.ow.length zx0.ow.c, .slice zx0.tu.A L0a.tu.length zx0.tu.c, .slice zx0.so.A L0a.so.length zx0.so.c, .slice zx0.ar.A L0a.ar.length zx0.ar.c, .int .i64 L0a.ti] 44)).cell? ⟨w3.heap.size, 8, none⟩ = some (.slice zx0.so.A L0a.so.length zx0.so.c) := KX0.out.cell 8
  have x0_9 : (w3.alloc (.cells #[.int .i64 L0a.W, .int .i64 L0a.H, .slice zx0.br.A L0a.br.length zx0.br.c, .slice zx0.ta.A L0a.ta.length zx0.ta.c, .slice zx0.tb.A L0a.tb.length zx0.tb.c, .slice zx0.bu.A L0a.bu.length zx0.bu.c, .slice zx0.ow.A L0a.ow.length zx0.ow.c, .slice zx0.tu.A L0a.tu.length zx0.tu.c, .slice zx0.so.A L0a.so.length zx0.so.c, .slice zx0.ar.A L0a.ar.length zx0.ar.c, .int .i64 L0a.ti] 44)).cell? ⟨w3.heap.size, 9, none⟩ = some (.slice zx0.ar.A L0a.ar.length zx0.ar.c) := KX0.out.cell 9
  have x0_10 : (w3.alloc (.cells #[.int .i64 L0a.W, .int .i64 L0a.H, .slice zx0.br.A L0a.br.length zx0.br.c, .slice zx0.ta.A L0a.ta.length zx0.ta.c, .slice zx0.tb.A L0a.tb.length zx0.tb.c, .slice zx0.bu.A L0a.bu.length zx0.bu.c, .slice zx0.ow.A L0a.ow.length zx0.ow.c, .slice zx0.tu.A L0a.tu.length zx0.tu.c, .slice zx0.so.A L0a.so.length zx0.so.c, .slice zx0.ar.A L0a.ar.length zx0.ar.c, .int .i64 L0a.ti] 44)).cell? ⟨w3.heap.size, 10, none⟩ = some (.int .i64 L0a.ti) := KX0.out.cell 10
  go_wp2_with fail
  refine (HIM.out _ _ (NetOwn.at (FX0.out.here) (Nat.le_refl _)) (netSm_of hnA0a) (NetOwn.cap (FX0.out.here))).mono ?_
  rintro e w4 ⟨rfl, bg⟩
  have R4 : Hid (Chg 0 0 we w4) := Lib.hid (((R3.out.al (.cells #[.int .i64 L0a.W, .int .i64 L0a.H, .slice zx0.br.A L0a.br.length zx0.br.c, .slice zx0.ta.A L0a.ta.length zx0.ta.c, .slice zx0.tb.A L0a.tb.length zx0.tb.c, .slice zx0.bu.A L0a.bu.length zx0.bu.c, .slice zx0.ow.A L0a.ow.length zx0.ow.c, .slice zx0.tu.A L0a.tu.length zx0.tu.c, .slice zx0.so.A L0a.so.length zx0.so.c, .slice zx0.ar.A L0a.ar.length zx0.ar.c, .int .i64 L0a.ti] 44))).gb bg)
  have Q4 := Lib.hid (chg_gb 0 0 bg)
  clear bg
  clear x0_0 x0_1 x0_2 x0_3 x0_4 x0_5 x0_6 x0_7 x0_8 x0_9 x0_10
  replace FX0 := Lib.hid (FX0.out.nx Q4.out)
  replace KX0 := Lib.hid (KX0.out.nx Q4.out)
  obtain ⟨B0, E0, eE0, fx0, kx0, hx0, hn⟩ : ∃ B0 E0 : Nat, w3.heap.size = E0 ∧ Fix B0 E0 (fun w => NetOwn w B0 E0 zx0 L0a) w4 ∧ Blk w4 E0 44 #[.int .i64 L0a.W, .int .i64 L0a.H, .slice zx0.br.A L0a.br.length zx0.br.c, .slice zx0.ta.A L0a.ta.length zx0.ta.c, .slice zx0.tb.A L0a.tb.length zx0.tb.c, .slice zx0.bu.A L0a.bu.length zx0.bu.c, .slice zx0.ow.A L0a.ow.length zx0.ow.c, .slice zx0.tu.A L0a.tu.length zx0.tu.c, .slice zx0.so.A L0a.so.length zx0.so.c, .slice zx0.ar.A L0a.ar.length zx0.ar.c, .int .i64 L0a.ti] ∧ True ∧ we.heap.size ≤ B0 ∧ B0 ≤ E0 := ⟨_, _, rfl, FX0.out, KX0.out, HLX0.out, (by have hsQ3 := Q3.out.size; have hsQ4 := Q4.out.size; have h0 := HS0.out; (try simp only [alloc_size] at *); omega)⟩
  (try rw [eE0])
  have Zfx0 := Lib.hid (fx0)
  have Zkx0 := Lib.hid (kx0)
  have Zhx0 := Lib.hid (hx0)
  have Zhn := Lib.hid (hn)
  clear fx0 kx0 hx0 hn
  have RS := Lib.hid (R4.out)
  have T0 := Lib.hid (Chg.refl 0 0 w4)
  have KPc0 := Lib.hid (fun (w' : World) (hq : Chg 0 0 w4 w') => (show w'.cell? ⟨w.heap.size, 0, none⟩ = some (.int .i64 L0a.W) ∧ w'.cell? ⟨w.heap.size, 1, none⟩ = some (.int .i64 L0a.H) ∧ w'.cell? ⟨w.heap.size, 2, none⟩ = some (.slice A0a.br.A L0a.br.length A0a.br.c) ∧ w'.cell? ⟨w.heap.size, 3, none⟩ = some (.slice A0a.ta.A L0a.ta.length A0a.ta.c) ∧ w'.cell? ⟨w.heap.size, 4, none⟩ = some (.slice A0a.tb.A L0a.tb.length A0a.tb.c) ∧ w'.cell? ⟨w.heap.size, 5, none⟩ = some (.slice A0a.bu.A L0a.bu.length A0a.bu.c) ∧ w'.cell? ⟨w.heap.size, 6, none⟩ = some (.slice A0a.ow.A L0a.ow.length A0a.ow.c) ∧ w'.cell? ⟨w.heap.size, 7, none⟩ = some (.slice A0a.tu.A L0a.tu.length A0a.tu.c) ∧ w'.cell? ⟨w.heap.size, 8, none⟩ = some (.slice A0a.so.A L0a.so.length A0a.so.c) ∧ w'.cell? ⟨w.heap.size, 9, none⟩ = some (.slice A0a.ar.A L0a.ar.length A0a.ar.c) ∧ w'.cell? ⟨w.heap.size, 10, none⟩ = some (.int .i64 L0a.ti) ∧ w'.cell? ⟨E0, 0, none⟩ = some (.int .i64 L0a.W) ∧ w'.cell? ⟨E0, 1, none⟩ = some (.int .i64 L0a.H) ∧ w'.cell? ⟨E0, 2, none⟩ = some (.slice zx0.br.A L0a.br.length zx0.br.c) ∧ w'.cell? ⟨E0, 3, none⟩ = some (.slice zx0.ta.A L0a.ta.length zx0.ta.c) ∧ w'.cell? ⟨E0, 4, none⟩ = some (.slice zx0.tb.A L0a.tb.length zx0.tb.c) ∧ w'.cell? ⟨E0, 5, none⟩ = some (.slice zx0.bu.A L0a.bu.length zx0.bu.c) ∧ w'.cell? ⟨E0, 6, none⟩ = some (.slice zx0.ow.A L0a.ow.length zx0.ow.c) ∧ w'.cell? ⟨E0, 7, none⟩ = some (.slice zx0.tu.A L0a.tu.length zx0.tu.c) ∧ w'.cell? ⟨E0, 8, none⟩ = some (.slice zx0.so.A L0a.so.length zx0.so.c) ∧ w'.cell? ⟨E0, 9, none⟩ = some (.slice zx0.ar.A L0a.ar.length zx0.ar.c) ∧ w'.cell? ⟨E0, 10, none⟩ = some (.int .i64 L0a.ti) from ⟨(KE0.out.nx (RS.out.trans hq)).cell 0, (KE0.out.nx (RS.out.trans hq)).cell 1, (KE0.out.nx (RS.out.trans hq)).cell 2, (KE0.out.nx (RS.out.trans hq)).cell 3, (KE0.out.nx (RS.out.trans hq)).cell 4, (KE0.out.nx (RS.out.trans hq)).cell 5, (KE0.out.nx (RS.out.trans hq)).cell 6, (KE0.out.nx (RS.out.trans hq)).cell 7, (KE0.out.nx (RS.out.trans hq)).cell 8, (KE0.out.nx (RS.out.trans hq)).cell 9, (KE0.out.nx (RS.out.trans hq)).cell 10, (Zkx0.out.nx hq).cell 0, (Zkx0.out.nx hq).cell 1, (Zkx0.out.nx hq).cell 2, (Zkx0.out.nx hq).cell 3, (Zkx0.out.nx hq).cell 4, (Zkx0.out.nx hq).cell 5, (Zkx0.out.nx hq).cell 6, (Zkx0.out.nx hq).cell 7, (Zkx0.out.nx hq).cell 8, (Zkx0.out.nx hq).cell 9, (Zkx0.out.nx hq).cell 10⟩))
  go_wp2_with fail
  go_region_held3 (fun w' => w'.cell? ⟨w.heap.size, 0, none⟩ = some (.int .i64 L0a.W) ∧ w'.cell? ⟨w.heap.size, 1, none⟩ = some (.int .i64 L0a.H) ∧ w'.cell? ⟨w.heap.size, 2, none⟩ = some (.slice A0a.br.A L0a.br.length A0a.br.c) ∧ w'.cell? ⟨w.heap.size, 3, none⟩ = some (.slice A0a.ta.A L0a.ta.length A0a.ta.c) ∧ w'.cell? ⟨w.heap.size, 4, none⟩ = some (.slice A0a.tb.A L0a.tb.length A0a.tb.c) ∧ w'.cell? ⟨w.heap.size, 5, none⟩ = some (.slice A0a.bu.A L0a.bu.length A0a.bu.c) ∧ w'.cell? ⟨w.heap.size, 6, none⟩ = some (.slice A0a.ow.A L0a.ow.length A0a.ow.c) ∧ w'.cell? ⟨w.heap.size, 7, none⟩ = some (.slice A0a.tu.A L0a.tu.length A0a.tu.c) ∧ w'.cell? ⟨w.heap.size, 8, none⟩ = some (.slice A0a.so.A L0a.so.length A0a.so.c) ∧ w'.cell? ⟨w.heap.size, 9, none⟩ = some (.slice A0a.ar.A L0a.ar.length A0a.ar.c) ∧ w'.cell? ⟨w.heap.size, 10, none⟩ = some (.int .i64 L0a.ti) ∧ w'.cell? ⟨E0, 0, none⟩ = some (.int .i64 L0a.W) ∧ w'.cell? ⟨E0, 1, none⟩ = some (.int .i64 L0a.H) ∧ w'.cell? ⟨E0, 2, none⟩ = some (.slice zx0.br.A L0a.br.length zx0.br.c) ∧ w'.cell? ⟨E0, 3, none⟩ = some (.slice zx0.ta.A L0a.ta.length zx0.ta.c) ∧ w'.cell? ⟨E0, 4, none⟩ = some (.slice zx0.tb.A L0a.tb.length zx0.tb.c) ∧ w'.cell? ⟨E0, 5, none⟩ = some (.slice zx0.bu.A L0a.bu.length zx0.bu.c) ∧ w'.cell? ⟨E0, 6, none⟩ = some (.slice zx0.ow.A L0a.ow.length zx0.ow.c) ∧ w'.cell? ⟨E0, 7, none⟩ = some (.slice zx0.tu.A L0a.tu.length zx0.tu.c) ∧ w'.cell? ⟨E0, 8, none⟩ = some (.slice zx0.so.A L0a.so.length zx0.so.c) ∧ w'.cell? ⟨E0, 9, none⟩ = some (.slice zx0.ar.A L0a.ar.length zx0.ar.c) ∧ w'.cell? ⟨E0, 10, none⟩ = some (.int .i64 L0a.ti))
    (first | with_reducible exact KPc0.out _ (T0.out) | with_reducible exact KPc0.out _ (T0.out.dr) | with_reducible exact KPc0.out _ (T5.out) | with_reducible exact KPc0.out _ (T6.out) | fail)
    (first
      | (go_at_call 9; (with_reducible refine (lawsToNet _ _ _ (RDA0a.out _ (RS.out.trans T0.out.dr)) hnA0a).mono ?_); rintro e w5 ⟨zy0, rfl, oy0, by0⟩; have T5 : Hid (Chg 0 0 w4 w5) := Lib.hid (T0.out.dr.bl by0); have F5 := Lib.hid (fix_net oy0); clear by0 oy0)
      | (go_at_call 11; (with_reducible refine (lawsEqNet _ _ L0a _ _ _ _ _ (Zfx0.out.nx T5.out).here F5.out.here (netSm_of hnA0a)).mono ?_); rintro e w6 ⟨rfl, hg⟩; have T6 : Hid (Chg 0 0 w4 w6) := Lib.hid (T5.out.gb hg); clear hg)
      | fail)
  all_goals
    go_wp2_with fail
    go_ret
    exact ⟨rfl, BE.out.trans ((RS.out.trans T6.out).below (.inr (Nat.le_refl _)) BE.out.size)⟩
end Go.Proofs.Ytplpdjpldadcmaa
end

section
namespace Go.Proofs.Ytplpdjpldadcmaa
open Go.ChangeShapes Go.WideShapes Go.ChangeAt Go.RowKit
set_option linter.unusedVariables false

def markI (k0 n j : Nat) (l : List Int) : List Int := (List.range n).map fun t => if t < j then ((k0 + t : Nat) : Int) else l.getD t 0
theorem markI_zero (k0 n : Nat) (l : List Int) (h : l.length = n) : markI k0 n 0 l = l := by
  refine List.ext_getElem (by simp [markI, h]) fun i h1 h2 => ?_
  simp [markI, List.getElem?_eq_getElem h2]
theorem markI_succ (k0 n j : Nat) (l : List Int) : (markI k0 n j l).set j ((k0 + j : Nat) : Int) = markI k0 n (j + 1) l := by
  refine List.ext_getElem (by simp [markI]) fun i h1 h2 => ?_
  rw [List.getElem_set]
  by_cases e : j = i
  · subst e; simp [markI]
  · simp only [e, if_false, markI, List.getElem_map, List.getElem_range]
    by_cases hi : i < j
    · rw [if_pos hi, if_pos (by omega)]
    · rw [if_neg hi, if_neg (by omega)]
theorem markI_length (k0 n j : Nat) (l : List Int) : (markI k0 n j l).length = n := by simp [markI]
def marksI (k0 n : Nat) : List Int := markI k0 n n []
theorem markI_all (k0 n : Nat) (l : List Int) : markI k0 n n l = marksI k0 n := by
  refine List.ext_getElem (by simp [markI, marksI]) fun i h1 h2 => ?_
  have : i < n := by simpa [markI] using h1
  simp [markI, marksI, this]
theorem marksI_get (k0 n j : Nat) (h : j < n) : (marksI k0 n).getD j 0 = ((k0 + j : Nat) : Int) := by
  rw [List.getD_eq_getElem?_getD, List.getElem?_eq_getElem (by simp [marksI, markI]; exact h)]
  simp [marksI, markI, h]
theorem marksI_length (k0 n : Nat) : (marksI k0 n).length = n := markI_length k0 n n []

theorem lawsMarkI (v : Value) (base n k0 : Nat) (l : List Int) (w : World) (h : w.ownsRow base 3 1 v n (intsV l)) (hk : k0 + n ≤ 1000000000) :
    Calls Try.prog 20 #[v, .int .i64 (k0 : Int)] w fun e w' => e = .returned (.int .i64 ((k0 + n : Nat) : Int)) ∧ w'.ownsRow base 3 1 v n (intsV (marksI k0 n)) ∧ w.grownBy w' v.ownBlock := by
  have hxl := own_ints_length h
  obtain ⟨A, cap, rfl, ha⟩ := own_form h
  have h' := h
  rw [← markI_zero k0 n l hxl] at h'
  clear h hxl
  have H0 := Lib.hid h'
  clear h'
  go_enter Try.func20, Try.ntmps20
  go_wp2_with fail
  go_loopw [1, 5] (fun q i wr => ∃ j : Nat, j ≤ n ∧ q = .int .i64 ((k0 + j : Nat) : Int) ∧ i = .int .i64 (j : Int) ∧ wr.ownsRow base 3 1 (.slice A n cap) n (intsV (markI k0 n j l)) ∧ w.grownBy wr (Value.slice A n cap).ownBlock) (fun _ i _ => n - (intOf i).toNat)
  case atStart => exact ⟨0, Nat.zero_le _, rfl, rfl, H0.out, gb_refl _ _⟩
  case round =>
    obtain ⟨j, hj, rfl, rfl, hown, hgr⟩ := hrel
    have HG := Lib.hid hgr
    clear hgr
    by_cases hlt : j < n
    · obtain ⟨g, rfl⟩ := ha (by omega)
      clear ha
      have hc := hown.cellAt j (by omega)
      rw [List.getElem?_eq_getElem (by rw [intsV_length, markI_length]; omega)] at hc
      have hf := hown.frozenAt j
      obtain ⟨hown2, hg2⟩ := hown.stored j (.int .i64 ((k0 + j : Nat) : Int))
      rw [intsV_set, markI_succ] at hown2
      have HOWN := Lib.hid hown2
      have HGG := Lib.hid (gb_trans HG.out hg2)
      clear hown hown2 hg2
      go_wp2_with fail
      go_roundw
      case rel => exact ⟨j + 1, by omega, by go_num, by go_num, HOWN.out, HGG.out⟩
      case measure => simp [intOf]; omega
    · obtain rfl : j = n := by omega
      rw [markI_all] at hown
      have HOWN := Lib.hid hown
      clear hown
      go_wp2_with fail
      go_ret
      exact ⟨rfl, HOWN.out, HG.out⟩

theorem lawsHeldI (A : Option Addr) (n cap B k0 : Nat) (w : World) (h : IntAt w B A n (marksI k0 n)) (hk : k0 + n ≤ 1000000000) :
    Calls Try.prog 21 #[.slice A n cap, .int .i64 (k0 : Int)] w fun e w' => e = .returned (.int .i64 ((k0 + n : Nat) : Int)) ∧ w.grownBy w' none := by
  have H0 := Lib.hid h
  clear h
  go_enter Try.func21, Try.ntmps21
  go_wp2_with fail
  go_loopw [1, 5] (fun q i wr => ∃ j m : Nat, j ≤ n ∧ q = .int .i64 ((k0 + j : Nat) : Int) ∧ i = .int .i64 (j : Int) ∧ wr = w.drewN m) (fun _ i _ => n - (intOf i).toNat)
  case atStart => exact ⟨0, 0, Nat.zero_le _, rfl, rfl, rfl⟩
  case round =>
    obtain ⟨j, m, hj, rfl, rfl, rfl⟩ := hrel
    by_cases hlt : j < n
    · obtain ⟨g, off, rfl, _, hc⟩ := H0.out.at j hlt
      rw [marksI_get k0 n j hlt] at hc
      go_wp2_with fail
      go_roundw
      case rel => exact ⟨j + 1, _, by omega, by go_num, by go_num, rfl⟩
      case measure => simp [intOf]; omega
    · obtain rfl : j = n := by omega
      go_wp2_with fail
      go_ret
      exact ⟨rfl, gb_drewN (gb_refl _ _) _⟩

theorem lawsHeldOwn (v : Value) (base n k0 : Nat) (w : World) (h : w.ownsRow base 3 1 v n (intsV (marksI k0 n))) (hk : k0 + n ≤ 1000000000) :
    Calls Try.prog 21 #[v, .int .i64 (k0 : Int)] w fun e w' => e = .returned (.int .i64 ((k0 + n : Nat) : Int)) ∧ w.grownBy w' none := by
  obtain ⟨A, c, rfl, _⟩ := own_form h
  exact lawsHeldI A n c _ k0 w (intAt_own h (marksI_length k0 n) (Nat.le_refl _)) hk
end Go.Proofs.Ytplpdjpldadcmaa
end

section
namespace Go.Proofs.Ytplpdjpldadcmaa
open Go.ChangeShapes Go.WideShapes Go.ChangeAt Go.RowKit
set_option linter.unusedVariables false

theorem lawsMarkTable (v : Value) (base n k0 : Nat) (l : List Int) (w : World) (h : w.ownsRow base 3 1 v n (intsV l)) (hk : k0 + n ≤ 1000000000) :
    Calls Try.prog 73 #[.agg #[v], .int .i64 (k0 : Int)] w fun e w' => e = .returned (.int .i64 ((k0 + n : Nat) : Int)) ∧ w'.ownsRow base 3 1 v n (intsV (marksI k0 n)) ∧ w.grownBy w' v.ownBlock := by
  obtain ⟨A, cap, rfl, ha⟩ := own_form h
  have h' := h.alloc (.cells #[.slice A n cap] 39)
  have HO := Lib.hid h'
  clear h h' ha
  go_enter Try.func73, Try.ntmps73
  go_wp2_with fail
  refine (lawsMarkI _ base n k0 l _ HO.out hk).mono ?_
  rintro e w1 ⟨rfl, o1, g1⟩
  have O1 := Lib.hid o1
  have G1 := Lib.hid (gb_trans (gb_alloc (gb_refl w _) _) g1)
  clear o1 g1
  go_wp2_with fail
  go_ret
  exact ⟨rfl, O1.out, G1.out⟩
end Go.Proofs.Ytplpdjpldadcmaa
end

section
namespace Go.Proofs.Ytplpdjpldadcmaa
open Go.ChangeShapes Go.WideShapes Go.ChangeAt Go.RowKit
set_option linter.unusedVariables false
set_option maxRecDepth 20000

/-- The rows are marked; a world between. -/
theorem lawsMarkClasses (vr vc : Value) (base a b k0 : Nat) (R C : List Int) (w : World) (h : VRow w base vr vc a b R C) (hk : k0 + a + b ≤ 1000000000) :
    Calls Try.prog 49 #[.agg #[vr, vc], .int .i64 (k0 : Int)] w fun e w' => e = .returned (.int .i64 ((k0 + a + b : Nat) : Int)) ∧ VRow w' base vr vc a b (marksI k0 a) (marksI (k0 + a) b) ∧ ∃ w1, w1.ownsRow base 3 1 vr a (intsV (marksI k0 a)) ∧ w.grownBy w1 vr.ownBlock ∧ w1.grownBy w' vc.ownBlock := by
  obtain ⟨A1, c1, rfl, _⟩ := own_form h.r
  obtain ⟨A2, c2, rfl, _⟩ := own_form h.c
  have hg := gb_alloc (gb_refl w none) (.cells #[.slice A1 a c1, .slice A2 b c2] 41)
  have H1 := Lib.hid (h.gb hg)
  have HB1 := Lib.hid (Blk.new w 41 #[.slice A1 a c1, .slice A2 b c2])
  clear h hg
  go_enter Try.func49, Try.ntmps49
  go_wp2_with fail
  refine (lawsMarkTable _ base a k0 R _ H1.out.r (by omega)).mono ?_
  rintro e w1 ⟨rfl, o1, g1⟩
  have O1 := Lib.hid o1
  have OC := Lib.hid (row_kept H1.out.c g1 (fun j e => H1.out.ap j e))
  have e0 : w1.cell? ⟨w.heap.size, 1, none⟩ = some (.slice A2 b c2) := (HB1.out.grown g1 (fun e => own_ne H1.out.r HB1.out (by decide) e.symm)).cell 1
  have G1 := Lib.hid (gb_trans (gb_alloc (gb_refl w _) (.cells #[.slice A1 a c1, .slice A2 b c2] 41)) g1)
  clear o1 g1
  go_wp2_with fail
  refine (lawsMarkTable _ base b (k0 + a) C _ OC.out hk).mono ?_
  rintro e w2 ⟨rfl, o2, g2⟩
  have O2 := Lib.hid o2
  have OR := Lib.hid (row_kept O1.out g2 (fun j e e2 => H1.out.ap j e2 e))
  have G2 := Lib.hid g2
  clear o2 g2 e0
  go_wp2_with fail
  go_ret
  exact ⟨rfl, ⟨OR.out, O2.out, H1.out.ap⟩, w1, O1.out, G1.out, G2.out⟩
end Go.Proofs.Ytplpdjpldadcmaa
end

section
namespace Go.Proofs.Ytplpdjpldadcmaa
open Go.ChangeShapes Go.WideShapes Go.ChangeAt Go.RowKit
set_option linter.unusedVariables false

theorem lawsMarkMesh (W H : Int) (v : Value) (base n k0 : Nat) (l : List Int) (w : World) (h : w.ownsRow base 3 1 v n (intsV l)) (hk : k0 + n ≤ 1000000000) :
    Calls Try.prog 48 #[.agg #[.int .i64 W, .int .i64 H, v], .int .i64 (k0 : Int)] w fun e w' => e = .returned (.int .i64 ((k0 + n : Nat) : Int)) ∧ w'.ownsRow base 3 1 v n (intsV (marksI k0 n)) ∧ w.grownBy w' v.ownBlock := by
  obtain ⟨A, cap, rfl, ha⟩ := own_form h
  have h' := h.alloc (.cells #[.int .i64 W, .int .i64 H, .slice A n cap] 38)
  have HO := Lib.hid h'
  clear h h' ha
  go_enter Try.func48, Try.ntmps48
  go_wp2_with fail
  refine (lawsMarkI _ base n k0 l _ HO.out hk).mono ?_
  rintro e w1 ⟨rfl, o1, g1⟩
  have O1 := Lib.hid o1
  have G1 := Lib.hid (gb_trans (gb_alloc (gb_refl w _) _) g1)
  clear o1 g1
  go_wp2_with fail
  go_ret
  exact ⟨rfl, O1.out, G1.out⟩
end Go.Proofs.Ytplpdjpldadcmaa
end

section
namespace Go.Proofs.Ytplpdjpldadcmaa
open Go.ChangeShapes Go.WideShapes Go.ChangeAt Go.RowKit
set_option linter.unusedVariables false
set_option maxRecDepth 20000

def markSz (N : Nt) : Nat := N.br.length + (N.ta.length + N.tb.length) + sumL N.bu * 5 + N.ow.length + N.tu.length + sumL N.so * 5 + sumL N.ar * 5
def marksN (k0 : Nat) (N : Nt) : Nt := ⟨N.W, N.H, marksI k0 N.br.length, marksI (k0 + N.br.length) N.ta.length, marksI (k0 + N.br.length + N.ta.length) N.tb.length, marksFF (k0 + N.br.length + N.ta.length + N.tb.length) N.bu,
  marksI (k0 + N.br.length + N.ta.length + N.tb.length + sumL N.bu * 5) N.ow.length, marksI (k0 + N.br.length + N.ta.length + N.tb.length + sumL N.bu * 5 + N.ow.length) N.tu.length,
  marksFF (k0 + N.br.length + N.ta.length + N.tb.length + sumL N.bu * 5 + N.ow.length + N.tu.length) N.so, marksFF (k0 + N.br.length + N.ta.length + N.tb.length + sumL N.bu * 5 + N.ow.length + N.tu.length + sumL N.so * 5) N.ar, N.ti⟩
theorem markSz_le {N : Nt} (h : sizeN N ≤ 1048576) : markSz N ≤ 5242880 := by unfold sizeN at h; unfold markSz; omega
theorem Stp.blk {vs : List Value} {w a : World} {g : Nat} {t : TypeId} {cs : Array Value} (h : Stp vs w a) (hb : Blk w g t cs) (hne : ∀ (i : Nat) v, vs[i]? = some v → v.ownBlock ≠ some g) : Blk a g t cs := (h.block g hb.lt hne).trans hb
set_option maxHeartbeats 3200000 in
theorem lawsMarkNet (y : Na) (N : Nt) (base E k0 : Nat) (w : World) (h : NetOwn w base E y N) (hk : k0 + markSz N ≤ 1000000000) :
    Calls Try.prog 19 #[.agg #[.int .i64 N.W, .int .i64 N.H, .slice y.br.A N.br.length y.br.c, .slice y.ta.A N.ta.length y.ta.c, .slice y.tb.A N.tb.length y.tb.c, .slice y.bu.A N.bu.length y.bu.c, .slice y.ow.A N.ow.length y.ow.c, .slice y.tu.A N.tu.length y.tu.c, .slice y.so.A N.so.length y.so.c, .slice y.ar.A N.ar.length y.ar.c, .int .i64 N.ti], .int .i64 (k0 : Int)] w fun e w' => e = .returned (.int .i64 ((k0 + markSz N : Nat) : Int)) ∧ NetOwn w' base E y (marksN k0 N) ∧ Chg base E w w' := by
  obtain ⟨vb, vs, va, h⟩ := h
  unfold markSz at hk
  have nbbr := Lib.hid (show (.slice y.br.A N.br.length y.br.c : Value).ownBlock ≠ some w.heap.size from fun e => absurd (h.br.lt _ e).2 (Nat.lt_irrefl _))
  have nbta := Lib.hid (show (.slice y.ta.A N.ta.length y.ta.c : Value).ownBlock ≠ some w.heap.size from fun e => absurd (h.ta.lt _ e).2 (Nat.lt_irrefl _))
  have nbtb := Lib.hid (show (.slice y.tb.A N.tb.length y.tb.c : Value).ownBlock ≠ some w.heap.size from fun e => absurd (h.tb.lt _ e).2 (Nat.lt_irrefl _))
  have nbow := Lib.hid (show (.slice y.ow.A N.ow.length y.ow.c : Value).ownBlock ≠ some w.heap.size from fun e => absurd (h.ow.lt _ e).2 (Nat.lt_irrefl _))
  have nbtu := Lib.hid (show (.slice y.tu.A N.tu.length y.tu.c : Value).ownBlock ≠ some w.heap.size from fun e => absurd (h.tu.lt _ e).2 (Nat.lt_irrefl _))
  have nbbu := Lib.hid (show ∀ (i : Nat) v, vb[i]? = some v → v.ownBlock ≠ some w.heap.size from fun i v hv e => absurd (h.bu.fam.lt hv e).2 (Nat.lt_irrefl _))
  have nbso := Lib.hid (show ∀ (i : Nat) v, vs[i]? = some v → v.ownBlock ≠ some w.heap.size from fun i v hv e => absurd (h.so.fam.lt hv e).2 (Nat.lt_irrefl _))
  have nbar := Lib.hid (show ∀ (i : Nat) v, va[i]? = some v → v.ownBlock ≠ some w.heap.size from fun i v hv e => absurd (h.ar.fam.lt hv e).2 (Nat.lt_irrefl _))
  have X0 := Lib.hid (h.gb (gb_alloc (gb_refl w none) (.cells #[.int .i64 N.W, .int .i64 N.H, .slice y.br.A N.br.length y.br.c, .slice y.ta.A N.ta.length y.ta.c, .slice y.tb.A N.tb.length y.tb.c, .slice y.bu.A N.bu.length y.bu.c, .slice y.ow.A N.ow.length y.ow.c, .slice y.tu.A N.tu.length y.tu.c, .slice y.so.A N.so.length y.so.c, .slice y.ar.A N.ar.length y.ar.c, .int .i64 N.ti] 44)))
  have C0 := Lib.hid ((Chg.refl base E w).al (.cells #[.int .i64 N.W, .int .i64 N.H, .slice y.br.A N.br.length y.br.c, .slice y.ta.A N.ta.length y.ta.c, .slice y.tb.A N.tb.length y.tb.c, .slice y.bu.A N.bu.length y.bu.c, .slice y.ow.A N.ow.length y.ow.c, .slice y.tu.A N.tu.length y.tu.c, .slice y.so.A N.so.length y.so.c, .slice y.ar.A N.ar.length y.ar.c, .int .i64 N.ti] 44))
  have KE := Lib.hid (Blk.new w 44 #[.int .i64 N.W, .int .i64 N.H, .slice y.br.A N.br.length y.br.c, .slice y.ta.A N.ta.length y.ta.c, .slice y.tb.A N.tb.length y.tb.c, .slice y.bu.A N.bu.length y.bu.c, .slice y.ow.A N.ow.length y.ow.c, .slice y.tu.A N.tu.length y.tu.c, .slice y.so.A N.so.length y.so.c, .slice y.ar.A N.ar.length y.ar.c, .int .i64 N.ti])
  clear h
  go_enter Try.func19, Try.ntmps19
  go_wp2_with fail
  refine (lawsMarkMesh _ _ _ base N.br.length k0 N.br _ X0.out.br (by omega)).mono ?_
  rintro e w1 ⟨rfl, o1, g1⟩
  have X1 := Lib.hid (X0.out.setBr (L := marksI k0 N.br.length) (marksI_length _ _) g1 (by rw [marksI_length]; exact o1))
  have C1 := Lib.hid (C0.out.row g1 (fun j hj => X0.out.brE j hj))
  have K1 := Lib.hid (KE.out.grown g1 (Ne.symm nbbr.out))
  clear o1 g1
  obtain ⟨k1, hk1⟩ : ∃ k : Nat, k0 + N.br.length = k := ⟨_, rfl⟩
  rw [hk1]
  have ata : w1.cell? ⟨w.heap.size, 3, none⟩ = some (.slice y.ta.A N.ta.length y.ta.c) := K1.out.cell 3
  have atb : w1.cell? ⟨w.heap.size, 4, none⟩ = some (.slice y.tb.A N.tb.length y.tb.c) := K1.out.cell 4
  go_wp2_with fail
  refine (lawsMarkClasses _ _ base N.ta.length N.tb.length k1 N.ta N.tb _ X1.out.vrow (by omega)).mono ?_
  rintro e w2 ⟨rfl, v2, wm, o2, g2, h2⟩
  have X2 := Lib.hid ((X1.out.setTa (L := marksI k1 N.ta.length) (marksI_length _ _) g2 (by rw [marksI_length]; exact o2)).setTb (L := marksI (k1 + N.ta.length) N.tb.length) (marksI_length _ _) h2 (by rw [marksI_length]; exact v2.c))
  have C2 := Lib.hid ((C1.out.row g2 (fun j hj => X1.out.taE j hj)).row h2 (fun j hj => X1.out.tbE j hj))
  have K2 := Lib.hid ((K1.out.grown g2 (Ne.symm nbta.out)).grown h2 (Ne.symm nbtb.out))
  clear v2 o2 g2 h2
  clear ata atb
  obtain ⟨k2, hk2⟩ : ∃ k : Nat, k1 + N.ta.length + N.tb.length = k := ⟨_, rfl⟩
  rw [hk2]
  have abu : w2.cell? ⟨w.heap.size, 5, none⟩ = some (.slice y.bu.A N.bu.length y.bu.c) := K2.out.cell 5
  go_wp2_with fail
  refine (lawsMarkFSS _ base k2 vb N.bu _ X2.out.bu (by omega)).mono ?_
  rintro e w3 ⟨rfl, o3, g3⟩
  have X3 := Lib.hid (X2.out.setBu (DD := marksFF k2 N.bu) (markFF_length _ _ _) g3 o3.fam)
  have C3 := Lib.hid (C2.out.trans (g3.chg (fun i v k hv hk => X2.out.buF i v k hv hk)))
  have K3 := Lib.hid (g3.blk K2.out nbbu.out)
  clear o3 g3
  clear abu
  obtain ⟨k3, hk3⟩ : ∃ k : Nat, k2 + sumL N.bu * 5 = k := ⟨_, rfl⟩
  rw [hk3]
  have aow : w3.cell? ⟨w.heap.size, 6, none⟩ = some (.slice y.ow.A N.ow.length y.ow.c) := K3.out.cell 6
  go_wp2_with fail
  refine (lawsMarkI _ base N.ow.length k3 N.ow _ X3.out.ow (by omega)).mono ?_
  rintro e w4 ⟨rfl, o4, g4⟩
  have X4 := Lib.hid (X3.out.setOw (L := marksI k3 N.ow.length) (marksI_length _ _) g4 (by rw [marksI_length]; exact o4))
  have C4 := Lib.hid (C3.out.row g4 (fun j hj => X3.out.owE j hj))
  have K4 := Lib.hid (K3.out.grown g4 (Ne.symm nbow.out))
  clear o4 g4
  clear aow
  obtain ⟨k4, hk4⟩ : ∃ k : Nat, k3 + N.ow.length = k := ⟨_, rfl⟩
  rw [hk4]
  have atu : w4.cell? ⟨w.heap.size, 7, none⟩ = some (.slice y.tu.A N.tu.length y.tu.c) := K4.out.cell 7
  go_wp2_with fail
  refine (lawsMarkI _ base N.tu.length k4 N.tu _ X4.out.tu (by omega)).mono ?_
  rintro e w5 ⟨rfl, o5, g5⟩
  have X5 := Lib.hid (X4.out.setTu (L := marksI k4 N.tu.length) (marksI_length _ _) g5 (by rw [marksI_length]; exact o5))
  have C5 := Lib.hid (C4.out.row g5 (fun j hj => X4.out.tuE j hj))
  have K5 := Lib.hid (K4.out.grown g5 (Ne.symm nbtu.out))
  clear o5 g5
  clear atu
  obtain ⟨k5, hk5⟩ : ∃ k : Nat, k4 + N.tu.length = k := ⟨_, rfl⟩
  rw [hk5]
  have aso : w5.cell? ⟨w.heap.size, 8, none⟩ = some (.slice y.so.A N.so.length y.so.c) := K5.out.cell 8
  go_wp2_with fail
  refine (lawsMarkFSS _ base k5 vs N.so _ X5.out.so (by omega)).mono ?_
  rintro e w6 ⟨rfl, o6, g6⟩
  have X6 := Lib.hid (X5.out.setSo (DD := marksFF k5 N.so) (markFF_length _ _ _) g6 o6.fam)
  have C6 := Lib.hid (C5.out.trans (g6.chg (fun i v k hv hk => X5.out.soF i v k hv hk)))
  have K6 := Lib.hid (g6.blk K5.out nbso.out)
  clear o6 g6
  clear aso
  obtain ⟨k6, hk6⟩ : ∃ k : Nat, k5 + sumL N.so * 5 = k := ⟨_, rfl⟩
  rw [hk6]
  have aar : w6.cell? ⟨w.heap.size, 9, none⟩ = some (.slice y.ar.A N.ar.length y.ar.c) := K6.out.cell 9
  go_wp2_with fail
  refine (lawsMarkFSS _ base k6 va N.ar _ X6.out.ar (by omega)).mono ?_
  rintro e w7 ⟨rfl, o7, g7⟩
  have X7 := Lib.hid (X6.out.setAr (DD := marksFF k6 N.ar) (markFF_length _ _ _) g7 o7.fam)
  have C7 := Lib.hid (C6.out.trans (g7.chg (fun i v k hv hk => X6.out.arF i v k hv hk)))
  have K7 := Lib.hid (g7.blk K6.out nbar.out)
  clear o7 g7
  clear aar
  obtain ⟨k7, hk7⟩ : ∃ k : Nat, k6 + sumL N.ar * 5 = k := ⟨_, rfl⟩
  rw [hk7]
  have HX := Lib.hid (show k0 + markSz N = k7 by unfold markSz; omega)
  have HK1 := Lib.hid hk1
  have HK2 := Lib.hid hk2
  have HK3 := Lib.hid hk3
  have HK4 := Lib.hid hk4
  have HK5 := Lib.hid hk5
  have HK6 := Lib.hid hk6
  have HK7 := Lib.hid hk7
  clear hk1 hk2 hk3 hk4 hk5 hk6 hk7 hk
  go_wp2_with fail
  go_ret
  refine ⟨by rw [HX.out]; rfl, ⟨vb, vs, va, ?_⟩, C7.out⟩
  have hx := X7.out
  have q1 := HK1.out
  have q2 := HK2.out
  have q3 := HK3.out
  have q4 := HK4.out
  have q5 := HK5.out
  have q6 := HK6.out
  have q7 := HK7.out
  subst q1 q2 q3 q4 q5 q6 q7
  exact hx
end Go.Proofs.Ytplpdjpldadcmaa
end

section
namespace Go.Proofs.Ytplpdjpldadcmaa
open Go.ChangeShapes Go.WideShapes Go.ChangeAt Go.RowKit
set_option linter.unusedVariables false
set_option maxRecDepth 20000

set_option maxHeartbeats 6400000 in
theorem walk_FnExactRequestsAt (A0a : Na) (L0a : Nt) (S1a : Int) (S2a : Int) (w : World) (hcmA0a : NetCap A0a L0a) (hA0a : NetIn w w.heap.size A0a L0a) (hlA0a : NetWf L0a) (hwS1a : (Lit.int .i64 S1a).wf = true) (hwS2a : (Lit.int .i64 S2a).wf = true) :
    Calls Try.prog 6 #[.agg #[.int .i64 L0a.W, .int .i64 L0a.H, .slice A0a.br.A L0a.br.length A0a.br.c, .slice A0a.ta.A L0a.ta.length A0a.ta.c, .slice A0a.tb.A L0a.tb.length A0a.tb.c, .slice A0a.bu.A L0a.bu.length A0a.bu.c, .slice A0a.ow.A L0a.ow.length A0a.ow.c, .slice A0a.tu.A L0a.tu.length A0a.tu.c, .slice A0a.so.A L0a.so.length A0a.so.c, .slice A0a.ar.A L0a.ar.length A0a.ar.c, .int .i64 L0a.ti], .int .i64 S1a, .int .i64 S2a] w fun e w' => e = .returned (.bool true) ∧ Below w.heap.size w w' := by
  have HA0a := Lib.hid (hA0a)
  have HCA0a := Lib.hid (hcmA0a)
  have HWF0 := Lib.hid (hlA0a)
  have HWS1a := Lib.hid (hwS1a)
  have HWS2a := Lib.hid (hwS2a)
  clear hcmA0a hA0a hlA0a hwS1a hwS2a
  by_cases hbig0 : (1048576 : Int) < ((sizeN L0a : Nat) : Int)
  · skip
    go_enter Try.func6, Try.ntmps6
    go_wp2_with fail
    have ke0 := Blk.new w 33 #[.int .i64 L0a.W, .int .i64 L0a.H, .slice A0a.br.A L0a.br.length A0a.br.c, .slice A0a.ta.A L0a.ta.length A0a.ta.c, .slice A0a.tb.A L0a.tb.length A0a.tb.c, .slice A0a.bu.A L0a.bu.length A0a.bu.c, .slice A0a.ow.A L0a.ow.length A0a.ow.c, .slice A0a.tu.A L0a.tu.length A0a.tu.c, .slice A0a.so.A L0a.so.length A0a.so.c, .slice A0a.ar.A L0a.ar.length A0a.ar.c, .int .i64 L0a.ti]
    have ge := gb_alloc (gb_refl w none) (.cells #[.int .i64 L0a.W, .int .i64 L0a.H, .slice A0a.br.A L0a.br.length A0a.br.c, .slice A0a.ta.A L0a.ta.length A0a.ta.c, .slice A0a.tb.A L0a.tb.length A0a.tb.c, .slice A0a.bu.A L0a.bu.length A0a.bu.c, .slice A0a.ow.A L0a.ow.length A0a.ow.c, .slice A0a.tu.A L0a.tu.length A0a.tu.c, .slice A0a.so.A L0a.so.length A0a.so.c, .slice A0a.ar.A L0a.ar.length A0a.ar.c, .int .i64 L0a.ti] 33)
    generalize (w.alloc (.cells #[.int .i64 L0a.W, .int .i64 L0a.H, .slice A0a.br.A L0a.br.length A0a.br.c, .slice A0a.ta.A L0a.ta.length A0a.ta.c, .slice A0a.tb.A L0a.tb.length A0a.tb.c, .slice A0a.bu.A L0a.bu.length A0a.bu.c, .slice A0a.ow.A L0a.ow.length A0a.ow.c, .slice A0a.tu.A L0a.tu.length A0a.tu.c, .slice A0a.so.A L0a.so.length A0a.so.c, .slice A0a.ar.A L0a.ar.length A0a.ar.c, .int .i64 L0a.ti] 33)) = we at *
    have KE0 : Hid (Blk we (w.heap.size) 33 #[.int .i64 L0a.W, .int .i64 L0a.H, .slice A0a.br.A L0a.br.length A0a.br.c, .slice A0a.ta.A L0a.ta.length A0a.ta.c, .slice A0a.tb.A L0a.tb.length A0a.tb.c, .slice A0a.bu.A L0a.bu.length A0a.bu.c, .slice A0a.ow.A L0a.ow.length A0a.ow.c, .slice A0a.tu.A L0a.tu.length A0a.tu.c, .slice A0a.so.A L0a.so.length A0a.so.c, .slice A0a.ar.A L0a.ar.length A0a.ar.c, .int .i64 L0a.ti]) := Lib.hid (ke0)
    have GE := Lib.hid (ge)
    have RZ0 := Lib.hid (Chg.refl 0 0 we)
    clear ge ke0
    have a0_0 : we.cell? ⟨w.heap.size, 0, none⟩ = some (.int .i64 L0a.W) := (KE0.out.nx (RZ0.out)).cell 0
    have a0_1 : we.cell? ⟨w.heap.size, 1, none⟩ = some (.int .i64 L0a.H) := (KE0.out.nx (RZ0.out)).cell 1
    have a0_2 : we.cell? ⟨w.heap.size, 2, none⟩ = some (.slice A0a.br.A L0a.br.length A0a.br.c) := (KE0.out.nx (RZ0.out)).cell 2
    have a0_3 : we.cell? ⟨w.heap.size, 3, none⟩ = some (.slice A0a.ta.A L0a.ta.length A0a.ta.c) := (KE0.out.nx (RZ0.out)).cell 3
    have a0_4 : we.cell? ⟨w.heap.size, 4, none⟩ = some (.slice A0a.tb.A L0a.tb.length A0a.tb.c) := (KE0.out.nx (RZ0.out)).cell 4
    have a0_5 : we.cell? ⟨w.heap.size, 5, none⟩ = some (.slice A0a.bu.A L0a.bu.length A0a.bu.c) := (KE0.out.nx (RZ0.out)).cell 5
    have a0_6 : we.cell? ⟨w.heap.size, 6, none⟩ = some (.slice A0a.ow.A L0a.ow.length A0a.ow.c) := (KE0.out.nx (RZ0.out)).cell 6
    have a0_7 : we.cell? ⟨w.heap.size, 7, none⟩ = some (.slice A0a.tu.A L0a.tu.length A0a.tu.c) := (KE0.out.nx (RZ0.out)).cell 7
    have a0_8 : we.cell? ⟨w.heap.size, 8, none⟩ = some (.slice A0a.so.A L0a.so.length A0a.so.c) := (KE0.out.nx (RZ0.out)).cell 8
    have a0_9 : we.cell? ⟨w.heap.size, 9, none⟩ = some (.slice A0a.ar.A L0a.ar.length A0a.ar.c) := (KE0.out.nx (RZ0.out)).cell 9
    have a0_10 : we.cell? ⟨w.heap.size, 10, none⟩ = some (.int .i64 L0a.ti) := (KE0.out.nx (RZ0.out)).cell 10
    refine (lawsSzNet _ _ _ _ ((HA0a.out.none (Nat.le_refl _) (gb_trans GE.out RZ0.out.still)).more (Nat.le_trans GE.out.size RZ0.out.size)) HCA0a.out (by omega) (by omega)).mono ?_
    rintro e wz1 ⟨rfl, hg⟩
    rw [leftL, if_pos hbig0]
    have RZ1 := Lib.hid (RZ0.out.gb hg)
    clear hg a0_0 a0_1 a0_2 a0_3 a0_4 a0_5 a0_6 a0_7 a0_8 a0_9 a0_10
    go_wp2_with fail
    go_ret
    exact ⟨rfl, (gb_below_none GE.out (Nat.le_refl _)).trans (RZ1.out.below (.inr (Nat.le_refl _)) GE.out.size)⟩
  have hnA0a : sizeN L0a ≤ 1048576 := by omega
  obtain ⟨q1, hq1⟩ : ∃ q : Int, (1048576 : Int) - ((sizeN L0a : Nat) : Int) = q := ⟨_, rfl⟩
  have hqa1 : ¬ q1 < 0 := by omega
  have hqb1 : q1 ≤ 1048576 := by omega
  go_enter Try.func6, Try.ntmps6
  go_wp2_with fail
  have ke0 := Blk.new w 33 #[.int .i64 L0a.W, .int .i64 L0a.H, .slice A0a.br.A L0a.br.length A0a.br.c, .slice A0a.ta.A L0a.ta.length A0a.ta.c, .slice A0a.tb.A L0a.tb.length A0a.tb.c, .slice A0a.bu.A L0a.bu.length A0a.bu.c, .slice A0a.ow.A L0a.ow.length A0a.ow.c, .slice A0a.tu.A L0a.tu.length A0a.tu.c, .slice A0a.so.A L0a.so.length A0a.so.c, .slice A0a.ar.A L0a.ar.length A0a.ar.c, .int .i64 L0a.ti]
  have ge := gb_alloc (gb_refl w none) (.cells #[.int .i64 L0a.W, .int .i64 L0a.H, .slice A0a.br.A L0a.br.length A0a.br.c, .slice A0a.ta.A L0a.ta.length A0a.ta.c, .slice A0a.tb.A L0a.tb.length A0a.tb.c, .slice A0a.bu.A L0a.bu.length A0a.bu.c, .slice A0a.ow.A L0a.ow.length A0a.ow.c, .slice A0a.tu.A L0a.tu.length A0a.tu.c, .slice A0a.so.A L0a.so.length A0a.so.c, .slice A0a.ar.A L0a.ar.length A0a.ar.c, .int .i64 L0a.ti] 33)
  generalize (w.alloc (.cells #[.int .i64 L0a.W, .int .i64 L0a.H, .slice A0a.br.A L0a.br.length A0a.br.c, .slice A0a.ta.A L0a.ta.length A0a.ta.c, .slice A0a.tb.A L0a.tb.length A0a.tb.c, .slice A0a.bu.A L0a.bu.length A0a.bu.c, .slice A0a.ow.A L0a.ow.length A0a.ow.c, .slice A0a.tu.A L0a.tu.length A0a.tu.c, .slice A0a.so.A L0a.so.length A0a.so.c, .slice A0a.ar.A L0a.ar.length A0a.ar.c, .int .i64 L0a.ti] 33)) = we at *
  have KE0 : Hid (Blk we (w.heap.size) 33 #[.int .i64 L0a.W, .int .i64 L0a.H, .slice A0a.br.A L0a.br.length A0a.br.c, .slice A0a.ta.A L0a.ta.length A0a.ta.c, .slice A0a.tb.A L0a.tb.length A0a.tb.c, .slice A0a.bu.A L0a.bu.length A0a.bu.c, .slice A0a.ow.A L0a.ow.length A0a.ow.c, .slice A0a.tu.A L0a.tu.length A0a.tu.c, .slice A0a.so.A L0a.so.length A0a.so.c, .slice A0a.ar.A L0a.ar.length A0a.ar.c, .int .i64 L0a.ti]) := Lib.hid (ke0)
  have GE := Lib.hid (ge)
  have RZ0 := Lib.hid (Chg.refl 0 0 we)
  clear ge ke0
  have a0_0 : we.cell? ⟨w.heap.size, 0, none⟩ = some (.int .i64 L0a.W) := (KE0.out.nx (RZ0.out)).cell 0
  have a0_1 : we.cell? ⟨w.heap.size, 1, none⟩ = some (.int .i64 L0a.H) := (KE0.out.nx (RZ0.out)).cell 1
  have a0_2 : we.cell? ⟨w.heap.size, 2, none⟩ = some (.slice A0a.br.A L0a.br.length A0a.br.c) := (KE0.out.nx (RZ0.out)).cell 2
  have a0_3 : we.cell? ⟨w.heap.size, 3, none⟩ = some (.slice A0a.ta.A L0a.ta.length A0a.ta.c) := (KE0.out.nx (RZ0.out)).cell 3
  have a0_4 : we.cell? ⟨w.heap.size, 4, none⟩ = some (.slice A0a.tb.A L0a.tb.length A0a.tb.c) := (KE0.out.nx (RZ0.out)).cell 4
  have a0_5 : we.cell? ⟨w.heap.size, 5, none⟩ = some (.slice A0a.bu.A L0a.bu.length A0a.bu.c) := (KE0.out.nx (RZ0.out)).cell 5
  have a0_6 : we.cell? ⟨w.heap.size, 6, none⟩ = some (.slice A0a.ow.A L0a.ow.length A0a.ow.c) := (KE0.out.nx (RZ0.out)).cell 6
  have a0_7 : we.cell? ⟨w.heap.size, 7, none⟩ = some (.slice A0a.tu.A L0a.tu.length A0a.tu.c) := (KE0.out.nx (RZ0.out)).cell 7
  have a0_8 : we.cell? ⟨w.heap.size, 8, none⟩ = some (.slice A0a.so.A L0a.so.length A0a.so.c) := (KE0.out.nx (RZ0.out)).cell 8
  have a0_9 : we.cell? ⟨w.heap.size, 9, none⟩ = some (.slice A0a.ar.A L0a.ar.length A0a.ar.c) := (KE0.out.nx (RZ0.out)).cell 9
  have a0_10 : we.cell? ⟨w.heap.size, 10, none⟩ = some (.int .i64 L0a.ti) := (KE0.out.nx (RZ0.out)).cell 10
  refine (lawsSzNet _ _ _ _ ((HA0a.out.none (Nat.le_refl _) (gb_trans GE.out RZ0.out.still)).more (Nat.le_trans GE.out.size RZ0.out.size)) HCA0a.out (by omega) (by omega)).mono ?_
  rintro e wz1 ⟨rfl, hg⟩
  rw [leftL, if_neg (by omega), hq1]
  have RZ1 := Lib.hid (RZ0.out.gb hg)
  clear hg a0_0 a0_1 a0_2 a0_3 a0_4 a0_5 a0_6 a0_7 a0_8 a0_9 a0_10 hq1
  obtain ⟨R, hR⟩ : ∃ R, reqsG L0a S1a S2a = R := ⟨_, rfl⟩
  have hrl : R.length ≤ 1048576 := by rw [← hR]; exact Nat.le_trans (reqsG_len _ _ _) (by omega)
  have HSP := Lib.hid (fun (A0a : Na) (w : World) (hA0a : NetIn w w.heap.size A0a L0a) (hnA0a : NetSm L0a) (hcA0a : NetCap A0a L0a) => show Calls Try.prog 16 #[.agg #[.int .i64 L0a.W, .int .i64 L0a.H, .slice A0a.br.A L0a.br.length A0a.br.c, .slice A0a.ta.A L0a.ta.length A0a.ta.c, .slice A0a.tb.A L0a.tb.length A0a.tb.c, .slice A0a.bu.A L0a.bu.length A0a.bu.c, .slice A0a.ow.A L0a.ow.length A0a.ow.c, .slice A0a.tu.A L0a.tu.length A0a.tu.c, .slice A0a.so.A L0a.so.length A0a.so.c, .slice A0a.ar.A L0a.ar.length A0a.ar.c, .int .i64 L0a.ti], .int .i64 S1a, .int .i64 S2a] w (NewI R w) from hR ▸ specRequestsAt A0a L0a S1a S2a w hA0a hnA0a)
  have HIM := Lib.hid (fun (A0a : Na) (w : World) (hA0a : NetIn w w.heap.size A0a L0a) (hnA0a : NetSm L0a) (hcA0a : NetCap A0a L0a) => show Calls Try.prog 17 #[.agg #[.int .i64 L0a.W, .int .i64 L0a.H, .slice A0a.br.A L0a.br.length A0a.br.c, .slice A0a.ta.A L0a.ta.length A0a.ta.c, .slice A0a.tb.A L0a.tb.length A0a.tb.c, .slice A0a.bu.A L0a.bu.length A0a.bu.c, .slice A0a.ow.A L0a.ow.length A0a.ow.c, .slice A0a.tu.A L0a.tu.length A0a.tu.c, .slice A0a.so.A L0a.so.length A0a.so.c, .slice A0a.ar.A L0a.ar.length A0a.ar.c, .int .i64 L0a.ti], .int .i64 S1a, .int .i64 S2a] w (NewI R w) from hR ▸ implRequestsAt A0a L0a S1a S2a w hA0a hnA0a hcA0a HWF0.out.br)
  clear hR
  have BE := Lib.hid (gb_below_none GE.out (Nat.le_refl _))
  have RDA0a := Lib.hid (fun (w' : World) (hq : Chg 0 0 we w') => HA0a.out.chg BE.out hq (.inr (Nat.le_refl _)))
  have a0_0 : wz1.cell? ⟨w.heap.size, 0, none⟩ = some (.int .i64 L0a.W) := (KE0.out.nx (RZ1.out)).cell 0
  have a0_1 : wz1.cell? ⟨w.heap.size, 1, none⟩ = some (.int .i64 L0a.H) := (KE0.out.nx (RZ1.out)).cell 1
  have a0_2 : wz1.cell? ⟨w.heap.size, 2, none⟩ = some (.slice A0a.br.A L0a.br.length A0a.br.c) := (KE0.out.nx (RZ1.out)).cell 2
  have a0_3 : wz1.cell? ⟨w.heap.size, 3, none⟩ = some (.slice A0a.ta.A L0a.ta.length A0a.ta.c) := (KE0.out.nx (RZ1.out)).cell 3
  have a0_4 : wz1.cell? ⟨w.heap.size, 4, none⟩ = some (.slice A0a.tb.A L0a.tb.length A0a.tb.c) := (KE0.out.nx (RZ1.out)).cell 4
  have a0_5 : wz1.cell? ⟨w.heap.size, 5, none⟩ = some (.slice A0a.bu.A L0a.bu.length A0a.bu.c) := (KE0.out.nx (RZ1.out)).cell 5
  have a0_6 : wz1.cell? ⟨w.heap.size, 6, none⟩ = some (.slice A0a.ow.A L0a.ow.length A0a.ow.c) := (KE0.out.nx (RZ1.out)).cell 6
  have a0_7 : wz1.cell? ⟨w.heap.size, 7, none⟩ = some (.slice A0a.tu.A L0a.tu.length A0a.tu.c) := (KE0.out.nx (RZ1.out)).cell 7
  have a0_8 : wz1.cell? ⟨w.heap.size, 8, none⟩ = some (.slice A0a.so.A L0a.so.length A0a.so.c) := (KE0.out.nx (RZ1.out)).cell 8
  have a0_9 : wz1.cell? ⟨w.heap.size, 9, none⟩ = some (.slice A0a.ar.A L0a.ar.length A0a.ar.c) := (KE0.out.nx (RZ1.out)).cell 9
  have a0_10 : wz1.cell? ⟨w.heap.size, 10, none⟩ = some (.int .i64 L0a.ti) := (KE0.out.nx (RZ1.out)).cell 10
  go_wp2_with fail
  refine (lawsToNet _ _ _ (RDA0a.out _ (RZ1.out)) hnA0a).mono ?_
  rintro e w1 ⟨zw0, rfl, ow0, bw0⟩
  have R1 : Hid (Chg 0 0 we w1) := Lib.hid ((RZ1.out).bl bw0)
  have Q1 := Lib.hid (chg_gb 0 0 (gb_of_below bw0 none))
  have F1 := Lib.hid (fix_net ow0)
  clear bw0 ow0 a0_0 a0_1 a0_2 a0_3 a0_4 a0_5 a0_6 a0_7 a0_8 a0_9 a0_10
  go_wp2_with fail
  refine (HSP.out _ _ (NetOwn.at (F1.out.here) (Nat.le_refl _)) (netSm_of hnA0a) (NetOwn.cap (F1.out.here))).mono ?_
  rintro e w2 ⟨pw, rfl, ow, bw⟩
  obtain ⟨Arw, crw, rfl, _⟩ := own_form ow
  have R2 : Hid (Chg 0 0 we w2) := Lib.hid ((R1.out).bl bw)
  have Q2 := Lib.hid (chg_gb 0 0 (gb_of_below bw none))
  have F2 := Lib.hid (fix_row ow)
  have HLw := Lib.hid (F2.out.here.lt)
  clear bw ow
  have FW := Lib.hid (F2.out)
  have HE0 := Lib.hid (FW.out.1)
  have HS0 := Lib.hid ((R2.out).size)
  have a0_0 : w2.cell? ⟨w.heap.size, 0, none⟩ = some (.int .i64 L0a.W) := (KE0.out.nx (R2.out)).cell 0
  have a0_1 : w2.cell? ⟨w.heap.size, 1, none⟩ = some (.int .i64 L0a.H) := (KE0.out.nx (R2.out)).cell 1
  have a0_2 : w2.cell? ⟨w.heap.size, 2, none⟩ = some (.slice A0a.br.A L0a.br.length A0a.br.c) := (KE0.out.nx (R2.out)).cell 2
  have a0_3 : w2.cell? ⟨w.heap.size, 3, none⟩ = some (.slice A0a.ta.A L0a.ta.length A0a.ta.c) := (KE0.out.nx (R2.out)).cell 3
  have a0_4 : w2.cell? ⟨w.heap.size, 4, none⟩ = some (.slice A0a.tb.A L0a.tb.length A0a.tb.c) := (KE0.out.nx (R2.out)).cell 4
  have a0_5 : w2.cell? ⟨w.heap.size, 5, none⟩ = some (.slice A0a.bu.A L0a.bu.length A0a.bu.c) := (KE0.out.nx (R2.out)).cell 5
  have a0_6 : w2.cell? ⟨w.heap.size, 6, none⟩ = some (.slice A0a.ow.A L0a.ow.length A0a.ow.c) := (KE0.out.nx (R2.out)).cell 6
  have a0_7 : w2.cell? ⟨w.heap.size, 7, none⟩ = some (.slice A0a.tu.A L0a.tu.length A0a.tu.c) := (KE0.out.nx (R2.out)).cell 7
  have a0_8 : w2.cell? ⟨w.heap.size, 8, none⟩ = some (.slice A0a.so.A L0a.so.length A0a.so.c) := (KE0.out.nx (R2.out)).cell 8
  have a0_9 : w2.cell? ⟨w.heap.size, 9, none⟩ = some (.slice A0a.ar.A L0a.ar.length A0a.ar.c) := (KE0.out.nx (R2.out)).cell 9
  have a0_10 : w2.cell? ⟨w.heap.size, 10, none⟩ = some (.int .i64 L0a.ti) := (KE0.out.nx (R2.out)).cell 10
  go_wp2_with fail
  refine (lawsToNet _ _ _ (RDA0a.out _ (R2.out)) hnA0a).mono ?_
  rintro e w3 ⟨zx0, rfl, ox0, bx0⟩
  have HLX0 := Lib.hid (trivial)
  have FX0 := Lib.hid (fix_net ox0)
  have Q3 := Lib.hid (chg_gb 0 0 (gb_of_below bx0 none))
  have R3 := Lib.hid ((R2.out).bl bx0)
  clear bx0 ox0 a0_0 a0_1 a0_2 a0_3 a0_4 a0_5 a0_6 a0_7 a0_8 a0_9 a0_10
  replace FW := Lib.hid (FW.out.nx Q3.out)
  replace FW := Lib.hid ((FW.out).al (.cells #[.int .i64 L0a.W, .int .i64 L0a.H, .slice zx0.br.A L0a.br.length zx0.br.c, .slice zx0.ta.A L0a.ta.length zx0.ta.c, .slice zx0.tb.A L0a.tb.length zx0.tb.c, .slice zx0.bu.A L0a.bu.length zx0.bu.c, .slice zx0.ow.A L0a.ow.length zx0.ow.c, .slice zx0.tu.A L0a.tu.length zx0.tu.c, .slice zx0.so.A L0a.so.length zx0.so.c, .slice zx0.ar.A L0a.ar.length zx0.ar.c, .int .i64 L0a.ti] 44))
  replace FX0 := Lib.hid ((FX0.out).al (.cells #[.int .i64 L0a.W, .int .i64 L0a.H, .slice zx0.br.A L0a.br.length zx0.br.c, .slice zx0.ta.A L0a.ta.length zx0.ta.c, .slice zx0.tb.A L0a.tb.length zx0.tb.c, .slice zx0.bu.A L0a.bu.length zx0.bu.c, .slice zx0.ow.A L0a.ow.length zx0.ow.c, .slice zx0.tu.A L0a.tu.length zx0.tu.c, .slice zx0.so.A L0a.so.length zx0.so.c, .slice zx0.ar.A L0a.ar.length zx0.ar.c, .int .i64 L0a.ti] 44))
  have KX0 := Lib.hid (Blk.new w3 44 #[.int .i64 L0a.W, .int .i64 L0a.H, .slice zx0.br.A L0a.br.length zx0.br.c, .slice zx0.ta.A L0a.ta.length zx0.ta.c, .slice zx0.tb.A L0a.tb.length zx0.tb.c, .slice zx0.bu.A L0a.bu.length zx0.bu.c, .slice zx0.ow.A L0a.ow.length zx0.ow.c, .slice zx0.tu.A L0a.tu.length zx0.tu.c, .slice zx0.so.A L0a.so.length zx0.so.c, .slice zx0.ar.A L0a.ar.length zx0.ar.c, .int .i64 L0a.ti])
  have x0_0 : (w3.alloc (.cells #[.int .i64 L0a.W, .int .i64 L0a.H, .slice zx0.br.A L0a.br.length zx0.br.c, .slice zx0.ta.A L0a.ta.length zx0.ta.c, .slice zx0.tb.A L0a.tb.length zx0.tb.c, .slice zx0.bu.A L0a.bu.length zx0.bu.c, .slice zx0.ow.A L0a.ow.length zx0.ow.c, .slice zx0.tu.A L0a.tu.length zx0.tu.c, .slice zx0.so.A L0a.so.length zx0.so.c, .slice zx0.ar.A L0a.ar.length zx0.ar.c, .int .i64 L0a.ti] 44)).cell? ⟨w3.heap.size, 0, none⟩ = some (.int .i64 L0a.W) := KX0.out.cell 0
  have x0_1 : (w3.alloc (.cells #[.int .i64 L0a.W, .int .i64 L0a.H, .slice zx0.br.A L0a.br.length zx0.br.c, .slice zx0.ta.A L0a.ta.length zx0.ta.c, .slice zx0.tb.A L0a.tb.length zx0.tb.c, .slice zx0.bu.A L0a.bu.length zx0.bu.c, .slice zx0.ow.A L0a.ow.length zx0.ow.c, .slice zx0.tu.A L0a.tu.length zx0.tu.c, .slice zx0.so.A L0a.so.length zx0.so.c, .slice zx0.ar.A L0a.ar.length zx0.ar.c, .int .i64 L0a.ti] 44)).cell? ⟨w3.heap.size, 1, none⟩ = some (.int .i64 L0a.H) := KX0.out.cell 1
  have x0_2 : (w3.alloc (.cells #[.int .i64 L0a.W, .int .i64 L0a.H, .slice zx0.br.A L0a.br.length zx0.br.c, .slice zx0.ta.A L0a.ta.length zx0.ta.c, .slice zx0.tb.A L0a.tb.length zx0.tb.c, .slice zx0.bu.A L0a.bu.length zx0.bu.c, .slice zx0.ow.A L0a.ow.length zx0.ow.c, .slice zx0.tu.A L0a.tu.length zx0.tu.c, .slice zx0.so.A L0a.so.length zx0.so.c, .slice zx0.ar.A L0a.ar.length zx0.ar.c, .int .i64 L0a.ti] 44)).cell? ⟨w3.heap.size, 2, none⟩ = some (.slice zx0.br.A L0a.br.length zx0.br.c) := KX0.out.cell 2
  have x0_3 : (w3.alloc (.cells #[.int .i64 L0a.W, .int .i64 L0a.H, .slice zx0.br.A L0a.br.length zx0.br.c, .slice zx0.ta.A L0a.ta.length zx0.ta.c, .slice zx0.tb.A L0a.tb.length zx0.tb.c, .slice zx0.bu.A L0a.bu.length zx0.bu.c, .slice zx0.ow.A L0a.ow.length zx0.ow.c, .slice zx0.tu.A L0a.tu.length zx0.tu.c, .slice zx0.so.A L0a.so.length zx0.so.c, .slice zx0.ar.A L0a.ar.length zx0.ar.c, .int .i64 L0a.ti] 44)).cell? ⟨w3.heap.size, 3, none⟩ = some (.slice zx0.ta.A L0a.ta.length zx0.ta.c) := KX0.out.cell 3
  have x0_4 : (w3.alloc (.cells #[.int .i64 L0a.W, .int .i64 L0a.H, .slice zx0.br.A L0a.br.length zx0.br.c, .slice zx0.ta.A L0a.ta.length zx0.ta.c, .slice zx0.tb.A L0a.tb.length zx0.tb.c, .slice zx0.bu.A L0a.bu.length zx0.bu.c, .slice zx0.ow.A L0a.ow.length zx0.ow.c, .slice zx0.tu.A L0a.tu.length zx0.tu.c, .slice zx0.so.A L0a.so.length zx0.so.c, .slice zx0.ar.A L0a.ar.length zx0.ar.c, .int .i64 L0a.ti] 44)).cell? ⟨w3.heap.size, 4, none⟩ = some (.slice zx0.tb.A L0a.tb.length zx0.tb.c) := KX0.out.cell 4
  have x0_5 : (w3.alloc (.cells #[.int .i64 L0a.W, .int .i64 L0a.H, .slice zx0.br.A L0a.br.length zx0.br.c, .slice zx0.ta.A L0a.ta.length zx0.ta.c, .slice zx0.tb.A L0a.tb.length zx0.tb.c, .slice zx0.bu.A L0a.bu.length zx0.bu.c, .slice zx0.ow.A L0a.ow.length zx0.ow.c, .slice zx0.tu.A L0a.tu.length zx0.tu.c, .slice zx0.so.A L0a.so.length zx0.so.c, .slice zx0.ar.A L0a.ar.length zx0.ar.c, .int .i64 L0a.ti] 44)).cell? ⟨w3.heap.size, 5, none⟩ = some (.slice zx0.bu.A L0a.bu.length zx0.bu.c) := KX0.out.cell 5
  have x0_6 : (w3.alloc (.cells #[.int .i64 L0a.W, .int .i64 L0a.H, .slice zx0.br.A L0a.br.length zx0.br.c, .slice zx0.ta.A L0a.ta.length zx0.ta.c, .slice zx0.tb.A L0a.tb.length zx0.tb.c, .slice zx0.bu.A L0a.bu.length zx0.bu.c, .slice zx0.ow.A L0a.ow.length zx0.ow.c, .slice zx0.tu.A L0a.tu.length zx0.tu.c, .slice zx0.so.A L0a.so.length zx0.so.c, .slice zx0.ar.A L0a.ar.length zx0.ar.c, .int .i64 L0a.ti] 44)).cell? ⟨w3.heap.size, 6, none⟩ = some (.slice zx0.ow.A L0a.ow.length zx0.ow.c) := KX0.out.cell 6
  have x0_7 : (w3.alloc (.cells #[.int .i64 L0a.W, .int .i64 L0a.H, .slice zx0.br.A L0a.br.length zx0.br.c, .slice zx0.ta.A L0a.ta.length zx0.ta.c, .slice zx0.tb.A L0a.tb.length zx0.tb.c, .slice zx0.bu.A L0a.bu.length zx0.bu.c, .slice zx0.ow.A L0a.ow.length zx0.ow.c, .slice zx0.tu.A L0a.tu.length zx0.tu.c, .slice zx0.so.A L0a.so.length zx0.so.c, .slice zx0.ar.A L0a.ar.length zx0.ar.c, .int .i64 L0a.ti] 44)).cell? ⟨w3.heap.size, 7, none⟩ = some (.slice zx0.tu.A L0a.tu.length zx0.tu.c) := KX0.out.cell 7
  have x0_8 : (w3.alloc (.cells #[.int .i64 L0a.W, .int .i64 L0a.H, .slice zx0.br.A L0a.br.length zx0.br.c, .slice zx0.ta.A L0a.ta.length zx0.ta.c, .slice zx0.tb.A L0a.tb.length zx0.tb.c, .slice zx0.bu.A L0a.bu.length zx0.bu.c, .slice zx0.ow.A L0a.ow.length zx0.ow.c, .slice zx0.tu.A L0a.tu.length zx0.tu.c, .slice zx0.so.A L0a.so.length zx0.so.c, .slice zx0.ar.A L0a.ar.length zx0.ar.c, .int .i64 L0a.ti] 44)).cell? ⟨w3.heap.size, 8, none⟩ = some (.slice zx0.so.A L0a.so.length zx0.so.c) := KX0.out.cell 8
  have x0_9 : (w3.alloc (.cells #[.int .i64 L0a.W, .int .i64 L0a.H, .slice zx0.br.A L0a.br.length zx0.br.c, .slice zx0.ta.A L0a.ta.length zx0.ta.c, .slice zx0.tb.A L0a.tb.length zx0.tb.c, .slice zx0.bu.A L0a.bu.length zx0.bu.c, .slice zx0.ow.A L0a.ow.length zx0.ow.c, .slice zx0.tu.A L0a.tu.length zx0.tu.c, .slice zx0.so.A L0a.so.length zx0.so.c, .slice zx0.ar.A L0a.ar.length zx0.ar.c, .int .i64 L0a.ti] 44)).cell? ⟨w3.heap.size, 9, none⟩ = some (.slice zx0.ar.A L0a.ar.length zx0.ar.c) := KX0.out.cell 9
  have x0_10 : (w3.alloc (.cells #[.int .i64 L0a.W, .int .i64 L0a.H, .slice zx0.br.A L0a.br.length zx0.br.c, .slice zx0.ta.A L0a.ta.length zx0.ta.c, .slice zx0.tb.A L0a.tb.length zx0.tb.c, .slice zx0.bu.A L0a.bu.length zx0.bu.c, .slice zx0.ow.A L0a.ow.length zx0.ow.c, .slice zx0.tu.A L0a.tu.length zx0.tu.c, .slice zx0.so.A L0a.so.length zx0.so.c, .slice zx0.ar.A L0a.ar.length zx0.ar.c, .int .i64 L0a.ti] 44)).cell? ⟨w3.heap.size, 10, none⟩ = some (.int .i64 L0a.ti) := KX0.out.cell 10
  go_wp2_with fail
  refine (HIM.out _ _ (NetOwn.at (FX0.out.here) (Nat.le_refl _)) (netSm_of hnA0a) (NetOwn.cap (FX0.out.here))).mono ?_
  rintro e w4 ⟨pg, rfl, og, bg⟩
  obtain ⟨Arg, crg, rfl, _⟩ := own_form og
  have R4 : Hid (Chg 0 0 we w4) := Lib.hid (((R3.out.al (.cells #[.int .i64 L0a.W, .int .i64 L0a.H, .slice zx0.br.A L0a.br.length zx0.br.c, .slice zx0.ta.A L0a.ta.length zx0.ta.c, .slice zx0.tb.A L0a.tb.length zx0.tb.c, .slice zx0.bu.A L0a.bu.length zx0.bu.c, .slice zx0.ow.A L0a.ow.length zx0.ow.c, .slice zx0.tu.A L0a.tu.length zx0.tu.c, .slice zx0.so.A L0a.so.length zx0.so.c, .slice zx0.ar.A L0a.ar.length zx0.ar.c, .int .i64 L0a.ti] 44))).bl bg)
  have Q4 := Lib.hid (chg_gb 0 0 (gb_of_below bg none))
  have F4 := Lib.hid (fix_row og)
  have HLg := Lib.hid (F4.out.here.lt)
  clear bg og
  clear x0_0 x0_1 x0_2 x0_3 x0_4 x0_5 x0_6 x0_7 x0_8 x0_9 x0_10
  replace FW := Lib.hid (FW.out.nx Q4.out)
  replace FX0 := Lib.hid (FX0.out.nx Q4.out)
  replace KX0 := Lib.hid (KX0.out.nx Q4.out)
  have FG := Lib.hid (F4.out)
  obtain ⟨B0, E0, Bg, Eg, Bv, Ev, eE0, fx0, kx0, hx0, fg, hg, fw, hn⟩ : ∃ B0 E0 Bg Eg Bv Ev : Nat, w3.heap.size = E0 ∧ Fix B0 E0 (fun w => NetOwn w B0 E0 zx0 L0a) w4 ∧ Blk w4 E0 44 #[.int .i64 L0a.W, .int .i64 L0a.H, .slice zx0.br.A L0a.br.length zx0.br.c, .slice zx0.ta.A L0a.ta.length zx0.ta.c, .slice zx0.tb.A L0a.tb.length zx0.tb.c, .slice zx0.bu.A L0a.bu.length zx0.bu.c, .slice zx0.ow.A L0a.ow.length zx0.ow.c, .slice zx0.tu.A L0a.tu.length zx0.tu.c, .slice zx0.so.A L0a.so.length zx0.so.c, .slice zx0.ar.A L0a.ar.length zx0.ar.c, .int .i64 L0a.ti] ∧ True ∧ Fix Bg Eg (fun w => w.ownsRow Bg 3 1 (.slice Arg R.length crg) R.length (intsV R)) w4 ∧ (∀ k, Value.ownBlock (.slice Arg R.length crg) = some k → Bg ≤ k ∧ k < Eg) ∧ Fix Bv Ev (fun w => w.ownsRow Bv 3 1 (.slice Arw R.length crw) R.length (intsV R)) w4 ∧ we.heap.size ≤ B0 ∧ B0 ≤ E0 ∧ E0 + 1 ≤ Bg ∧ Bg ≤ Eg ∧ Ev ≤ B0 := ⟨_, _, _, _, _, _, rfl, FX0.out, KX0.out, HLX0.out, FG.out, HLg.out, FW.out, (by have hsQ3 := Q3.out.size; have hsQ4 := Q4.out.size; have h0 := HS0.out; have h1 := HE0.out; (try simp only [alloc_size] at *); omega)⟩
  (try rw [eE0])
  have Zfx0 := Lib.hid (fx0)
  have Zkx0 := Lib.hid (kx0)
  have Zhx0 := Lib.hid (hx0)
  have Zfg := Lib.hid (fg)
  have Zhg := Lib.hid (hg)
  have Zfw := Lib.hid (fw)
  have Zhn := Lib.hid (hn)
  clear fx0 kx0 hx0 fg hg fw hn
  have RS := Lib.hid (R4.out)
  have T0 := Lib.hid (Chg.refl 0 0 w4)
  go_wp2_with fail
  refine (lawsEqOwn _ _ _ _ R _ Zfg.out.here Zfw.out.here (by omega)).mono ?_
  rintro e w5 ⟨rfl, hg⟩
  have T5 := Lib.hid (T0.out.gb hg)
  clear hg
  have KPc0 := Lib.hid (fun (w' : World) (hq : Chg 0 0 w4 w') => (show w'.cell? ⟨w.heap.size, 0, none⟩ = some (.int .i64 L0a.W) ∧ w'.cell? ⟨w.heap.size, 1, none⟩ = some (.int .i64 L0a.H) ∧ w'.cell? ⟨w.heap.size, 2, none⟩ = some (.slice A0a.br.A L0a.br.length A0a.br.c) ∧ w'.cell? ⟨w.heap.size, 3, none⟩ = some (.slice A0a.ta.A L0a.ta.length A0a.ta.c) ∧ w'.cell? ⟨w.heap.size, 4, none⟩ = some (.slice A0a.tb.A L0a.tb.length A0a.tb.c) ∧ w'.cell? ⟨w.heap.size, 5, none⟩ = some (.slice A0a.bu.A L0a.bu.length A0a.bu.c) ∧ w'.cell? ⟨w.heap.size, 6, none⟩ = some (.slice A0a.ow.A L0a.ow.length A0a.ow.c) ∧ w'.cell? ⟨w.heap.size, 7, none⟩ = some (.slice A0a.tu.A L0a.tu.length A0a.tu.c) ∧ w'.cell? ⟨w.heap.size, 8, none⟩ = some (.slice A0a.so.A L0a.so.length A0a.so.c) ∧ w'.cell? ⟨w.heap.size, 9, none⟩ = some (.slice A0a.ar.A L0a.ar.length A0a.ar.c) ∧ w'.cell? ⟨w.heap.size, 10, none⟩ = some (.int .i64 L0a.ti) ∧ w'.cell? ⟨E0, 0, none⟩ = some (.int .i64 L0a.W) ∧ w'.cell? ⟨E0, 1, none⟩ = some (.int .i64 L0a.H) ∧ w'.cell? ⟨E0, 2, none⟩ = some (.slice zx0.br.A L0a.br.length zx0.br.c) ∧ w'.cell? ⟨E0, 3, none⟩ = some (.slice zx0.ta.A L0a.ta.length zx0.ta.c) ∧ w'.cell? ⟨E0, 4, none⟩ = some (.slice zx0.tb.A L0a.tb.length zx0.tb.c) ∧ w'.cell? ⟨E0, 5, none⟩ = some (.slice zx0.bu.A L0a.bu.length zx0.bu.c) ∧ w'.cell? ⟨E0, 6, none⟩ = some (.slice zx0.ow.A L0a.ow.length zx0.ow.c) ∧ w'.cell? ⟨E0, 7, none⟩ = some (.slice zx0.tu.A L0a.tu.length zx0.tu.c) ∧ w'.cell? ⟨E0, 8, none⟩ = some (.slice zx0.so.A L0a.so.length zx0.so.c) ∧ w'.cell? ⟨E0, 9, none⟩ = some (.slice zx0.ar.A L0a.ar.length zx0.ar.c) ∧ w'.cell? ⟨E0, 10, none⟩ = some (.int .i64 L0a.ti) from ⟨(KE0.out.nx (RS.out.trans hq)).cell 0, (KE0.out.nx (RS.out.trans hq)).cell 1, (KE0.out.nx (RS.out.trans hq)).cell 2, (KE0.out.nx (RS.out.trans hq)).cell 3, (KE0.out.nx (RS.out.trans hq)).cell 4, (KE0.out.nx (RS.out.trans hq)).cell 5, (KE0.out.nx (RS.out.trans hq)).cell 6, (KE0.out.nx (RS.out.trans hq)).cell 7, (KE0.out.nx (RS.out.trans hq)).cell 8, (KE0.out.nx (RS.out.trans hq)).cell 9, (KE0.out.nx (RS.out.trans hq)).cell 10, (Zkx0.out.nx hq).cell 0, (Zkx0.out.nx hq).cell 1, (Zkx0.out.nx hq).cell 2, (Zkx0.out.nx hq).cell 3, (Zkx0.out.nx hq).cell 4, (Zkx0.out.nx hq).cell 5, (Zkx0.out.nx hq).cell 6, (Zkx0.out.nx hq).cell 7, (Zkx0.out.nx hq).cell 8, (Zkx0.out.nx hq).cell 9, (Zkx0.out.nx hq).cell 10⟩))
  go_wp2_with fail
  go_region_held3 (fun w' => w'.cell? ⟨w.heap.size, 0, none⟩ = some (.int .i64 L0a.W) ∧ w'.cell? ⟨w.heap.size, 1, none⟩ = some (.int .i64 L0a.H) ∧ w'.cell? ⟨w.heap.size, 2, none⟩ = some (.slice A0a.br.A L0a.br.length A0a.br.c) ∧ w'.cell? ⟨w.heap.size, 3, none⟩ = some (.slice A0a.ta.A L0a.ta.length A0a.ta.c) ∧ w'.cell? ⟨w.heap.size, 4, none⟩ = some (.slice A0a.tb.A L0a.tb.length A0a.tb.c) ∧ w'.cell? ⟨w.heap.size, 5, none⟩ = some (.slice A0a.bu.A L0a.bu.length A0a.bu.c) ∧ w'.cell? ⟨w.heap.size, 6, none⟩ = some (.slice A0a.ow.A L0a.ow.length A0a.ow.c) ∧ w'.cell? ⟨w.heap.size, 7, none⟩ = some (.slice A0a.tu.A L0a.tu.length A0a.tu.c) ∧ w'.cell? ⟨w.heap.size, 8, none⟩ = some (.slice A0a.so.A L0a.so.length A0a.so.c) ∧ w'.cell? ⟨w.heap.size, 9, none⟩ = some (.slice A0a.ar.A L0a.ar.length A0a.ar.c) ∧ w'.cell? ⟨w.heap.size, 10, none⟩ = some (.int .i64 L0a.ti) ∧ w'.cell? ⟨E0, 0, none⟩ = some (.int .i64 L0a.W) ∧ w'.cell? ⟨E0, 1, none⟩ = some (.int .i64 L0a.H) ∧ w'.cell? ⟨E0, 2, none⟩ = some (.slice zx0.br.A L0a.br.length zx0.br.c) ∧ w'.cell? ⟨E0, 3, none⟩ = some (.slice zx0.ta.A L0a.ta.length zx0.ta.c) ∧ w'.cell? ⟨E0, 4, none⟩ = some (.slice zx0.tb.A L0a.tb.length zx0.tb.c) ∧ w'.cell? ⟨E0, 5, none⟩ = some (.slice zx0.bu.A L0a.bu.length zx0.bu.c) ∧ w'.cell? ⟨E0, 6, none⟩ = some (.slice zx0.ow.A L0a.ow.length zx0.ow.c) ∧ w'.cell? ⟨E0, 7, none⟩ = some (.slice zx0.tu.A L0a.tu.length zx0.tu.c) ∧ w'.cell? ⟨E0, 8, none⟩ = some (.slice zx0.so.A L0a.so.length zx0.so.c) ∧ w'.cell? ⟨E0, 9, none⟩ = some (.slice zx0.ar.A L0a.ar.length zx0.ar.c) ∧ w'.cell? ⟨E0, 10, none⟩ = some (.int .i64 L0a.ti))
    (first | with_reducible exact KPc0.out _ (T5.out) | with_reducible exact KPc0.out _ (T5.out.dr) | with_reducible exact KPc0.out _ (T6.out) | with_reducible exact KPc0.out _ (T7.out) | fail)
    (first
      | (go_at_call 9; (with_reducible refine (lawsToNet _ _ _ (RDA0a.out _ (RS.out.trans T5.out.dr)) hnA0a).mono ?_); rintro e w6 ⟨zy0, rfl, oy0, by0⟩; have T6 : Hid (Chg 0 0 w4 w6) := Lib.hid (T5.out.dr.bl by0); have F6 := Lib.hid (fix_net oy0); clear by0 oy0)
      | (go_at_call 11; (with_reducible refine (lawsEqNet _ _ L0a _ _ _ _ _ (Zfx0.out.nx T6.out).here F6.out.here (netSm_of hnA0a)).mono ?_); rintro e w7 ⟨rfl, hg⟩; have T7 : Hid (Chg 0 0 w4 w7) := Lib.hid (T6.out.gb hg); clear hg)
      | fail)
  all_goals
    have M0 := Lib.hid (T7.out.mono (lo' := 0) (hi' := 0) (Nat.le_refl _) (Nat.le_refl _))
    have n0_0 : w7.cell? ⟨E0, 0, none⟩ = some (.int .i64 L0a.W) := (Zkx0.out.nx T7.out).cell 0
    have n0_1 : w7.cell? ⟨E0, 1, none⟩ = some (.int .i64 L0a.H) := (Zkx0.out.nx T7.out).cell 1
    have n0_2 : w7.cell? ⟨E0, 2, none⟩ = some (.slice zx0.br.A L0a.br.length zx0.br.c) := (Zkx0.out.nx T7.out).cell 2
    have n0_3 : w7.cell? ⟨E0, 3, none⟩ = some (.slice zx0.ta.A L0a.ta.length zx0.ta.c) := (Zkx0.out.nx T7.out).cell 3
    have n0_4 : w7.cell? ⟨E0, 4, none⟩ = some (.slice zx0.tb.A L0a.tb.length zx0.tb.c) := (Zkx0.out.nx T7.out).cell 4
    have n0_5 : w7.cell? ⟨E0, 5, none⟩ = some (.slice zx0.bu.A L0a.bu.length zx0.bu.c) := (Zkx0.out.nx T7.out).cell 5
    have n0_6 : w7.cell? ⟨E0, 6, none⟩ = some (.slice zx0.ow.A L0a.ow.length zx0.ow.c) := (Zkx0.out.nx T7.out).cell 6
    have n0_7 : w7.cell? ⟨E0, 7, none⟩ = some (.slice zx0.tu.A L0a.tu.length zx0.tu.c) := (Zkx0.out.nx T7.out).cell 7
    have n0_8 : w7.cell? ⟨E0, 8, none⟩ = some (.slice zx0.so.A L0a.so.length zx0.so.c) := (Zkx0.out.nx T7.out).cell 8
    have n0_9 : w7.cell? ⟨E0, 9, none⟩ = some (.slice zx0.ar.A L0a.ar.length zx0.ar.c) := (Zkx0.out.nx T7.out).cell 9
    have n0_10 : w7.cell? ⟨E0, 10, none⟩ = some (.int .i64 L0a.ti) := (Zkx0.out.nx T7.out).cell 10
    go_wp2_with fail
    refine (lawsMarkNet _ L0a _ _ 1 _ (Zfx0.out.nx T7.out).here (by have hm := markSz_le hnA0a; omega)).mono ?_
    rintro e w8 ⟨rfl, om0, ggm0⟩
    have M8 := Lib.hid (((chg_none_to T7.out : Chg B0 E0 w4 w7)).trans (ggm0.mono (lo' := B0) (hi' := E0) (by have hn := Zhn.out; omega) (by have hn := Zhn.out; omega)))
    obtain ⟨k8, hk8⟩ : ∃ k : Nat, 1 + markSz L0a = k := ⟨_, rfl⟩
    rw [hk8]
    have hkb8 : k8 ≤ 10000000 := by have hm := markSz_le hnA0a; omega
    clear om0 ggm0 hk8 n0_0 n0_1 n0_2 n0_3 n0_4 n0_5 n0_6 n0_7 n0_8 n0_9 n0_10
    have hk0 : ¬ (k8 : Int) < 0 := by omega
    go_wp2_with fail
    refine (lawsEqOwn _ _ _ _ R _ (Zfg.out.chg M8.out (by have hn := Zhn.out; omega)).here (Zfw.out.chg M8.out (by have hn := Zhn.out; omega)).here (by omega)).mono ?_
    rintro e w9 ⟨rfl, hg⟩
    have M9 := Lib.hid (M8.out.gb hg)
    clear hg hk0
    go_wp2_with fail
    refine (lawsMarkI _ _ R.length 1 R _ (Zfg.out.chg M9.out (by have hn := Zhn.out; omega)).here (by omega)).mono ?_
    rintro e w10 ⟨rfl, omg, ggmg⟩
    have MG := Lib.hid (((M9.out.mono (lo' := B0) (hi' := Eg) (Nat.le_refl _) (by have hn := Zhn.out; omega))).row ggmg (fun j hj => by have hx := Zhg.out j hj; have hn := Zhn.out; omega))
    obtain ⟨km, hkm⟩ : ∃ k : Nat, 1 + R.length = k := ⟨_, rfl⟩
    rw [hkm]
    have hkb : km ≤ 100000000 := by omega
    have HKM := Lib.hid (hkm)
    have hkn : ¬ (km : Int) < 0 := by omega
    have FM := Lib.hid (fix_row omg)
    clear omg ggmg hkm
    have KE0m := Lib.hid ((KE0.out.nx RS.out).chg MG.out (by have hb := KE0.out.lt; have hn := Zhn.out; omega))
    have BEm := Lib.hid ((BE.out.trans (RS.out.below (.inr (Nat.le_refl _)) BE.out.size)).trans (MG.out.below (.inl (by have hb := GE.out.size; have hn := Zhn.out; omega)) (by have hb := BE.out.size; have hc := RS.out.size; omega)))
    have FWm := Lib.hid (Zfw.out.chg MG.out (by have hn := Zhn.out; omega))
    have RDA0am := Lib.hid (fun (w' : World) (hq : Chg 0 0 w10 w') => HA0a.out.chg BEm.out hq (.inr (Nat.le_refl _)))
    have U0 := Lib.hid (Chg.refl 0 0 w10)
    go_wp2_with fail
    refine (lawsHeldOwn _ _ R.length 1 _ (FM.out.nx (U0.out)).here (by omega)).mono ?_
    rintro e w11 ⟨rfl, hg⟩
    rw [HKM.out]
    have U11 := Lib.hid ((U0.out).gb hg)
    clear hg
    have a0_0 : w11.cell? ⟨w.heap.size, 0, none⟩ = some (.int .i64 L0a.W) := (KE0m.out.nx (U11.out)).cell 0
    have a0_1 : w11.cell? ⟨w.heap.size, 1, none⟩ = some (.int .i64 L0a.H) := (KE0m.out.nx (U11.out)).cell 1
    have a0_2 : w11.cell? ⟨w.heap.size, 2, none⟩ = some (.slice A0a.br.A L0a.br.length A0a.br.c) := (KE0m.out.nx (U11.out)).cell 2
    have a0_3 : w11.cell? ⟨w.heap.size, 3, none⟩ = some (.slice A0a.ta.A L0a.ta.length A0a.ta.c) := (KE0m.out.nx (U11.out)).cell 3
    have a0_4 : w11.cell? ⟨w.heap.size, 4, none⟩ = some (.slice A0a.tb.A L0a.tb.length A0a.tb.c) := (KE0m.out.nx (U11.out)).cell 4
    have a0_5 : w11.cell? ⟨w.heap.size, 5, none⟩ = some (.slice A0a.bu.A L0a.bu.length A0a.bu.c) := (KE0m.out.nx (U11.out)).cell 5
    have a0_6 : w11.cell? ⟨w.heap.size, 6, none⟩ = some (.slice A0a.ow.A L0a.ow.length A0a.ow.c) := (KE0m.out.nx (U11.out)).cell 6
    have a0_7 : w11.cell? ⟨w.heap.size, 7, none⟩ = some (.slice A0a.tu.A L0a.tu.length A0a.tu.c) := (KE0m.out.nx (U11.out)).cell 7
    have a0_8 : w11.cell? ⟨w.heap.size, 8, none⟩ = some (.slice A0a.so.A L0a.so.length A0a.so.c) := (KE0m.out.nx (U11.out)).cell 8
    have a0_9 : w11.cell? ⟨w.heap.size, 9, none⟩ = some (.slice A0a.ar.A L0a.ar.length A0a.ar.c) := (KE0m.out.nx (U11.out)).cell 9
    have a0_10 : w11.cell? ⟨w.heap.size, 10, none⟩ = some (.int .i64 L0a.ti) := (KE0m.out.nx (U11.out)).cell 10
    go_wp2_with fail
    refine (lawsToNet _ _ _ (RDA0am.out _ (U11.out)) hnA0a).mono ?_
    rintro e w12 ⟨zh0, rfl, oh0, bh0⟩
    have R12 : Hid (Chg 0 0 w10 w12) := Lib.hid ((U11.out).bl bh0)
    have Q12 := Lib.hid (chg_gb 0 0 (gb_of_below bh0 none))
    have F12 := Lib.hid (fix_net oh0)
    clear bh0 oh0 a0_0 a0_1 a0_2 a0_3 a0_4 a0_5 a0_6 a0_7 a0_8 a0_9 a0_10
    go_wp2_with fail
    refine (HIM.out _ _ (NetOwn.at (F12.out.here) (Nat.le_refl _)) (netSm_of hnA0a) (NetOwn.cap (F12.out.here))).mono ?_
    rintro e w13 ⟨ph, rfl, oh, bh⟩
    obtain ⟨Arh, crh, rfl, _⟩ := own_form oh
    have R13 : Hid (Chg 0 0 w10 w13) := Lib.hid ((R12.out).bl bh)
    have Q13 := Lib.hid (chg_gb 0 0 (gb_of_below bh none))
    have F13 := Lib.hid (fix_row oh)
    have HLh := Lib.hid (F13.out.here.lt)
    clear bh oh
    go_wp2_with fail
    refine (lawsEqOwn _ _ _ _ R _ F13.out.here (FWm.out.nx (R13.out)).here (by omega)).mono ?_
    rintro e w14 ⟨rfl, hg⟩
    have U14 := Lib.hid ((R13.out).gb hg)
    clear hg
    go_wp2_with fail
    refine (lawsHeldOwn _ _ R.length 1 _ (FM.out.nx (U14.out)).here (by omega)).mono ?_
    rintro e w15 ⟨rfl, hg⟩
    rw [HKM.out]
    have U15 := Lib.hid ((U14.out).gb hg)
    clear hg
    go_wp2_with fail
    go_ret
    exact ⟨rfl, BEm.out.trans ((U15.out).below (.inr (Nat.le_refl _)) BEm.out.size)⟩
end Go.Proofs.Ytplpdjpldadcmaa
end
