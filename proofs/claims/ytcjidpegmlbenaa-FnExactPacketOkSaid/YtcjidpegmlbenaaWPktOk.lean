/- What is proved here: the exact law on PacketOk answers true, for every argument; only new blocks are written. -/
import Derived.Test.YtcjidpegmlbenaaChgW
import Derived.Test.YtcjidpegmlbenaaToGrid
import Derived.Test.YtcjidpegmlbenaaPktE
import Derived.Test.YtcjidpegmlbenaaPkS
import Derived.Test.YtcjidpegmlbenaaPkI
import Derived.Deep.Cut
namespace Go.Proofs.Ytcjidpegmlbenaa
open Go.ChangeShapes Go.WideShapes Go.ChangeAt Go.RowKit
set_option linter.unusedVariables false
set_option maxRecDepth 20000

set_option maxHeartbeats 6400000 in
theorem walk_FnExactPacketOk (S0a : Int) (S0b : Int) (P1 : Pkt) (w : World) (hwS0a : (Lit.int .i64 S0a).wf = true) (hwS0b : (Lit.int .i64 S0b).wf = true) (hwP1 : wfP P1) :
    Calls Try.prog 4 #[.agg #[.int .i64 S0a, .int .i64 S0b], .agg #[.int .i64 P1.id, .int .i64 P1.fr, .int .i64 P1.to, .int .i64 P1.cl, .int .i64 P1.ln]] w fun e w' => e = .returned (.bool true) ∧ Below w.heap.size w w' := by
  have HWS0a := Lib.hid (hwS0a)
  have HWS0b := Lib.hid (hwS0b)
  have HWP1 := Lib.hid (hwP1)
  clear hwS0a hwS0b hwP1
  go_enter Try.func4, Try.ntmps4
  go_wp2_with fail
  have ke0 := (Blk.new w 40 #[.int .i64 S0a, .int .i64 S0b]).alloc (.cells #[.int .i64 P1.id, .int .i64 P1.fr, .int .i64 P1.to, .int .i64 P1.cl, .int .i64 P1.ln] 41)
  have ke1 := Blk.new (w.alloc (.cells #[.int .i64 S0a, .int .i64 S0b] 40)) 41 #[.int .i64 P1.id, .int .i64 P1.fr, .int .i64 P1.to, .int .i64 P1.cl, .int .i64 P1.ln]
  have ge := gb_alloc (gb_alloc (gb_refl w none) (.cells #[.int .i64 S0a, .int .i64 S0b] 40)) (.cells #[.int .i64 P1.id, .int .i64 P1.fr, .int .i64 P1.to, .int .i64 P1.cl, .int .i64 P1.ln] 41)
  simp only [alloc_size] at ke1
  generalize ((w.alloc (.cells #[.int .i64 S0a, .int .i64 S0b] 40)).alloc (.cells #[.int .i64 P1.id, .int .i64 P1.fr, .int .i64 P1.to, .int .i64 P1.cl, .int .i64 P1.ln] 41)) = we at *
  have KE0 : Hid (Blk we (w.heap.size) 40 #[.int .i64 S0a, .int .i64 S0b]) := Lib.hid (ke0)
  have KE1 : Hid (Blk we (w.heap.size + 1) 41 #[.int .i64 P1.id, .int .i64 P1.fr, .int .i64 P1.to, .int .i64 P1.cl, .int .i64 P1.ln]) := Lib.hid (ke1)
  have GE := Lib.hid (ge)
  have RZ0 := Lib.hid (Chg.refl 0 0 we)
  clear ge ke0 ke1
  obtain ⟨res, hres⟩ : ∃ r, pktOk S0a S0b P1 = r := ⟨_, rfl⟩
  have HSP := Lib.hid (fun (w : World) => show Calls Try.prog 17 #[.agg #[.int .i64 S0a, .int .i64 S0b], .agg #[.int .i64 P1.id, .int .i64 P1.fr, .int .i64 P1.to, .int .i64 P1.cl, .int .i64 P1.ln]] w (RetB res w) from hres ▸ specPacketOk S0a S0b P1 w)
  have HIM := Lib.hid (fun (w : World) => show Calls Try.prog 13 #[.agg #[.int .i64 S0a, .int .i64 S0b], .agg #[.int .i64 P1.id, .int .i64 P1.fr, .int .i64 P1.to, .int .i64 P1.cl, .int .i64 P1.ln]] w (RetB res w) from hres ▸ implPacketOk S0a S0b P1 w)
  clear hres
  have BE := Lib.hid (gb_below_none GE.out (Nat.le_refl _))
  have KPw := Lib.hid (fun (w' : World) (hq : Chg 0 0 we w') => (show w'.cell? ⟨w.heap.size, 0, none⟩ = some (.int .i64 S0a) ∧ w'.cell? ⟨w.heap.size, 1, none⟩ = some (.int .i64 S0b) ∧ w'.cell? ⟨w.heap.size + 1, 0, none⟩ = some (.int .i64 P1.id) ∧ w'.cell? ⟨w.heap.size + 1, 1, none⟩ = some (.int .i64 P1.fr) ∧ w'.cell? ⟨w.heap.size + 1, 2, none⟩ = some (.int .i64 P1.to) ∧ w'.cell? ⟨w.heap.size + 1, 3, none⟩ = some (.int .i64 P1.cl) ∧ w'.cell? ⟨w.heap.size + 1, 4, none⟩ = some (.int .i64 P1.ln) from ⟨(KE0.out.nx hq).cell 0, (KE0.out.nx hq).cell 1, (KE1.out.nx hq).cell 0, (KE1.out.nx hq).cell 1, (KE1.out.nx hq).cell 2, (KE1.out.nx hq).cell 3, (KE1.out.nx hq).cell 4⟩))
  go_region_held3 (fun w' => w'.cell? ⟨w.heap.size, 0, none⟩ = some (.int .i64 S0a) ∧ w'.cell? ⟨w.heap.size, 1, none⟩ = some (.int .i64 S0b) ∧ w'.cell? ⟨w.heap.size + 1, 0, none⟩ = some (.int .i64 P1.id) ∧ w'.cell? ⟨w.heap.size + 1, 1, none⟩ = some (.int .i64 P1.fr) ∧ w'.cell? ⟨w.heap.size + 1, 2, none⟩ = some (.int .i64 P1.to) ∧ w'.cell? ⟨w.heap.size + 1, 3, none⟩ = some (.int .i64 P1.cl) ∧ w'.cell? ⟨w.heap.size + 1, 4, none⟩ = some (.int .i64 P1.ln))
    (first | with_reducible exact KPw.out _ (RZ0.out) | with_reducible exact KPw.out _ (RZ0.out.dr) | with_reducible exact KPw.out _ (R1.out) | with_reducible exact KPw.out _ (R2.out) | with_reducible exact KPw.out _ (R3.out) | fail)
    (first
      | (go_at_call 18; (with_reducible refine (lawsToGrid _ _ _ ).mono ?_); rintro e w1 ⟨rfl, bw0⟩; have R1 : Hid (Chg 0 0 we w1) := Lib.hid ((RZ0.out.dr).gb bw0); have Q1 := Lib.hid (chg_gb 0 0 bw0); clear bw0)
      | (go_at_call 19; (with_reducible refine (lawsToPacket P1 _ ).mono ?_); rintro e w2 ⟨rfl, bw1⟩; have R2 : Hid (Chg 0 0 we w2) := Lib.hid ((R1.out).gb bw1); have Q2 := Lib.hid (chg_gb 0 0 bw1); clear bw1)
      | (go_at_call 17; (with_reducible refine (HSP.out _).mono ?_); rintro e w3 ⟨rfl, bw⟩; have R3 : Hid (Chg 0 0 we w3) := Lib.hid ((R2.out).gb bw); have Q3 := Lib.hid (chg_gb 0 0 bw); clear bw)
      | fail)
  all_goals
    have HS0 := Lib.hid ((R3.out).size)
    have KE0v := Lib.hid (KE0.out.nx (R3.out))
    have KE1v := Lib.hid (KE1.out.nx (R3.out))
    have BEv := Lib.hid (BE.out.trans ((R3.out).below (.inr (Nat.le_refl _)) BE.out.size))
    have Rv := Lib.hid (Chg.refl 0 0 w3)
    go_wp2_with fail
    have KPg := Lib.hid (fun (w' : World) (hq : Chg 0 0 w3 w') => (show w'.cell? ⟨w.heap.size, 0, none⟩ = some (.int .i64 S0a) ∧ w'.cell? ⟨w.heap.size, 1, none⟩ = some (.int .i64 S0b) ∧ w'.cell? ⟨w.heap.size + 1, 0, none⟩ = some (.int .i64 P1.id) ∧ w'.cell? ⟨w.heap.size + 1, 1, none⟩ = some (.int .i64 P1.fr) ∧ w'.cell? ⟨w.heap.size + 1, 2, none⟩ = some (.int .i64 P1.to) ∧ w'.cell? ⟨w.heap.size + 1, 3, none⟩ = some (.int .i64 P1.cl) ∧ w'.cell? ⟨w.heap.size + 1, 4, none⟩ = some (.int .i64 P1.ln) from ⟨(KE0v.out.nx hq).cell 0, (KE0v.out.nx hq).cell 1, (KE1v.out.nx hq).cell 0, (KE1v.out.nx hq).cell 1, (KE1v.out.nx hq).cell 2, (KE1v.out.nx hq).cell 3, (KE1v.out.nx hq).cell 4⟩))
    go_region_held3 (fun w' => w'.cell? ⟨w.heap.size, 0, none⟩ = some (.int .i64 S0a) ∧ w'.cell? ⟨w.heap.size, 1, none⟩ = some (.int .i64 S0b) ∧ w'.cell? ⟨w.heap.size + 1, 0, none⟩ = some (.int .i64 P1.id) ∧ w'.cell? ⟨w.heap.size + 1, 1, none⟩ = some (.int .i64 P1.fr) ∧ w'.cell? ⟨w.heap.size + 1, 2, none⟩ = some (.int .i64 P1.to) ∧ w'.cell? ⟨w.heap.size + 1, 3, none⟩ = some (.int .i64 P1.cl) ∧ w'.cell? ⟨w.heap.size + 1, 4, none⟩ = some (.int .i64 P1.ln))
      (first | with_reducible exact KPg.out _ (Rv.out) | with_reducible exact KPg.out _ (Rv.out.dr) | with_reducible exact KPg.out _ (R4.out) | with_reducible exact KPg.out _ (R5.out) | with_reducible exact KPg.out _ (R6.out) | fail)
      (first
        | (go_at_call 18; (with_reducible refine (lawsToGrid _ _ _ ).mono ?_); rintro e w4 ⟨rfl, bg0⟩; have R4 : Hid (Chg 0 0 w3 w4) := Lib.hid ((Rv.out.dr).gb bg0); have Q4 := Lib.hid (chg_gb 0 0 bg0); clear bg0)
        | (go_at_call 19; (with_reducible refine (lawsToPacket P1 _ ).mono ?_); rintro e w5 ⟨rfl, bg1⟩; have R5 : Hid (Chg 0 0 w3 w5) := Lib.hid ((R4.out).gb bg1); have Q5 := Lib.hid (chg_gb 0 0 bg1); clear bg1)
        | (go_at_call 13; (with_reducible refine (HIM.out _).mono ?_); rintro e w6 ⟨rfl, bg⟩; have R6 : Hid (Chg 0 0 w3 w6) := Lib.hid ((R5.out).gb bg); have Q6 := Lib.hid (chg_gb 0 0 bg); clear bg)
        | fail)
    all_goals
      have RS := Lib.hid (R6.out)
      have T0 := Lib.hid (Chg.refl 0 0 w6)
      go_wp2_with fail
      go_ret
      exact ⟨rfl, BEv.out.trans ((RS.out.trans T0.out).below (.inr (Nat.le_refl _)) BEv.out.size)⟩
end Go.Proofs.Ytcjidpegmlbenaa
