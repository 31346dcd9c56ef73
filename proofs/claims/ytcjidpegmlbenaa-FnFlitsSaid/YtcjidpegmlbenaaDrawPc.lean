/- What is proved here: what the model's DrawPacket returns: a valid grid and a valid packet; only new blocks are written. -/
import Derived.Test.YtcjidpegmlbenaaDrawPk
namespace Go.Proofs.Ytcjidpegmlbenaa
open Go.ChangeShapes Go.WideShapes Go.ChangeAt Go.RowKit
set_option linter.unusedVariables false
set_option maxRecDepth 20000

/-- A valid grid and a valid packet. -/
def DrawnPk (w : World) (e : Ending) (w' : World) : Prop := ∃ (W H : Int) (p : Pkt), e = .returned (.tuple #[.agg #[.int .i64 W, .int .i64 H], .agg #[.int .i64 p.id, .int .i64 p.fr, .int .i64 p.to, .int .i64 p.cl, .int .i64 p.ln]]) ∧ okG W H = true ∧ pktOk W H p = true ∧ Below w.heap.size w w'
theorem gb_drP2 {a b : World} {row : Option Nat} (h : a.drew.grownBy b row) : a.grownBy b row := ⟨h.os, h.tape, h.output, h.size, h.block⟩
set_option maxRecDepth 100000 in
set_option maxHeartbeats 8000000 in
theorem drawPacket (A : Option Addr) (n cap : Nat) (w : World) (hr : ByteRow w w.heap.size A n) (hn : n ≤ 1048576) :
    Calls Try.prog 10 #[.slice A n cap] w (DrawnPk w) := by
  have hg0 : w.grownBy ((w.alloc (.cells #[.int .i64 0, .int .i64 0] 25)).alloc (.cells #[.int .i64 0, .int .i64 0, .int .i64 0, .int .i64 0, .int .i64 0] 27)) none := gb_alloc (gb_alloc (gb_refl w none) _) _
  have hrow : ByteRow ((w.alloc (.cells #[.int .i64 0, .int .i64 0] 25)).alloc (.cells #[.int .i64 0, .int .i64 0, .int .i64 0, .int .i64 0, .int .i64 0] 27)) ((w.alloc (.cells #[.int .i64 0, .int .i64 0] 25)).alloc (.cells #[.int .i64 0, .int .i64 0, .int .i64 0, .int .i64 0, .int .i64 0] 27)).heap.size A n :=
    (hr.keep fun p hp => World.cell?_of_block (hg0.block p.block hp (by simp))).more hg0.size
  have HRW := Lib.hid hrow
  have hbp := Blk.new (w.alloc (.cells #[.int .i64 0, .int .i64 0] 25)) 27 #[.int .i64 0, .int .i64 0, .int .i64 0, .int .i64 0, .int .i64 0]
  rw [alloc_size] at hbp
  have HBP := Lib.hid hbp
  have HBG := Lib.hid ((Blk.new w 25 #[.int .i64 0, .int .i64 0]).alloc (.cells #[.int .i64 0, .int .i64 0, .int .i64 0, .int .i64 0, .int .i64 0] 27))
  have HB0 := Lib.hid (gb_below_none hg0 (Nat.le_refl _))
  clear hr hg0 hrow hbp
  go_enter Try.func10, Try.ntmps10
  go_wp2_with fail
  refine (l01New A n cap _ HRW.out hn).mono ?_
  rintro e w1 ⟨g, rfl, hg, hc1, hb1⟩
  rw [alloc_size, alloc_size] at hg
  have HP1 := Lib.hid (HBP.out.below hb1 HBP.out.lt)
  have HQ1 := Lib.hid (HBG.out.below hb1 HBG.out.lt)
  have HB1 := Lib.hid (HB0.out.trans (hb1.mono HB0.out.size))
  have HC1 := Lib.hid hc1
  have hgw : w.heap.size + 1 < g := by omega
  clear hc1 hb1 hg
  go_wp2_with fail
  refine (l14Grid g _ HC1.out).mono ?_
  rintro e w2 ⟨W, H, rfl, hok, hk2, hc2, hg2⟩
  have hgl := hc2.lt
  have HOK := Lib.hid hok
  have HK2 := Lib.hid hk2
  have HP2 := Lib.hid ((HP1.out.grown hg2 (fun e => by cases e; omega)).alloc (.cells #[.int .i64 W, .int .i64 H] 25))
  have HQ2 := Lib.hid ((HQ1.out.grown hg2 (fun e => by cases e; omega)).alloc (.cells #[.int .i64 W, .int .i64 H] 25))
  have HB2 := Lib.hid ((HB1.out.grown hg2 HB1.out.size (fun j e => by cases e; omega)).alloc (Nat.le_trans HB1.out.size hg2.size) (.cells #[.int .i64 W, .int .i64 H] 25))
  have HX2 := Lib.hid (Blk.new w2 25 #[.int .i64 W, .int .i64 H])
  have HC2 : Hid (Cur (w2.alloc (.cells #[.int .i64 W, .int .i64 H] 25)).drew g) := (hc2.grown (gb_alloc (gb_refl _ none) (.cells #[.int .i64 W, .int .i64 H] 25)) (fun k e => by cases e) : Cur (w2.alloc (.cells #[.int .i64 W, .int .i64 H] 25)) g)
  have a0 : (w2.alloc (.cells #[.int .i64 W, .int .i64 H] 25)).cell? ⟨w2.heap.size, 0, none⟩ = some (.int .i64 W) := HX2.out.cell 0
  have a1 : (w2.alloc (.cells #[.int .i64 W, .int .i64 H] 25)).cell? ⟨w2.heap.size, 1, none⟩ = some (.int .i64 H) := HX2.out.cell 1
  have d0 : (w2.alloc (.cells #[.int .i64 W, .int .i64 H] 25)).drew.cell? ⟨w2.heap.size, 0, none⟩ = some (.int .i64 W) := a0
  have d1 : (w2.alloc (.cells #[.int .i64 W, .int .i64 H] 25)).drew.cell? ⟨w2.heap.size, 1, none⟩ = some (.int .i64 H) := a1
  have HNE := Lib.hid (show w2.heap.size ≠ g by omega)
  have HQX := Lib.hid (show w.heap.size + 1 < w2.heap.size by omega)
  have HNG := Lib.hid hgw
  clear hok hk2 hc2 hg2
  go_wp2_with fail
  go_region_held3 (fun w' => w'.cell? ⟨w2.heap.size, 0, none⟩ = some (.int .i64 W) ∧ w'.cell? ⟨w2.heap.size, 1, none⟩ = some (.int .i64 H))
    (first | with_reducible exact ⟨a0, a1⟩ | with_reducible exact ⟨d0, d1⟩ | with_reducible exact ⟨b0, b1⟩ | with_reducible exact ⟨c0, c1⟩ | with_reducible exact ⟨s0, s1⟩ | with_reducible exact ⟨u0, u1⟩ | fail)
    (first
      | (go_at_call 32; (with_reducible refine (l01Below 50 g _ HC2.out).mono ?_); rintro e w3 ⟨x, rfl, x0, x1, _, hc3, hg3⟩; have x2 := x1 (by omega); have e1 : IntKind.i64.wrap (1 + x) = 1 + x := IntWalk.i64_in _ (by omega); have HC3 := Lib.hid hc3; have h3 := gb_drP2 hg3; have HX3 := Lib.hid (HX2.out.grown h3 (fun e => HNE.out (by cases e; rfl))); have HP3 := Lib.hid (HP2.out.grown h3 (fun e => by have := HNG.out; cases e; omega)); have HQ3 := Lib.hid (HQ2.out.grown h3 (fun e => by have := HNG.out; cases e; omega)); have HB3 := Lib.hid (HB2.out.grown h3 HB2.out.size (fun j e => by have := HNG.out; cases e; omega)); have HID := Lib.hid (show 1 ≤ 1 + x ∧ 1 + x ≤ 9999 by omega); have b0 : w3.cell? ⟨w2.heap.size, 0, none⟩ = some (.int .i64 W) := HX3.out.cell 0; have b1 : w3.cell? ⟨w2.heap.size, 1, none⟩ = some (.int .i64 H) := HX3.out.cell 1; clear hc3 hg3 h3 x1)
      | (go_at_call 31; (with_reducible refine (l14Packet W H (1 + x) g _ HC3.out HOK.out HK2.out HID.out).mono ?_); rintro e w4 ⟨p, rfl, hp, -, hc4, hg4⟩; have HPK := Lib.hid hp; have HX4 := Lib.hid (HX3.out.grown hg4 (fun e => HNE.out (by cases e; rfl))); have HP4 := Lib.hid (HP3.out.grown hg4 (fun e => by have := HNG.out; cases e; omega)); have HQ4 := Lib.hid (HQ3.out.grown hg4 (fun e => by have := HNG.out; cases e; omega)); have HB4 := Lib.hid (HB3.out.grown hg4 HB3.out.size (fun j e => by have := HNG.out; cases e; omega)); have c0 : w4.cell? ⟨w2.heap.size, 0, none⟩ = some (.int .i64 W) := HX4.out.cell 0; have c1 : w4.cell? ⟨w2.heap.size, 1, none⟩ = some (.int .i64 H) := HX4.out.cell 1
         have hn1 : w2.heap.size ≠ w.heap.size := (by have := HQX.out; omega); have hn2 : w2.heap.size ≠ w.heap.size + 1 := (by have := HQX.out; omega)
         have X5 := Lib.hid ((HX4.out.far (p := ⟨w.heap.size, 0, none⟩) hn1 (.int .i64 W)).far (p := ⟨w.heap.size, 1, none⟩) hn1 (.int .i64 H))
         have X6 := Lib.hid (((((X5.out.far (p := ⟨w.heap.size + 1, 0, none⟩) hn2 (.int .i64 p.id)).far (p := ⟨w.heap.size + 1, 1, none⟩) hn2 (.int .i64 p.fr)).far (p := ⟨w.heap.size + 1, 2, none⟩) hn2 (.int .i64 p.to)).far (p := ⟨w.heap.size + 1, 3, none⟩) hn2 (.int .i64 p.cl)).far (p := ⟨w.heap.size + 1, 4, none⟩) hn2 (.int .i64 p.ln))
         have s0 : ((w4.setCell ⟨w.heap.size, 0, none⟩ (.int .i64 W)).setCell ⟨w.heap.size, 1, none⟩ (.int .i64 H)).cell? ⟨w2.heap.size, 0, none⟩ = some (.int .i64 W) := X5.out.cell 0
         have s1 : ((w4.setCell ⟨w.heap.size, 0, none⟩ (.int .i64 W)).setCell ⟨w.heap.size, 1, none⟩ (.int .i64 H)).cell? ⟨w2.heap.size, 1, none⟩ = some (.int .i64 H) := X5.out.cell 1
         have u0 : (((((((w4.setCell ⟨w.heap.size, 0, none⟩ (.int .i64 W)).setCell ⟨w.heap.size, 1, none⟩ (.int .i64 H)).setCell ⟨w.heap.size + 1, 0, none⟩ (.int .i64 p.id)).setCell ⟨w.heap.size + 1, 1, none⟩ (.int .i64 p.fr)).setCell ⟨w.heap.size + 1, 2, none⟩ (.int .i64 p.to)).setCell ⟨w.heap.size + 1, 3, none⟩ (.int .i64 p.cl)).setCell ⟨w.heap.size + 1, 4, none⟩ (.int .i64 p.ln)).cell? ⟨w2.heap.size, 0, none⟩ = some (.int .i64 W) := X6.out.cell 0
         have u1 : (((((((w4.setCell ⟨w.heap.size, 0, none⟩ (.int .i64 W)).setCell ⟨w.heap.size, 1, none⟩ (.int .i64 H)).setCell ⟨w.heap.size + 1, 0, none⟩ (.int .i64 p.id)).setCell ⟨w.heap.size + 1, 1, none⟩ (.int .i64 p.fr)).setCell ⟨w.heap.size + 1, 2, none⟩ (.int .i64 p.to)).setCell ⟨w.heap.size + 1, 3, none⟩ (.int .i64 p.cl)).setCell ⟨w.heap.size + 1, 4, none⟩ (.int .i64 p.ln)).cell? ⟨w2.heap.size, 1, none⟩ = some (.int .i64 H) := X6.out.cell 1
         have m0 : w4.cell? ⟨w.heap.size, 0, none⟩ = some (.int .i64 0) := HQ4.out.cell 0; have m1 : w4.cell? ⟨w.heap.size, 1, none⟩ = some (.int .i64 0) := HQ4.out.cell 1
         have t0 : w4.cell? ⟨w.heap.size + 1, 0, none⟩ = some (.int .i64 0) := HP4.out.cell 0; have t1 : w4.cell? ⟨w.heap.size + 1, 1, none⟩ = some (.int .i64 0) := HP4.out.cell 1; have t2 : w4.cell? ⟨w.heap.size + 1, 2, none⟩ = some (.int .i64 0) := HP4.out.cell 2; have t3 : w4.cell? ⟨w.heap.size + 1, 3, none⟩ = some (.int .i64 0) := HP4.out.cell 3; have t4 : w4.cell? ⟨w.heap.size + 1, 4, none⟩ = some (.int .i64 0) := HP4.out.cell 4
         have f0 := HQ4.out.frozen 0; have f1 := HQ4.out.frozen 1; have f2 := HP4.out.frozen 0; have f3 := HP4.out.frozen 1; have f4 := HP4.out.frozen 2; have f5 := HP4.out.frozen 3; have f6 := HP4.out.frozen 4; clear hc4 hg4 hp)
      | fail)
  all_goals
    have hnn : w.heap.size ≠ w.heap.size + 1 := by omega
    have hnn2 : w.heap.size + 1 ≠ w.heap.size := by omega
    have kk := ((((((HQ4.out.set_ 0 (.int .i64 W)).set_ 1 (.int .i64 H)).far (p := ⟨w.heap.size + 1, 0, none⟩) hnn (.int .i64 p.id)).far (p := ⟨w.heap.size + 1, 1, none⟩) hnn (.int .i64 p.fr)).far (p := ⟨w.heap.size + 1, 2, none⟩) hnn (.int .i64 p.to)).far (p := ⟨w.heap.size + 1, 3, none⟩) hnn (.int .i64 p.cl)).far (p := ⟨w.heap.size + 1, 4, none⟩) hnn (.int .i64 p.ln)
    have tt := ((((((HP4.out.far (p := ⟨w.heap.size, 0, none⟩) hnn2 (.int .i64 W)).far (p := ⟨w.heap.size, 1, none⟩) hnn2 (.int .i64 H)).set_ 0 (.int .i64 p.id)).set_ 1 (.int .i64 p.fr)).set_ 2 (.int .i64 p.to)).set_ 3 (.int .i64 p.cl)).set_ 4 (.int .i64 p.ln)
    have r0 := kk.cell 0
    have r1 := kk.cell 1
    have r2 := tt.cell 0
    have r3 := tt.cell 1
    have r4 := tt.cell 2
    have r5 := tt.cell 3
    have r6 := tt.cell 4
    simp at r0 r1 r2 r3 r4 r5 r6
    have hz : w.heap.size ≤ w.heap.size := Nat.le_refl _
    have hz1 : w.heap.size ≤ w.heap.size + 1 := by omega
    have B8 := Lib.hid ((((((((HB4.out.setCell (p := ⟨w.heap.size, 0, none⟩) hz (.int .i64 W)).setCell (p := ⟨w.heap.size, 1, none⟩) hz (.int .i64 H)).setCell (p := ⟨w.heap.size + 1, 0, none⟩) hz1 (.int .i64 p.id)).setCell (p := ⟨w.heap.size + 1, 1, none⟩) hz1 (.int .i64 p.fr)).setCell (p := ⟨w.heap.size + 1, 2, none⟩) hz1 (.int .i64 p.to)).setCell (p := ⟨w.heap.size + 1, 3, none⟩) hz1 (.int .i64 p.cl)).setCell (p := ⟨w.heap.size + 1, 4, none⟩) hz1 (.int .i64 p.ln)))
    clear kk tt
    go_wp2_with fail
    exact bodyPost_ret (v := .tuple #[.agg #[.int .i64 W, .int .i64 H], .agg #[.int .i64 p.id, .int .i64 p.fr, .int .i64 p.to, .int .i64 p.cl, .int .i64 p.ln]]) (by simp [results, Try.results10, go_sem, r0, r1, r2, r3, r4, r5, r6]) rfl ⟨W, H, p, rfl, HOK.out, HPK.out, B8.out⟩
end Go.Proofs.Ytcjidpegmlbenaa
