/- What is proved here: what the program's NetOk, FlitsInside and FlitsWaiting return, for all arguments; only new blocks are written; the program's SendAll, for all arguments; only new blocks are written; the exact law on SendAll answers true, for every argument; only new blocks are written. -/
import Derived.Test.YtfloekbmgjmhbaaGreatME
import Derived.Deep.Cut
section
namespace Go.Proofs.YtfloekbmgjmhbaaGreat
open Go.ChangeShapes Go.WideShapes Go.ChangeAt Go.RowKit
set_option linter.unusedVariables false
set_option maxRecDepth 20000

set_option maxHeartbeats 3200000 in
theorem implNetOk (y : Na) (N : Nt) (w : World) (h : NetIn w w.heap.size y N) (hn : NetSm N) (hc : NetCap y N) (hL : WfL N.br) :
    Calls Tryz.prog 29 #[.agg #[.int .i64 N.W, .int .i64 N.H, .slice y.br.A N.br.length y.br.c, .slice y.ta.A N.ta.length y.ta.c, .slice y.tb.A N.tb.length y.tb.c, .slice y.bu.A N.bu.length y.bu.c, .slice y.ow.A N.ow.length y.ow.c, .slice y.tu.A N.tu.length y.tu.c, .slice y.so.A N.so.length y.so.c, .slice y.ar.A N.ar.length y.ar.c, .int .i64 N.ti]] w (RetB (netOk N) w) := by
  have HI := Lib.hid h
  have X0 := Lib.hid (nkAt_start (w := w) (y := y) (N := N))
  have HC0 := Lib.hid (fun (b : Bool) (hb : clsOk N.W N.H N.br N.ta N.tb = b) w (h : NetIn w w.heap.size y N) => implClassesOkV N.W N.H y.br.A y.ta.A y.tb.A N.br.length y.br.c N.ta.length y.ta.c N.tb.length y.tb.c N.br N.ta N.tb hL b hb w h.br h.ta h.tb hn.br hn.ta hn.tb)
  have HC1 := Lib.hid (fun (b : Bool) (hb : sizesI N = b) w => implSizesV y N b hb w)
  have HC2 := Lib.hid (fun (b : Bool) (hb : bufsI N = b) w (h : NetIn w w.heap.size y N) => implBufsV y N b hb w h hn)
  have HC3 := Lib.hid (fun (b : Bool) (hb : srcsI N = b) w (h : NetIn w w.heap.size y N) => implSrcsV y N b hb w h hn)
  have HC4 := Lib.hid (fun (b : Bool) (hb : withL (-1) 4 N.ow = b) w h => implWithinV (-1) 4 y.ow.A N.ow.length y.ow.c N.ow b hb w h hn.ow)
  have HC5 := Lib.hid (fun (b : Bool) (hb : withL 0 9 N.tu = b) w h => implWithinV 0 9 y.tu.A N.tu.length y.tu.c N.tu b hb w h hn.tu)
  have HC6 := Lib.hid (fun (b : Bool) (hb : withL 0 1000000 [N.ti] = b) w => implWithin1 0 1000000 N.ti b ((withL_one _ _ _).symm.trans hb) w)
  have HNO := Lib.hid (netOk_no (N := N))
  clear h hc
  cases h0 : clsOk N.W N.H N.br N.ta N.tb with
  | false =>
    have C0 := Lib.hid (HC0.out false h0)
    have R := Lib.hid (HNO.out (by rw [h0]; simp))
    clear h0
    go_enter Tryz.func29, Tryz.ntmps29
    go_wp2_with fail
    refine (C0.out _ (X0.out.in HI.out)).mono ?_
    rintro e w1 ⟨rfl, g1⟩
    have X1 := Lib.hid (X0.out.gb g1)
    clear g1
    go_wp2_with fail
    go_ret
    exact ⟨ret_bool R.out, X1.out.g⟩
  | true =>
    have C0 := Lib.hid (HC0.out true h0)
    cases h1 : sizesI N with
    | false =>
      have C1 := Lib.hid (HC1.out false h1)
      have R := Lib.hid (HNO.out (by rw [h1]; simp))
      clear h0 h1
      go_enter Tryz.func29, Tryz.ntmps29
      go_wp2_with fail
      refine (C0.out _ (X0.out.in HI.out)).mono ?_
      rintro e w1 ⟨rfl, g1⟩
      have X1 := Lib.hid (X0.out.gb g1)
      clear g1
      have a0 : w1.cell? ⟨w.heap.size, 0, none⟩ = some (.int .i64 N.W) := X1.out.b.cell 0
      have a1 : w1.cell? ⟨w.heap.size, 1, none⟩ = some (.int .i64 N.H) := X1.out.b.cell 1
      have a2 : w1.cell? ⟨w.heap.size, 2, none⟩ = some (.slice y.br.A N.br.length y.br.c) := X1.out.b.cell 2
      have a3 : w1.cell? ⟨w.heap.size, 3, none⟩ = some (.slice y.ta.A N.ta.length y.ta.c) := X1.out.b.cell 3
      have a4 : w1.cell? ⟨w.heap.size, 4, none⟩ = some (.slice y.tb.A N.tb.length y.tb.c) := X1.out.b.cell 4
      have a5 : w1.cell? ⟨w.heap.size, 5, none⟩ = some (.slice y.bu.A N.bu.length y.bu.c) := X1.out.b.cell 5
      have a6 : w1.cell? ⟨w.heap.size, 6, none⟩ = some (.slice y.ow.A N.ow.length y.ow.c) := X1.out.b.cell 6
      have a7 : w1.cell? ⟨w.heap.size, 7, none⟩ = some (.slice y.tu.A N.tu.length y.tu.c) := X1.out.b.cell 7
      have a8 : w1.cell? ⟨w.heap.size, 8, none⟩ = some (.slice y.so.A N.so.length y.so.c) := X1.out.b.cell 8
      have a9 : w1.cell? ⟨w.heap.size, 9, none⟩ = some (.slice y.ar.A N.ar.length y.ar.c) := X1.out.b.cell 9
      have a10 : w1.cell? ⟨w.heap.size, 10, none⟩ = some (.int .i64 N.ti) := X1.out.b.cell 10
      go_wp2_with fail
      refine (C1.out _).mono ?_
      rintro e w2 ⟨rfl, g2⟩
      have X2 := Lib.hid (X1.out.gb g2)
      clear g2
      clear a0 a1 a2 a3 a4 a5 a6 a7 a8 a9 a10
      go_wp2_with fail
      go_ret
      exact ⟨ret_bool R.out, X2.out.g⟩
    | true =>
      have C1 := Lib.hid (HC1.out true h1)
      cases h2 : bufsI N with
      | false =>
        have C2 := Lib.hid (HC2.out false h2)
        have R := Lib.hid (HNO.out (by rw [h2]; simp))
        clear h0 h1 h2
        go_enter Tryz.func29, Tryz.ntmps29
        go_wp2_with fail
        refine (C0.out _ (X0.out.in HI.out)).mono ?_
        rintro e w1 ⟨rfl, g1⟩
        have X1 := Lib.hid (X0.out.gb g1)
        clear g1
        have a0 : w1.cell? ⟨w.heap.size, 0, none⟩ = some (.int .i64 N.W) := X1.out.b.cell 0
        have a1 : w1.cell? ⟨w.heap.size, 1, none⟩ = some (.int .i64 N.H) := X1.out.b.cell 1
        have a2 : w1.cell? ⟨w.heap.size, 2, none⟩ = some (.slice y.br.A N.br.length y.br.c) := X1.out.b.cell 2
        have a3 : w1.cell? ⟨w.heap.size, 3, none⟩ = some (.slice y.ta.A N.ta.length y.ta.c) := X1.out.b.cell 3
        have a4 : w1.cell? ⟨w.heap.size, 4, none⟩ = some (.slice y.tb.A N.tb.length y.tb.c) := X1.out.b.cell 4
        have a5 : w1.cell? ⟨w.heap.size, 5, none⟩ = some (.slice y.bu.A N.bu.length y.bu.c) := X1.out.b.cell 5
        have a6 : w1.cell? ⟨w.heap.size, 6, none⟩ = some (.slice y.ow.A N.ow.length y.ow.c) := X1.out.b.cell 6
        have a7 : w1.cell? ⟨w.heap.size, 7, none⟩ = some (.slice y.tu.A N.tu.length y.tu.c) := X1.out.b.cell 7
        have a8 : w1.cell? ⟨w.heap.size, 8, none⟩ = some (.slice y.so.A N.so.length y.so.c) := X1.out.b.cell 8
        have a9 : w1.cell? ⟨w.heap.size, 9, none⟩ = some (.slice y.ar.A N.ar.length y.ar.c) := X1.out.b.cell 9
        have a10 : w1.cell? ⟨w.heap.size, 10, none⟩ = some (.int .i64 N.ti) := X1.out.b.cell 10
        go_wp2_with fail
        refine (C1.out _).mono ?_
        rintro e w2 ⟨rfl, g2⟩
        have X2 := Lib.hid (X1.out.gb g2)
        clear g2
        clear a0 a1 a2 a3 a4 a5 a6 a7 a8 a9 a10
        have a0 : w2.cell? ⟨w.heap.size, 0, none⟩ = some (.int .i64 N.W) := X2.out.b.cell 0
        have a1 : w2.cell? ⟨w.heap.size, 1, none⟩ = some (.int .i64 N.H) := X2.out.b.cell 1
        have a2 : w2.cell? ⟨w.heap.size, 2, none⟩ = some (.slice y.br.A N.br.length y.br.c) := X2.out.b.cell 2
        have a3 : w2.cell? ⟨w.heap.size, 3, none⟩ = some (.slice y.ta.A N.ta.length y.ta.c) := X2.out.b.cell 3
        have a4 : w2.cell? ⟨w.heap.size, 4, none⟩ = some (.slice y.tb.A N.tb.length y.tb.c) := X2.out.b.cell 4
        have a5 : w2.cell? ⟨w.heap.size, 5, none⟩ = some (.slice y.bu.A N.bu.length y.bu.c) := X2.out.b.cell 5
        have a6 : w2.cell? ⟨w.heap.size, 6, none⟩ = some (.slice y.ow.A N.ow.length y.ow.c) := X2.out.b.cell 6
        have a7 : w2.cell? ⟨w.heap.size, 7, none⟩ = some (.slice y.tu.A N.tu.length y.tu.c) := X2.out.b.cell 7
        have a8 : w2.cell? ⟨w.heap.size, 8, none⟩ = some (.slice y.so.A N.so.length y.so.c) := X2.out.b.cell 8
        have a9 : w2.cell? ⟨w.heap.size, 9, none⟩ = some (.slice y.ar.A N.ar.length y.ar.c) := X2.out.b.cell 9
        have a10 : w2.cell? ⟨w.heap.size, 10, none⟩ = some (.int .i64 N.ti) := X2.out.b.cell 10
        go_wp2_with fail
        refine (C2.out _ (X2.out.in HI.out)).mono ?_
        rintro e w3 ⟨rfl, g3⟩
        have X3 := Lib.hid (X2.out.gb g3)
        clear g3
        clear a0 a1 a2 a3 a4 a5 a6 a7 a8 a9 a10
        go_wp2_with fail
        go_ret
        exact ⟨ret_bool R.out, X3.out.g⟩
      | true =>
        have C2 := Lib.hid (HC2.out true h2)
        cases h3 : srcsI N with
        | false =>
          have C3 := Lib.hid (HC3.out false h3)
          have R := Lib.hid (HNO.out (by rw [h3]; simp))
          clear h0 h1 h2 h3
          go_enter Tryz.func29, Tryz.ntmps29
          go_wp2_with fail
          refine (C0.out _ (X0.out.in HI.out)).mono ?_
          rintro e w1 ⟨rfl, g1⟩
          have X1 := Lib.hid (X0.out.gb g1)
          clear g1
          have a0 : w1.cell? ⟨w.heap.size, 0, none⟩ = some (.int .i64 N.W) := X1.out.b.cell 0
          have a1 : w1.cell? ⟨w.heap.size, 1, none⟩ = some (.int .i64 N.H) := X1.out.b.cell 1
          have a2 : w1.cell? ⟨w.heap.size, 2, none⟩ = some (.slice y.br.A N.br.length y.br.c) := X1.out.b.cell 2
          have a3 : w1.cell? ⟨w.heap.size, 3, none⟩ = some (.slice y.ta.A N.ta.length y.ta.c) := X1.out.b.cell 3
          have a4 : w1.cell? ⟨w.heap.size, 4, none⟩ = some (.slice y.tb.A N.tb.length y.tb.c) := X1.out.b.cell 4
          have a5 : w1.cell? ⟨w.heap.size, 5, none⟩ = some (.slice y.bu.A N.bu.length y.bu.c) := X1.out.b.cell 5
          have a6 : w1.cell? ⟨w.heap.size, 6, none⟩ = some (.slice y.ow.A N.ow.length y.ow.c) := X1.out.b.cell 6
          have a7 : w1.cell? ⟨w.heap.size, 7, none⟩ = some (.slice y.tu.A N.tu.length y.tu.c) := X1.out.b.cell 7
          have a8 : w1.cell? ⟨w.heap.size, 8, none⟩ = some (.slice y.so.A N.so.length y.so.c) := X1.out.b.cell 8
          have a9 : w1.cell? ⟨w.heap.size, 9, none⟩ = some (.slice y.ar.A N.ar.length y.ar.c) := X1.out.b.cell 9
          have a10 : w1.cell? ⟨w.heap.size, 10, none⟩ = some (.int .i64 N.ti) := X1.out.b.cell 10
          go_wp2_with fail
          refine (C1.out _).mono ?_
          rintro e w2 ⟨rfl, g2⟩
          have X2 := Lib.hid (X1.out.gb g2)
          clear g2
          clear a0 a1 a2 a3 a4 a5 a6 a7 a8 a9 a10
          have a0 : w2.cell? ⟨w.heap.size, 0, none⟩ = some (.int .i64 N.W) := X2.out.b.cell 0
          have a1 : w2.cell? ⟨w.heap.size, 1, none⟩ = some (.int .i64 N.H) := X2.out.b.cell 1
          have a2 : w2.cell? ⟨w.heap.size, 2, none⟩ = some (.slice y.br.A N.br.length y.br.c) := X2.out.b.cell 2
          have a3 : w2.cell? ⟨w.heap.size, 3, none⟩ = some (.slice y.ta.A N.ta.length y.ta.c) := X2.out.b.cell 3
          have a4 : w2.cell? ⟨w.heap.size, 4, none⟩ = some (.slice y.tb.A N.tb.length y.tb.c) := X2.out.b.cell 4
          have a5 : w2.cell? ⟨w.heap.size, 5, none⟩ = some (.slice y.bu.A N.bu.length y.bu.c) := X2.out.b.cell 5
          have a6 : w2.cell? ⟨w.heap.size, 6, none⟩ = some (.slice y.ow.A N.ow.length y.ow.c) := X2.out.b.cell 6
          have a7 : w2.cell? ⟨w.heap.size, 7, none⟩ = some (.slice y.tu.A N.tu.length y.tu.c) := X2.out.b.cell 7
          have a8 : w2.cell? ⟨w.heap.size, 8, none⟩ = some (.slice y.so.A N.so.length y.so.c) := X2.out.b.cell 8
          have a9 : w2.cell? ⟨w.heap.size, 9, none⟩ = some (.slice y.ar.A N.ar.length y.ar.c) := X2.out.b.cell 9
          have a10 : w2.cell? ⟨w.heap.size, 10, none⟩ = some (.int .i64 N.ti) := X2.out.b.cell 10
          go_wp2_with fail
          refine (C2.out _ (X2.out.in HI.out)).mono ?_
          rintro e w3 ⟨rfl, g3⟩
          have X3 := Lib.hid (X2.out.gb g3)
          clear g3
          clear a0 a1 a2 a3 a4 a5 a6 a7 a8 a9 a10
          have a0 : w3.cell? ⟨w.heap.size, 0, none⟩ = some (.int .i64 N.W) := X3.out.b.cell 0
          have a1 : w3.cell? ⟨w.heap.size, 1, none⟩ = some (.int .i64 N.H) := X3.out.b.cell 1
          have a2 : w3.cell? ⟨w.heap.size, 2, none⟩ = some (.slice y.br.A N.br.length y.br.c) := X3.out.b.cell 2
          have a3 : w3.cell? ⟨w.heap.size, 3, none⟩ = some (.slice y.ta.A N.ta.length y.ta.c) := X3.out.b.cell 3
          have a4 : w3.cell? ⟨w.heap.size, 4, none⟩ = some (.slice y.tb.A N.tb.length y.tb.c) := X3.out.b.cell 4
          have a5 : w3.cell? ⟨w.heap.size, 5, none⟩ = some (.slice y.bu.A N.bu.length y.bu.c) := X3.out.b.cell 5
          have a6 : w3.cell? ⟨w.heap.size, 6, none⟩ = some (.slice y.ow.A N.ow.length y.ow.c) := X3.out.b.cell 6
          have a7 : w3.cell? ⟨w.heap.size, 7, none⟩ = some (.slice y.tu.A N.tu.length y.tu.c) := X3.out.b.cell 7
          have a8 : w3.cell? ⟨w.heap.size, 8, none⟩ = some (.slice y.so.A N.so.length y.so.c) := X3.out.b.cell 8
          have a9 : w3.cell? ⟨w.heap.size, 9, none⟩ = some (.slice y.ar.A N.ar.length y.ar.c) := X3.out.b.cell 9
          have a10 : w3.cell? ⟨w.heap.size, 10, none⟩ = some (.int .i64 N.ti) := X3.out.b.cell 10
          go_wp2_with fail
          refine (C3.out _ (X3.out.in HI.out)).mono ?_
          rintro e w4 ⟨rfl, g4⟩
          have X4 := Lib.hid (X3.out.gb g4)
          clear g4
          clear a0 a1 a2 a3 a4 a5 a6 a7 a8 a9 a10
          go_wp2_with fail
          go_ret
          exact ⟨ret_bool R.out, X4.out.g⟩
        | true =>
          have C3 := Lib.hid (HC3.out true h3)
          cases h4 : withL (-1) 4 N.ow with
          | false =>
            have C4 := Lib.hid (HC4.out false h4)
            have R := Lib.hid (HNO.out (by rw [h4]; simp))
            clear h0 h1 h2 h3 h4
            go_enter Tryz.func29, Tryz.ntmps29
            go_wp2_with fail
            refine (C0.out _ (X0.out.in HI.out)).mono ?_
            rintro e w1 ⟨rfl, g1⟩
            have X1 := Lib.hid (X0.out.gb g1)
            clear g1
            have a0 : w1.cell? ⟨w.heap.size, 0, none⟩ = some (.int .i64 N.W) := X1.out.b.cell 0
            have a1 : w1.cell? ⟨w.heap.size, 1, none⟩ = some (.int .i64 N.H) := X1.out.b.cell 1
            have a2 : w1.cell? ⟨w.heap.size, 2, none⟩ = some (.slice y.br.A N.br.length y.br.c) := X1.out.b.cell 2
            have a3 : w1.cell? ⟨w.heap.size, 3, none⟩ = some (.slice y.ta.A N.ta.length y.ta.c) := X1.out.b.cell 3
            have a4 : w1.cell? ⟨w.heap.size, 4, none⟩ = some (.slice y.tb.A N.tb.length y.tb.c) := X1.out.b.cell 4
            have a5 : w1.cell? ⟨w.heap.size, 5, none⟩ = some (.slice y.bu.A N.bu.length y.bu.c) := X1.out.b.cell 5
            have a6 : w1.cell? ⟨w.heap.size, 6, none⟩ = some (.slice y.ow.A N.ow.length y.ow.c) := X1.out.b.cell 6
            have a7 : w1.cell? ⟨w.heap.size, 7, none⟩ = some (.slice y.tu.A N.tu.length y.tu.c) := X1.out.b.cell 7
            have a8 : w1.cell? ⟨w.heap.size, 8, none⟩ = some (.slice y.so.A N.so.length y.so.c) := X1.out.b.cell 8
            have a9 : w1.cell? ⟨w.heap.size, 9, none⟩ = some (.slice y.ar.A N.ar.length y.ar.c) := X1.out.b.cell 9
            have a10 : w1.cell? ⟨w.heap.size, 10, none⟩ = some (.int .i64 N.ti) := X1.out.b.cell 10
            go_wp2_with fail
            refine (C1.out _).mono ?_
            rintro e w2 ⟨rfl, g2⟩
            have X2 := Lib.hid (X1.out.gb g2)
            clear g2
            clear a0 a1 a2 a3 a4 a5 a6 a7 a8 a9 a10
            have a0 : w2.cell? ⟨w.heap.size, 0, none⟩ = some (.int .i64 N.W) := X2.out.b.cell 0
            have a1 : w2.cell? ⟨w.heap.size, 1, none⟩ = some (.int .i64 N.H) := X2.out.b.cell 1
            have a2 : w2.cell? ⟨w.heap.size, 2, none⟩ = some (.slice y.br.A N.br.length y.br.c) := X2.out.b.cell 2
            have a3 : w2.cell? ⟨w.heap.size, 3, none⟩ = some (.slice y.ta.A N.ta.length y.ta.c) := X2.out.b.cell 3
            have a4 : w2.cell? ⟨w.heap.size, 4, none⟩ = some (.slice y.tb.A N.tb.length y.tb.c) := X2.out.b.cell 4
            have a5 : w2.cell? ⟨w.heap.size, 5, none⟩ = some (.slice y.bu.A N.bu.length y.bu.c) := X2.out.b.cell 5
            have a6 : w2.cell? ⟨w.heap.size, 6, none⟩ = some (.slice y.ow.A N.ow.length y.ow.c) := X2.out.b.cell 6
            have a7 : w2.cell? ⟨w.heap.size, 7, none⟩ = some (.slice y.tu.A N.tu.length y.tu.c) := X2.out.b.cell 7
            have a8 : w2.cell? ⟨w.heap.size, 8, none⟩ = some (.slice y.so.A N.so.length y.so.c) := X2.out.b.cell 8
            have a9 : w2.cell? ⟨w.heap.size, 9, none⟩ = some (.slice y.ar.A N.ar.length y.ar.c) := X2.out.b.cell 9
            have a10 : w2.cell? ⟨w.heap.size, 10, none⟩ = some (.int .i64 N.ti) := X2.out.b.cell 10
            go_wp2_with fail
            refine (C2.out _ (X2.out.in HI.out)).mono ?_
            rintro e w3 ⟨rfl, g3⟩
            have X3 := Lib.hid (X2.out.gb g3)
            clear g3
            clear a0 a1 a2 a3 a4 a5 a6 a7 a8 a9 a10
            have a0 : w3.cell? ⟨w.heap.size, 0, none⟩ = some (.int .i64 N.W) := X3.out.b.cell 0
            have a1 : w3.cell? ⟨w.heap.size, 1, none⟩ = some (.int .i64 N.H) := X3.out.b.cell 1
            have a2 : w3.cell? ⟨w.heap.size, 2, none⟩ = some (.slice y.br.A N.br.length y.br.c) := X3.out.b.cell 2
            have a3 : w3.cell? ⟨w.heap.size, 3, none⟩ = some (.slice y.ta.A N.ta.length y.ta.c) := X3.out.b.cell 3
            have a4 : w3.cell? ⟨w.heap.size, 4, none⟩ = some (.slice y.tb.A N.tb.length y.tb.c) := X3.out.b.cell 4
            have a5 : w3.cell? ⟨w.heap.size, 5, none⟩ = some (.slice y.bu.A N.bu.length y.bu.c) := X3.out.b.cell 5
            have a6 : w3.cell? ⟨w.heap.size, 6, none⟩ = some (.slice y.ow.A N.ow.length y.ow.c) := X3.out.b.cell 6
            have a7 : w3.cell? ⟨w.heap.size, 7, none⟩ = some (.slice y.tu.A N.tu.length y.tu.c) := X3.out.b.cell 7
            have a8 : w3.cell? ⟨w.heap.size, 8, none⟩ = some (.slice y.so.A N.so.length y.so.c) := X3.out.b.cell 8
            have a9 : w3.cell? ⟨w.heap.size, 9, none⟩ = some (.slice y.ar.A N.ar.length y.ar.c) := X3.out.b.cell 9
            have a10 : w3.cell? ⟨w.heap.size, 10, none⟩ = some (.int .i64 N.ti) := X3.out.b.cell 10
            go_wp2_with fail
            refine (C3.out _ (X3.out.in HI.out)).mono ?_
            rintro e w4 ⟨rfl, g4⟩
            have X4 := Lib.hid (X3.out.gb g4)
            clear g4
            clear a0 a1 a2 a3 a4 a5 a6 a7 a8 a9 a10
            have a0 : w4.cell? ⟨w.heap.size, 0, none⟩ = some (.int .i64 N.W) := X4.out.b.cell 0
            have a1 : w4.cell? ⟨w.heap.size, 1, none⟩ = some (.int .i64 N.H) := X4.out.b.cell 1
            have a2 : w4.cell? ⟨w.heap.size, 2, none⟩ = some (.slice y.br.A N.br.length y.br.c) := X4.out.b.cell 2
            have a3 : w4.cell? ⟨w.heap.size, 3, none⟩ = some (.slice y.ta.A N.ta.length y.ta.c) := X4.out.b.cell 3
            have a4 : w4.cell? ⟨w.heap.size, 4, none⟩ = some (.slice y.tb.A N.tb.length y.tb.c) := X4.out.b.cell 4
            have a5 : w4.cell? ⟨w.heap.size, 5, none⟩ = some (.slice y.bu.A N.bu.length y.bu.c) := X4.out.b.cell 5
            have a6 : w4.cell? ⟨w.heap.size, 6, none⟩ = some (.slice y.ow.A N.ow.length y.ow.c) := X4.out.b.cell 6
            have a7 : w4.cell? ⟨w.heap.size, 7, none⟩ = some (.slice y.tu.A N.tu.length y.tu.c) := X4.out.b.cell 7
            have a8 : w4.cell? ⟨w.heap.size, 8, none⟩ = some (.slice y.so.A N.so.length y.so.c) := X4.out.b.cell 8
            have a9 : w4.cell? ⟨w.heap.size, 9, none⟩ = some (.slice y.ar.A N.ar.length y.ar.c) := X4.out.b.cell 9
            have a10 : w4.cell? ⟨w.heap.size, 10, none⟩ = some (.int .i64 N.ti) := X4.out.b.cell 10
            go_wp2_with fail
            refine (C4.out _ (X4.out.in HI.out).ow).mono ?_
            rintro e w5 ⟨rfl, g5⟩
            have X5 := Lib.hid (X4.out.gb g5)
            clear g5
            clear a0 a1 a2 a3 a4 a5 a6 a7 a8 a9 a10
            go_wp2_with fail
            go_ret
            exact ⟨ret_bool R.out, X5.out.g⟩
          | true =>
            have C4 := Lib.hid (HC4.out true h4)
            cases h5 : withL 0 9 N.tu with
            | false =>
              have C5 := Lib.hid (HC5.out false h5)
              have R := Lib.hid (HNO.out (by rw [h5]; simp))
              clear h0 h1 h2 h3 h4 h5
              go_enter Tryz.func29, Tryz.ntmps29
              go_wp2_with fail
              refine (C0.out _ (X0.out.in HI.out)).mono ?_
              rintro e w1 ⟨rfl, g1⟩
              have X1 := Lib.hid (X0.out.gb g1)
              clear g1
              have a0 : w1.cell? ⟨w.heap.size, 0, none⟩ = some (.int .i64 N.W) := X1.out.b.cell 0
              have a1 : w1.cell? ⟨w.heap.size, 1, none⟩ = some (.int .i64 N.H) := X1.out.b.cell 1
              have a2 : w1.cell? ⟨w.heap.size, 2, none⟩ = some (.slice y.br.A N.br.length y.br.c) := X1.out.b.cell 2
              have a3 : w1.cell? ⟨w.heap.size, 3, none⟩ = some (.slice y.ta.A N.ta.length y.ta.c) := X1.out.b.cell 3
              have a4 : w1.cell? ⟨w.heap.size, 4, none⟩ = some (.slice y.tb.A N.tb.length y.tb.c) := X1.out.b.cell 4
              have a5 : w1.cell? ⟨w.heap.size, 5, none⟩ = some (.slice y.bu.A N.bu.length y.bu.c) := X1.out.b.cell 5
              have a6 : w1.cell? ⟨w.heap.size, 6, none⟩ = some (.slice y.ow.A N.ow.length y.ow.c) := X1.out.b.cell 6
              have a7 : w1.cell? ⟨w.heap.size, 7, none⟩ = some (.slice y.tu.A N.tu.length y.tu.c) := X1.out.b.cell 7
              have a8 : w1.cell? ⟨w.heap.size, 8, none⟩ = some (.slice y.so.A N.so.length y.so.c) := X1.out.b.cell 8
              have a9 : w1.cell? ⟨w.heap.size, 9, none⟩ = some (.slice y.ar.A N.ar.length y.ar.c) := X1.out.b.cell 9
              have a10 : w1.cell? ⟨w.heap.size, 10, none⟩ = some (.int .i64 N.ti) := X1.out.b.cell 10
              go_wp2_with fail
              refine (C1.out _).mono ?_
              rintro e w2 ⟨rfl, g2⟩
              have X2 := Lib.hid (X1.out.gb g2)
              clear g2
              clear a0 a1 a2 a3 a4 a5 a6 a7 a8 a9 a10
              have a0 : w2.cell? ⟨w.heap.size, 0, none⟩ = some (.int .i64 N.W) := X2.out.b.cell 0
              have a1 : w2.cell? ⟨w.heap.size, 1, none⟩ = some (.int .i64 N.H) := X2.out.b.cell 1
              have a2 : w2.cell? ⟨w.heap.size, 2, none⟩ = some (.slice y.br.A N.br.length y.br.c) := X2.out.b.cell 2
              have a3 : w2.cell? ⟨w.heap.size, 3, none⟩ = some (.slice y.ta.A N.ta.length y.ta.c) := X2.out.b.cell 3
              have a4 : w2.cell? ⟨w.heap.size, 4, none⟩ = some (.slice y.tb.A N.tb.length y.tb.c) := X2.out.b.cell 4
              have a5 : w2.cell? ⟨w.heap.size, 5, none⟩ = some (.slice y.bu.A N.bu.length y.bu.c) := X2.out.b.cell 5
              have a6 : w2.cell? ⟨w.heap.size, 6, none⟩ = some (.slice y.ow.A N.ow.length y.ow.c) := X2.out.b.cell 6
              have a7 : w2.cell? ⟨w.heap.size, 7, none⟩ = some (.slice y.tu.A N.tu.length y.tu.c) := X2.out.b.cell 7
              have a8 : w2.cell? ⟨w.heap.size, 8, none⟩ = some (.slice y.so.A N.so.length y.so.c) := X2.out.b.cell 8
              have a9 : w2.cell? ⟨w.heap.size, 9, none⟩ = some (.slice y.ar.A N.ar.length y.ar.c) := X2.out.b.cell 9
              have a10 : w2.cell? ⟨w.heap.size, 10, none⟩ = some (.int .i64 N.ti) := X2.out.b.cell 10
              go_wp2_with fail
              refine (C2.out _ (X2.out.in HI.out)).mono ?_
              rintro e w3 ⟨rfl, g3⟩
              have X3 := Lib.hid (X2.out.gb g3)
              clear g3
              clear a0 a1 a2 a3 a4 a5 a6 a7 a8 a9 a10
              have a0 : w3.cell? ⟨w.heap.size, 0, none⟩ = some (.int .i64 N.W) := X3.out.b.cell 0
              have a1 : w3.cell? ⟨w.heap.size, 1, none⟩ = some (.int .i64 N.H) := X3.out.b.cell 1
              have a2 : w3.cell? ⟨w.heap.size, 2, none⟩ = some (.slice y.br.A N.br.length y.br.c) := X3.out.b.cell 2
              have a3 : w3.cell? ⟨w.heap.size, 3, none⟩ = some (.slice y.ta.A N.ta.length y.ta.c) := X3.out.b.cell 3
              have a4 : w3.cell? ⟨w.heap.size, 4, none⟩ = some (.slice y.tb.A N.tb.length y.tb.c) := X3.out.b.cell 4
              have a5 : w3.cell? ⟨w.heap.size, 5, none⟩ = some (.slice y.bu.A N.bu.length y.bu.c) := X3.out.b.cell 5
              have a6 : w3.cell? ⟨w.heap.size, 6, none⟩ = some (.slice y.ow.A N.ow.length y.ow.c) := X3.out.b.cell 6
              have a7 : w3.cell? ⟨w.heap.size, 7, none⟩ = some (.slice y.tu.A N.tu.length y.tu.c) := X3.out.b.cell 7
              have a8 : w3.cell? ⟨w.heap.size, 8, none⟩ = some (.slice y.so.A N.so.length y.so.c) := X3.out.b.cell 8
              have a9 : w3.cell? ⟨w.heap.size, 9, none⟩ = some (.slice y.ar.A N.ar.length y.ar.c) := X3.out.b.cell 9
              have a10 : w3.cell? ⟨w.heap.size, 10, none⟩ = some (.int .i64 N.ti) := X3.out.b.cell 10
              go_wp2_with fail
              refine (C3.out _ (X3.out.in HI.out)).mono ?_
              rintro e w4 ⟨rfl, g4⟩
              have X4 := Lib.hid (X3.out.gb g4)
              clear g4
              clear a0 a1 a2 a3 a4 a5 a6 a7 a8 a9 a10
              have a0 : w4.cell? ⟨w.heap.size, 0, none⟩ = some (.int .i64 N.W) := X4.out.b.cell 0
              have a1 : w4.cell? ⟨w.heap.size, 1, none⟩ = some (.int .i64 N.H) := X4.out.b.cell 1
              have a2 : w4.cell? ⟨w.heap.size, 2, none⟩ = some (.slice y.br.A N.br.length y.br.c) := X4.out.b.cell 2
              have a3 : w4.cell? ⟨w.heap.size, 3, none⟩ = some (.slice y.ta.A N.ta.length y.ta.c) := X4.out.b.cell 3
              have a4 : w4.cell? ⟨w.heap.size, 4, none⟩ = some (.slice y.tb.A N.tb.length y.tb.c) := X4.out.b.cell 4
              have a5 : w4.cell? ⟨w.heap.size, 5, none⟩ = some (.slice y.bu.A N.bu.length y.bu.c) := X4.out.b.cell 5
              have a6 : w4.cell? ⟨w.heap.size, 6, none⟩ = some (.slice y.ow.A N.ow.length y.ow.c) := X4.out.b.cell 6
              have a7 : w4.cell? ⟨w.heap.size, 7, none⟩ = some (.slice y.tu.A N.tu.length y.tu.c) := X4.out.b.cell 7
              have a8 : w4.cell? ⟨w.heap.size, 8, none⟩ = some (.slice y.so.A N.so.length y.so.c) := X4.out.b.cell 8
              have a9 : w4.cell? ⟨w.heap.size, 9, none⟩ = some (.slice y.ar.A N.ar.length y.ar.c) := X4.out.b.cell 9
              have a10 : w4.cell? ⟨w.heap.size, 10, none⟩ = some (.int .i64 N.ti) := X4.out.b.cell 10
              go_wp2_with fail
              refine (C4.out _ (X4.out.in HI.out).ow).mono ?_
              rintro e w5 ⟨rfl, g5⟩
              have X5 := Lib.hid (X4.out.gb g5)
              clear g5
              clear a0 a1 a2 a3 a4 a5 a6 a7 a8 a9 a10
              have a0 : w5.cell? ⟨w.heap.size, 0, none⟩ = some (.int .i64 N.W) := X5.out.b.cell 0
              have a1 : w5.cell? ⟨w.heap.size, 1, none⟩ = some (.int .i64 N.H) := X5.out.b.cell 1
              have a2 : w5.cell? ⟨w.heap.size, 2, none⟩ = some (.slice y.br.A N.br.length y.br.c) := X5.out.b.cell 2
              have a3 : w5.cell? ⟨w.heap.size, 3, none⟩ = some (.slice y.ta.A N.ta.length y.ta.c) := X5.out.b.cell 3
              have a4 : w5.cell? ⟨w.heap.size, 4, none⟩ = some (.slice y.tb.A N.tb.length y.tb.c) := X5.out.b.cell 4
              have a5 : w5.cell? ⟨w.heap.size, 5, none⟩ = some (.slice y.bu.A N.bu.length y.bu.c) := X5.out.b.cell 5
              have a6 : w5.cell? ⟨w.heap.size, 6, none⟩ = some (.slice y.ow.A N.ow.length y.ow.c) := X5.out.b.cell 6
              have a7 : w5.cell? ⟨w.heap.size, 7, none⟩ = some (.slice y.tu.A N.tu.length y.tu.c) := X5.out.b.cell 7
              have a8 : w5.cell? ⟨w.heap.size, 8, none⟩ = some (.slice y.so.A N.so.length y.so.c) := X5.out.b.cell 8
              have a9 : w5.cell? ⟨w.heap.size, 9, none⟩ = some (.slice y.ar.A N.ar.length y.ar.c) := X5.out.b.cell 9
              have a10 : w5.cell? ⟨w.heap.size, 10, none⟩ = some (.int .i64 N.ti) := X5.out.b.cell 10
              go_wp2_with fail
              refine (C5.out _ (X5.out.in HI.out).tu).mono ?_
              rintro e w6 ⟨rfl, g6⟩
              have X6 := Lib.hid (X5.out.gb g6)
              clear g6
              clear a0 a1 a2 a3 a4 a5 a6 a7 a8 a9 a10
              go_wp2_with fail
              go_ret
              exact ⟨ret_bool R.out, X6.out.g⟩
            | true =>
              have C5 := Lib.hid (HC5.out true h5)
              cases h6 : withL 0 1000000 [N.ti] with
              | false =>
                have C6 := Lib.hid (HC6.out false h6)
                have R := Lib.hid (HNO.out (by rw [h6]; simp))
                clear h0 h1 h2 h3 h4 h5 h6
                go_enter Tryz.func29, Tryz.ntmps29
                go_wp2_with fail
                refine (C0.out _ (X0.out.in HI.out)).mono ?_
                rintro e w1 ⟨rfl, g1⟩
                have X1 := Lib.hid (X0.out.gb g1)
                clear g1
                have a0 : w1.cell? ⟨w.heap.size, 0, none⟩ = some (.int .i64 N.W) := X1.out.b.cell 0
                have a1 : w1.cell? ⟨w.heap.size, 1, none⟩ = some (.int .i64 N.H) := X1.out.b.cell 1
                have a2 : w1.cell? ⟨w.heap.size, 2, none⟩ = some (.slice y.br.A N.br.length y.br.c) := X1.out.b.cell 2
                have a3 : w1.cell? ⟨w.heap.size, 3, none⟩ = some (.slice y.ta.A N.ta.length y.ta.c) := X1.out.b.cell 3
                have a4 : w1.cell? ⟨w.heap.size, 4, none⟩ = some (.slice y.tb.A N.tb.length y.tb.c) := X1.out.b.cell 4
                have a5 : w1.cell? ⟨w.heap.size, 5, none⟩ = some (.slice y.bu.A N.bu.length y.bu.c) := X1.out.b.cell 5
                have a6 : w1.cell? ⟨w.heap.size, 6, none⟩ = some (.slice y.ow.A N.ow.length y.ow.c) := X1.out.b.cell 6
                have a7 : w1.cell? ⟨w.heap.size, 7, none⟩ = some (.slice y.tu.A N.tu.length y.tu.c) := X1.out.b.cell 7
                have a8 : w1.cell? ⟨w.heap.size, 8, none⟩ = some (.slice y.so.A N.so.length y.so.c) := X1.out.b.cell 8
                have a9 : w1.cell? ⟨w.heap.size, 9, none⟩ = some (.slice y.ar.A N.ar.length y.ar.c) := X1.out.b.cell 9
                have a10 : w1.cell? ⟨w.heap.size, 10, none⟩ = some (.int .i64 N.ti) := X1.out.b.cell 10
                go_wp2_with fail
                refine (C1.out _).mono ?_
                rintro e w2 ⟨rfl, g2⟩
                have X2 := Lib.hid (X1.out.gb g2)
                clear g2
                clear a0 a1 a2 a3 a4 a5 a6 a7 a8 a9 a10
                have a0 : w2.cell? ⟨w.heap.size, 0, none⟩ = some (.int .i64 N.W) := X2.out.b.cell 0
                have a1 : w2.cell? ⟨w.heap.size, 1, none⟩ = some (.int .i64 N.H) := X2.out.b.cell 1
                have a2 : w2.cell? ⟨w.heap.size, 2, none⟩ = some (.slice y.br.A N.br.length y.br.c) := X2.out.b.cell 2
                have a3 : w2.cell? ⟨w.heap.size, 3, none⟩ = some (.slice y.ta.A N.ta.length y.ta.c) := X2.out.b.cell 3
                have a4 : w2.cell? ⟨w.heap.size, 4, none⟩ = some (.slice y.tb.A N.tb.length y.tb.c) := X2.out.b.cell 4
                have a5 : w2.cell? ⟨w.heap.size, 5, none⟩ = some (.slice y.bu.A N.bu.length y.bu.c) := X2.out.b.cell 5
                have a6 : w2.cell? ⟨w.heap.size, 6, none⟩ = some (.slice y.ow.A N.ow.length y.ow.c) := X2.out.b.cell 6
                have a7 : w2.cell? ⟨w.heap.size, 7, none⟩ = some (.slice y.tu.A N.tu.length y.tu.c) := X2.out.b.cell 7
                have a8 : w2.cell? ⟨w.heap.size, 8, none⟩ = some (.slice y.so.A N.so.length y.so.c) := X2.out.b.cell 8
                have a9 : w2.cell? ⟨w.heap.size, 9, none⟩ = some (.slice y.ar.A N.ar.length y.ar.c) := X2.out.b.cell 9
                have a10 : w2.cell? ⟨w.heap.size, 10, none⟩ = some (.int .i64 N.ti) := X2.out.b.cell 10
                go_wp2_with fail
                refine (C2.out _ (X2.out.in HI.out)).mono ?_
                rintro e w3 ⟨rfl, g3⟩
                have X3 := Lib.hid (X2.out.gb g3)
                clear g3
                clear a0 a1 a2 a3 a4 a5 a6 a7 a8 a9 a10
                have a0 : w3.cell? ⟨w.heap.size, 0, none⟩ = some (.int .i64 N.W) := X3.out.b.cell 0
                have a1 : w3.cell? ⟨w.heap.size, 1, none⟩ = some (.int .i64 N.H) := X3.out.b.cell 1
                have a2 : w3.cell? ⟨w.heap.size, 2, none⟩ = some (.slice y.br.A N.br.length y.br.c) := X3.out.b.cell 2
                have a3 : w3.cell? ⟨w.heap.size, 3, none⟩ = some (.slice y.ta.A N.ta.length y.ta.c) := X3.out.b.cell 3
                have a4 : w3.cell? ⟨w.heap.size, 4, none⟩ = some (.slice y.tb.A N.tb.length y.tb.c) := X3.out.b.cell 4
                have a5 : w3.cell? ⟨w.heap.size, 5, none⟩ = some (.slice y.bu.A N.bu.length y.bu.c) := X3.out.b.cell 5
                have a6 : w3.cell? ⟨w.heap.size, 6, none⟩ = some (.slice y.ow.A N.ow.length y.ow.c) := X3.out.b.cell 6
                have a7 : w3.cell? ⟨w.heap.size, 7, none⟩ = some (.slice y.tu.A N.tu.length y.tu.c) := X3.out.b.cell 7
                have a8 : w3.cell? ⟨w.heap.size, 8, none⟩ = some (.slice y.so.A N.so.length y.so.c) := X3.out.b.cell 8
                have a9 : w3.cell? ⟨w.heap.size, 9, none⟩ = some (.slice y.ar.A N.ar.length y.ar.c) := X3.out.b.cell 9
                have a10 : w3.cell? ⟨w.heap.size, 10, none⟩ = some (.int .i64 N.ti) := X3.out.b.cell 10
                go_wp2_with fail
                refine (C3.out _ (X3.out.in HI.out)).mono ?_
                rintro e w4 ⟨rfl, g4⟩
                have X4 := Lib.hid (X3.out.gb g4)
                clear g4
                clear a0 a1 a2 a3 a4 a5 a6 a7 a8 a9 a10
                have a0 : w4.cell? ⟨w.heap.size, 0, none⟩ = some (.int .i64 N.W) := X4.out.b.cell 0
                have a1 : w4.cell? ⟨w.heap.size, 1, none⟩ = some (.int .i64 N.H) := X4.out.b.cell 1
                have a2 : w4.cell? ⟨w.heap.size, 2, none⟩ = some (.slice y.br.A N.br.length y.br.c) := X4.out.b.cell 2
                have a3 : w4.cell? ⟨w.heap.size, 3, none⟩ = some (.slice y.ta.A N.ta.length y.ta.c) := X4.out.b.cell 3
                have a4 : w4.cell? ⟨w.heap.size, 4, none⟩ = some (.slice y.tb.A N.tb.length y.tb.c) := X4.out.b.cell 4
                have a5 : w4.cell? ⟨w.heap.size, 5, none⟩ = some (.slice y.bu.A N.bu.length y.bu.c) := X4.out.b.cell 5
                have a6 : w4.cell? ⟨w.heap.size, 6, none⟩ = some (.slice y.ow.A N.ow.length y.ow.c) := X4.out.b.cell 6
                have a7 : w4.cell? ⟨w.heap.size, 7, none⟩ = some (.slice y.tu.A N.tu.length y.tu.c) := X4.out.b.cell 7
                have a8 : w4.cell? ⟨w.heap.size, 8, none⟩ = some (.slice y.so.A N.so.length y.so.c) := X4.out.b.cell 8
                have a9 : w4.cell? ⟨w.heap.size, 9, none⟩ = some (.slice y.ar.A N.ar.length y.ar.c) := X4.out.b.cell 9
                have a10 : w4.cell? ⟨w.heap.size, 10, none⟩ = some (.int .i64 N.ti) := X4.out.b.cell 10
                go_wp2_with fail
                refine (C4.out _ (X4.out.in HI.out).ow).mono ?_
                rintro e w5 ⟨rfl, g5⟩
                have X5 := Lib.hid (X4.out.gb g5)
                clear g5
                clear a0 a1 a2 a3 a4 a5 a6 a7 a8 a9 a10
                have a0 : w5.cell? ⟨w.heap.size, 0, none⟩ = some (.int .i64 N.W) := X5.out.b.cell 0
                have a1 : w5.cell? ⟨w.heap.size, 1, none⟩ = some (.int .i64 N.H) := X5.out.b.cell 1
                have a2 : w5.cell? ⟨w.heap.size, 2, none⟩ = some (.slice y.br.A N.br.length y.br.c) := X5.out.b.cell 2
                have a3 : w5.cell? ⟨w.heap.size, 3, none⟩ = some (.slice y.ta.A N.ta.length y.ta.c) := X5.out.b.cell 3
                have a4 : w5.cell? ⟨w.heap.size, 4, none⟩ = some (.slice y.tb.A N.tb.length y.tb.c) := X5.out.b.cell 4
                have a5 : w5.cell? ⟨w.heap.size, 5, none⟩ = some (.slice y.bu.A N.bu.length y.bu.c) := X5.out.b.cell 5
                have a6 : w5.cell? ⟨w.heap.size, 6, none⟩ = some (.slice y.ow.A N.ow.length y.ow.c) := X5.out.b.cell 6
                have a7 : w5.cell? ⟨w.heap.size, 7, none⟩ = some (.slice y.tu.A N.tu.length y.tu.c) := X5.out.b.cell 7
                have a8 : w5.cell? ⟨w.heap.size, 8, none⟩ = some (.slice y.so.A N.so.length y.so.c) := X5.out.b.cell 8
                have a9 : w5.cell? ⟨w.heap.size, 9, none⟩ = some (.slice y.ar.A N.ar.length y.ar.c) := X5.out.b.cell 9
                have a10 : w5.cell? ⟨w.heap.size, 10, none⟩ = some (.int .i64 N.ti) := X5.out.b.cell 10
                go_wp2_with fail
                refine (C5.out _ (X5.out.in HI.out).tu).mono ?_
                rintro e w6 ⟨rfl, g6⟩
                have X6 := Lib.hid (X5.out.gb g6)
                clear g6
                clear a0 a1 a2 a3 a4 a5 a6 a7 a8 a9 a10
                have a0 : w6.cell? ⟨w.heap.size, 0, none⟩ = some (.int .i64 N.W) := X6.out.b.cell 0
                have a1 : w6.cell? ⟨w.heap.size, 1, none⟩ = some (.int .i64 N.H) := X6.out.b.cell 1
                have a2 : w6.cell? ⟨w.heap.size, 2, none⟩ = some (.slice y.br.A N.br.length y.br.c) := X6.out.b.cell 2
                have a3 : w6.cell? ⟨w.heap.size, 3, none⟩ = some (.slice y.ta.A N.ta.length y.ta.c) := X6.out.b.cell 3
                have a4 : w6.cell? ⟨w.heap.size, 4, none⟩ = some (.slice y.tb.A N.tb.length y.tb.c) := X6.out.b.cell 4
                have a5 : w6.cell? ⟨w.heap.size, 5, none⟩ = some (.slice y.bu.A N.bu.length y.bu.c) := X6.out.b.cell 5
                have a6 : w6.cell? ⟨w.heap.size, 6, none⟩ = some (.slice y.ow.A N.ow.length y.ow.c) := X6.out.b.cell 6
                have a7 : w6.cell? ⟨w.heap.size, 7, none⟩ = some (.slice y.tu.A N.tu.length y.tu.c) := X6.out.b.cell 7
                have a8 : w6.cell? ⟨w.heap.size, 8, none⟩ = some (.slice y.so.A N.so.length y.so.c) := X6.out.b.cell 8
                have a9 : w6.cell? ⟨w.heap.size, 9, none⟩ = some (.slice y.ar.A N.ar.length y.ar.c) := X6.out.b.cell 9
                have a10 : w6.cell? ⟨w.heap.size, 10, none⟩ = some (.int .i64 N.ti) := X6.out.b.cell 10
                go_wp2_with fail
                refine (C6.out _).mono ?_
                rintro e w7 ⟨rfl, g7⟩
                have X7 := Lib.hid (X6.out.gb g7)
                clear g7
                clear a0 a1 a2 a3 a4 a5 a6 a7 a8 a9 a10
                go_wp2_with fail
                go_ret
                exact ⟨ret_bool R.out, X7.out.g⟩
              | true =>
                have C6 := Lib.hid (HC6.out true h6)
                have R := Lib.hid (show true = netOk N from (netOk_iff.2 ⟨h0, h1, h2, h3, h4, h5, h6⟩).symm)
                clear h0 h1 h2 h3 h4 h5 h6
                go_enter Tryz.func29, Tryz.ntmps29
                go_wp2_with fail
                refine (C0.out _ (X0.out.in HI.out)).mono ?_
                rintro e w1 ⟨rfl, g1⟩
                have X1 := Lib.hid (X0.out.gb g1)
                clear g1
                have a0 : w1.cell? ⟨w.heap.size, 0, none⟩ = some (.int .i64 N.W) := X1.out.b.cell 0
                have a1 : w1.cell? ⟨w.heap.size, 1, none⟩ = some (.int .i64 N.H) := X1.out.b.cell 1
                have a2 : w1.cell? ⟨w.heap.size, 2, none⟩ = some (.slice y.br.A N.br.length y.br.c) := X1.out.b.cell 2
                have a3 : w1.cell? ⟨w.heap.size, 3, none⟩ = some (.slice y.ta.A N.ta.length y.ta.c) := X1.out.b.cell 3
                have a4 : w1.cell? ⟨w.heap.size, 4, none⟩ = some (.slice y.tb.A N.tb.length y.tb.c) := X1.out.b.cell 4
                have a5 : w1.cell? ⟨w.heap.size, 5, none⟩ = some (.slice y.bu.A N.bu.length y.bu.c) := X1.out.b.cell 5
                have a6 : w1.cell? ⟨w.heap.size, 6, none⟩ = some (.slice y.ow.A N.ow.length y.ow.c) := X1.out.b.cell 6
                have a7 : w1.cell? ⟨w.heap.size, 7, none⟩ = some (.slice y.tu.A N.tu.length y.tu.c) := X1.out.b.cell 7
                have a8 : w1.cell? ⟨w.heap.size, 8, none⟩ = some (.slice y.so.A N.so.length y.so.c) := X1.out.b.cell 8
                have a9 : w1.cell? ⟨w.heap.size, 9, none⟩ = some (.slice y.ar.A N.ar.length y.ar.c) := X1.out.b.cell 9
                have a10 : w1.cell? ⟨w.heap.size, 10, none⟩ = some (.int .i64 N.ti) := X1.out.b.cell 10
                go_wp2_with fail
                refine (C1.out _).mono ?_
                rintro e w2 ⟨rfl, g2⟩
                have X2 := Lib.hid (X1.out.gb g2)
                clear g2
                clear a0 a1 a2 a3 a4 a5 a6 a7 a8 a9 a10
                have a0 : w2.cell? ⟨w.heap.size, 0, none⟩ = some (.int .i64 N.W) := X2.out.b.cell 0
                have a1 : w2.cell? ⟨w.heap.size, 1, none⟩ = some (.int .i64 N.H) := X2.out.b.cell 1
                have a2 : w2.cell? ⟨w.heap.size, 2, none⟩ = some (.slice y.br.A N.br.length y.br.c) := X2.out.b.cell 2
                have a3 : w2.cell? ⟨w.heap.size, 3, none⟩ = some (.slice y.ta.A N.ta.length y.ta.c) := X2.out.b.cell 3
                have a4 : w2.cell? ⟨w.heap.size, 4, none⟩ = some (.slice y.tb.A N.tb.length y.tb.c) := X2.out.b.cell 4
                have a5 : w2.cell? ⟨w.heap.size, 5, none⟩ = some (.slice y.bu.A N.bu.length y.bu.c) := X2.out.b.cell 5
                have a6 : w2.cell? ⟨w.heap.size, 6, none⟩ = some (.slice y.ow.A N.ow.length y.ow.c) := X2.out.b.cell 6
                have a7 : w2.cell? ⟨w.heap.size, 7, none⟩ = some (.slice y.tu.A N.tu.length y.tu.c) := X2.out.b.cell 7
                have a8 : w2.cell? ⟨w.heap.size, 8, none⟩ = some (.slice y.so.A N.so.length y.so.c) := X2.out.b.cell 8
                have a9 : w2.cell? ⟨w.heap.size, 9, none⟩ = some (.slice y.ar.A N.ar.length y.ar.c) := X2.out.b.cell 9
                have a10 : w2.cell? ⟨w.heap.size, 10, none⟩ = some (.int .i64 N.ti) := X2.out.b.cell 10
                go_wp2_with fail
                refine (C2.out _ (X2.out.in HI.out)).mono ?_
                rintro e w3 ⟨rfl, g3⟩
                have X3 := Lib.hid (X2.out.gb g3)
                clear g3
                clear a0 a1 a2 a3 a4 a5 a6 a7 a8 a9 a10
                have a0 : w3.cell? ⟨w.heap.size, 0, none⟩ = some (.int .i64 N.W) := X3.out.b.cell 0
                have a1 : w3.cell? ⟨w.heap.size, 1, none⟩ = some (.int .i64 N.H) := X3.out.b.cell 1
                have a2 : w3.cell? ⟨w.heap.size, 2, none⟩ = some (.slice y.br.A N.br.length y.br.c) := X3.out.b.cell 2
                have a3 : w3.cell? ⟨w.heap.size, 3, none⟩ = some (.slice y.ta.A N.ta.length y.ta.c) := X3.out.b.cell 3
                have a4 : w3.cell? ⟨w.heap.size, 4, none⟩ = some (.slice y.tb.A N.tb.length y.tb.c) := X3.out.b.cell 4
                have a5 : w3.cell? ⟨w.heap.size, 5, none⟩ = some (.slice y.bu.A N.bu.length y.bu.c) := X3.out.b.cell 5
                have a6 : w3.cell? ⟨w.heap.size, 6, none⟩ = some (.slice y.ow.A N.ow.length y.ow.c) := X3.out.b.cell 6
                have a7 : w3.cell? ⟨w.heap.size, 7, none⟩ = some (.slice y.tu.A N.tu.length y.tu.c) := X3.out.b.cell 7
                have a8 : w3.cell? ⟨w.heap.size, 8, none⟩ = some (.slice y.so.A N.so.length y.so.c) := X3.out.b.cell 8
                have a9 : w3.cell? ⟨w.heap.size, 9, none⟩ = some (.slice y.ar.A N.ar.length y.ar.c) := X3.out.b.cell 9
                have a10 : w3.cell? ⟨w.heap.size, 10, none⟩ = some (.int .i64 N.ti) := X3.out.b.cell 10
                go_wp2_with fail
                refine (C3.out _ (X3.out.in HI.out)).mono ?_
                rintro e w4 ⟨rfl, g4⟩
                have X4 := Lib.hid (X3.out.gb g4)
                clear g4
                clear a0 a1 a2 a3 a4 a5 a6 a7 a8 a9 a10
                have a0 : w4.cell? ⟨w.heap.size, 0, none⟩ = some (.int .i64 N.W) := X4.out.b.cell 0
                have a1 : w4.cell? ⟨w.heap.size, 1, none⟩ = some (.int .i64 N.H) := X4.out.b.cell 1
                have a2 : w4.cell? ⟨w.heap.size, 2, none⟩ = some (.slice y.br.A N.br.length y.br.c) := X4.out.b.cell 2
                have a3 : w4.cell? ⟨w.heap.size, 3, none⟩ = some (.slice y.ta.A N.ta.length y.ta.c) := X4.out.b.cell 3
                have a4 : w4.cell? ⟨w.heap.size, 4, none⟩ = some (.slice y.tb.A N.tb.length y.tb.c) := X4.out.b.cell 4
                have a5 : w4.cell? ⟨w.heap.size, 5, none⟩ = some (.slice y.bu.A N.bu.length y.bu.c) := X4.out.b.cell 5
                have a6 : w4.cell? ⟨w.heap.size, 6, none⟩ = some (.slice y.ow.A N.ow.length y.ow.c) := X4.out.b.cell 6
                have a7 : w4.cell? ⟨w.heap.size, 7, none⟩ = some (.slice y.tu.A N.tu.length y.tu.c) := X4.out.b.cell 7
                have a8 : w4.cell? ⟨w.heap.size, 8, none⟩ = some (.slice y.so.A N.so.length y.so.c) := X4.out.b.cell 8
                have a9 : w4.cell? ⟨w.heap.size, 9, none⟩ = some (.slice y.ar.A N.ar.length y.ar.c) := X4.out.b.cell 9
                have a10 : w4.cell? ⟨w.heap.size, 10, none⟩ = some (.int .i64 N.ti) := X4.out.b.cell 10
                go_wp2_with fail
                refine (C4.out _ (X4.out.in HI.out).ow).mono ?_
                rintro e w5 ⟨rfl, g5⟩
                have X5 := Lib.hid (X4.out.gb g5)
                clear g5
                clear a0 a1 a2 a3 a4 a5 a6 a7 a8 a9 a10
                have a0 : w5.cell? ⟨w.heap.size, 0, none⟩ = some (.int .i64 N.W) := X5.out.b.cell 0
                have a1 : w5.cell? ⟨w.heap.size, 1, none⟩ = some (.int .i64 N.H) := X5.out.b.cell 1
                have a2 : w5.cell? ⟨w.heap.size, 2, none⟩ = some (.slice y.br.A N.br.length y.br.c) := X5.out.b.cell 2
                have a3 : w5.cell? ⟨w.heap.size, 3, none⟩ = some (.slice y.ta.A N.ta.length y.ta.c) := X5.out.b.cell 3
                have a4 : w5.cell? ⟨w.heap.size, 4, none⟩ = some (.slice y.tb.A N.tb.length y.tb.c) := X5.out.b.cell 4
                have a5 : w5.cell? ⟨w.heap.size, 5, none⟩ = some (.slice y.bu.A N.bu.length y.bu.c) := X5.out.b.cell 5
                have a6 : w5.cell? ⟨w.heap.size, 6, none⟩ = some (.slice y.ow.A N.ow.length y.ow.c) := X5.out.b.cell 6
                have a7 : w5.cell? ⟨w.heap.size, 7, none⟩ = some (.slice y.tu.A N.tu.length y.tu.c) := X5.out.b.cell 7
                have a8 : w5.cell? ⟨w.heap.size, 8, none⟩ = some (.slice y.so.A N.so.length y.so.c) := X5.out.b.cell 8
                have a9 : w5.cell? ⟨w.heap.size, 9, none⟩ = some (.slice y.ar.A N.ar.length y.ar.c) := X5.out.b.cell 9
                have a10 : w5.cell? ⟨w.heap.size, 10, none⟩ = some (.int .i64 N.ti) := X5.out.b.cell 10
                go_wp2_with fail
                refine (C5.out _ (X5.out.in HI.out).tu).mono ?_
                rintro e w6 ⟨rfl, g6⟩
                have X6 := Lib.hid (X5.out.gb g6)
                clear g6
                clear a0 a1 a2 a3 a4 a5 a6 a7 a8 a9 a10
                have a0 : w6.cell? ⟨w.heap.size, 0, none⟩ = some (.int .i64 N.W) := X6.out.b.cell 0
                have a1 : w6.cell? ⟨w.heap.size, 1, none⟩ = some (.int .i64 N.H) := X6.out.b.cell 1
                have a2 : w6.cell? ⟨w.heap.size, 2, none⟩ = some (.slice y.br.A N.br.length y.br.c) := X6.out.b.cell 2
                have a3 : w6.cell? ⟨w.heap.size, 3, none⟩ = some (.slice y.ta.A N.ta.length y.ta.c) := X6.out.b.cell 3
                have a4 : w6.cell? ⟨w.heap.size, 4, none⟩ = some (.slice y.tb.A N.tb.length y.tb.c) := X6.out.b.cell 4
                have a5 : w6.cell? ⟨w.heap.size, 5, none⟩ = some (.slice y.bu.A N.bu.length y.bu.c) := X6.out.b.cell 5
                have a6 : w6.cell? ⟨w.heap.size, 6, none⟩ = some (.slice y.ow.A N.ow.length y.ow.c) := X6.out.b.cell 6
                have a7 : w6.cell? ⟨w.heap.size, 7, none⟩ = some (.slice y.tu.A N.tu.length y.tu.c) := X6.out.b.cell 7
                have a8 : w6.cell? ⟨w.heap.size, 8, none⟩ = some (.slice y.so.A N.so.length y.so.c) := X6.out.b.cell 8
                have a9 : w6.cell? ⟨w.heap.size, 9, none⟩ = some (.slice y.ar.A N.ar.length y.ar.c) := X6.out.b.cell 9
                have a10 : w6.cell? ⟨w.heap.size, 10, none⟩ = some (.int .i64 N.ti) := X6.out.b.cell 10
                go_wp2_with fail
                refine (C6.out _).mono ?_
                rintro e w7 ⟨rfl, g7⟩
                have X7 := Lib.hid (X6.out.gb g7)
                clear g7
                clear a0 a1 a2 a3 a4 a5 a6 a7 a8 a9 a10
                go_wp2_with fail
                go_ret
                exact ⟨ret_bool R.out, X7.out.g⟩
end Go.Proofs.YtfloekbmgjmhbaaGreat
end

section
namespace Go.Proofs.YtfloekbmgjmhbaaGreat
open Go.ChangeShapes Go.WideShapes Go.ChangeAt Go.RowKit
set_option linter.unusedVariables false
set_option maxRecDepth 20000

/-- A network like another one lies in the same cells. -/
theorem blk_like {w : World} {g k : Nat} {z : Na} {N R : Nt} (LK : NetLike N R k) (h : Blk w g 45 #[.int .i64 N.W, .int .i64 N.H, .slice z.br.A N.br.length z.br.c, .slice z.ta.A N.ta.length z.ta.c, .slice z.tb.A N.tb.length z.tb.c, .slice z.bu.A N.bu.length z.bu.c, .slice z.ow.A N.ow.length z.ow.c, .slice z.tu.A N.tu.length z.tu.c, .slice z.so.A N.so.length z.so.c, .slice z.ar.A N.ar.length z.ar.c, .int .i64 N.ti]) : Blk w g 45 #[.int .i64 R.W, .int .i64 R.H, .slice z.br.A R.br.length z.br.c, .slice z.ta.A R.ta.length z.ta.c, .slice z.tb.A R.tb.length z.tb.c, .slice z.bu.A R.bu.length z.bu.c, .slice z.ow.A R.ow.length z.ow.c, .slice z.tu.A R.tu.length z.tu.c, .slice z.so.A R.so.length z.so.c, .slice z.ar.A R.ar.length z.ar.c, .int .i64 R.ti] := by
  simp only [LK.W, LK.H, LK.br, LK.ta, LK.tb, LK.bu, LK.ow, LK.tu, LK.so, LK.ar, LK.ti]
  exact h
set_option maxHeartbeats 3200000 in
theorem implSendAll (y : Na) (N : Nt) (A : Option Addr) (n cap : Nat) (D : List Pkt) (w : World) (h : NetIn w w.heap.size y N) (hn : NetSm N) (hc : NetCap y N) (hL : WfL N.br) (hr : RecAt 5 pktC w w.heap.size A n D) (hn1 : n ≤ 1000000000) :
    Calls Tryz.prog 9 #[.agg #[.int .i64 N.W, .int .i64 N.H, .slice y.br.A N.br.length y.br.c, .slice y.ta.A N.ta.length y.ta.c, .slice y.tb.A N.tb.length y.tb.c, .slice y.bu.A N.bu.length y.bu.c, .slice y.ow.A N.ow.length y.ow.c, .slice y.tu.A N.tu.length y.tu.c, .slice y.so.A N.so.length y.so.c, .slice y.ar.A N.ar.length y.ar.c, .int .i64 N.ti], .slice A n cap] w (RetNetI (sendAllG N D) (sentG N D) w) := by
  have HNK := Lib.hid (fun w' (g : w.grownBy w' none) => implNetOk y N w' ((h.none (Nat.le_refl _) g).more g.size) hn hc hL)
  have HCP := Lib.hid (fun w' (g : w.grownBy w' none) => implClone y N w' ((h.none (Nat.le_refl _) g).more g.size) hn)
  have HRD := Lib.hid hr
  have hlD := hr.1
  have k0 := (Blk.new w 45 #[.int .i64 N.W, .int .i64 N.H, .slice y.br.A N.br.length y.br.c, .slice y.ta.A N.ta.length y.ta.c, .slice y.tb.A N.tb.length y.tb.c, .slice y.bu.A N.bu.length y.bu.c, .slice y.ow.A N.ow.length y.ow.c, .slice y.tu.A N.tu.length y.tu.c, .slice y.so.A N.so.length y.so.c, .slice y.ar.A N.ar.length y.ar.c, .int .i64 N.ti]).alloc (.cells #[.int .i64 0, .int .i64 0, .slice none 0 0, .slice none 0 0, .slice none 0 0, .slice none 0 0, .slice none 0 0, .slice none 0 0, .slice none 0 0, .slice none 0 0, .int .i64 0] 45)
  have k2 := Blk.new (w.alloc (.cells #[.int .i64 N.W, .int .i64 N.H, .slice y.br.A N.br.length y.br.c, .slice y.ta.A N.ta.length y.ta.c, .slice y.tb.A N.tb.length y.tb.c, .slice y.bu.A N.bu.length y.bu.c, .slice y.ow.A N.ow.length y.ow.c, .slice y.tu.A N.tu.length y.tu.c, .slice y.so.A N.so.length y.so.c, .slice y.ar.A N.ar.length y.ar.c, .int .i64 N.ti] 45)) 45 #[.int .i64 0, .int .i64 0, .slice none 0 0, .slice none 0 0, .slice none 0 0, .slice none 0 0, .slice none 0 0, .slice none 0 0, .slice none 0 0, .slice none 0 0, .int .i64 0]
  have ge := gb_alloc (gb_alloc (gb_refl w none) (.cells #[.int .i64 N.W, .int .i64 N.H, .slice y.br.A N.br.length y.br.c, .slice y.ta.A N.ta.length y.ta.c, .slice y.tb.A N.tb.length y.tb.c, .slice y.bu.A N.bu.length y.bu.c, .slice y.ow.A N.ow.length y.ow.c, .slice y.tu.A N.tu.length y.tu.c, .slice y.so.A N.so.length y.so.c, .slice y.ar.A N.ar.length y.ar.c, .int .i64 N.ti] 45)) (.cells #[.int .i64 0, .int .i64 0, .slice none 0 0, .slice none 0 0, .slice none 0 0, .slice none 0 0, .slice none 0 0, .slice none 0 0, .slice none 0 0, .slice none 0 0, .int .i64 0] 45)
  have hsz : ((w.alloc (.cells #[.int .i64 N.W, .int .i64 N.H, .slice y.br.A N.br.length y.br.c, .slice y.ta.A N.ta.length y.ta.c, .slice y.tb.A N.tb.length y.tb.c, .slice y.bu.A N.bu.length y.bu.c, .slice y.ow.A N.ow.length y.ow.c, .slice y.tu.A N.tu.length y.tu.c, .slice y.so.A N.so.length y.so.c, .slice y.ar.A N.ar.length y.ar.c, .int .i64 N.ti] 45)).alloc (.cells #[.int .i64 0, .int .i64 0, .slice none 0 0, .slice none 0 0, .slice none 0 0, .slice none 0 0, .slice none 0 0, .slice none 0 0, .slice none 0 0, .slice none 0 0, .int .i64 0] 45)).heap.size = w.heap.size + 2 := by simp only [alloc_size]
  simp only [alloc_size] at k2
  clear h hc hL hr
  go_enter Tryz.func9, Tryz.ntmps9
  go_wp2_with fail
  generalize (w.alloc (.cells #[.int .i64 N.W, .int .i64 N.H, .slice y.br.A N.br.length y.br.c, .slice y.ta.A N.ta.length y.ta.c, .slice y.tb.A N.tb.length y.tb.c, .slice y.bu.A N.bu.length y.bu.c, .slice y.ow.A N.ow.length y.ow.c, .slice y.tu.A N.tu.length y.tu.c, .slice y.so.A N.so.length y.so.c, .slice y.ar.A N.ar.length y.ar.c, .int .i64 N.ti] 45)).alloc (.cells #[.int .i64 0, .int .i64 0, .slice none 0 0, .slice none 0 0, .slice none 0 0, .slice none 0 0, .slice none 0 0, .slice none 0 0, .slice none 0 0, .slice none 0 0, .int .i64 0] 45) = w0 at *
  have K0 : Hid (Blk w0 w.heap.size 45 #[.int .i64 N.W, .int .i64 N.H, .slice y.br.A N.br.length y.br.c, .slice y.ta.A N.ta.length y.ta.c, .slice y.tb.A N.tb.length y.tb.c, .slice y.bu.A N.bu.length y.bu.c, .slice y.ow.A N.ow.length y.ow.c, .slice y.tu.A N.tu.length y.tu.c, .slice y.so.A N.so.length y.so.c, .slice y.ar.A N.ar.length y.ar.c, .int .i64 N.ti]) := Lib.hid k0
  have K2 : Hid (Blk w0 (w.heap.size + 1) 45 #[.int .i64 0, .int .i64 0, .slice none 0 0, .slice none 0 0, .slice none 0 0, .slice none 0 0, .slice none 0 0, .slice none 0 0, .slice none 0 0, .slice none 0 0, .int .i64 0]) := Lib.hid k2
  have GE := Lib.hid ge
  have SZ := Lib.hid hsz
  clear k0 k2 ge hsz
  refine (HCP.out _ GE.out).mono ?_
  rintro e w1 ⟨z, rfl, o1, b1⟩
  have O1 := Lib.hid (NetOwn.gb o1 (gb_alloc (gb_refl w1 none) (.cells #[.int .i64 N.W, .int .i64 N.H, .slice z.br.A N.br.length z.br.c, .slice z.ta.A N.ta.length z.ta.c, .slice z.tb.A N.tb.length z.tb.c, .slice z.bu.A N.bu.length z.bu.c, .slice z.ow.A N.ow.length z.ow.c, .slice z.tu.A N.tu.length z.tu.c, .slice z.so.A N.so.length z.so.c, .slice z.ar.A N.ar.length z.ar.c, .int .i64 N.ti] 45)))
  have G1 := Lib.hid (gb_alloc (gb_of_below b1 none) (.cells #[.int .i64 N.W, .int .i64 N.H, .slice z.br.A N.br.length z.br.c, .slice z.ta.A N.ta.length z.ta.c, .slice z.tb.A N.tb.length z.tb.c, .slice z.bu.A N.bu.length z.bu.c, .slice z.ow.A N.ow.length z.ow.c, .slice z.tu.A N.tu.length z.tu.c, .slice z.so.A N.so.length z.so.c, .slice z.ar.A N.ar.length z.ar.c, .int .i64 N.ti] 45))
  have SZ1 := Lib.hid (show w0.heap.size ≤ w1.heap.size from b1.size)
  have KG := Lib.hid (Blk.new w1 45 #[.int .i64 N.W, .int .i64 N.H, .slice z.br.A N.br.length z.br.c, .slice z.ta.A N.ta.length z.ta.c, .slice z.tb.A N.tb.length z.tb.c, .slice z.bu.A N.bu.length z.bu.c, .slice z.ow.A N.ow.length z.ow.c, .slice z.tu.A N.tu.length z.tu.c, .slice z.so.A N.so.length z.so.c, .slice z.ar.A N.ar.length z.ar.c, .int .i64 N.ti])
  have S0 := Lib.hid (alloc_size w1 (.cells #[.int .i64 N.W, .int .i64 N.H, .slice z.br.A N.br.length z.br.c, .slice z.ta.A N.ta.length z.ta.c, .slice z.tb.A N.tb.length z.tb.c, .slice z.bu.A N.bu.length z.bu.c, .slice z.ow.A N.ow.length z.ow.c, .slice z.tu.A N.tu.length z.tu.c, .slice z.so.A N.so.length z.so.c, .slice z.ar.A N.ar.length z.ar.c, .int .i64 N.ti] 45))
  clear o1 b1
  have a0 : (w1.alloc (.cells #[.int .i64 N.W, .int .i64 N.H, .slice z.br.A N.br.length z.br.c, .slice z.ta.A N.ta.length z.ta.c, .slice z.tb.A N.tb.length z.tb.c, .slice z.bu.A N.bu.length z.bu.c, .slice z.ow.A N.ow.length z.ow.c, .slice z.tu.A N.tu.length z.tu.c, .slice z.so.A N.so.length z.so.c, .slice z.ar.A N.ar.length z.ar.c, .int .i64 N.ti] 45)).cell? ⟨w.heap.size, 0, none⟩ = some (.int .i64 N.W) := (K0.out.grown G1.out (by simp)).cell 0
  have a1 : (w1.alloc (.cells #[.int .i64 N.W, .int .i64 N.H, .slice z.br.A N.br.length z.br.c, .slice z.ta.A N.ta.length z.ta.c, .slice z.tb.A N.tb.length z.tb.c, .slice z.bu.A N.bu.length z.bu.c, .slice z.ow.A N.ow.length z.ow.c, .slice z.tu.A N.tu.length z.tu.c, .slice z.so.A N.so.length z.so.c, .slice z.ar.A N.ar.length z.ar.c, .int .i64 N.ti] 45)).cell? ⟨w.heap.size, 1, none⟩ = some (.int .i64 N.H) := (K0.out.grown G1.out (by simp)).cell 1
  have a2 : (w1.alloc (.cells #[.int .i64 N.W, .int .i64 N.H, .slice z.br.A N.br.length z.br.c, .slice z.ta.A N.ta.length z.ta.c, .slice z.tb.A N.tb.length z.tb.c, .slice z.bu.A N.bu.length z.bu.c, .slice z.ow.A N.ow.length z.ow.c, .slice z.tu.A N.tu.length z.tu.c, .slice z.so.A N.so.length z.so.c, .slice z.ar.A N.ar.length z.ar.c, .int .i64 N.ti] 45)).cell? ⟨w.heap.size, 2, none⟩ = some (.slice y.br.A N.br.length y.br.c) := (K0.out.grown G1.out (by simp)).cell 2
  have a3 : (w1.alloc (.cells #[.int .i64 N.W, .int .i64 N.H, .slice z.br.A N.br.length z.br.c, .slice z.ta.A N.ta.length z.ta.c, .slice z.tb.A N.tb.length z.tb.c, .slice z.bu.A N.bu.length z.bu.c, .slice z.ow.A N.ow.length z.ow.c, .slice z.tu.A N.tu.length z.tu.c, .slice z.so.A N.so.length z.so.c, .slice z.ar.A N.ar.length z.ar.c, .int .i64 N.ti] 45)).cell? ⟨w.heap.size, 3, none⟩ = some (.slice y.ta.A N.ta.length y.ta.c) := (K0.out.grown G1.out (by simp)).cell 3
  have a4 : (w1.alloc (.cells #[.int .i64 N.W, .int .i64 N.H, .slice z.br.A N.br.length z.br.c, .slice z.ta.A N.ta.length z.ta.c, .slice z.tb.A N.tb.length z.tb.c, .slice z.bu.A N.bu.length z.bu.c, .slice z.ow.A N.ow.length z.ow.c, .slice z.tu.A N.tu.length z.tu.c, .slice z.so.A N.so.length z.so.c, .slice z.ar.A N.ar.length z.ar.c, .int .i64 N.ti] 45)).cell? ⟨w.heap.size, 4, none⟩ = some (.slice y.tb.A N.tb.length y.tb.c) := (K0.out.grown G1.out (by simp)).cell 4
  have a5 : (w1.alloc (.cells #[.int .i64 N.W, .int .i64 N.H, .slice z.br.A N.br.length z.br.c, .slice z.ta.A N.ta.length z.ta.c, .slice z.tb.A N.tb.length z.tb.c, .slice z.bu.A N.bu.length z.bu.c, .slice z.ow.A N.ow.length z.ow.c, .slice z.tu.A N.tu.length z.tu.c, .slice z.so.A N.so.length z.so.c, .slice z.ar.A N.ar.length z.ar.c, .int .i64 N.ti] 45)).cell? ⟨w.heap.size, 5, none⟩ = some (.slice y.bu.A N.bu.length y.bu.c) := (K0.out.grown G1.out (by simp)).cell 5
  have a6 : (w1.alloc (.cells #[.int .i64 N.W, .int .i64 N.H, .slice z.br.A N.br.length z.br.c, .slice z.ta.A N.ta.length z.ta.c, .slice z.tb.A N.tb.length z.tb.c, .slice z.bu.A N.bu.length z.bu.c, .slice z.ow.A N.ow.length z.ow.c, .slice z.tu.A N.tu.length z.tu.c, .slice z.so.A N.so.length z.so.c, .slice z.ar.A N.ar.length z.ar.c, .int .i64 N.ti] 45)).cell? ⟨w.heap.size, 6, none⟩ = some (.slice y.ow.A N.ow.length y.ow.c) := (K0.out.grown G1.out (by simp)).cell 6
  have a7 : (w1.alloc (.cells #[.int .i64 N.W, .int .i64 N.H, .slice z.br.A N.br.length z.br.c, .slice z.ta.A N.ta.length z.ta.c, .slice z.tb.A N.tb.length z.tb.c, .slice z.bu.A N.bu.length z.bu.c, .slice z.ow.A N.ow.length z.ow.c, .slice z.tu.A N.tu.length z.tu.c, .slice z.so.A N.so.length z.so.c, .slice z.ar.A N.ar.length z.ar.c, .int .i64 N.ti] 45)).cell? ⟨w.heap.size, 7, none⟩ = some (.slice y.tu.A N.tu.length y.tu.c) := (K0.out.grown G1.out (by simp)).cell 7
  have a8 : (w1.alloc (.cells #[.int .i64 N.W, .int .i64 N.H, .slice z.br.A N.br.length z.br.c, .slice z.ta.A N.ta.length z.ta.c, .slice z.tb.A N.tb.length z.tb.c, .slice z.bu.A N.bu.length z.bu.c, .slice z.ow.A N.ow.length z.ow.c, .slice z.tu.A N.tu.length z.tu.c, .slice z.so.A N.so.length z.so.c, .slice z.ar.A N.ar.length z.ar.c, .int .i64 N.ti] 45)).cell? ⟨w.heap.size, 8, none⟩ = some (.slice y.so.A N.so.length y.so.c) := (K0.out.grown G1.out (by simp)).cell 8
  have a9 : (w1.alloc (.cells #[.int .i64 N.W, .int .i64 N.H, .slice z.br.A N.br.length z.br.c, .slice z.ta.A N.ta.length z.ta.c, .slice z.tb.A N.tb.length z.tb.c, .slice z.bu.A N.bu.length z.bu.c, .slice z.ow.A N.ow.length z.ow.c, .slice z.tu.A N.tu.length z.tu.c, .slice z.so.A N.so.length z.so.c, .slice z.ar.A N.ar.length z.ar.c, .int .i64 N.ti] 45)).cell? ⟨w.heap.size, 9, none⟩ = some (.slice y.ar.A N.ar.length y.ar.c) := (K0.out.grown G1.out (by simp)).cell 9
  have a10 : (w1.alloc (.cells #[.int .i64 N.W, .int .i64 N.H, .slice z.br.A N.br.length z.br.c, .slice z.ta.A N.ta.length z.ta.c, .slice z.tb.A N.tb.length z.tb.c, .slice z.bu.A N.bu.length z.bu.c, .slice z.ow.A N.ow.length z.ow.c, .slice z.tu.A N.tu.length z.tu.c, .slice z.so.A N.so.length z.so.c, .slice z.ar.A N.ar.length z.ar.c, .int .i64 N.ti] 45)).cell? ⟨w.heap.size, 10, none⟩ = some (.int .i64 N.ti) := (K0.out.grown G1.out (by simp)).cell 10
  go_wp2_with fail
  generalize (w1.alloc (.cells #[.int .i64 N.W, .int .i64 N.H, .slice z.br.A N.br.length z.br.c, .slice z.ta.A N.ta.length z.ta.c, .slice z.tb.A N.tb.length z.tb.c, .slice z.bu.A N.bu.length z.bu.c, .slice z.ow.A N.ow.length z.ow.c, .slice z.tu.A N.tu.length z.tu.c, .slice z.so.A N.so.length z.so.c, .slice z.ar.A N.ar.length z.ar.c, .int .i64 N.ti] 45)) = wx at *
  refine (HNK.out _ (gb_trans GE.out G1.out)).mono ?_
  rintro e w2 ⟨rfl, hg2⟩
  have G2 := Lib.hid hg2
  have SZ2 := Lib.hid (show w1.heap.size + 1 ≤ w2.heap.size by have h1 := hg2.size; have h2 := S0.out; omega)
  have KG2 := Lib.hid (KG.out.grown hg2 (by simp))
  have O2 := Lib.hid (O1.out.gb hg2)
  have GG := Lib.hid (gb_trans (gb_trans GE.out G1.out) hg2)
  have KR2 := Lib.hid (((K2.out.grown G1.out (by simp)).grown hg2 (by simp)))
  clear hg2 a0 a1 a2 a3 a4 a5 a6 a7 a8 a9 a10
  have BB := Lib.hid (gb_below_none GG.out (Nat.le_refl _))
  cases hok : netOk N with
  | false =>
    have HNO := Lib.hid (show allOk N D = false by rw [allOk, hok]; rfl)
    have HA := Lib.hid (show sendAllG N D = N ∧ sentG N D = -1 from ⟨if_neg (by rw [HNO.out]; decide), if_neg (by rw [HNO.out]; decide)⟩)
    have b0 : w2.cell? ⟨w1.heap.size, 0, none⟩ = some (.int .i64 N.W) := KG2.out.cell 0
    have b1 : w2.cell? ⟨w1.heap.size, 1, none⟩ = some (.int .i64 N.H) := KG2.out.cell 1
    have b2 : w2.cell? ⟨w1.heap.size, 2, none⟩ = some (.slice z.br.A N.br.length z.br.c) := KG2.out.cell 2
    have b3 : w2.cell? ⟨w1.heap.size, 3, none⟩ = some (.slice z.ta.A N.ta.length z.ta.c) := KG2.out.cell 3
    have b4 : w2.cell? ⟨w1.heap.size, 4, none⟩ = some (.slice z.tb.A N.tb.length z.tb.c) := KG2.out.cell 4
    have b5 : w2.cell? ⟨w1.heap.size, 5, none⟩ = some (.slice z.bu.A N.bu.length z.bu.c) := KG2.out.cell 5
    have b6 : w2.cell? ⟨w1.heap.size, 6, none⟩ = some (.slice z.ow.A N.ow.length z.ow.c) := KG2.out.cell 6
    have b7 : w2.cell? ⟨w1.heap.size, 7, none⟩ = some (.slice z.tu.A N.tu.length z.tu.c) := KG2.out.cell 7
    have b8 : w2.cell? ⟨w1.heap.size, 8, none⟩ = some (.slice z.so.A N.so.length z.so.c) := KG2.out.cell 8
    have b9 : w2.cell? ⟨w1.heap.size, 9, none⟩ = some (.slice z.ar.A N.ar.length z.ar.c) := KG2.out.cell 9
    have b10 : w2.cell? ⟨w1.heap.size, 10, none⟩ = some (.int .i64 N.ti) := KG2.out.cell 10
    have kr : Blk w2 (w.heap.size + 1) 45 #[.int .i64 0, .int .i64 0, .slice none 0 0, .slice none 0 0, .slice none 0 0, .slice none 0 0, .slice none 0 0, .slice none 0 0, .slice none 0 0, .slice none 0 0, .int .i64 0] := KR2.out
    have KR4 := Lib.hid kr
    have y0 : w2.cell? ⟨w.heap.size + 1, 0, none⟩ = some (.int .i64 0) := kr.cell 0
    have x0 := kr.frozen 0
    have y1 : w2.cell? ⟨w.heap.size + 1, 1, none⟩ = some (.int .i64 0) := kr.cell 1
    have x1 := kr.frozen 1
    have y2 : w2.cell? ⟨w.heap.size + 1, 2, none⟩ = some (.slice none 0 0) := kr.cell 2
    have x2 := kr.frozen 2
    have y3 : w2.cell? ⟨w.heap.size + 1, 3, none⟩ = some (.slice none 0 0) := kr.cell 3
    have x3 := kr.frozen 3
    have y4 : w2.cell? ⟨w.heap.size + 1, 4, none⟩ = some (.slice none 0 0) := kr.cell 4
    have x4 := kr.frozen 4
    have y5 : w2.cell? ⟨w.heap.size + 1, 5, none⟩ = some (.slice none 0 0) := kr.cell 5
    have x5 := kr.frozen 5
    have y6 : w2.cell? ⟨w.heap.size + 1, 6, none⟩ = some (.slice none 0 0) := kr.cell 6
    have x6 := kr.frozen 6
    have y7 : w2.cell? ⟨w.heap.size + 1, 7, none⟩ = some (.slice none 0 0) := kr.cell 7
    have x7 := kr.frozen 7
    have y8 : w2.cell? ⟨w.heap.size + 1, 8, none⟩ = some (.slice none 0 0) := kr.cell 8
    have x8 := kr.frozen 8
    have y9 : w2.cell? ⟨w.heap.size + 1, 9, none⟩ = some (.slice none 0 0) := kr.cell 9
    have x9 := kr.frozen 9
    have y10 : w2.cell? ⟨w.heap.size + 1, 10, none⟩ = some (.int .i64 0) := kr.cell 10
    have x10 := kr.frozen 10
    clear kr
    go_wp2_with fail
    have kf : Blk (((((((((((w2.setCell ⟨w.heap.size + 1, 0, none⟩ (.int .i64 N.W)).setCell ⟨w.heap.size + 1, 1, none⟩ (.int .i64 N.H)).setCell ⟨w.heap.size + 1, 2, none⟩ (.slice z.br.A N.br.length z.br.c)).setCell ⟨w.heap.size + 1, 3, none⟩ (.slice z.ta.A N.ta.length z.ta.c)).setCell ⟨w.heap.size + 1, 4, none⟩ (.slice z.tb.A N.tb.length z.tb.c)).setCell ⟨w.heap.size + 1, 5, none⟩ (.slice z.bu.A N.bu.length z.bu.c)).setCell ⟨w.heap.size + 1, 6, none⟩ (.slice z.ow.A N.ow.length z.ow.c)).setCell ⟨w.heap.size + 1, 7, none⟩ (.slice z.tu.A N.tu.length z.tu.c)).setCell ⟨w.heap.size + 1, 8, none⟩ (.slice z.so.A N.so.length z.so.c)).setCell ⟨w.heap.size + 1, 9, none⟩ (.slice z.ar.A N.ar.length z.ar.c)).setCell ⟨w.heap.size + 1, 10, none⟩ (.int .i64 N.ti)) (w.heap.size + 1) 45 #[.int .i64 N.W, .int .i64 N.H, .slice z.br.A N.br.length z.br.c, .slice z.ta.A N.ta.length z.ta.c, .slice z.tb.A N.tb.length z.tb.c, .slice z.bu.A N.bu.length z.bu.c, .slice z.ow.A N.ow.length z.ow.c, .slice z.tu.A N.tu.length z.tu.c, .slice z.so.A N.so.length z.so.c, .slice z.ar.A N.ar.length z.ar.c, .int .i64 N.ti] := by
      have hz := (((((((((((KR4.out.set_ 0 (.int .i64 N.W)).set_ 1 (.int .i64 N.H)).set_ 2 (.slice z.br.A N.br.length z.br.c)).set_ 3 (.slice z.ta.A N.ta.length z.ta.c)).set_ 4 (.slice z.tb.A N.tb.length z.tb.c)).set_ 5 (.slice z.bu.A N.bu.length z.bu.c)).set_ 6 (.slice z.ow.A N.ow.length z.ow.c)).set_ 7 (.slice z.tu.A N.tu.length z.tu.c)).set_ 8 (.slice z.so.A N.so.length z.so.c)).set_ 9 (.slice z.ar.A N.ar.length z.ar.c)).set_ 10 (.int .i64 N.ti))
      simpa using hz
    have qz : Chg (w.heap.size + 1) (w.heap.size + 1 + 1) w2 (((((((((((w2.setCell ⟨w.heap.size + 1, 0, none⟩ (.int .i64 N.W)).setCell ⟨w.heap.size + 1, 1, none⟩ (.int .i64 N.H)).setCell ⟨w.heap.size + 1, 2, none⟩ (.slice z.br.A N.br.length z.br.c)).setCell ⟨w.heap.size + 1, 3, none⟩ (.slice z.ta.A N.ta.length z.ta.c)).setCell ⟨w.heap.size + 1, 4, none⟩ (.slice z.tb.A N.tb.length z.tb.c)).setCell ⟨w.heap.size + 1, 5, none⟩ (.slice z.bu.A N.bu.length z.bu.c)).setCell ⟨w.heap.size + 1, 6, none⟩ (.slice z.ow.A N.ow.length z.ow.c)).setCell ⟨w.heap.size + 1, 7, none⟩ (.slice z.tu.A N.tu.length z.tu.c)).setCell ⟨w.heap.size + 1, 8, none⟩ (.slice z.so.A N.so.length z.so.c)).setCell ⟨w.heap.size + 1, 9, none⟩ (.slice z.ar.A N.ar.length z.ar.c)).setCell ⟨w.heap.size + 1, 10, none⟩ (.int .i64 N.ti)) := ((((((((((st_in w2 (w.heap.size + 1) 0 (.int .i64 N.W)).sx 1 (.int .i64 N.H)).sx 2 (.slice z.br.A N.br.length z.br.c)).sx 3 (.slice z.ta.A N.ta.length z.ta.c)).sx 4 (.slice z.tb.A N.tb.length z.tb.c)).sx 5 (.slice z.bu.A N.bu.length z.bu.c)).sx 6 (.slice z.ow.A N.ow.length z.ow.c)).sx 7 (.slice z.tu.A N.tu.length z.tu.c)).sx 8 (.slice z.so.A N.so.length z.so.c)).sx 9 (.slice z.ar.A N.ar.length z.ar.c)).sx 10 (.int .i64 N.ti)
    generalize (((((((((((w2.setCell ⟨w.heap.size + 1, 0, none⟩ (.int .i64 N.W)).setCell ⟨w.heap.size + 1, 1, none⟩ (.int .i64 N.H)).setCell ⟨w.heap.size + 1, 2, none⟩ (.slice z.br.A N.br.length z.br.c)).setCell ⟨w.heap.size + 1, 3, none⟩ (.slice z.ta.A N.ta.length z.ta.c)).setCell ⟨w.heap.size + 1, 4, none⟩ (.slice z.tb.A N.tb.length z.tb.c)).setCell ⟨w.heap.size + 1, 5, none⟩ (.slice z.bu.A N.bu.length z.bu.c)).setCell ⟨w.heap.size + 1, 6, none⟩ (.slice z.ow.A N.ow.length z.ow.c)).setCell ⟨w.heap.size + 1, 7, none⟩ (.slice z.tu.A N.tu.length z.tu.c)).setCell ⟨w.heap.size + 1, 8, none⟩ (.slice z.so.A N.so.length z.so.c)).setCell ⟨w.heap.size + 1, 9, none⟩ (.slice z.ar.A N.ar.length z.ar.c)).setCell ⟨w.heap.size + 1, 10, none⟩ (.int .i64 N.ti)) = wz at *
    have r0 := kf.cell 0
    have r1 := kf.cell 1
    have r2 := kf.cell 2
    have r3 := kf.cell 3
    have r4 := kf.cell 4
    have r5 := kf.cell 5
    have r6 := kf.cell 6
    have r7 := kf.cell 7
    have r8 := kf.cell 8
    have r9 := kf.cell 9
    have r10 := kf.cell 10
    simp only [List.getElem?_toArray, List.getElem?_cons_zero, List.getElem?_cons_succ] at r0 r1 r2 r3 r4 r5 r6 r7 r8 r9 r10
    rw [HA.out.1, HA.out.2]
    have hnet : NetOwn wz _ w2.heap.size z N := (O2.out.upto (show w1.heap.size ≤ w2.heap.size by have h3 := SZ.out; have h4 := SZ1.out; have h5 := SZ2.out; omega)).heap (fun k h1 h2 => qz.block k h2 (by have h3 := SZ.out; have h4 := SZ1.out; have h5 := SZ2.out; omega))
    refine bodyPost_ret (v := .tuple #[.agg #[.int .i64 N.W, .int .i64 N.H, .slice z.br.A N.br.length z.br.c, .slice z.ta.A N.ta.length z.ta.c, .slice z.tb.A N.tb.length z.tb.c, .slice z.bu.A N.bu.length z.bu.c, .slice z.ow.A N.ow.length z.ow.c, .slice z.tu.A N.tu.length z.tu.c, .slice z.so.A N.so.length z.so.c, .slice z.ar.A N.ar.length z.ar.c, .int .i64 N.ti], .int .i64 (-1)]) (by simp [results, Tryz.results9, go_sem, r0, r1, r2, r3, r4, r5, r6, r7, r8, r9, r10]) rfl ⟨z, rfl, (hnet.less (by have h3 := SZ.out; have h4 := SZ1.out; have h5 := SZ2.out; omega)).upto qz.size, (BB.out).trans (qz.below (.inl (by omega)) (by have h3 := SZ.out; have h4 := SZ1.out; have h5 := SZ2.out; omega))⟩
  | true =>
    have HOK := Lib.hid hok
    by_cases h40 : n ≤ 40
    rotate_left
    · have HNO := Lib.hid (show allOk N D = false by rw [allOk, decide_eq_false (by omega), Bool.and_false])
      have HA := Lib.hid (show sendAllG N D = N ∧ sentG N D = -1 from ⟨if_neg (by rw [HNO.out]; decide), if_neg (by rw [HNO.out]; decide)⟩)
      have e1 : (n : Int) > 40 := by omega
      clear hok h40
      have b0 : w2.cell? ⟨w1.heap.size, 0, none⟩ = some (.int .i64 N.W) := KG2.out.cell 0
      have b1 : w2.cell? ⟨w1.heap.size, 1, none⟩ = some (.int .i64 N.H) := KG2.out.cell 1
      have b2 : w2.cell? ⟨w1.heap.size, 2, none⟩ = some (.slice z.br.A N.br.length z.br.c) := KG2.out.cell 2
      have b3 : w2.cell? ⟨w1.heap.size, 3, none⟩ = some (.slice z.ta.A N.ta.length z.ta.c) := KG2.out.cell 3
      have b4 : w2.cell? ⟨w1.heap.size, 4, none⟩ = some (.slice z.tb.A N.tb.length z.tb.c) := KG2.out.cell 4
      have b5 : w2.cell? ⟨w1.heap.size, 5, none⟩ = some (.slice z.bu.A N.bu.length z.bu.c) := KG2.out.cell 5
      have b6 : w2.cell? ⟨w1.heap.size, 6, none⟩ = some (.slice z.ow.A N.ow.length z.ow.c) := KG2.out.cell 6
      have b7 : w2.cell? ⟨w1.heap.size, 7, none⟩ = some (.slice z.tu.A N.tu.length z.tu.c) := KG2.out.cell 7
      have b8 : w2.cell? ⟨w1.heap.size, 8, none⟩ = some (.slice z.so.A N.so.length z.so.c) := KG2.out.cell 8
      have b9 : w2.cell? ⟨w1.heap.size, 9, none⟩ = some (.slice z.ar.A N.ar.length z.ar.c) := KG2.out.cell 9
      have b10 : w2.cell? ⟨w1.heap.size, 10, none⟩ = some (.int .i64 N.ti) := KG2.out.cell 10
      have kr : Blk w2 (w.heap.size + 1) 45 #[.int .i64 0, .int .i64 0, .slice none 0 0, .slice none 0 0, .slice none 0 0, .slice none 0 0, .slice none 0 0, .slice none 0 0, .slice none 0 0, .slice none 0 0, .int .i64 0] := KR2.out
      have KR4 := Lib.hid kr
      have y0 : w2.cell? ⟨w.heap.size + 1, 0, none⟩ = some (.int .i64 0) := kr.cell 0
      have x0 := kr.frozen 0
      have y1 : w2.cell? ⟨w.heap.size + 1, 1, none⟩ = some (.int .i64 0) := kr.cell 1
      have x1 := kr.frozen 1
      have y2 : w2.cell? ⟨w.heap.size + 1, 2, none⟩ = some (.slice none 0 0) := kr.cell 2
      have x2 := kr.frozen 2
      have y3 : w2.cell? ⟨w.heap.size + 1, 3, none⟩ = some (.slice none 0 0) := kr.cell 3
      have x3 := kr.frozen 3
      have y4 : w2.cell? ⟨w.heap.size + 1, 4, none⟩ = some (.slice none 0 0) := kr.cell 4
      have x4 := kr.frozen 4
      have y5 : w2.cell? ⟨w.heap.size + 1, 5, none⟩ = some (.slice none 0 0) := kr.cell 5
      have x5 := kr.frozen 5
      have y6 : w2.cell? ⟨w.heap.size + 1, 6, none⟩ = some (.slice none 0 0) := kr.cell 6
      have x6 := kr.frozen 6
      have y7 : w2.cell? ⟨w.heap.size + 1, 7, none⟩ = some (.slice none 0 0) := kr.cell 7
      have x7 := kr.frozen 7
      have y8 : w2.cell? ⟨w.heap.size + 1, 8, none⟩ = some (.slice none 0 0) := kr.cell 8
      have x8 := kr.frozen 8
      have y9 : w2.cell? ⟨w.heap.size + 1, 9, none⟩ = some (.slice none 0 0) := kr.cell 9
      have x9 := kr.frozen 9
      have y10 : w2.cell? ⟨w.heap.size + 1, 10, none⟩ = some (.int .i64 0) := kr.cell 10
      have x10 := kr.frozen 10
      clear kr
      go_wp2_with fail
      have kf : Blk (((((((((((w2.setCell ⟨w.heap.size + 1, 0, none⟩ (.int .i64 N.W)).setCell ⟨w.heap.size + 1, 1, none⟩ (.int .i64 N.H)).setCell ⟨w.heap.size + 1, 2, none⟩ (.slice z.br.A N.br.length z.br.c)).setCell ⟨w.heap.size + 1, 3, none⟩ (.slice z.ta.A N.ta.length z.ta.c)).setCell ⟨w.heap.size + 1, 4, none⟩ (.slice z.tb.A N.tb.length z.tb.c)).setCell ⟨w.heap.size + 1, 5, none⟩ (.slice z.bu.A N.bu.length z.bu.c)).setCell ⟨w.heap.size + 1, 6, none⟩ (.slice z.ow.A N.ow.length z.ow.c)).setCell ⟨w.heap.size + 1, 7, none⟩ (.slice z.tu.A N.tu.length z.tu.c)).setCell ⟨w.heap.size + 1, 8, none⟩ (.slice z.so.A N.so.length z.so.c)).setCell ⟨w.heap.size + 1, 9, none⟩ (.slice z.ar.A N.ar.length z.ar.c)).setCell ⟨w.heap.size + 1, 10, none⟩ (.int .i64 N.ti)) (w.heap.size + 1) 45 #[.int .i64 N.W, .int .i64 N.H, .slice z.br.A N.br.length z.br.c, .slice z.ta.A N.ta.length z.ta.c, .slice z.tb.A N.tb.length z.tb.c, .slice z.bu.A N.bu.length z.bu.c, .slice z.ow.A N.ow.length z.ow.c, .slice z.tu.A N.tu.length z.tu.c, .slice z.so.A N.so.length z.so.c, .slice z.ar.A N.ar.length z.ar.c, .int .i64 N.ti] := by
        have hz := (((((((((((KR4.out.set_ 0 (.int .i64 N.W)).set_ 1 (.int .i64 N.H)).set_ 2 (.slice z.br.A N.br.length z.br.c)).set_ 3 (.slice z.ta.A N.ta.length z.ta.c)).set_ 4 (.slice z.tb.A N.tb.length z.tb.c)).set_ 5 (.slice z.bu.A N.bu.length z.bu.c)).set_ 6 (.slice z.ow.A N.ow.length z.ow.c)).set_ 7 (.slice z.tu.A N.tu.length z.tu.c)).set_ 8 (.slice z.so.A N.so.length z.so.c)).set_ 9 (.slice z.ar.A N.ar.length z.ar.c)).set_ 10 (.int .i64 N.ti))
        simpa using hz
      have qz : Chg (w.heap.size + 1) (w.heap.size + 1 + 1) w2 (((((((((((w2.setCell ⟨w.heap.size + 1, 0, none⟩ (.int .i64 N.W)).setCell ⟨w.heap.size + 1, 1, none⟩ (.int .i64 N.H)).setCell ⟨w.heap.size + 1, 2, none⟩ (.slice z.br.A N.br.length z.br.c)).setCell ⟨w.heap.size + 1, 3, none⟩ (.slice z.ta.A N.ta.length z.ta.c)).setCell ⟨w.heap.size + 1, 4, none⟩ (.slice z.tb.A N.tb.length z.tb.c)).setCell ⟨w.heap.size + 1, 5, none⟩ (.slice z.bu.A N.bu.length z.bu.c)).setCell ⟨w.heap.size + 1, 6, none⟩ (.slice z.ow.A N.ow.length z.ow.c)).setCell ⟨w.heap.size + 1, 7, none⟩ (.slice z.tu.A N.tu.length z.tu.c)).setCell ⟨w.heap.size + 1, 8, none⟩ (.slice z.so.A N.so.length z.so.c)).setCell ⟨w.heap.size + 1, 9, none⟩ (.slice z.ar.A N.ar.length z.ar.c)).setCell ⟨w.heap.size + 1, 10, none⟩ (.int .i64 N.ti)) := ((((((((((st_in w2 (w.heap.size + 1) 0 (.int .i64 N.W)).sx 1 (.int .i64 N.H)).sx 2 (.slice z.br.A N.br.length z.br.c)).sx 3 (.slice z.ta.A N.ta.length z.ta.c)).sx 4 (.slice z.tb.A N.tb.length z.tb.c)).sx 5 (.slice z.bu.A N.bu.length z.bu.c)).sx 6 (.slice z.ow.A N.ow.length z.ow.c)).sx 7 (.slice z.tu.A N.tu.length z.tu.c)).sx 8 (.slice z.so.A N.so.length z.so.c)).sx 9 (.slice z.ar.A N.ar.length z.ar.c)).sx 10 (.int .i64 N.ti)
      generalize (((((((((((w2.setCell ⟨w.heap.size + 1, 0, none⟩ (.int .i64 N.W)).setCell ⟨w.heap.size + 1, 1, none⟩ (.int .i64 N.H)).setCell ⟨w.heap.size + 1, 2, none⟩ (.slice z.br.A N.br.length z.br.c)).setCell ⟨w.heap.size + 1, 3, none⟩ (.slice z.ta.A N.ta.length z.ta.c)).setCell ⟨w.heap.size + 1, 4, none⟩ (.slice z.tb.A N.tb.length z.tb.c)).setCell ⟨w.heap.size + 1, 5, none⟩ (.slice z.bu.A N.bu.length z.bu.c)).setCell ⟨w.heap.size + 1, 6, none⟩ (.slice z.ow.A N.ow.length z.ow.c)).setCell ⟨w.heap.size + 1, 7, none⟩ (.slice z.tu.A N.tu.length z.tu.c)).setCell ⟨w.heap.size + 1, 8, none⟩ (.slice z.so.A N.so.length z.so.c)).setCell ⟨w.heap.size + 1, 9, none⟩ (.slice z.ar.A N.ar.length z.ar.c)).setCell ⟨w.heap.size + 1, 10, none⟩ (.int .i64 N.ti)) = wz at *
      have r0 := kf.cell 0
      have r1 := kf.cell 1
      have r2 := kf.cell 2
      have r3 := kf.cell 3
      have r4 := kf.cell 4
      have r5 := kf.cell 5
      have r6 := kf.cell 6
      have r7 := kf.cell 7
      have r8 := kf.cell 8
      have r9 := kf.cell 9
      have r10 := kf.cell 10
      simp only [List.getElem?_toArray, List.getElem?_cons_zero, List.getElem?_cons_succ] at r0 r1 r2 r3 r4 r5 r6 r7 r8 r9 r10
      rw [HA.out.1, HA.out.2]
      have hnet : NetOwn wz _ w2.heap.size z N := (O2.out.upto (show w1.heap.size ≤ w2.heap.size by have h3 := SZ.out; have h4 := SZ1.out; have h5 := SZ2.out; omega)).heap (fun k h1 h2 => qz.block k h2 (by have h3 := SZ.out; have h4 := SZ1.out; have h5 := SZ2.out; omega))
      refine bodyPost_ret (v := .tuple #[.agg #[.int .i64 N.W, .int .i64 N.H, .slice z.br.A N.br.length z.br.c, .slice z.ta.A N.ta.length z.ta.c, .slice z.tb.A N.tb.length z.tb.c, .slice z.bu.A N.bu.length z.bu.c, .slice z.ow.A N.ow.length z.ow.c, .slice z.tu.A N.tu.length z.tu.c, .slice z.so.A N.so.length z.so.c, .slice z.ar.A N.ar.length z.ar.c, .int .i64 N.ti], .int .i64 (-1)]) (by simp [results, Tryz.results9, go_sem, r0, r1, r2, r3, r4, r5, r6, r7, r8, r9, r10]) rfl ⟨z, rfl, (hnet.less (by have h3 := SZ.out; have h4 := SZ1.out; have h5 := SZ2.out; omega)).upto qz.size, (BB.out).trans (qz.below (.inl (by omega)) (by have h3 := SZ.out; have h4 := SZ1.out; have h5 := SZ2.out; omega))⟩
    · have e1 : ¬ (n : Int) > 40 := by omega
      have HA := Lib.hid (show sendAllG N D = (sendsP N D).1 ∧ sentG N D = ((sendsP N D).2 : Int) from ⟨if_pos (by rw [allOk, hok, decide_eq_true (by omega)]; rfl), if_pos (by rw [allOk, hok, decide_eq_true (by omega)]; rfl)⟩)
      have HLD := Lib.hid hlD
      clear hok
      go_wp2_with fail
      go_loopw [7, 23] (fun c i wr => ∃ k : Nat, i = .int .i64 (k : Int) ∧ k ≤ n ∧ c = .int .i64 ((sendsP N (D.take k)).2 : Int) ∧ NetOwn wr w0.heap.size wr.heap.size z (sendsP N (D.take k)).1 ∧ KeptN w0.heap.size w2 wr) (fun _ i _ => n - (intOf i).toNat)
      case atStart => exact ⟨0, rfl, Nat.zero_le _, rfl, O2.out.upto (by have h3 := SZ.out; have h4 := SZ1.out; have h5 := SZ2.out; omega), keptN_gb _ (by have h3 := SZ.out; have h4 := SZ1.out; have h5 := SZ2.out; omega) (gb_refl _ _)⟩
      case round =>
        obtain ⟨k, rfl, hk, rfl, ho, hkk⟩ := hrel
        have HO := Lib.hid ho
        have HK := Lib.hid hkk
        have SR := Lib.hid hkk.s
        have KGR := Lib.hid (hkk.k _ _ _ (by decide) (by decide) KG2.out)
        have BR := Lib.hid (BB.out.trans (hkk.b.mono (by have h3 := SZ.out; have h4 := SZ1.out; have h5 := SZ2.out; omega)))
        have HST := Lib.hid (sendsP_take N D k)
        obtain ⟨R, hR⟩ : ∃ R, (sendsP N (D.take k)).1 = R := ⟨_, rfl⟩
        obtain ⟨t, ht⟩ : ∃ t, (sendsP N (D.take k)).2 = t := ⟨_, rfl⟩
        have HNX := Lib.hid (fun p (hp : D[k]? = some p) => sendsP_next (N := N) hp)
        rw [hR, ht] at HST
        rw [hR] at HO
        rw [hR, ht] at HNX
        rw [ht]
        have HRT := Lib.hid (show (sendsP N (D.take k)).1 = R ∧ (sendsP N (D.take k)).2 = t from ⟨hR, ht⟩)
        have ht9 : t ≤ 1000000000 := by have := HST.out.2.2; omega
        clear ho hkk hR ht
        by_cases hlt : k < n
        · obtain ⟨q, o, p, rfl, _, hx, hpc⟩ := (HRD.out.below BR.out).at k hlt
          obtain ⟨c0, c1, c2, c3, c4⟩ := pkt_five hpc
          have k0 : (0 : Int) ≤ (k : Int) := by omega
          have k1 : (k : Int) < (n : Int) := by omega
          have e2 : IntKind.i64.wrap ((k : Int) + 1) = ((k + 1 : Nat) : Int) := by rw [IntWalk.i64_in _ (by omega)]; omega
          have e3 : IntKind.i64.wrap ((t : Int) + 1) = ((t + 1 : Nat) : Int) := by rw [IntWalk.i64_in _ (by omega)]; omega
          have HX := Lib.hid (HNX.out p hx)
          have GP := Lib.hid (gb_alloc (gb_refl wr none) (.cells #[.int .i64 p.id, .int .i64 p.fr, .int .i64 p.to, .int .i64 p.cl, .int .i64 p.ln] 65))
          have HS := Lib.hid (implSend z R p w1.heap.size w0.heap.size wr.heap.size (wr.alloc (.cells #[.int .i64 p.id, .int .i64 p.fr, .int .i64 p.to, .int .i64 p.cl, .int .i64 p.ln] 65)) (blk_like HST.out.2.1 (KGR.out.grown GP.out (by simp))) (HO.out.gb GP.out) (HST.out.1.trans HOK.out) (by have h1 := GP.out.size; have h2 := SR.out; have h3 := SZ.out; have h4 := SZ1.out; have h5 := SZ2.out; omega) (by have h1 := GP.out.size; omega))
          clear hx hpc
          go_wp2_with fail
          refine HS.out.mono ?_
          rintro e w3 ⟨rfl, o3, hk3⟩
          have O3 := Lib.hid o3
          have HK3 := Lib.hid (HK.out.trans ((keptN_gb _ (by have h2 := SR.out; have h3 := SZ.out; have h4 := SZ1.out; have h5 := SZ2.out; omega) GP.out).trans hk3))
          clear o3 hk3
          obtain ⟨b, hb⟩ : ∃ b, sendOk R p = b := ⟨_, rfl⟩
          rw [hb]
          rw [hb] at HX
          cases b with
          | true =>
            go_wp2_with fail
            go_roundw
            case rel => exact ⟨k + 1, by go_num, by omega, by rw [HX.out]; simp, by rw [HX.out]; exact O3.out, HK3.out⟩
            case measure => simp [intOf]; omega
          | false =>
            go_wp2_with fail
            go_roundw
            case rel => exact ⟨k + 1, by go_num, by omega, by rw [HX.out]; simp, by rw [HX.out]; exact O3.out, HK3.out⟩
            case measure => simp [intOf]; omega
        · obtain rfl : k = n := by omega
          have k1 : ¬ (k : Int) < (k : Int) := by omega
          have KRR := Lib.hid (HK.out.k _ _ _ (by decide) (by decide) KR2.out)
          have LIKE := Lib.hid HST.out.2.1
          have HA2 := Lib.hid (show sendAllG N D = R ∧ sentG N D = (t : Int) by
            have h1 := HA.out
            have h2 : D.take k = D := by rw [← HLD.out, List.take_length]
            have h3 := HRT.out
            rw [h2] at h3
            rw [h3.1, h3.2] at h1
            exact h1)
          have b0 : wr.cell? ⟨w1.heap.size, 0, none⟩ = some (.int .i64 N.W) := KGR.out.cell 0
          have b1 : wr.cell? ⟨w1.heap.size, 1, none⟩ = some (.int .i64 N.H) := KGR.out.cell 1
          have b2 : wr.cell? ⟨w1.heap.size, 2, none⟩ = some (.slice z.br.A N.br.length z.br.c) := KGR.out.cell 2
          have b3 : wr.cell? ⟨w1.heap.size, 3, none⟩ = some (.slice z.ta.A N.ta.length z.ta.c) := KGR.out.cell 3
          have b4 : wr.cell? ⟨w1.heap.size, 4, none⟩ = some (.slice z.tb.A N.tb.length z.tb.c) := KGR.out.cell 4
          have b5 : wr.cell? ⟨w1.heap.size, 5, none⟩ = some (.slice z.bu.A N.bu.length z.bu.c) := KGR.out.cell 5
          have b6 : wr.cell? ⟨w1.heap.size, 6, none⟩ = some (.slice z.ow.A N.ow.length z.ow.c) := KGR.out.cell 6
          have b7 : wr.cell? ⟨w1.heap.size, 7, none⟩ = some (.slice z.tu.A N.tu.length z.tu.c) := KGR.out.cell 7
          have b8 : wr.cell? ⟨w1.heap.size, 8, none⟩ = some (.slice z.so.A N.so.length z.so.c) := KGR.out.cell 8
          have b9 : wr.cell? ⟨w1.heap.size, 9, none⟩ = some (.slice z.ar.A N.ar.length z.ar.c) := KGR.out.cell 9
          have b10 : wr.cell? ⟨w1.heap.size, 10, none⟩ = some (.int .i64 N.ti) := KGR.out.cell 10
          have kr : Blk wr (w.heap.size + 1) 45 #[.int .i64 0, .int .i64 0, .slice none 0 0, .slice none 0 0, .slice none 0 0, .slice none 0 0, .slice none 0 0, .slice none 0 0, .slice none 0 0, .slice none 0 0, .int .i64 0] := KRR.out
          have KR4 := Lib.hid kr
          have y0 : wr.cell? ⟨w.heap.size + 1, 0, none⟩ = some (.int .i64 0) := kr.cell 0
          have x0 := kr.frozen 0
          have y1 : wr.cell? ⟨w.heap.size + 1, 1, none⟩ = some (.int .i64 0) := kr.cell 1
          have x1 := kr.frozen 1
          have y2 : wr.cell? ⟨w.heap.size + 1, 2, none⟩ = some (.slice none 0 0) := kr.cell 2
          have x2 := kr.frozen 2
          have y3 : wr.cell? ⟨w.heap.size + 1, 3, none⟩ = some (.slice none 0 0) := kr.cell 3
          have x3 := kr.frozen 3
          have y4 : wr.cell? ⟨w.heap.size + 1, 4, none⟩ = some (.slice none 0 0) := kr.cell 4
          have x4 := kr.frozen 4
          have y5 : wr.cell? ⟨w.heap.size + 1, 5, none⟩ = some (.slice none 0 0) := kr.cell 5
          have x5 := kr.frozen 5
          have y6 : wr.cell? ⟨w.heap.size + 1, 6, none⟩ = some (.slice none 0 0) := kr.cell 6
          have x6 := kr.frozen 6
          have y7 : wr.cell? ⟨w.heap.size + 1, 7, none⟩ = some (.slice none 0 0) := kr.cell 7
          have x7 := kr.frozen 7
          have y8 : wr.cell? ⟨w.heap.size + 1, 8, none⟩ = some (.slice none 0 0) := kr.cell 8
          have x8 := kr.frozen 8
          have y9 : wr.cell? ⟨w.heap.size + 1, 9, none⟩ = some (.slice none 0 0) := kr.cell 9
          have x9 := kr.frozen 9
          have y10 : wr.cell? ⟨w.heap.size + 1, 10, none⟩ = some (.int .i64 0) := kr.cell 10
          have x10 := kr.frozen 10
          clear kr
          go_wp2_with fail
          have kf : Blk (((((((((((wr.setCell ⟨w.heap.size + 1, 0, none⟩ (.int .i64 N.W)).setCell ⟨w.heap.size + 1, 1, none⟩ (.int .i64 N.H)).setCell ⟨w.heap.size + 1, 2, none⟩ (.slice z.br.A N.br.length z.br.c)).setCell ⟨w.heap.size + 1, 3, none⟩ (.slice z.ta.A N.ta.length z.ta.c)).setCell ⟨w.heap.size + 1, 4, none⟩ (.slice z.tb.A N.tb.length z.tb.c)).setCell ⟨w.heap.size + 1, 5, none⟩ (.slice z.bu.A N.bu.length z.bu.c)).setCell ⟨w.heap.size + 1, 6, none⟩ (.slice z.ow.A N.ow.length z.ow.c)).setCell ⟨w.heap.size + 1, 7, none⟩ (.slice z.tu.A N.tu.length z.tu.c)).setCell ⟨w.heap.size + 1, 8, none⟩ (.slice z.so.A N.so.length z.so.c)).setCell ⟨w.heap.size + 1, 9, none⟩ (.slice z.ar.A N.ar.length z.ar.c)).setCell ⟨w.heap.size + 1, 10, none⟩ (.int .i64 N.ti)) (w.heap.size + 1) 45 #[.int .i64 N.W, .int .i64 N.H, .slice z.br.A N.br.length z.br.c, .slice z.ta.A N.ta.length z.ta.c, .slice z.tb.A N.tb.length z.tb.c, .slice z.bu.A N.bu.length z.bu.c, .slice z.ow.A N.ow.length z.ow.c, .slice z.tu.A N.tu.length z.tu.c, .slice z.so.A N.so.length z.so.c, .slice z.ar.A N.ar.length z.ar.c, .int .i64 N.ti] := by
            have hz := (((((((((((KR4.out.set_ 0 (.int .i64 N.W)).set_ 1 (.int .i64 N.H)).set_ 2 (.slice z.br.A N.br.length z.br.c)).set_ 3 (.slice z.ta.A N.ta.length z.ta.c)).set_ 4 (.slice z.tb.A N.tb.length z.tb.c)).set_ 5 (.slice z.bu.A N.bu.length z.bu.c)).set_ 6 (.slice z.ow.A N.ow.length z.ow.c)).set_ 7 (.slice z.tu.A N.tu.length z.tu.c)).set_ 8 (.slice z.so.A N.so.length z.so.c)).set_ 9 (.slice z.ar.A N.ar.length z.ar.c)).set_ 10 (.int .i64 N.ti))
            simpa using hz
          have qz : Chg (w.heap.size + 1) (w.heap.size + 1 + 1) wr (((((((((((wr.setCell ⟨w.heap.size + 1, 0, none⟩ (.int .i64 N.W)).setCell ⟨w.heap.size + 1, 1, none⟩ (.int .i64 N.H)).setCell ⟨w.heap.size + 1, 2, none⟩ (.slice z.br.A N.br.length z.br.c)).setCell ⟨w.heap.size + 1, 3, none⟩ (.slice z.ta.A N.ta.length z.ta.c)).setCell ⟨w.heap.size + 1, 4, none⟩ (.slice z.tb.A N.tb.length z.tb.c)).setCell ⟨w.heap.size + 1, 5, none⟩ (.slice z.bu.A N.bu.length z.bu.c)).setCell ⟨w.heap.size + 1, 6, none⟩ (.slice z.ow.A N.ow.length z.ow.c)).setCell ⟨w.heap.size + 1, 7, none⟩ (.slice z.tu.A N.tu.length z.tu.c)).setCell ⟨w.heap.size + 1, 8, none⟩ (.slice z.so.A N.so.length z.so.c)).setCell ⟨w.heap.size + 1, 9, none⟩ (.slice z.ar.A N.ar.length z.ar.c)).setCell ⟨w.heap.size + 1, 10, none⟩ (.int .i64 N.ti)) := ((((((((((st_in wr (w.heap.size + 1) 0 (.int .i64 N.W)).sx 1 (.int .i64 N.H)).sx 2 (.slice z.br.A N.br.length z.br.c)).sx 3 (.slice z.ta.A N.ta.length z.ta.c)).sx 4 (.slice z.tb.A N.tb.length z.tb.c)).sx 5 (.slice z.bu.A N.bu.length z.bu.c)).sx 6 (.slice z.ow.A N.ow.length z.ow.c)).sx 7 (.slice z.tu.A N.tu.length z.tu.c)).sx 8 (.slice z.so.A N.so.length z.so.c)).sx 9 (.slice z.ar.A N.ar.length z.ar.c)).sx 10 (.int .i64 N.ti)
          generalize (((((((((((wr.setCell ⟨w.heap.size + 1, 0, none⟩ (.int .i64 N.W)).setCell ⟨w.heap.size + 1, 1, none⟩ (.int .i64 N.H)).setCell ⟨w.heap.size + 1, 2, none⟩ (.slice z.br.A N.br.length z.br.c)).setCell ⟨w.heap.size + 1, 3, none⟩ (.slice z.ta.A N.ta.length z.ta.c)).setCell ⟨w.heap.size + 1, 4, none⟩ (.slice z.tb.A N.tb.length z.tb.c)).setCell ⟨w.heap.size + 1, 5, none⟩ (.slice z.bu.A N.bu.length z.bu.c)).setCell ⟨w.heap.size + 1, 6, none⟩ (.slice z.ow.A N.ow.length z.ow.c)).setCell ⟨w.heap.size + 1, 7, none⟩ (.slice z.tu.A N.tu.length z.tu.c)).setCell ⟨w.heap.size + 1, 8, none⟩ (.slice z.so.A N.so.length z.so.c)).setCell ⟨w.heap.size + 1, 9, none⟩ (.slice z.ar.A N.ar.length z.ar.c)).setCell ⟨w.heap.size + 1, 10, none⟩ (.int .i64 N.ti)) = wz at *
          have r0 := kf.cell 0
          have r1 := kf.cell 1
          have r2 := kf.cell 2
          have r3 := kf.cell 3
          have r4 := kf.cell 4
          have r5 := kf.cell 5
          have r6 := kf.cell 6
          have r7 := kf.cell 7
          have r8 := kf.cell 8
          have r9 := kf.cell 9
          have r10 := kf.cell 10
          simp only [List.getElem?_toArray, List.getElem?_cons_zero, List.getElem?_cons_succ] at r0 r1 r2 r3 r4 r5 r6 r7 r8 r9 r10
          rw [HA2.out.1, HA2.out.2]
          have hnet : NetOwn wz _ wr.heap.size z R := (HO.out).heap (fun k h1 h2 => qz.block k h2 (by have h3 := SZ.out; have h4 := SZ1.out; have h5 := SZ2.out; have h6 := SR.out; omega))
          refine bodyPost_ret (v := .tuple #[.agg #[.int .i64 N.W, .int .i64 N.H, .slice z.br.A N.br.length z.br.c, .slice z.ta.A N.ta.length z.ta.c, .slice z.tb.A N.tb.length z.tb.c, .slice z.bu.A N.bu.length z.bu.c, .slice z.ow.A N.ow.length z.ow.c, .slice z.tu.A N.tu.length z.tu.c, .slice z.so.A N.so.length z.so.c, .slice z.ar.A N.ar.length z.ar.c, .int .i64 N.ti], .int .i64 (t : Int)]) (by simp [results, Tryz.results9, go_sem, r0, r1, r2, r3, r4, r5, r6, r7, r8, r9, r10]) rfl ⟨z, (by have LK := LIKE.out; simp only [LK.W, LK.H, LK.br, LK.ta, LK.tb, LK.bu, LK.ow, LK.tu, LK.so, LK.ar, LK.ti]), (hnet.less (by have h3 := SZ.out; have h4 := SZ1.out; have h5 := SZ2.out; have h6 := SR.out; omega)).upto qz.size, (BR.out).trans (qz.below (.inl (by omega)) (by have h3 := SZ.out; have h4 := SZ1.out; have h5 := SZ2.out; have h6 := SR.out; omega))⟩
end Go.Proofs.YtfloekbmgjmhbaaGreat
end

section
namespace Go.Proofs.YtfloekbmgjmhbaaGreat
open Go.ChangeShapes Go.WideShapes Go.ChangeAt Go.RowKit
set_option linter.unusedVariables false
set_option maxRecDepth 20000

set_option maxHeartbeats 6400000 in
theorem walk_FnExactSendAll (A0a : Na) (L0a : Nt) (A1a : Option Addr) (n1a c1a : Nat) (L1a : List Pkt) (w : World) (hcmA0a : NetCap A0a L0a) (hA0a : NetIn w w.heap.size A0a L0a) (hlA0a : NetWf L0a) (hncA1a : n1a ≤ c1a) (hcmA1a : c1a ≤ maxLen) (hA1a : RecAt 5 pktC w w.heap.size A1a n1a L1a) (hlA1a : ∀ x ∈ L1a, wfP x) :
    Calls Tryz.prog 3 #[.agg #[.int .i64 L0a.W, .int .i64 L0a.H, .slice A0a.br.A L0a.br.length A0a.br.c, .slice A0a.ta.A L0a.ta.length A0a.ta.c, .slice A0a.tb.A L0a.tb.length A0a.tb.c, .slice A0a.bu.A L0a.bu.length A0a.bu.c, .slice A0a.ow.A L0a.ow.length A0a.ow.c, .slice A0a.tu.A L0a.tu.length A0a.tu.c, .slice A0a.so.A L0a.so.length A0a.so.c, .slice A0a.ar.A L0a.ar.length A0a.ar.c, .int .i64 L0a.ti], .slice A1a n1a c1a] w fun e w' => e = .returned (.bool true) ∧ Below w.heap.size w w' := by
  have HA0a := Lib.hid (hA0a)
  have HCA0a := Lib.hid (hcmA0a)
  have HWF0 := Lib.hid (hlA0a)
  have h9A1a : n1a ≤ 9223372036854775807 := Nat.le_trans hncA1a (Nat.le_trans hcmA1a (by decide))
  have hLA1a := hA1a.1
  have HA1a := Lib.hid (hA1a)
  have HWXA1a := Lib.hid (hlA1a)
  clear hcmA0a hA0a hlA0a hncA1a hcmA1a hA1a hlA1a
  subst hLA1a
  by_cases hbig0 : (1048576 : Int) < ((sizeN L0a : Nat) : Int)
  · skip
    go_enter Tryz.func3, Tryz.ntmps3
    go_wp2_with fail
    have ke0 := Blk.new w 33 #[.int .i64 L0a.W, .int .i64 L0a.H, .slice A0a.br.A L0a.br.length A0a.br.c, .slice A0a.ta.A L0a.ta.length A0a.ta.c, .slice A0a.tb.A L0a.tb.length A0a.tb.c, .slice A0a.bu.A L0a.bu.length A0a.bu.c, .slice A0a.ow.A L0a.ow.length A0a.ow.c, .slice A0a.tu.A L0a.tu.length A0a.tu.c, .slice A0a.so.A L0a.so.length A0a.so.c, .slice A0a.ar.A L0a.ar.length A0a.ar.c, .int .i64 L0a.ti]
    have ge := gb_alloc (gb_refl w none) (.cells #[.int .i64 L0a.W, .int .i64 L0a.H, .slice A0a.br.A L0a.br.length A0a.br.c, .slice A0a.ta.A L0a.ta.length A0a.ta.c, .slice A0a.tb.A L0a.tb.length A0a.tb.c, .slice A0a.bu.A L0a.bu.length A0a.bu.c, .slice A0a.ow.A L0a.ow.length A0a.ow.c, .slice A0a.tu.A L0a.tu.length A0a.tu.c, .slice A0a.so.A L0a.so.length A0a.so.c, .slice A0a.ar.A L0a.ar.length A0a.ar.c, .int .i64 L0a.ti] 33)
    generalize (w.alloc (.cells #[.int .i64 L0a.W, .int .i64 L0a.H, .slice A0a.br.A L0a.br.length A0a.br.c, .slice A0a.ta.A L0a.ta.length A0a.ta.c, .slice A0a.tb.A L0a.tb.length A0a.tb.c, .slice A0a.bu.A L0a.bu.length A0a.bu.c, .slice A0a.ow.A L0a.ow.length A0a.ow.c, .slice A0a.tu.A L0a.tu.length A0a.tu.c, .slice A0a.so.A L0a.so.length A0a.so.c, .slice A0a.ar.A L0a.ar.length A0a.ar.c, .int .i64 L0a.ti] 33)) = we at *
    have KE0 : Hid (Blk we (w.heap.size) 33 #[.int .i64 L0a.W, .int .i64 L0a.H, .slice A0a.br.A L0a.br.length A0a.br.c, .slice A0a.ta.A L0a.ta.length A0a.ta.c, .slice A0a.tb.A L0a.tb.length A0a.tb.c, .slice A0a.bu.A L0a.bu.length A0a.bu.c, .slice A0a.ow.A L0a.ow.length A0a.ow.c, .slice A0a.tu.A L0a.tu.length A0a.tu.c, .slice A0a.so.A L0a.so.length A0a.so.c, .slice A0a.ar.A L0a.ar.length A0a.ar.c, .int .i64 L0a.ti]) := Lib.hid (ke0)
    have GE := Lib.hid (ge)
    have RZ0 := Lib.hid (Chg.refl 0 0 we)
    clear ge ke0
    have a0_0 : we.cell? ⟨w.heap.size, 0, none⟩ = some (.int .i64 L0a.W) := (KE0.out.nx (RZ0.out)).cell 0
    have a0_1 : we.cell? ⟨w.heap.size, 1, none⟩ = some (.int .i64 L0a.H) := (KE0.out.nx (RZ0.out)).cell 1
    have a0_2 : we.cell? ⟨w.heap.size, 2, none⟩ = some (.slice A0a.br.A L0a.br.length A0a.br.c) := (KE0.out.nx (RZ0.out)).cell 2
    have a0_3 : we.cell? ⟨w.heap.size, 3, none⟩ = some (.slice A0a.ta.A L0a.ta.length A0a.ta.c) := (KE0.out.nx (RZ0.out)).cell 3
    have a0_4 : we.cell? ⟨w.heap.size, 4, none⟩ = some (.slice A0a.tb.A L0a.tb.length A0a.tb.c) := (KE0.out.nx (RZ0.out)).cell 4
    have a0_5 : we.cell? ⟨w.heap.size, 5, none⟩ = some (.slice A0a.bu.A L0a.bu.length A0a.bu.c) := (KE0.out.nx (RZ0.out)).cell 5
    have a0_6 : we.cell? ⟨w.heap.size, 6, none⟩ = some (.slice A0a.ow.A L0a.ow.length A0a.ow.c) := (KE0.out.nx (RZ0.out)).cell 6
    have a0_7 : we.cell? ⟨w.heap.size, 7, none⟩ = some (.slice A0a.tu.A L0a.tu.length A0a.tu.c) := (KE0.out.nx (RZ0.out)).cell 7
    have a0_8 : we.cell? ⟨w.heap.size, 8, none⟩ = some (.slice A0a.so.A L0a.so.length A0a.so.c) := (KE0.out.nx (RZ0.out)).cell 8
    have a0_9 : we.cell? ⟨w.heap.size, 9, none⟩ = some (.slice A0a.ar.A L0a.ar.length A0a.ar.c) := (KE0.out.nx (RZ0.out)).cell 9
    have a0_10 : we.cell? ⟨w.heap.size, 10, none⟩ = some (.int .i64 L0a.ti) := (KE0.out.nx (RZ0.out)).cell 10
    refine (lawsSzNet _ _ _ _ ((HA0a.out.none (Nat.le_refl _) (gb_trans GE.out RZ0.out.still)).more (Nat.le_trans GE.out.size RZ0.out.size)) HCA0a.out (by omega) (by omega)).mono ?_
    rintro e wz1 ⟨rfl, hg⟩
    rw [leftL, if_pos hbig0]
    have RZ1 := Lib.hid (RZ0.out.gb hg)
    clear hg a0_0 a0_1 a0_2 a0_3 a0_4 a0_5 a0_6 a0_7 a0_8 a0_9 a0_10
    go_wp2_with fail
    go_ret
    exact ⟨rfl, (gb_below_none GE.out (Nat.le_refl _)).trans (RZ1.out.below (.inr (Nat.le_refl _)) GE.out.size)⟩
  have hnA0a : sizeN L0a ≤ 1048576 := by omega
  obtain ⟨q1, hq1⟩ : ∃ q : Int, (1048576 : Int) - ((sizeN L0a : Nat) : Int) = q := ⟨_, rfl⟩
  have hqa1 : ¬ q1 < 0 := by omega
  have hqb1 : q1 ≤ 1048576 := by omega
  by_cases hbig1 : q1 < (L1a.length : Int)
  · skip
    go_enter Tryz.func3, Tryz.ntmps3
    go_wp2_with fail
    have ke0 := Blk.new w 33 #[.int .i64 L0a.W, .int .i64 L0a.H, .slice A0a.br.A L0a.br.length A0a.br.c, .slice A0a.ta.A L0a.ta.length A0a.ta.c, .slice A0a.tb.A L0a.tb.length A0a.tb.c, .slice A0a.bu.A L0a.bu.length A0a.bu.c, .slice A0a.ow.A L0a.ow.length A0a.ow.c, .slice A0a.tu.A L0a.tu.length A0a.tu.c, .slice A0a.so.A L0a.so.length A0a.so.c, .slice A0a.ar.A L0a.ar.length A0a.ar.c, .int .i64 L0a.ti]
    have ge := gb_alloc (gb_refl w none) (.cells #[.int .i64 L0a.W, .int .i64 L0a.H, .slice A0a.br.A L0a.br.length A0a.br.c, .slice A0a.ta.A L0a.ta.length A0a.ta.c, .slice A0a.tb.A L0a.tb.length A0a.tb.c, .slice A0a.bu.A L0a.bu.length A0a.bu.c, .slice A0a.ow.A L0a.ow.length A0a.ow.c, .slice A0a.tu.A L0a.tu.length A0a.tu.c, .slice A0a.so.A L0a.so.length A0a.so.c, .slice A0a.ar.A L0a.ar.length A0a.ar.c, .int .i64 L0a.ti] 33)
    generalize (w.alloc (.cells #[.int .i64 L0a.W, .int .i64 L0a.H, .slice A0a.br.A L0a.br.length A0a.br.c, .slice A0a.ta.A L0a.ta.length A0a.ta.c, .slice A0a.tb.A L0a.tb.length A0a.tb.c, .slice A0a.bu.A L0a.bu.length A0a.bu.c, .slice A0a.ow.A L0a.ow.length A0a.ow.c, .slice A0a.tu.A L0a.tu.length A0a.tu.c, .slice A0a.so.A L0a.so.length A0a.so.c, .slice A0a.ar.A L0a.ar.length A0a.ar.c, .int .i64 L0a.ti] 33)) = we at *
    have KE0 : Hid (Blk we (w.heap.size) 33 #[.int .i64 L0a.W, .int .i64 L0a.H, .slice A0a.br.A L0a.br.length A0a.br.c, .slice A0a.ta.A L0a.ta.length A0a.ta.c, .slice A0a.tb.A L0a.tb.length A0a.tb.c, .slice A0a.bu.A L0a.bu.length A0a.bu.c, .slice A0a.ow.A L0a.ow.length A0a.ow.c, .slice A0a.tu.A L0a.tu.length A0a.tu.c, .slice A0a.so.A L0a.so.length A0a.so.c, .slice A0a.ar.A L0a.ar.length A0a.ar.c, .int .i64 L0a.ti]) := Lib.hid (ke0)
    have GE := Lib.hid (ge)
    have RZ0 := Lib.hid (Chg.refl 0 0 we)
    clear ge ke0
    have a0_0 : we.cell? ⟨w.heap.size, 0, none⟩ = some (.int .i64 L0a.W) := (KE0.out.nx (RZ0.out)).cell 0
    have a0_1 : we.cell? ⟨w.heap.size, 1, none⟩ = some (.int .i64 L0a.H) := (KE0.out.nx (RZ0.out)).cell 1
    have a0_2 : we.cell? ⟨w.heap.size, 2, none⟩ = some (.slice A0a.br.A L0a.br.length A0a.br.c) := (KE0.out.nx (RZ0.out)).cell 2
    have a0_3 : we.cell? ⟨w.heap.size, 3, none⟩ = some (.slice A0a.ta.A L0a.ta.length A0a.ta.c) := (KE0.out.nx (RZ0.out)).cell 3
    have a0_4 : we.cell? ⟨w.heap.size, 4, none⟩ = some (.slice A0a.tb.A L0a.tb.length A0a.tb.c) := (KE0.out.nx (RZ0.out)).cell 4
    have a0_5 : we.cell? ⟨w.heap.size, 5, none⟩ = some (.slice A0a.bu.A L0a.bu.length A0a.bu.c) := (KE0.out.nx (RZ0.out)).cell 5
    have a0_6 : we.cell? ⟨w.heap.size, 6, none⟩ = some (.slice A0a.ow.A L0a.ow.length A0a.ow.c) := (KE0.out.nx (RZ0.out)).cell 6
    have a0_7 : we.cell? ⟨w.heap.size, 7, none⟩ = some (.slice A0a.tu.A L0a.tu.length A0a.tu.c) := (KE0.out.nx (RZ0.out)).cell 7
    have a0_8 : we.cell? ⟨w.heap.size, 8, none⟩ = some (.slice A0a.so.A L0a.so.length A0a.so.c) := (KE0.out.nx (RZ0.out)).cell 8
    have a0_9 : we.cell? ⟨w.heap.size, 9, none⟩ = some (.slice A0a.ar.A L0a.ar.length A0a.ar.c) := (KE0.out.nx (RZ0.out)).cell 9
    have a0_10 : we.cell? ⟨w.heap.size, 10, none⟩ = some (.int .i64 L0a.ti) := (KE0.out.nx (RZ0.out)).cell 10
    refine (lawsSzNet _ _ _ _ ((HA0a.out.none (Nat.le_refl _) (gb_trans GE.out RZ0.out.still)).more (Nat.le_trans GE.out.size RZ0.out.size)) HCA0a.out (by omega) (by omega)).mono ?_
    rintro e wz1 ⟨rfl, hg⟩
    rw [leftL, if_neg (by omega), hq1]
    have RZ1 := Lib.hid (RZ0.out.gb hg)
    clear hg a0_0 a0_1 a0_2 a0_3 a0_4 a0_5 a0_6 a0_7 a0_8 a0_9 a0_10 hq1
    go_wp2_with fail
    refine (lawsSzP _ _ _ _ _ h9A1a (by omega) (by omega)).mono ?_
    rintro e wz2 ⟨rfl, hg⟩
    rw [if_pos hbig1]
    have RZ2 := Lib.hid (RZ1.out.gb hg)
    clear hg 
    go_wp2_with fail
    go_ret
    exact ⟨rfl, (gb_below_none GE.out (Nat.le_refl _)).trans (RZ2.out.below (.inr (Nat.le_refl _)) GE.out.size)⟩
  have hnA1a : L1a.length ≤ 1048576 := by omega
  obtain ⟨q2, hq2⟩ : ∃ q : Int, q1 - (L1a.length : Int) = q := ⟨_, rfl⟩
  have hqa2 : ¬ q2 < 0 := by omega
  have hqb2 : q2 ≤ 1048576 := by omega
  go_enter Tryz.func3, Tryz.ntmps3
  go_wp2_with fail
  have ke0 := Blk.new w 33 #[.int .i64 L0a.W, .int .i64 L0a.H, .slice A0a.br.A L0a.br.length A0a.br.c, .slice A0a.ta.A L0a.ta.length A0a.ta.c, .slice A0a.tb.A L0a.tb.length A0a.tb.c, .slice A0a.bu.A L0a.bu.length A0a.bu.c, .slice A0a.ow.A L0a.ow.length A0a.ow.c, .slice A0a.tu.A L0a.tu.length A0a.tu.c, .slice A0a.so.A L0a.so.length A0a.so.c, .slice A0a.ar.A L0a.ar.length A0a.ar.c, .int .i64 L0a.ti]
  have ge := gb_alloc (gb_refl w none) (.cells #[.int .i64 L0a.W, .int .i64 L0a.H, .slice A0a.br.A L0a.br.length A0a.br.c, .slice A0a.ta.A L0a.ta.length A0a.ta.c, .slice A0a.tb.A L0a.tb.length A0a.tb.c, .slice A0a.bu.A L0a.bu.length A0a.bu.c, .slice A0a.ow.A L0a.ow.length A0a.ow.c, .slice A0a.tu.A L0a.tu.length A0a.tu.c, .slice A0a.so.A L0a.so.length A0a.so.c, .slice A0a.ar.A L0a.ar.length A0a.ar.c, .int .i64 L0a.ti] 33)
  generalize (w.alloc (.cells #[.int .i64 L0a.W, .int .i64 L0a.H, .slice A0a.br.A L0a.br.length A0a.br.c, .slice A0a.ta.A L0a.ta.length A0a.ta.c, .slice A0a.tb.A L0a.tb.length A0a.tb.c, .slice A0a.bu.A L0a.bu.length A0a.bu.c, .slice A0a.ow.A L0a.ow.length A0a.ow.c, .slice A0a.tu.A L0a.tu.length A0a.tu.c, .slice A0a.so.A L0a.so.length A0a.so.c, .slice A0a.ar.A L0a.ar.length A0a.ar.c, .int .i64 L0a.ti] 33)) = we at *
  have KE0 : Hid (Blk we (w.heap.size) 33 #[.int .i64 L0a.W, .int .i64 L0a.H, .slice A0a.br.A L0a.br.length A0a.br.c, .slice A0a.ta.A L0a.ta.length A0a.ta.c, .slice A0a.tb.A L0a.tb.length A0a.tb.c, .slice A0a.bu.A L0a.bu.length A0a.bu.c, .slice A0a.ow.A L0a.ow.length A0a.ow.c, .slice A0a.tu.A L0a.tu.length A0a.tu.c, .slice A0a.so.A L0a.so.length A0a.so.c, .slice A0a.ar.A L0a.ar.length A0a.ar.c, .int .i64 L0a.ti]) := Lib.hid (ke0)
  have GE := Lib.hid (ge)
  have RZ0 := Lib.hid (Chg.refl 0 0 we)
  clear ge ke0
  have a0_0 : we.cell? ⟨w.heap.size, 0, none⟩ = some (.int .i64 L0a.W) := (KE0.out.nx (RZ0.out)).cell 0
  have a0_1 : we.cell? ⟨w.heap.size, 1, none⟩ = some (.int .i64 L0a.H) := (KE0.out.nx (RZ0.out)).cell 1
  have a0_2 : we.cell? ⟨w.heap.size, 2, none⟩ = some (.slice A0a.br.A L0a.br.length A0a.br.c) := (KE0.out.nx (RZ0.out)).cell 2
  have a0_3 : we.cell? ⟨w.heap.size, 3, none⟩ = some (.slice A0a.ta.A L0a.ta.length A0a.ta.c) := (KE0.out.nx (RZ0.out)).cell 3
  have a0_4 : we.cell? ⟨w.heap.size, 4, none⟩ = some (.slice A0a.tb.A L0a.tb.length A0a.tb.c) := (KE0.out.nx (RZ0.out)).cell 4
  have a0_5 : we.cell? ⟨w.heap.size, 5, none⟩ = some (.slice A0a.bu.A L0a.bu.length A0a.bu.c) := (KE0.out.nx (RZ0.out)).cell 5
  have a0_6 : we.cell? ⟨w.heap.size, 6, none⟩ = some (.slice A0a.ow.A L0a.ow.length A0a.ow.c) := (KE0.out.nx (RZ0.out)).cell 6
  have a0_7 : we.cell? ⟨w.heap.size, 7, none⟩ = some (.slice A0a.tu.A L0a.tu.length A0a.tu.c) := (KE0.out.nx (RZ0.out)).cell 7
  have a0_8 : we.cell? ⟨w.heap.size, 8, none⟩ = some (.slice A0a.so.A L0a.so.length A0a.so.c) := (KE0.out.nx (RZ0.out)).cell 8
  have a0_9 : we.cell? ⟨w.heap.size, 9, none⟩ = some (.slice A0a.ar.A L0a.ar.length A0a.ar.c) := (KE0.out.nx (RZ0.out)).cell 9
  have a0_10 : we.cell? ⟨w.heap.size, 10, none⟩ = some (.int .i64 L0a.ti) := (KE0.out.nx (RZ0.out)).cell 10
  refine (lawsSzNet _ _ _ _ ((HA0a.out.none (Nat.le_refl _) (gb_trans GE.out RZ0.out.still)).more (Nat.le_trans GE.out.size RZ0.out.size)) HCA0a.out (by omega) (by omega)).mono ?_
  rintro e wz1 ⟨rfl, hg⟩
  rw [leftL, if_neg (by omega), hq1]
  have RZ1 := Lib.hid (RZ0.out.gb hg)
  clear hg a0_0 a0_1 a0_2 a0_3 a0_4 a0_5 a0_6 a0_7 a0_8 a0_9 a0_10 hq1
  go_wp2_with fail
  refine (lawsSzP _ _ _ _ _ h9A1a (by omega) (by omega)).mono ?_
  rintro e wz2 ⟨rfl, hg⟩
  rw [if_neg (by omega), hq2]
  have RZ2 := Lib.hid (RZ1.out.gb hg)
  clear hg  hq2
  have hsm := (like_sendAll L0a L1a).sm hnA0a (by omega)
  obtain ⟨R, hR⟩ : ∃ R, sendAllG L0a L1a = R := ⟨_, rfl⟩
  rw [hR] at hsm
  have HSR := Lib.hid hsm.1
  have HMR := Lib.hid hsm.2
  clear hsm
  obtain ⟨bb, hbb⟩ : ∃ b, sentG L0a L1a = b := ⟨_, rfl⟩
  have HSP := Lib.hid (fun (A0a : Na) (A1a : Option Addr) (n1a c1a : Nat) (w : World) (hA0a : NetIn w w.heap.size A0a L0a) (hA1a : RecAt 5 pktC w w.heap.size A1a n1a L1a) (hnA0a : NetSm L0a) (hnA1a : n1a ≤ 1000000000) (hcA0a : NetCap A0a L0a) (hcA1a : n1a ≤ c1a) => show Calls Tryz.prog 6 #[.agg #[.int .i64 L0a.W, .int .i64 L0a.H, .slice A0a.br.A L0a.br.length A0a.br.c, .slice A0a.ta.A L0a.ta.length A0a.ta.c, .slice A0a.tb.A L0a.tb.length A0a.tb.c, .slice A0a.bu.A L0a.bu.length A0a.bu.c, .slice A0a.ow.A L0a.ow.length A0a.ow.c, .slice A0a.tu.A L0a.tu.length A0a.tu.c, .slice A0a.so.A L0a.so.length A0a.so.c, .slice A0a.ar.A L0a.ar.length A0a.ar.c, .int .i64 L0a.ti], .slice A1a n1a c1a] w (RetNetI R bb w) from hR ▸ hbb ▸ specSendAll A0a L0a A1a n1a c1a L1a w hA0a hnA0a hA1a hnA1a)
  have HIM := Lib.hid (fun (A0a : Na) (A1a : Option Addr) (n1a c1a : Nat) (w : World) (hA0a : NetIn w w.heap.size A0a L0a) (hA1a : RecAt 5 pktC w w.heap.size A1a n1a L1a) (hnA0a : NetSm L0a) (hnA1a : n1a ≤ 1000000000) (hcA0a : NetCap A0a L0a) (hcA1a : n1a ≤ c1a) => show Calls Tryz.prog 9 #[.agg #[.int .i64 L0a.W, .int .i64 L0a.H, .slice A0a.br.A L0a.br.length A0a.br.c, .slice A0a.ta.A L0a.ta.length A0a.ta.c, .slice A0a.tb.A L0a.tb.length A0a.tb.c, .slice A0a.bu.A L0a.bu.length A0a.bu.c, .slice A0a.ow.A L0a.ow.length A0a.ow.c, .slice A0a.tu.A L0a.tu.length A0a.tu.c, .slice A0a.so.A L0a.so.length A0a.so.c, .slice A0a.ar.A L0a.ar.length A0a.ar.c, .int .i64 L0a.ti], .slice A1a n1a c1a] w (RetNetI R bb w) from hR ▸ hbb ▸ implSendAll A0a L0a A1a n1a c1a L1a w hA0a hnA0a hcA0a HWF0.out.br hA1a hnA1a)
  clear hR hbb
  have BE := Lib.hid (gb_below_none GE.out (Nat.le_refl _))
  have RDA0a := Lib.hid (fun (w' : World) (hq : Chg 0 0 we w') => HA0a.out.chg BE.out hq (.inr (Nat.le_refl _)))
  have RDA1a := Lib.hid (fun (w' : World) (hq : Chg 0 0 we w') => HA1a.out.chg BE.out hq (.inr (Nat.le_refl _)))
  have a0_0 : wz2.cell? ⟨w.heap.size, 0, none⟩ = some (.int .i64 L0a.W) := (KE0.out.nx (RZ2.out)).cell 0
  have a0_1 : wz2.cell? ⟨w.heap.size, 1, none⟩ = some (.int .i64 L0a.H) := (KE0.out.nx (RZ2.out)).cell 1
  have a0_2 : wz2.cell? ⟨w.heap.size, 2, none⟩ = some (.slice A0a.br.A L0a.br.length A0a.br.c) := (KE0.out.nx (RZ2.out)).cell 2
  have a0_3 : wz2.cell? ⟨w.heap.size, 3, none⟩ = some (.slice A0a.ta.A L0a.ta.length A0a.ta.c) := (KE0.out.nx (RZ2.out)).cell 3
  have a0_4 : wz2.cell? ⟨w.heap.size, 4, none⟩ = some (.slice A0a.tb.A L0a.tb.length A0a.tb.c) := (KE0.out.nx (RZ2.out)).cell 4
  have a0_5 : wz2.cell? ⟨w.heap.size, 5, none⟩ = some (.slice A0a.bu.A L0a.bu.length A0a.bu.c) := (KE0.out.nx (RZ2.out)).cell 5
  have a0_6 : wz2.cell? ⟨w.heap.size, 6, none⟩ = some (.slice A0a.ow.A L0a.ow.length A0a.ow.c) := (KE0.out.nx (RZ2.out)).cell 6
  have a0_7 : wz2.cell? ⟨w.heap.size, 7, none⟩ = some (.slice A0a.tu.A L0a.tu.length A0a.tu.c) := (KE0.out.nx (RZ2.out)).cell 7
  have a0_8 : wz2.cell? ⟨w.heap.size, 8, none⟩ = some (.slice A0a.so.A L0a.so.length A0a.so.c) := (KE0.out.nx (RZ2.out)).cell 8
  have a0_9 : wz2.cell? ⟨w.heap.size, 9, none⟩ = some (.slice A0a.ar.A L0a.ar.length A0a.ar.c) := (KE0.out.nx (RZ2.out)).cell 9
  have a0_10 : wz2.cell? ⟨w.heap.size, 10, none⟩ = some (.int .i64 L0a.ti) := (KE0.out.nx (RZ2.out)).cell 10
  go_wp2_with fail
  refine (lawsToNet _ _ _ (RDA0a.out _ (RZ2.out)) hnA0a).mono ?_
  rintro e w1 ⟨zw0, rfl, ow0, bw0⟩
  have R1 : Hid (Chg 0 0 we w1) := Lib.hid ((RZ2.out).bl bw0)
  have Q1 := Lib.hid (chg_gb 0 0 (gb_of_below bw0 none))
  have F1 := Lib.hid (fix_net ow0)
  clear bw0 ow0 a0_0 a0_1 a0_2 a0_3 a0_4 a0_5 a0_6 a0_7 a0_8 a0_9 a0_10
  go_wp2_with fail
  refine (lawsToPktS _ _ _ _ _ (RDA1a.out _ (R1.out)) hnA1a).mono ?_
  rintro e w2 ⟨gw1, rfl, ow1, bw1⟩
  have R2 : Hid (Chg 0 0 we w2) := Lib.hid ((R1.out).bl bw1)
  have Q2 := Lib.hid (chg_gb 0 0 (gb_of_below bw1 none))
  have F2 := Lib.hid (fix_row ow1)
  clear bw1 ow1
  go_wp2_with fail
  refine (HSP.out _ _ _ _ _ (NetOwn.at ((F1.out.nx Q2.out).here) (Nat.le_refl _)) (recAt_own pktL (by decide) (F2.out.here) (Nat.le_refl _)) (netSm_of hnA0a) (by omega) (NetOwn.cap ((F1.out.nx Q2.out).here)) (own_cap (F2.out.here)).1).mono ?_
  rintro e w3 ⟨zw, rfl, ow, bw⟩
  have R3 : Hid (Chg 0 0 we w3) := Lib.hid ((R2.out).bl bw)
  have Q3 := Lib.hid (chg_gb 0 0 (gb_of_below bw none))
  have F3 := Lib.hid (fix_net ow)
  have HLw := Lib.hid (trivial)
  clear bw ow
  have KCw := Lib.hid (Blk.new w3 45 #[.int .i64 R.W, .int .i64 R.H, .slice zw.br.A R.br.length zw.br.c, .slice zw.ta.A R.ta.length zw.ta.c, .slice zw.tb.A R.tb.length zw.tb.c, .slice zw.bu.A R.bu.length zw.bu.c, .slice zw.ow.A R.ow.length zw.ow.c, .slice zw.tu.A R.tu.length zw.tu.c, .slice zw.so.A R.so.length zw.so.c, .slice zw.ar.A R.ar.length zw.ar.c, .int .i64 R.ti])
  have FCw := Lib.hid (F3.out.al (.cells #[.int .i64 R.W, .int .i64 R.H, .slice zw.br.A R.br.length zw.br.c, .slice zw.ta.A R.ta.length zw.ta.c, .slice zw.tb.A R.tb.length zw.tb.c, .slice zw.bu.A R.bu.length zw.bu.c, .slice zw.ow.A R.ow.length zw.ow.c, .slice zw.tu.A R.tu.length zw.tu.c, .slice zw.so.A R.so.length zw.so.c, .slice zw.ar.A R.ar.length zw.ar.c, .int .i64 R.ti] 45))
  have RCw := Lib.hid (R3.out.al (.cells #[.int .i64 R.W, .int .i64 R.H, .slice zw.br.A R.br.length zw.br.c, .slice zw.ta.A R.ta.length zw.ta.c, .slice zw.tb.A R.tb.length zw.tb.c, .slice zw.bu.A R.bu.length zw.bu.c, .slice zw.ow.A R.ow.length zw.ow.c, .slice zw.tu.A R.tu.length zw.tu.c, .slice zw.so.A R.so.length zw.so.c, .slice zw.ar.A R.ar.length zw.ar.c, .int .i64 R.ti] 45))
  have FW := Lib.hid (FCw.out)
  have KW := Lib.hid (KCw.out)
  have HE0 := Lib.hid (FW.out.1)
  have HW0 := Lib.hid (KW.out.lt)
  have HS0 := Lib.hid ((RCw.out).size)
  have a0_0 : (w3.alloc (.cells #[.int .i64 R.W, .int .i64 R.H, .slice zw.br.A R.br.length zw.br.c, .slice zw.ta.A R.ta.length zw.ta.c, .slice zw.tb.A R.tb.length zw.tb.c, .slice zw.bu.A R.bu.length zw.bu.c, .slice zw.ow.A R.ow.length zw.ow.c, .slice zw.tu.A R.tu.length zw.tu.c, .slice zw.so.A R.so.length zw.so.c, .slice zw.ar.A R.ar.length zw.ar.c, .int .i64 R.ti] 45)).cell? ⟨w.heap.size, 0, none⟩ = some (.int .i64 L0a.W) := (KE0.out.nx (RCw.out)).cell 0
  have a0_1 : (w3.alloc (.cells #[.int .i64 R.W, .int .i64 R.H, .slice zw.br.A R.br.length zw.br.c, .slice zw.ta.A R.ta.length zw.ta.c, .slice zw.tb.A R.tb.length zw.tb.c, .slice zw.bu.A R.bu.length zw.bu.c, .slice zw.ow.A R.ow.length zw.ow.c, .slice zw.tu.A R.tu.length zw.tu.c, .slice zw.so.A R.so.length zw.so.c, .slice zw.ar.A R.ar.length zw.ar.c, .int .i64 R.ti] 45)).cell? ⟨w.heap.size, 1, none⟩ = some (.int .i64 L0a.H) := (KE0.out.nx (RCw.out)).cell 1
  have a0_2 : (w3.alloc (.cells #[.int .i64 R.W, .int .i64 R.H, .slice zw.br.A R.br.length zw.br.c, .slice zw.ta.A R.ta.length zw.ta.c, .slice zw.tb.A R.tb.length zw.tb.c, .slice zw.bu.A R.bu.length zw.bu.c, .slice zw.ow.A R.ow.length zw.ow.c, .slice zw.tu.A R.tu.length zw.tu.c, .slice zw.so.A R.so.length zw.so.c, .slice zw.ar.A R.ar.length zw.ar.c, .int .i64 R.ti] 45)).cell? ⟨w.heap.size, 2, none⟩ = some (.slice A0a.br.A L0a.br.length A0a.br.c) := (KE0.out.nx (RCw.out)).cell 2
  have a0_3 : (w3.alloc (.cells #[.int .i64 R.W, .int .i64 R.H, .slice zw.br.A R.br.length zw.br.c, .slice zw.ta.A R.ta.length zw.ta.c, .slice zw.tb.A R.tb.length zw.tb.c, .slice zw.bu.A R.bu.length zw.bu.c, .slice zw.ow.A R.ow.length zw.ow.c, .slice zw.tu.A R.tu.length zw.tu.c, .slice zw.so.A R.so.length zw.so.c, .slice zw.ar.A R.ar.length zw.ar.c, .int .i64 R.ti] 45)).cell? ⟨w.heap.size, 3, none⟩ = some (.slice A0a.ta.A L0a.ta.length A0a.ta.c) := (KE0.out.nx (RCw.out)).cell 3
  have a0_4 : (w3.alloc (.cells #[.int .i64 R.W, .int .i64 R.H, .slice zw.br.A R.br.length zw.br.c, .slice zw.ta.A R.ta.length zw.ta.c, .slice zw.tb.A R.tb.length zw.tb.c, .slice zw.bu.A R.bu.length zw.bu.c, .slice zw.ow.A R.ow.length zw.ow.c, .slice zw.tu.A R.tu.length zw.tu.c, .slice zw.so.A R.so.length zw.so.c, .slice zw.ar.A R.ar.length zw.ar.c, .int .i64 R.ti] 45)).cell? ⟨w.heap.size, 4, none⟩ = some (.slice A0a.tb.A L0a.tb.length A0a.tb.c) := (KE0.out.nx (RCw.out)).cell 4
  have a0_5 : (w3.alloc (.cells #[.int .i64 R.W, .int .i64 R.H, .slice zw.br.A R.br.length zw.br.c, .slice zw.ta.A R.ta.length zw.ta.c, .slice zw.tb.A R.tb.length zw.tb.c, .slice zw.bu.A R.bu.length zw.bu.c, .slice zw.ow.A R.ow.length zw.ow.c, .slice zw.tu.A R.tu.length zw.tu.c, .slice zw.so.A R.so.length zw.so.c, .slice zw.ar.A R.ar.length zw.ar.c, .int .i64 R.ti] 45)).cell? ⟨w.heap.size, 5, none⟩ = some (.slice A0a.bu.A L0a.bu.length A0a.bu.c) := (KE0.out.nx (RCw.out)).cell 5
  have a0_6 : (w3.alloc (.cells #[.int .i64 R.W, .int .i64 R.H, .slice zw.br.A R.br.length zw.br.c, .slice zw.ta.A R.ta.length zw.ta.c, .slice zw.tb.A R.tb.length zw.tb.c, .slice zw.bu.A R.bu.length zw.bu.c, .slice zw.ow.A R.ow.length zw.ow.c, .slice zw.tu.A R.tu.length zw.tu.c, .slice zw.so.A R.so.length zw.so.c, .slice zw.ar.A R.ar.length zw.ar.c, .int .i64 R.ti] 45)).cell? ⟨w.heap.size, 6, none⟩ = some (.slice A0a.ow.A L0a.ow.length A0a.ow.c) := (KE0.out.nx (RCw.out)).cell 6
  have a0_7 : (w3.alloc (.cells #[.int .i64 R.W, .int .i64 R.H, .slice zw.br.A R.br.length zw.br.c, .slice zw.ta.A R.ta.length zw.ta.c, .slice zw.tb.A R.tb.length zw.tb.c, .slice zw.bu.A R.bu.length zw.bu.c, .slice zw.ow.A R.ow.length zw.ow.c, .slice zw.tu.A R.tu.length zw.tu.c, .slice zw.so.A R.so.length zw.so.c, .slice zw.ar.A R.ar.length zw.ar.c, .int .i64 R.ti] 45)).cell? ⟨w.heap.size, 7, none⟩ = some (.slice A0a.tu.A L0a.tu.length A0a.tu.c) := (KE0.out.nx (RCw.out)).cell 7
  have a0_8 : (w3.alloc (.cells #[.int .i64 R.W, .int .i64 R.H, .slice zw.br.A R.br.length zw.br.c, .slice zw.ta.A R.ta.length zw.ta.c, .slice zw.tb.A R.tb.length zw.tb.c, .slice zw.bu.A R.bu.length zw.bu.c, .slice zw.ow.A R.ow.length zw.ow.c, .slice zw.tu.A R.tu.length zw.tu.c, .slice zw.so.A R.so.length zw.so.c, .slice zw.ar.A R.ar.length zw.ar.c, .int .i64 R.ti] 45)).cell? ⟨w.heap.size, 8, none⟩ = some (.slice A0a.so.A L0a.so.length A0a.so.c) := (KE0.out.nx (RCw.out)).cell 8
  have a0_9 : (w3.alloc (.cells #[.int .i64 R.W, .int .i64 R.H, .slice zw.br.A R.br.length zw.br.c, .slice zw.ta.A R.ta.length zw.ta.c, .slice zw.tb.A R.tb.length zw.tb.c, .slice zw.bu.A R.bu.length zw.bu.c, .slice zw.ow.A R.ow.length zw.ow.c, .slice zw.tu.A R.tu.length zw.tu.c, .slice zw.so.A R.so.length zw.so.c, .slice zw.ar.A R.ar.length zw.ar.c, .int .i64 R.ti] 45)).cell? ⟨w.heap.size, 9, none⟩ = some (.slice A0a.ar.A L0a.ar.length A0a.ar.c) := (KE0.out.nx (RCw.out)).cell 9
  have a0_10 : (w3.alloc (.cells #[.int .i64 R.W, .int .i64 R.H, .slice zw.br.A R.br.length zw.br.c, .slice zw.ta.A R.ta.length zw.ta.c, .slice zw.tb.A R.tb.length zw.tb.c, .slice zw.bu.A R.bu.length zw.bu.c, .slice zw.ow.A R.ow.length zw.ow.c, .slice zw.tu.A R.tu.length zw.tu.c, .slice zw.so.A R.so.length zw.so.c, .slice zw.ar.A R.ar.length zw.ar.c, .int .i64 R.ti] 45)).cell? ⟨w.heap.size, 10, none⟩ = some (.int .i64 L0a.ti) := (KE0.out.nx (RCw.out)).cell 10
  go_wp2_with fail
  refine (lawsToNet _ _ _ (RDA0a.out _ (RCw.out)) hnA0a).mono ?_
  rintro e w4 ⟨zx0, rfl, ox0, bx0⟩
  have HLX0 := Lib.hid (trivial)
  have FX0 := Lib.hid (fix_net ox0)
  have Q4 := Lib.hid (chg_gb 0 0 (gb_of_below bx0 none))
  have R4 := Lib.hid ((RCw.out).bl bx0)
  clear bx0 ox0 a0_0 a0_1 a0_2 a0_3 a0_4 a0_5 a0_6 a0_7 a0_8 a0_9 a0_10
  replace FW := Lib.hid (FW.out.nx Q4.out)
  replace KW := Lib.hid (KW.out.nx Q4.out)
  replace FW := Lib.hid ((FW.out).al (.cells #[.int .i64 L0a.W, .int .i64 L0a.H, .slice zx0.br.A L0a.br.length zx0.br.c, .slice zx0.ta.A L0a.ta.length zx0.ta.c, .slice zx0.tb.A L0a.tb.length zx0.tb.c, .slice zx0.bu.A L0a.bu.length zx0.bu.c, .slice zx0.ow.A L0a.ow.length zx0.ow.c, .slice zx0.tu.A L0a.tu.length zx0.tu.c, .slice zx0.so.A L0a.so.length zx0.so.c, .slice zx0.ar.A L0a.ar.length zx0.ar.c, .int .i64 L0a.ti] 45))
  replace KW := Lib.hid ((KW.out).alloc (.cells #[.int .i64 L0a.W, .int .i64 L0a.H, .slice zx0.br.A L0a.br.length zx0.br.c, .slice zx0.ta.A L0a.ta.length zx0.ta.c, .slice zx0.tb.A L0a.tb.length zx0.tb.c, .slice zx0.bu.A L0a.bu.length zx0.bu.c, .slice zx0.ow.A L0a.ow.length zx0.ow.c, .slice zx0.tu.A L0a.tu.length zx0.tu.c, .slice zx0.so.A L0a.so.length zx0.so.c, .slice zx0.ar.A L0a.ar.length zx0.ar.c, .int .i64 L0a.ti] 45))
  replace FX0 := Lib.hid ((FX0.out).al (.cells #[.int .i64 L0a.W, .int .i64 L0a.H, .slice zx0.br.A L0a.br.length zx0.br.c, .slice zx0.ta.A L0a.ta.length zx0.ta.c, .slice zx0.tb.A L0a.tb.length zx0.tb.c, .slice zx0.bu.A L0a.bu.length zx0.bu.c, .slice zx0.ow.A L0a.ow.length zx0.ow.c, .slice zx0.tu.A L0a.tu.length zx0.tu.c, .slice zx0.so.A L0a.so.length zx0.so.c, .slice zx0.ar.A L0a.ar.length zx0.ar.c, .int .i64 L0a.ti] 45))
  have KX0 := Lib.hid (Blk.new w4 45 #[.int .i64 L0a.W, .int .i64 L0a.H, .slice zx0.br.A L0a.br.length zx0.br.c, .slice zx0.ta.A L0a.ta.length zx0.ta.c, .slice zx0.tb.A L0a.tb.length zx0.tb.c, .slice zx0.bu.A L0a.bu.length zx0.bu.c, .slice zx0.ow.A L0a.ow.length zx0.ow.c, .slice zx0.tu.A L0a.tu.length zx0.tu.c, .slice zx0.so.A L0a.so.length zx0.so.c, .slice zx0.ar.A L0a.ar.length zx0.ar.c, .int .i64 L0a.ti])
  go_wp2_with fail
  refine (lawsToPktS _ _ _ _ _ (RDA1a.out _ ((R4.out.al (.cells #[.int .i64 L0a.W, .int .i64 L0a.H, .slice zx0.br.A L0a.br.length zx0.br.c, .slice zx0.ta.A L0a.ta.length zx0.ta.c, .slice zx0.tb.A L0a.tb.length zx0.tb.c, .slice zx0.bu.A L0a.bu.length zx0.bu.c, .slice zx0.ow.A L0a.ow.length zx0.ow.c, .slice zx0.tu.A L0a.tu.length zx0.tu.c, .slice zx0.so.A L0a.so.length zx0.so.c, .slice zx0.ar.A L0a.ar.length zx0.ar.c, .int .i64 L0a.ti] 45)))) hnA1a).mono ?_
  rintro e w5 ⟨gx1, rfl, ox1, bx1⟩
  have HLX1 := Lib.hid ((fix_row ox1).here.lt)
  have FX1 := Lib.hid (fix_row ox1)
  have Q5 := Lib.hid (chg_gb 0 0 (gb_of_below bx1 none))
  have R5 := Lib.hid (((R4.out.al (.cells #[.int .i64 L0a.W, .int .i64 L0a.H, .slice zx0.br.A L0a.br.length zx0.br.c, .slice zx0.ta.A L0a.ta.length zx0.ta.c, .slice zx0.tb.A L0a.tb.length zx0.tb.c, .slice zx0.bu.A L0a.bu.length zx0.bu.c, .slice zx0.ow.A L0a.ow.length zx0.ow.c, .slice zx0.tu.A L0a.tu.length zx0.tu.c, .slice zx0.so.A L0a.so.length zx0.so.c, .slice zx0.ar.A L0a.ar.length zx0.ar.c, .int .i64 L0a.ti] 45))).bl bx1)
  clear bx1 ox1
  replace FW := Lib.hid (FW.out.nx Q5.out)
  replace KW := Lib.hid (KW.out.nx Q5.out)
  replace FX0 := Lib.hid (FX0.out.nx Q5.out)
  replace KX0 := Lib.hid (KX0.out.nx Q5.out)
  have x0_0 : w5.cell? ⟨w4.heap.size, 0, none⟩ = some (.int .i64 L0a.W) := KX0.out.cell 0
  have x0_1 : w5.cell? ⟨w4.heap.size, 1, none⟩ = some (.int .i64 L0a.H) := KX0.out.cell 1
  have x0_2 : w5.cell? ⟨w4.heap.size, 2, none⟩ = some (.slice zx0.br.A L0a.br.length zx0.br.c) := KX0.out.cell 2
  have x0_3 : w5.cell? ⟨w4.heap.size, 3, none⟩ = some (.slice zx0.ta.A L0a.ta.length zx0.ta.c) := KX0.out.cell 3
  have x0_4 : w5.cell? ⟨w4.heap.size, 4, none⟩ = some (.slice zx0.tb.A L0a.tb.length zx0.tb.c) := KX0.out.cell 4
  have x0_5 : w5.cell? ⟨w4.heap.size, 5, none⟩ = some (.slice zx0.bu.A L0a.bu.length zx0.bu.c) := KX0.out.cell 5
  have x0_6 : w5.cell? ⟨w4.heap.size, 6, none⟩ = some (.slice zx0.ow.A L0a.ow.length zx0.ow.c) := KX0.out.cell 6
  have x0_7 : w5.cell? ⟨w4.heap.size, 7, none⟩ = some (.slice zx0.tu.A L0a.tu.length zx0.tu.c) := KX0.out.cell 7
  have x0_8 : w5.cell? ⟨w4.heap.size, 8, none⟩ = some (.slice zx0.so.A L0a.so.length zx0.so.c) := KX0.out.cell 8
  have x0_9 : w5.cell? ⟨w4.heap.size, 9, none⟩ = some (.slice zx0.ar.A L0a.ar.length zx0.ar.c) := KX0.out.cell 9
  have x0_10 : w5.cell? ⟨w4.heap.size, 10, none⟩ = some (.int .i64 L0a.ti) := KX0.out.cell 10
  go_wp2_with fail
  refine (HIM.out _ _ _ _ _ (NetOwn.at (FX0.out.here) (Nat.le_refl _)) (recAt_own pktL (by decide) (FX1.out.here) (Nat.le_refl _)) (netSm_of hnA0a) (by omega) (NetOwn.cap (FX0.out.here)) (own_cap (FX1.out.here)).1).mono ?_
  rintro e w6 ⟨zg, rfl, og, bg⟩
  have R6 : Hid (Chg 0 0 we w6) := Lib.hid ((R5.out).bl bg)
  have Q6 := Lib.hid (chg_gb 0 0 (gb_of_below bg none))
  have F6 := Lib.hid (fix_net og)
  have HLg := Lib.hid (trivial)
  clear bg og
  have KCg := Lib.hid (Blk.new w6 45 #[.int .i64 R.W, .int .i64 R.H, .slice zg.br.A R.br.length zg.br.c, .slice zg.ta.A R.ta.length zg.ta.c, .slice zg.tb.A R.tb.length zg.tb.c, .slice zg.bu.A R.bu.length zg.bu.c, .slice zg.ow.A R.ow.length zg.ow.c, .slice zg.tu.A R.tu.length zg.tu.c, .slice zg.so.A R.so.length zg.so.c, .slice zg.ar.A R.ar.length zg.ar.c, .int .i64 R.ti])
  have FCg := Lib.hid (F6.out.al (.cells #[.int .i64 R.W, .int .i64 R.H, .slice zg.br.A R.br.length zg.br.c, .slice zg.ta.A R.ta.length zg.ta.c, .slice zg.tb.A R.tb.length zg.tb.c, .slice zg.bu.A R.bu.length zg.bu.c, .slice zg.ow.A R.ow.length zg.ow.c, .slice zg.tu.A R.tu.length zg.tu.c, .slice zg.so.A R.so.length zg.so.c, .slice zg.ar.A R.ar.length zg.ar.c, .int .i64 R.ti] 45))
  have RCg := Lib.hid (R6.out.al (.cells #[.int .i64 R.W, .int .i64 R.H, .slice zg.br.A R.br.length zg.br.c, .slice zg.ta.A R.ta.length zg.ta.c, .slice zg.tb.A R.tb.length zg.tb.c, .slice zg.bu.A R.bu.length zg.bu.c, .slice zg.ow.A R.ow.length zg.ow.c, .slice zg.tu.A R.tu.length zg.tu.c, .slice zg.so.A R.so.length zg.so.c, .slice zg.ar.A R.ar.length zg.ar.c, .int .i64 R.ti] 45))
  clear x0_0 x0_1 x0_2 x0_3 x0_4 x0_5 x0_6 x0_7 x0_8 x0_9 x0_10
  replace FW := Lib.hid ((FW.out.nx Q6.out).al (.cells #[.int .i64 R.W, .int .i64 R.H, .slice zg.br.A R.br.length zg.br.c, .slice zg.ta.A R.ta.length zg.ta.c, .slice zg.tb.A R.tb.length zg.tb.c, .slice zg.bu.A R.bu.length zg.bu.c, .slice zg.ow.A R.ow.length zg.ow.c, .slice zg.tu.A R.tu.length zg.tu.c, .slice zg.so.A R.so.length zg.so.c, .slice zg.ar.A R.ar.length zg.ar.c, .int .i64 R.ti] 45))
  replace KW := Lib.hid ((KW.out.nx Q6.out).alloc (.cells #[.int .i64 R.W, .int .i64 R.H, .slice zg.br.A R.br.length zg.br.c, .slice zg.ta.A R.ta.length zg.ta.c, .slice zg.tb.A R.tb.length zg.tb.c, .slice zg.bu.A R.bu.length zg.bu.c, .slice zg.ow.A R.ow.length zg.ow.c, .slice zg.tu.A R.tu.length zg.tu.c, .slice zg.so.A R.so.length zg.so.c, .slice zg.ar.A R.ar.length zg.ar.c, .int .i64 R.ti] 45))
  replace FX0 := Lib.hid ((FX0.out.nx Q6.out).al (.cells #[.int .i64 R.W, .int .i64 R.H, .slice zg.br.A R.br.length zg.br.c, .slice zg.ta.A R.ta.length zg.ta.c, .slice zg.tb.A R.tb.length zg.tb.c, .slice zg.bu.A R.bu.length zg.bu.c, .slice zg.ow.A R.ow.length zg.ow.c, .slice zg.tu.A R.tu.length zg.tu.c, .slice zg.so.A R.so.length zg.so.c, .slice zg.ar.A R.ar.length zg.ar.c, .int .i64 R.ti] 45))
  replace KX0 := Lib.hid ((KX0.out.nx Q6.out).alloc (.cells #[.int .i64 R.W, .int .i64 R.H, .slice zg.br.A R.br.length zg.br.c, .slice zg.ta.A R.ta.length zg.ta.c, .slice zg.tb.A R.tb.length zg.tb.c, .slice zg.bu.A R.bu.length zg.bu.c, .slice zg.ow.A R.ow.length zg.ow.c, .slice zg.tu.A R.tu.length zg.tu.c, .slice zg.so.A R.so.length zg.so.c, .slice zg.ar.A R.ar.length zg.ar.c, .int .i64 R.ti] 45))
  replace FX1 := Lib.hid ((FX1.out.nx Q6.out).al (.cells #[.int .i64 R.W, .int .i64 R.H, .slice zg.br.A R.br.length zg.br.c, .slice zg.ta.A R.ta.length zg.ta.c, .slice zg.tb.A R.tb.length zg.tb.c, .slice zg.bu.A R.bu.length zg.bu.c, .slice zg.ow.A R.ow.length zg.ow.c, .slice zg.tu.A R.tu.length zg.tu.c, .slice zg.so.A R.so.length zg.so.c, .slice zg.ar.A R.ar.length zg.ar.c, .int .i64 R.ti] 45))
  have FG := Lib.hid (FCg.out)
  have KG := Lib.hid (KCg.out)
  obtain ⟨B0, E0, B1, E1, Bg, Eg, Bv, Ev, bg, bv, eE0, eE1, ebg, ebv, fx0, kx0, hx0, fx1, hx1, fg, hg, fw, kg, kw, hn⟩ : ∃ B0 E0 B1 E1 Bg Eg Bv Ev bg bv : Nat, w4.heap.size = E0 ∧ w5.heap.size = E1 ∧ w6.heap.size = bg ∧ w3.heap.size = bv ∧ Fix B0 E0 (fun w => NetOwn w B0 E0 zx0 L0a) (w6.alloc (.cells #[.int .i64 R.W, .int .i64 R.H, .slice zg.br.A R.br.length zg.br.c, .slice zg.ta.A R.ta.length zg.ta.c, .slice zg.tb.A R.tb.length zg.tb.c, .slice zg.bu.A R.bu.length zg.bu.c, .slice zg.ow.A R.ow.length zg.ow.c, .slice zg.tu.A R.tu.length zg.tu.c, .slice zg.so.A R.so.length zg.so.c, .slice zg.ar.A R.ar.length zg.ar.c, .int .i64 R.ti] 45)) ∧ Blk (w6.alloc (.cells #[.int .i64 R.W, .int .i64 R.H, .slice zg.br.A R.br.length zg.br.c, .slice zg.ta.A R.ta.length zg.ta.c, .slice zg.tb.A R.tb.length zg.tb.c, .slice zg.bu.A R.bu.length zg.bu.c, .slice zg.ow.A R.ow.length zg.ow.c, .slice zg.tu.A R.tu.length zg.tu.c, .slice zg.so.A R.so.length zg.so.c, .slice zg.ar.A R.ar.length zg.ar.c, .int .i64 R.ti] 45)) E0 45 #[.int .i64 L0a.W, .int .i64 L0a.H, .slice zx0.br.A L0a.br.length zx0.br.c, .slice zx0.ta.A L0a.ta.length zx0.ta.c, .slice zx0.tb.A L0a.tb.length zx0.tb.c, .slice zx0.bu.A L0a.bu.length zx0.bu.c, .slice zx0.ow.A L0a.ow.length zx0.ow.c, .slice zx0.tu.A L0a.tu.length zx0.tu.c, .slice zx0.so.A L0a.so.length zx0.so.c, .slice zx0.ar.A L0a.ar.length zx0.ar.c, .int .i64 L0a.ti] ∧ True ∧ Fix B1 E1 (fun w => w.ownsRow B1 65 5 (.slice (some ⟨gx1, 0, none⟩) L1a.length L1a.length) L1a.length (recV pktC L1a)) (w6.alloc (.cells #[.int .i64 R.W, .int .i64 R.H, .slice zg.br.A R.br.length zg.br.c, .slice zg.ta.A R.ta.length zg.ta.c, .slice zg.tb.A R.tb.length zg.tb.c, .slice zg.bu.A R.bu.length zg.bu.c, .slice zg.ow.A R.ow.length zg.ow.c, .slice zg.tu.A R.tu.length zg.tu.c, .slice zg.so.A R.so.length zg.so.c, .slice zg.ar.A R.ar.length zg.ar.c, .int .i64 R.ti] 45)) ∧ (∀ k, Value.ownBlock (.slice (some ⟨gx1, 0, none⟩) L1a.length L1a.length) = some k → B1 ≤ k ∧ k < E1) ∧ Fix Bg Eg (fun w => NetOwn w Bg Eg zg R) (w6.alloc (.cells #[.int .i64 R.W, .int .i64 R.H, .slice zg.br.A R.br.length zg.br.c, .slice zg.ta.A R.ta.length zg.ta.c, .slice zg.tb.A R.tb.length zg.tb.c, .slice zg.bu.A R.bu.length zg.bu.c, .slice zg.ow.A R.ow.length zg.ow.c, .slice zg.tu.A R.tu.length zg.tu.c, .slice zg.so.A R.so.length zg.so.c, .slice zg.ar.A R.ar.length zg.ar.c, .int .i64 R.ti] 45)) ∧ True ∧ Fix Bv Ev (fun w => NetOwn w Bv Ev zw R) (w6.alloc (.cells #[.int .i64 R.W, .int .i64 R.H, .slice zg.br.A R.br.length zg.br.c, .slice zg.ta.A R.ta.length zg.ta.c, .slice zg.tb.A R.tb.length zg.tb.c, .slice zg.bu.A R.bu.length zg.bu.c, .slice zg.ow.A R.ow.length zg.ow.c, .slice zg.tu.A R.tu.length zg.tu.c, .slice zg.so.A R.so.length zg.so.c, .slice zg.ar.A R.ar.length zg.ar.c, .int .i64 R.ti] 45)) ∧ Blk (w6.alloc (.cells #[.int .i64 R.W, .int .i64 R.H, .slice zg.br.A R.br.length zg.br.c, .slice zg.ta.A R.ta.length zg.ta.c, .slice zg.tb.A R.tb.length zg.tb.c, .slice zg.bu.A R.bu.length zg.bu.c, .slice zg.ow.A R.ow.length zg.ow.c, .slice zg.tu.A R.tu.length zg.tu.c, .slice zg.so.A R.so.length zg.so.c, .slice zg.ar.A R.ar.length zg.ar.c, .int .i64 R.ti] 45)) bg 45 #[.int .i64 R.W, .int .i64 R.H, .slice zg.br.A R.br.length zg.br.c, .slice zg.ta.A R.ta.length zg.ta.c, .slice zg.tb.A R.tb.length zg.tb.c, .slice zg.bu.A R.bu.length zg.bu.c, .slice zg.ow.A R.ow.length zg.ow.c, .slice zg.tu.A R.tu.length zg.tu.c, .slice zg.so.A R.so.length zg.so.c, .slice zg.ar.A R.ar.length zg.ar.c, .int .i64 R.ti] ∧ Blk (w6.alloc (.cells #[.int .i64 R.W, .int .i64 R.H, .slice zg.br.A R.br.length zg.br.c, .slice zg.ta.A R.ta.length zg.ta.c, .slice zg.tb.A R.tb.length zg.tb.c, .slice zg.bu.A R.bu.length zg.bu.c, .slice zg.ow.A R.ow.length zg.ow.c, .slice zg.tu.A R.tu.length zg.tu.c, .slice zg.so.A R.so.length zg.so.c, .slice zg.ar.A R.ar.length zg.ar.c, .int .i64 R.ti] 45)) bv 45 #[.int .i64 R.W, .int .i64 R.H, .slice zw.br.A R.br.length zw.br.c, .slice zw.ta.A R.ta.length zw.ta.c, .slice zw.tb.A R.tb.length zw.tb.c, .slice zw.bu.A R.bu.length zw.bu.c, .slice zw.ow.A R.ow.length zw.ow.c, .slice zw.tu.A R.tu.length zw.tu.c, .slice zw.so.A R.so.length zw.so.c, .slice zw.ar.A R.ar.length zw.ar.c, .int .i64 R.ti] ∧ we.heap.size ≤ B0 ∧ B0 ≤ E0 ∧ E0 + 1 ≤ B1 ∧ B1 ≤ E1 ∧ E1 ≤ Bg ∧ Bg ≤ Eg ∧ Ev ≤ B0 ∧ bv < B0 ∧ Eg ≤ bg ∧ E1 ≤ bg := ⟨_, _, _, _, _, _, _, _, _, _, rfl, rfl, rfl, rfl, FX0.out, KX0.out, HLX0.out, FX1.out, HLX1.out, FG.out, HLg.out, FW.out, KG.out, KW.out, (by have hsQ4 := Q4.out.size; have hsQ5 := Q5.out.size; have hsQ6 := Q6.out.size; have h0 := HS0.out; have h1 := HE0.out; have h2 := HW0.out; (try simp only [alloc_size] at *); omega)⟩
  (try rw [eE0])
  (try rw [eE1])
  (try rw [ebg])
  (try rw [ebv])
  have Zfx0 := Lib.hid (fx0)
  have Zkx0 := Lib.hid (kx0)
  have Zhx0 := Lib.hid (hx0)
  have Zfx1 := Lib.hid (fx1)
  have Zhx1 := Lib.hid (hx1)
  have Zfg := Lib.hid (fg)
  have Zhg := Lib.hid (hg)
  have Zfw := Lib.hid (fw)
  have Zkg := Lib.hid (kg)
  have Zkw := Lib.hid (kw)
  have Zhn := Lib.hid (hn)
  clear fx0 kx0 hx0 fx1 hx1 fg hg fw kg kw hn
  have RS := Lib.hid (RCg.out)
  have T0 := Lib.hid (Chg.refl 0 0 (w6.alloc (.cells #[.int .i64 R.W, .int .i64 R.H, .slice zg.br.A R.br.length zg.br.c, .slice zg.ta.A R.ta.length zg.ta.c, .slice zg.tb.A R.tb.length zg.tb.c, .slice zg.bu.A R.bu.length zg.bu.c, .slice zg.ow.A R.ow.length zg.ow.c, .slice zg.tu.A R.tu.length zg.tu.c, .slice zg.so.A R.so.length zg.so.c, .slice zg.ar.A R.ar.length zg.ar.c, .int .i64 R.ti] 45)))
  have rg_0 : (w6.alloc (.cells #[.int .i64 R.W, .int .i64 R.H, .slice zg.br.A R.br.length zg.br.c, .slice zg.ta.A R.ta.length zg.ta.c, .slice zg.tb.A R.tb.length zg.tb.c, .slice zg.bu.A R.bu.length zg.bu.c, .slice zg.ow.A R.ow.length zg.ow.c, .slice zg.tu.A R.tu.length zg.tu.c, .slice zg.so.A R.so.length zg.so.c, .slice zg.ar.A R.ar.length zg.ar.c, .int .i64 R.ti] 45)).cell? ⟨bg, 0, none⟩ = some (.int .i64 R.W) := (Zkg.out.nx (T0.out)).cell 0
  have rg_1 : (w6.alloc (.cells #[.int .i64 R.W, .int .i64 R.H, .slice zg.br.A R.br.length zg.br.c, .slice zg.ta.A R.ta.length zg.ta.c, .slice zg.tb.A R.tb.length zg.tb.c, .slice zg.bu.A R.bu.length zg.bu.c, .slice zg.ow.A R.ow.length zg.ow.c, .slice zg.tu.A R.tu.length zg.tu.c, .slice zg.so.A R.so.length zg.so.c, .slice zg.ar.A R.ar.length zg.ar.c, .int .i64 R.ti] 45)).cell? ⟨bg, 1, none⟩ = some (.int .i64 R.H) := (Zkg.out.nx (T0.out)).cell 1
  have rg_2 : (w6.alloc (.cells #[.int .i64 R.W, .int .i64 R.H, .slice zg.br.A R.br.length zg.br.c, .slice zg.ta.A R.ta.length zg.ta.c, .slice zg.tb.A R.tb.length zg.tb.c, .slice zg.bu.A R.bu.length zg.bu.c, .slice zg.ow.A R.ow.length zg.ow.c, .slice zg.tu.A R.tu.length zg.tu.c, .slice zg.so.A R.so.length zg.so.c, .slice zg.ar.A R.ar.length zg.ar.c, .int .i64 R.ti] 45)).cell? ⟨bg, 2, none⟩ = some (.slice zg.br.A R.br.length zg.br.c) := (Zkg.out.nx (T0.out)).cell 2
  have rg_3 : (w6.alloc (.cells #[.int .i64 R.W, .int .i64 R.H, .slice zg.br.A R.br.length zg.br.c, .slice zg.ta.A R.ta.length zg.ta.c, .slice zg.tb.A R.tb.length zg.tb.c, .slice zg.bu.A R.bu.length zg.bu.c, .slice zg.ow.A R.ow.length zg.ow.c, .slice zg.tu.A R.tu.length zg.tu.c, .slice zg.so.A R.so.length zg.so.c, .slice zg.ar.A R.ar.length zg.ar.c, .int .i64 R.ti] 45)).cell? ⟨bg, 3, none⟩ = some (.slice zg.ta.A R.ta.length zg.ta.c) := (Zkg.out.nx (T0.out)).cell 3
  have rg_4 : (w6.alloc (.cells #[.int .i64 R.W, .int .i64 R.H, .slice zg.br.A R.br.length zg.br.c, .slice zg.ta.A R.ta.length zg.ta.c, .slice zg.tb.A R.tb.length zg.tb.c, .slice zg.bu.A R.bu.length zg.bu.c, .slice zg.ow.A R.ow.length zg.ow.c, .slice zg.tu.A R.tu.length zg.tu.c, .slice zg.so.A R.so.length zg.so.c, .slice zg.ar.A R.ar.length zg.ar.c, .int .i64 R.ti] 45)).cell? ⟨bg, 4, none⟩ = some (.slice zg.tb.A R.tb.length zg.tb.c) := (Zkg.out.nx (T0.out)).cell 4
  have rg_5 : (w6.alloc (.cells #[.int .i64 R.W, .int .i64 R.H, .slice zg.br.A R.br.length zg.br.c, .slice zg.ta.A R.ta.length zg.ta.c, .slice zg.tb.A R.tb.length zg.tb.c, .slice zg.bu.A R.bu.length zg.bu.c, .slice zg.ow.A R.ow.length zg.ow.c, .slice zg.tu.A R.tu.length zg.tu.c, .slice zg.so.A R.so.length zg.so.c, .slice zg.ar.A R.ar.length zg.ar.c, .int .i64 R.ti] 45)).cell? ⟨bg, 5, none⟩ = some (.slice zg.bu.A R.bu.length zg.bu.c) := (Zkg.out.nx (T0.out)).cell 5
  have rg_6 : (w6.alloc (.cells #[.int .i64 R.W, .int .i64 R.H, .slice zg.br.A R.br.length zg.br.c, .slice zg.ta.A R.ta.length zg.ta.c, .slice zg.tb.A R.tb.length zg.tb.c, .slice zg.bu.A R.bu.length zg.bu.c, .slice zg.ow.A R.ow.length zg.ow.c, .slice zg.tu.A R.tu.length zg.tu.c, .slice zg.so.A R.so.length zg.so.c, .slice zg.ar.A R.ar.length zg.ar.c, .int .i64 R.ti] 45)).cell? ⟨bg, 6, none⟩ = some (.slice zg.ow.A R.ow.length zg.ow.c) := (Zkg.out.nx (T0.out)).cell 6
  have rg_7 : (w6.alloc (.cells #[.int .i64 R.W, .int .i64 R.H, .slice zg.br.A R.br.length zg.br.c, .slice zg.ta.A R.ta.length zg.ta.c, .slice zg.tb.A R.tb.length zg.tb.c, .slice zg.bu.A R.bu.length zg.bu.c, .slice zg.ow.A R.ow.length zg.ow.c, .slice zg.tu.A R.tu.length zg.tu.c, .slice zg.so.A R.so.length zg.so.c, .slice zg.ar.A R.ar.length zg.ar.c, .int .i64 R.ti] 45)).cell? ⟨bg, 7, none⟩ = some (.slice zg.tu.A R.tu.length zg.tu.c) := (Zkg.out.nx (T0.out)).cell 7
  have rg_8 : (w6.alloc (.cells #[.int .i64 R.W, .int .i64 R.H, .slice zg.br.A R.br.length zg.br.c, .slice zg.ta.A R.ta.length zg.ta.c, .slice zg.tb.A R.tb.length zg.tb.c, .slice zg.bu.A R.bu.length zg.bu.c, .slice zg.ow.A R.ow.length zg.ow.c, .slice zg.tu.A R.tu.length zg.tu.c, .slice zg.so.A R.so.length zg.so.c, .slice zg.ar.A R.ar.length zg.ar.c, .int .i64 R.ti] 45)).cell? ⟨bg, 8, none⟩ = some (.slice zg.so.A R.so.length zg.so.c) := (Zkg.out.nx (T0.out)).cell 8
  have rg_9 : (w6.alloc (.cells #[.int .i64 R.W, .int .i64 R.H, .slice zg.br.A R.br.length zg.br.c, .slice zg.ta.A R.ta.length zg.ta.c, .slice zg.tb.A R.tb.length zg.tb.c, .slice zg.bu.A R.bu.length zg.bu.c, .slice zg.ow.A R.ow.length zg.ow.c, .slice zg.tu.A R.tu.length zg.tu.c, .slice zg.so.A R.so.length zg.so.c, .slice zg.ar.A R.ar.length zg.ar.c, .int .i64 R.ti] 45)).cell? ⟨bg, 9, none⟩ = some (.slice zg.ar.A R.ar.length zg.ar.c) := (Zkg.out.nx (T0.out)).cell 9
  have rg_10 : (w6.alloc (.cells #[.int .i64 R.W, .int .i64 R.H, .slice zg.br.A R.br.length zg.br.c, .slice zg.ta.A R.ta.length zg.ta.c, .slice zg.tb.A R.tb.length zg.tb.c, .slice zg.bu.A R.bu.length zg.bu.c, .slice zg.ow.A R.ow.length zg.ow.c, .slice zg.tu.A R.tu.length zg.tu.c, .slice zg.so.A R.so.length zg.so.c, .slice zg.ar.A R.ar.length zg.ar.c, .int .i64 R.ti] 45)).cell? ⟨bg, 10, none⟩ = some (.int .i64 R.ti) := (Zkg.out.nx (T0.out)).cell 10
  have rw_0 : (w6.alloc (.cells #[.int .i64 R.W, .int .i64 R.H, .slice zg.br.A R.br.length zg.br.c, .slice zg.ta.A R.ta.length zg.ta.c, .slice zg.tb.A R.tb.length zg.tb.c, .slice zg.bu.A R.bu.length zg.bu.c, .slice zg.ow.A R.ow.length zg.ow.c, .slice zg.tu.A R.tu.length zg.tu.c, .slice zg.so.A R.so.length zg.so.c, .slice zg.ar.A R.ar.length zg.ar.c, .int .i64 R.ti] 45)).cell? ⟨bv, 0, none⟩ = some (.int .i64 R.W) := (Zkw.out.nx (T0.out)).cell 0
  have rw_1 : (w6.alloc (.cells #[.int .i64 R.W, .int .i64 R.H, .slice zg.br.A R.br.length zg.br.c, .slice zg.ta.A R.ta.length zg.ta.c, .slice zg.tb.A R.tb.length zg.tb.c, .slice zg.bu.A R.bu.length zg.bu.c, .slice zg.ow.A R.ow.length zg.ow.c, .slice zg.tu.A R.tu.length zg.tu.c, .slice zg.so.A R.so.length zg.so.c, .slice zg.ar.A R.ar.length zg.ar.c, .int .i64 R.ti] 45)).cell? ⟨bv, 1, none⟩ = some (.int .i64 R.H) := (Zkw.out.nx (T0.out)).cell 1
  have rw_2 : (w6.alloc (.cells #[.int .i64 R.W, .int .i64 R.H, .slice zg.br.A R.br.length zg.br.c, .slice zg.ta.A R.ta.length zg.ta.c, .slice zg.tb.A R.tb.length zg.tb.c, .slice zg.bu.A R.bu.length zg.bu.c, .slice zg.ow.A R.ow.length zg.ow.c, .slice zg.tu.A R.tu.length zg.tu.c, .slice zg.so.A R.so.length zg.so.c, .slice zg.ar.A R.ar.length zg.ar.c, .int .i64 R.ti] 45)).cell? ⟨bv, 2, none⟩ = some (.slice zw.br.A R.br.length zw.br.c) := (Zkw.out.nx (T0.out)).cell 2
  have rw_3 : (w6.alloc (.cells #[.int .i64 R.W, .int .i64 R.H, .slice zg.br.A R.br.length zg.br.c, .slice zg.ta.A R.ta.length zg.ta.c, .slice zg.tb.A R.tb.length zg.tb.c, .slice zg.bu.A R.bu.length zg.bu.c, .slice zg.ow.A R.ow.length zg.ow.c, .slice zg.tu.A R.tu.length zg.tu.c, .slice zg.so.A R.so.length zg.so.c, .slice zg.ar.A R.ar.length zg.ar.c, .int .i64 R.ti] 45)).cell? ⟨bv, 3, none⟩ = some (.slice zw.ta.A R.ta.length zw.ta.c) := (Zkw.out.nx (T0.out)).cell 3
  have rw_4 : (w6.alloc (.cells #[.int .i64 R.W, .int .i64 R.H, .slice zg.br.A R.br.length zg.br.c, .slice zg.ta.A R.ta.length zg.ta.c, .slice zg.tb.A R.tb.length zg.tb.c, .slice zg.bu.A R.bu.length zg.bu.c, .slice zg.ow.A R.ow.length zg.ow.c, .slice zg.tu.A R.tu.length zg.tu.c, .slice zg.so.A R.so.length zg.so.c, .slice zg.ar.A R.ar.length zg.ar.c, .int .i64 R.ti] 45)).cell? ⟨bv, 4, none⟩ = some (.slice zw.tb.A R.tb.length zw.tb.c) := (Zkw.out.nx (T0.out)).cell 4
  have rw_5 : (w6.alloc (.cells #[.int .i64 R.W, .int .i64 R.H, .slice zg.br.A R.br.length zg.br.c, .slice zg.ta.A R.ta.length zg.ta.c, .slice zg.tb.A R.tb.length zg.tb.c, .slice zg.bu.A R.bu.length zg.bu.c, .slice zg.ow.A R.ow.length zg.ow.c, .slice zg.tu.A R.tu.length zg.tu.c, .slice zg.so.A R.so.length zg.so.c, .slice zg.ar.A R.ar.length zg.ar.c, .int .i64 R.ti] 45)).cell? ⟨bv, 5, none⟩ = some (.slice zw.bu.A R.bu.length zw.bu.c) := (Zkw.out.nx (T0.out)).cell 5
  have rw_6 : (w6.alloc (.cells #[.int .i64 R.W, .int .i64 R.H, .slice zg.br.A R.br.length zg.br.c, .slice zg.ta.A R.ta.length zg.ta.c, .slice zg.tb.A R.tb.length zg.tb.c, .slice zg.bu.A R.bu.length zg.bu.c, .slice zg.ow.A R.ow.length zg.ow.c, .slice zg.tu.A R.tu.length zg.tu.c, .slice zg.so.A R.so.length zg.so.c, .slice zg.ar.A R.ar.length zg.ar.c, .int .i64 R.ti] 45)).cell? ⟨bv, 6, none⟩ = some (.slice zw.ow.A R.ow.length zw.ow.c) := (Zkw.out.nx (T0.out)).cell 6
  have rw_7 : (w6.alloc (.cells #[.int .i64 R.W, .int .i64 R.H, .slice zg.br.A R.br.length zg.br.c, .slice zg.ta.A R.ta.length zg.ta.c, .slice zg.tb.A R.tb.length zg.tb.c, .slice zg.bu.A R.bu.length zg.bu.c, .slice zg.ow.A R.ow.length zg.ow.c, .slice zg.tu.A R.tu.length zg.tu.c, .slice zg.so.A R.so.length zg.so.c, .slice zg.ar.A R.ar.length zg.ar.c, .int .i64 R.ti] 45)).cell? ⟨bv, 7, none⟩ = some (.slice zw.tu.A R.tu.length zw.tu.c) := (Zkw.out.nx (T0.out)).cell 7
  have rw_8 : (w6.alloc (.cells #[.int .i64 R.W, .int .i64 R.H, .slice zg.br.A R.br.length zg.br.c, .slice zg.ta.A R.ta.length zg.ta.c, .slice zg.tb.A R.tb.length zg.tb.c, .slice zg.bu.A R.bu.length zg.bu.c, .slice zg.ow.A R.ow.length zg.ow.c, .slice zg.tu.A R.tu.length zg.tu.c, .slice zg.so.A R.so.length zg.so.c, .slice zg.ar.A R.ar.length zg.ar.c, .int .i64 R.ti] 45)).cell? ⟨bv, 8, none⟩ = some (.slice zw.so.A R.so.length zw.so.c) := (Zkw.out.nx (T0.out)).cell 8
  have rw_9 : (w6.alloc (.cells #[.int .i64 R.W, .int .i64 R.H, .slice zg.br.A R.br.length zg.br.c, .slice zg.ta.A R.ta.length zg.ta.c, .slice zg.tb.A R.tb.length zg.tb.c, .slice zg.bu.A R.bu.length zg.bu.c, .slice zg.ow.A R.ow.length zg.ow.c, .slice zg.tu.A R.tu.length zg.tu.c, .slice zg.so.A R.so.length zg.so.c, .slice zg.ar.A R.ar.length zg.ar.c, .int .i64 R.ti] 45)).cell? ⟨bv, 9, none⟩ = some (.slice zw.ar.A R.ar.length zw.ar.c) := (Zkw.out.nx (T0.out)).cell 9
  have rw_10 : (w6.alloc (.cells #[.int .i64 R.W, .int .i64 R.H, .slice zg.br.A R.br.length zg.br.c, .slice zg.ta.A R.ta.length zg.ta.c, .slice zg.tb.A R.tb.length zg.tb.c, .slice zg.bu.A R.bu.length zg.bu.c, .slice zg.ow.A R.ow.length zg.ow.c, .slice zg.tu.A R.tu.length zg.tu.c, .slice zg.so.A R.so.length zg.so.c, .slice zg.ar.A R.ar.length zg.ar.c, .int .i64 R.ti] 45)).cell? ⟨bv, 10, none⟩ = some (.int .i64 R.ti) := (Zkw.out.nx (T0.out)).cell 10
  go_wp2_with fail
  refine (lawsEqNet _ _ R _ _ _ _ _ Zfg.out.here Zfw.out.here HSR.out).mono ?_
  rintro e w7 ⟨rfl, hg⟩
  have T7 := Lib.hid (T0.out.gb hg)
  clear hg rg_0 rg_1 rg_2 rg_3 rg_4 rg_5 rg_6 rg_7 rg_8 rg_9 rg_10 rw_0 rw_1 rw_2 rw_3 rw_4 rw_5 rw_6 rw_7 rw_8 rw_9 rw_10
  have KPc0 := Lib.hid (fun (w' : World) (hq : Chg 0 0 (w6.alloc (.cells #[.int .i64 R.W, .int .i64 R.H, .slice zg.br.A R.br.length zg.br.c, .slice zg.ta.A R.ta.length zg.ta.c, .slice zg.tb.A R.tb.length zg.tb.c, .slice zg.bu.A R.bu.length zg.bu.c, .slice zg.ow.A R.ow.length zg.ow.c, .slice zg.tu.A R.tu.length zg.tu.c, .slice zg.so.A R.so.length zg.so.c, .slice zg.ar.A R.ar.length zg.ar.c, .int .i64 R.ti] 45)) w') => (show w'.cell? ⟨w.heap.size, 0, none⟩ = some (.int .i64 L0a.W) ∧ w'.cell? ⟨w.heap.size, 1, none⟩ = some (.int .i64 L0a.H) ∧ w'.cell? ⟨w.heap.size, 2, none⟩ = some (.slice A0a.br.A L0a.br.length A0a.br.c) ∧ w'.cell? ⟨w.heap.size, 3, none⟩ = some (.slice A0a.ta.A L0a.ta.length A0a.ta.c) ∧ w'.cell? ⟨w.heap.size, 4, none⟩ = some (.slice A0a.tb.A L0a.tb.length A0a.tb.c) ∧ w'.cell? ⟨w.heap.size, 5, none⟩ = some (.slice A0a.bu.A L0a.bu.length A0a.bu.c) ∧ w'.cell? ⟨w.heap.size, 6, none⟩ = some (.slice A0a.ow.A L0a.ow.length A0a.ow.c) ∧ w'.cell? ⟨w.heap.size, 7, none⟩ = some (.slice A0a.tu.A L0a.tu.length A0a.tu.c) ∧ w'.cell? ⟨w.heap.size, 8, none⟩ = some (.slice A0a.so.A L0a.so.length A0a.so.c) ∧ w'.cell? ⟨w.heap.size, 9, none⟩ = some (.slice A0a.ar.A L0a.ar.length A0a.ar.c) ∧ w'.cell? ⟨w.heap.size, 10, none⟩ = some (.int .i64 L0a.ti) ∧ w'.cell? ⟨E0, 0, none⟩ = some (.int .i64 L0a.W) ∧ w'.cell? ⟨E0, 1, none⟩ = some (.int .i64 L0a.H) ∧ w'.cell? ⟨E0, 2, none⟩ = some (.slice zx0.br.A L0a.br.length zx0.br.c) ∧ w'.cell? ⟨E0, 3, none⟩ = some (.slice zx0.ta.A L0a.ta.length zx0.ta.c) ∧ w'.cell? ⟨E0, 4, none⟩ = some (.slice zx0.tb.A L0a.tb.length zx0.tb.c) ∧ w'.cell? ⟨E0, 5, none⟩ = some (.slice zx0.bu.A L0a.bu.length zx0.bu.c) ∧ w'.cell? ⟨E0, 6, none⟩ = some (.slice zx0.ow.A L0a.ow.length zx0.ow.c) ∧ w'.cell? ⟨E0, 7, none⟩ = some (.slice zx0.tu.A L0a.tu.length zx0.tu.c) ∧ w'.cell? ⟨E0, 8, none⟩ = some (.slice zx0.so.A L0a.so.length zx0.so.c) ∧ w'.cell? ⟨E0, 9, none⟩ = some (.slice zx0.ar.A L0a.ar.length zx0.ar.c) ∧ w'.cell? ⟨E0, 10, none⟩ = some (.int .i64 L0a.ti) from ⟨(KE0.out.nx (RS.out.trans hq)).cell 0, (KE0.out.nx (RS.out.trans hq)).cell 1, (KE0.out.nx (RS.out.trans hq)).cell 2, (KE0.out.nx (RS.out.trans hq)).cell 3, (KE0.out.nx (RS.out.trans hq)).cell 4, (KE0.out.nx (RS.out.trans hq)).cell 5, (KE0.out.nx (RS.out.trans hq)).cell 6, (KE0.out.nx (RS.out.trans hq)).cell 7, (KE0.out.nx (RS.out.trans hq)).cell 8, (KE0.out.nx (RS.out.trans hq)).cell 9, (KE0.out.nx (RS.out.trans hq)).cell 10, (Zkx0.out.nx hq).cell 0, (Zkx0.out.nx hq).cell 1, (Zkx0.out.nx hq).cell 2, (Zkx0.out.nx hq).cell 3, (Zkx0.out.nx hq).cell 4, (Zkx0.out.nx hq).cell 5, (Zkx0.out.nx hq).cell 6, (Zkx0.out.nx hq).cell 7, (Zkx0.out.nx hq).cell 8, (Zkx0.out.nx hq).cell 9, (Zkx0.out.nx hq).cell 10⟩))
  go_wp2_with fail
  go_region_held3 (fun w' => w'.cell? ⟨w.heap.size, 0, none⟩ = some (.int .i64 L0a.W) ∧ w'.cell? ⟨w.heap.size, 1, none⟩ = some (.int .i64 L0a.H) ∧ w'.cell? ⟨w.heap.size, 2, none⟩ = some (.slice A0a.br.A L0a.br.length A0a.br.c) ∧ w'.cell? ⟨w.heap.size, 3, none⟩ = some (.slice A0a.ta.A L0a.ta.length A0a.ta.c) ∧ w'.cell? ⟨w.heap.size, 4, none⟩ = some (.slice A0a.tb.A L0a.tb.length A0a.tb.c) ∧ w'.cell? ⟨w.heap.size, 5, none⟩ = some (.slice A0a.bu.A L0a.bu.length A0a.bu.c) ∧ w'.cell? ⟨w.heap.size, 6, none⟩ = some (.slice A0a.ow.A L0a.ow.length A0a.ow.c) ∧ w'.cell? ⟨w.heap.size, 7, none⟩ = some (.slice A0a.tu.A L0a.tu.length A0a.tu.c) ∧ w'.cell? ⟨w.heap.size, 8, none⟩ = some (.slice A0a.so.A L0a.so.length A0a.so.c) ∧ w'.cell? ⟨w.heap.size, 9, none⟩ = some (.slice A0a.ar.A L0a.ar.length A0a.ar.c) ∧ w'.cell? ⟨w.heap.size, 10, none⟩ = some (.int .i64 L0a.ti) ∧ w'.cell? ⟨E0, 0, none⟩ = some (.int .i64 L0a.W) ∧ w'.cell? ⟨E0, 1, none⟩ = some (.int .i64 L0a.H) ∧ w'.cell? ⟨E0, 2, none⟩ = some (.slice zx0.br.A L0a.br.length zx0.br.c) ∧ w'.cell? ⟨E0, 3, none⟩ = some (.slice zx0.ta.A L0a.ta.length zx0.ta.c) ∧ w'.cell? ⟨E0, 4, none⟩ = some (.slice zx0.tb.A L0a.tb.length zx0.tb.c) ∧ w'.cell? ⟨E0, 5, none⟩ = some (.slice zx0.bu.A L0a.bu.length zx0.bu.c) ∧ w'.cell? ⟨E0, 6, none⟩ = some (.slice zx0.ow.A L0a.ow.length zx0.ow.c) ∧ w'.cell? ⟨E0, 7, none⟩ = some (.slice zx0.tu.A L0a.tu.length zx0.tu.c) ∧ w'.cell? ⟨E0, 8, none⟩ = some (.slice zx0.so.A L0a.so.length zx0.so.c) ∧ w'.cell? ⟨E0, 9, none⟩ = some (.slice zx0.ar.A L0a.ar.length zx0.ar.c) ∧ w'.cell? ⟨E0, 10, none⟩ = some (.int .i64 L0a.ti))
    (first | with_reducible exact KPc0.out _ (T7.out) | with_reducible exact KPc0.out _ (T7.out.dr) | with_reducible exact KPc0.out _ (T8.out) | with_reducible exact KPc0.out _ (T9.out) | fail)
    (first
      | (go_at_call 7; (with_reducible refine (lawsToNet _ _ _ (RDA0a.out _ (RS.out.trans T7.out.dr)) hnA0a).mono ?_); rintro e w8 ⟨zy0, rfl, oy0, by0⟩; have T8 : Hid (Chg 0 0 (w6.alloc (.cells #[.int .i64 R.W, .int .i64 R.H, .slice zg.br.A R.br.length zg.br.c, .slice zg.ta.A R.ta.length zg.ta.c, .slice zg.tb.A R.tb.length zg.tb.c, .slice zg.bu.A R.bu.length zg.bu.c, .slice zg.ow.A R.ow.length zg.ow.c, .slice zg.tu.A R.tu.length zg.tu.c, .slice zg.so.A R.so.length zg.so.c, .slice zg.ar.A R.ar.length zg.ar.c, .int .i64 R.ti] 45)) w8) := Lib.hid (T7.out.dr.bl by0); have F8 := Lib.hid (fix_net oy0); clear by0 oy0)
      | (go_at_call 10; (with_reducible refine (lawsEqNet _ _ L0a _ _ _ _ _ (Zfx0.out.nx T8.out).here F8.out.here (netSm_of hnA0a)).mono ?_); rintro e w9 ⟨rfl, hg⟩; have T9 : Hid (Chg 0 0 (w6.alloc (.cells #[.int .i64 R.W, .int .i64 R.H, .slice zg.br.A R.br.length zg.br.c, .slice zg.ta.A R.ta.length zg.ta.c, .slice zg.tb.A R.tb.length zg.tb.c, .slice zg.bu.A R.bu.length zg.bu.c, .slice zg.ow.A R.ow.length zg.ow.c, .slice zg.tu.A R.tu.length zg.tu.c, .slice zg.so.A R.so.length zg.so.c, .slice zg.ar.A R.ar.length zg.ar.c, .int .i64 R.ti] 45)) w9) := Lib.hid (T8.out.gb hg); clear hg)
      | fail)
  all_goals
    go_wp2_with fail
    refine (lawsToPktS _ _ _ _ _ (RDA1a.out _ (RS.out.trans T9.out)) hnA1a).mono ?_
    rintro e w10 ⟨gy1, rfl, oy1, by1⟩
    have T10 := Lib.hid (T9.out.bl by1)
    have F10 := Lib.hid (fix_row oy1)
    clear by1 oy1
    go_wp2_with fail
    refine (lawsEqOwnP _ _ _ _ L1a _ (Zfx1.out.nx T10.out).here F10.out.here (by omega)).mono ?_
    rintro e w11 ⟨rfl, hg⟩
    have T11 := Lib.hid (T10.out.gb hg)
    clear hg
    have M0 := Lib.hid (T11.out.mono (lo' := 0) (hi' := 0) (Nat.le_refl _) (Nat.le_refl _))
    have n0_0 : w11.cell? ⟨E0, 0, none⟩ = some (.int .i64 L0a.W) := (Zkx0.out.nx T11.out).cell 0
    have n0_1 : w11.cell? ⟨E0, 1, none⟩ = some (.int .i64 L0a.H) := (Zkx0.out.nx T11.out).cell 1
    have n0_2 : w11.cell? ⟨E0, 2, none⟩ = some (.slice zx0.br.A L0a.br.length zx0.br.c) := (Zkx0.out.nx T11.out).cell 2
    have n0_3 : w11.cell? ⟨E0, 3, none⟩ = some (.slice zx0.ta.A L0a.ta.length zx0.ta.c) := (Zkx0.out.nx T11.out).cell 3
    have n0_4 : w11.cell? ⟨E0, 4, none⟩ = some (.slice zx0.tb.A L0a.tb.length zx0.tb.c) := (Zkx0.out.nx T11.out).cell 4
    have n0_5 : w11.cell? ⟨E0, 5, none⟩ = some (.slice zx0.bu.A L0a.bu.length zx0.bu.c) := (Zkx0.out.nx T11.out).cell 5
    have n0_6 : w11.cell? ⟨E0, 6, none⟩ = some (.slice zx0.ow.A L0a.ow.length zx0.ow.c) := (Zkx0.out.nx T11.out).cell 6
    have n0_7 : w11.cell? ⟨E0, 7, none⟩ = some (.slice zx0.tu.A L0a.tu.length zx0.tu.c) := (Zkx0.out.nx T11.out).cell 7
    have n0_8 : w11.cell? ⟨E0, 8, none⟩ = some (.slice zx0.so.A L0a.so.length zx0.so.c) := (Zkx0.out.nx T11.out).cell 8
    have n0_9 : w11.cell? ⟨E0, 9, none⟩ = some (.slice zx0.ar.A L0a.ar.length zx0.ar.c) := (Zkx0.out.nx T11.out).cell 9
    have n0_10 : w11.cell? ⟨E0, 10, none⟩ = some (.int .i64 L0a.ti) := (Zkx0.out.nx T11.out).cell 10
    go_wp2_with fail
    refine (lawsMarkNet _ L0a _ _ 1 _ (Zfx0.out.nx T11.out).here (by have hm := markSz_le hnA0a; omega)).mono ?_
    rintro e w12 ⟨rfl, om0, ggm0⟩
    have M12 := Lib.hid (((chg_none_to T11.out : Chg B0 E0 (w6.alloc (.cells #[.int .i64 R.W, .int .i64 R.H, .slice zg.br.A R.br.length zg.br.c, .slice zg.ta.A R.ta.length zg.ta.c, .slice zg.tb.A R.tb.length zg.tb.c, .slice zg.bu.A R.bu.length zg.bu.c, .slice zg.ow.A R.ow.length zg.ow.c, .slice zg.tu.A R.tu.length zg.tu.c, .slice zg.so.A R.so.length zg.so.c, .slice zg.ar.A R.ar.length zg.ar.c, .int .i64 R.ti] 45)) w11)).trans (ggm0.mono (lo' := B0) (hi' := E0) (by have hn := Zhn.out; omega) (by have hn := Zhn.out; omega)))
    obtain ⟨k12, hk12⟩ : ∃ k : Nat, 1 + markSz L0a = k := ⟨_, rfl⟩
    rw [hk12]
    have hkb12 : k12 ≤ 10000000 := by have hm := markSz_le hnA0a; omega
    clear om0 ggm0 hk12 n0_0 n0_1 n0_2 n0_3 n0_4 n0_5 n0_6 n0_7 n0_8 n0_9 n0_10
    go_wp2_with fail
    refine (lawsMarkP _ _ L1a.length k12 L1a _ (Zfx1.out.chg M12.out (by have hn := Zhn.out; omega)).here (by omega)).mono ?_
    rintro e w13 ⟨rfl, om1, ggm1⟩
    have M13 := Lib.hid (((M12.out.mono (lo' := B0) (hi' := E1) (Nat.le_refl _) (by have hn := Zhn.out; omega))).row ggm1 (fun j hj => by have hx := Zhx1.out j hj; have hn := Zhn.out; omega))
    obtain ⟨k13, hk13⟩ : ∃ k : Nat, k12 + L1a.length * 5 = k := ⟨_, rfl⟩
    rw [hk13]
    have hkb13 : k13 ≤ 20000000 := by omega
    clear om1 ggm1 hk13
    have hk0 : ¬ (k13 : Int) < 0 := by omega
    have rg_0 : w13.cell? ⟨bg, 0, none⟩ = some (.int .i64 R.W) := (Zkg.out.chg M13.out (by have hn := Zhn.out; omega)).cell 0
    have rg_1 : w13.cell? ⟨bg, 1, none⟩ = some (.int .i64 R.H) := (Zkg.out.chg M13.out (by have hn := Zhn.out; omega)).cell 1
    have rg_2 : w13.cell? ⟨bg, 2, none⟩ = some (.slice zg.br.A R.br.length zg.br.c) := (Zkg.out.chg M13.out (by have hn := Zhn.out; omega)).cell 2
    have rg_3 : w13.cell? ⟨bg, 3, none⟩ = some (.slice zg.ta.A R.ta.length zg.ta.c) := (Zkg.out.chg M13.out (by have hn := Zhn.out; omega)).cell 3
    have rg_4 : w13.cell? ⟨bg, 4, none⟩ = some (.slice zg.tb.A R.tb.length zg.tb.c) := (Zkg.out.chg M13.out (by have hn := Zhn.out; omega)).cell 4
    have rg_5 : w13.cell? ⟨bg, 5, none⟩ = some (.slice zg.bu.A R.bu.length zg.bu.c) := (Zkg.out.chg M13.out (by have hn := Zhn.out; omega)).cell 5
    have rg_6 : w13.cell? ⟨bg, 6, none⟩ = some (.slice zg.ow.A R.ow.length zg.ow.c) := (Zkg.out.chg M13.out (by have hn := Zhn.out; omega)).cell 6
    have rg_7 : w13.cell? ⟨bg, 7, none⟩ = some (.slice zg.tu.A R.tu.length zg.tu.c) := (Zkg.out.chg M13.out (by have hn := Zhn.out; omega)).cell 7
    have rg_8 : w13.cell? ⟨bg, 8, none⟩ = some (.slice zg.so.A R.so.length zg.so.c) := (Zkg.out.chg M13.out (by have hn := Zhn.out; omega)).cell 8
    have rg_9 : w13.cell? ⟨bg, 9, none⟩ = some (.slice zg.ar.A R.ar.length zg.ar.c) := (Zkg.out.chg M13.out (by have hn := Zhn.out; omega)).cell 9
    have rg_10 : w13.cell? ⟨bg, 10, none⟩ = some (.int .i64 R.ti) := (Zkg.out.chg M13.out (by have hn := Zhn.out; omega)).cell 10
    have rw_0 : w13.cell? ⟨bv, 0, none⟩ = some (.int .i64 R.W) := (Zkw.out.chg M13.out (by have hn := Zhn.out; omega)).cell 0
    have rw_1 : w13.cell? ⟨bv, 1, none⟩ = some (.int .i64 R.H) := (Zkw.out.chg M13.out (by have hn := Zhn.out; omega)).cell 1
    have rw_2 : w13.cell? ⟨bv, 2, none⟩ = some (.slice zw.br.A R.br.length zw.br.c) := (Zkw.out.chg M13.out (by have hn := Zhn.out; omega)).cell 2
    have rw_3 : w13.cell? ⟨bv, 3, none⟩ = some (.slice zw.ta.A R.ta.length zw.ta.c) := (Zkw.out.chg M13.out (by have hn := Zhn.out; omega)).cell 3
    have rw_4 : w13.cell? ⟨bv, 4, none⟩ = some (.slice zw.tb.A R.tb.length zw.tb.c) := (Zkw.out.chg M13.out (by have hn := Zhn.out; omega)).cell 4
    have rw_5 : w13.cell? ⟨bv, 5, none⟩ = some (.slice zw.bu.A R.bu.length zw.bu.c) := (Zkw.out.chg M13.out (by have hn := Zhn.out; omega)).cell 5
    have rw_6 : w13.cell? ⟨bv, 6, none⟩ = some (.slice zw.ow.A R.ow.length zw.ow.c) := (Zkw.out.chg M13.out (by have hn := Zhn.out; omega)).cell 6
    have rw_7 : w13.cell? ⟨bv, 7, none⟩ = some (.slice zw.tu.A R.tu.length zw.tu.c) := (Zkw.out.chg M13.out (by have hn := Zhn.out; omega)).cell 7
    have rw_8 : w13.cell? ⟨bv, 8, none⟩ = some (.slice zw.so.A R.so.length zw.so.c) := (Zkw.out.chg M13.out (by have hn := Zhn.out; omega)).cell 8
    have rw_9 : w13.cell? ⟨bv, 9, none⟩ = some (.slice zw.ar.A R.ar.length zw.ar.c) := (Zkw.out.chg M13.out (by have hn := Zhn.out; omega)).cell 9
    have rw_10 : w13.cell? ⟨bv, 10, none⟩ = some (.int .i64 R.ti) := (Zkw.out.chg M13.out (by have hn := Zhn.out; omega)).cell 10
    go_wp2_with fail
    refine (lawsEqNet _ _ R _ _ _ _ _ (Zfg.out.chg M13.out (by have hn := Zhn.out; omega)).here (Zfw.out.chg M13.out (by have hn := Zhn.out; omega)).here HSR.out).mono ?_
    rintro e w14 ⟨rfl, hg⟩
    have M14 := Lib.hid (M13.out.gb hg)
    clear hg hk0 rg_0 rg_1 rg_2 rg_3 rg_4 rg_5 rg_6 rg_7 rg_8 rg_9 rg_10 rw_0 rw_1 rw_2 rw_3 rw_4 rw_5 rw_6 rw_7 rw_8 rw_9 rw_10
    have r_0 : w14.cell? ⟨bg, 0, none⟩ = some (.int .i64 R.W) := (Zkg.out.chg M14.out (by have hn := Zhn.out; omega)).cell 0
    have r_1 : w14.cell? ⟨bg, 1, none⟩ = some (.int .i64 R.H) := (Zkg.out.chg M14.out (by have hn := Zhn.out; omega)).cell 1
    have r_2 : w14.cell? ⟨bg, 2, none⟩ = some (.slice zg.br.A R.br.length zg.br.c) := (Zkg.out.chg M14.out (by have hn := Zhn.out; omega)).cell 2
    have r_3 : w14.cell? ⟨bg, 3, none⟩ = some (.slice zg.ta.A R.ta.length zg.ta.c) := (Zkg.out.chg M14.out (by have hn := Zhn.out; omega)).cell 3
    have r_4 : w14.cell? ⟨bg, 4, none⟩ = some (.slice zg.tb.A R.tb.length zg.tb.c) := (Zkg.out.chg M14.out (by have hn := Zhn.out; omega)).cell 4
    have r_5 : w14.cell? ⟨bg, 5, none⟩ = some (.slice zg.bu.A R.bu.length zg.bu.c) := (Zkg.out.chg M14.out (by have hn := Zhn.out; omega)).cell 5
    have r_6 : w14.cell? ⟨bg, 6, none⟩ = some (.slice zg.ow.A R.ow.length zg.ow.c) := (Zkg.out.chg M14.out (by have hn := Zhn.out; omega)).cell 6
    have r_7 : w14.cell? ⟨bg, 7, none⟩ = some (.slice zg.tu.A R.tu.length zg.tu.c) := (Zkg.out.chg M14.out (by have hn := Zhn.out; omega)).cell 7
    have r_8 : w14.cell? ⟨bg, 8, none⟩ = some (.slice zg.so.A R.so.length zg.so.c) := (Zkg.out.chg M14.out (by have hn := Zhn.out; omega)).cell 8
    have r_9 : w14.cell? ⟨bg, 9, none⟩ = some (.slice zg.ar.A R.ar.length zg.ar.c) := (Zkg.out.chg M14.out (by have hn := Zhn.out; omega)).cell 9
    have r_10 : w14.cell? ⟨bg, 10, none⟩ = some (.int .i64 R.ti) := (Zkg.out.chg M14.out (by have hn := Zhn.out; omega)).cell 10
    go_wp2_with fail
    refine (lawsMarkNet _ R _ _ 1 _ (Zfg.out.chg M14.out (by have hn := Zhn.out; omega)).here (by have hm := HMR.out; omega)).mono ?_
    rintro e w15 ⟨rfl, omg, ggmg⟩
    have MG := Lib.hid (((M14.out.mono (lo' := B0) (hi' := Eg) (Nat.le_refl _) (by have hn := Zhn.out; omega))).trans (ggmg.mono (lo' := B0) (hi' := Eg) (by have hn := Zhn.out; omega) (by have hn := Zhn.out; omega)))
    have KGm := Lib.hid ((Zkg.out.chg M14.out (by have hn := Zhn.out; omega)).chg ggmg (by have hn := Zhn.out; omega))
    obtain ⟨km, hkm⟩ : ∃ k : Nat, 1 + markSz R = k := ⟨_, rfl⟩
    rw [hkm]
    have hkb : km ≤ 100000000 := by have hm := HMR.out; omega
    have HKM := Lib.hid (hkm)
    have hkn : ¬ (km : Int) < 0 := by omega
    have FM := Lib.hid (fix_netE omg (Nat.le_trans Zfg.out.1 MG.out.size))
    clear omg ggmg hkm r_0 r_1 r_2 r_3 r_4 r_5 r_6 r_7 r_8 r_9 r_10
    have KE0m := Lib.hid ((KE0.out.nx RS.out).chg MG.out (by have hb := KE0.out.lt; have hn := Zhn.out; omega))
    have BEm := Lib.hid ((BE.out.trans (RS.out.below (.inr (Nat.le_refl _)) BE.out.size)).trans (MG.out.below (.inl (by have hb := GE.out.size; have hn := Zhn.out; omega)) (by have hb := BE.out.size; have hc := RS.out.size; omega)))
    have FWm := Lib.hid (Zfw.out.chg MG.out (by have hn := Zhn.out; omega))
    have KWm := Lib.hid (Zkw.out.chg MG.out (by have hn := Zhn.out; omega))
    have RDA0am := Lib.hid (fun (w' : World) (hq : Chg 0 0 w15 w') => HA0a.out.chg BEm.out hq (.inr (Nat.le_refl _)))
    have RDA1am := Lib.hid (fun (w' : World) (hq : Chg 0 0 w15 w') => HA1a.out.chg BEm.out hq (.inr (Nat.le_refl _)))
    have U0 := Lib.hid (Chg.refl 0 0 w15)
    have r_0 : w15.cell? ⟨bg, 0, none⟩ = some (.int .i64 R.W) := (KGm.out.nx (U0.out)).cell 0
    have r_1 : w15.cell? ⟨bg, 1, none⟩ = some (.int .i64 R.H) := (KGm.out.nx (U0.out)).cell 1
    have r_2 : w15.cell? ⟨bg, 2, none⟩ = some (.slice zg.br.A R.br.length zg.br.c) := (KGm.out.nx (U0.out)).cell 2
    have r_3 : w15.cell? ⟨bg, 3, none⟩ = some (.slice zg.ta.A R.ta.length zg.ta.c) := (KGm.out.nx (U0.out)).cell 3
    have r_4 : w15.cell? ⟨bg, 4, none⟩ = some (.slice zg.tb.A R.tb.length zg.tb.c) := (KGm.out.nx (U0.out)).cell 4
    have r_5 : w15.cell? ⟨bg, 5, none⟩ = some (.slice zg.bu.A R.bu.length zg.bu.c) := (KGm.out.nx (U0.out)).cell 5
    have r_6 : w15.cell? ⟨bg, 6, none⟩ = some (.slice zg.ow.A R.ow.length zg.ow.c) := (KGm.out.nx (U0.out)).cell 6
    have r_7 : w15.cell? ⟨bg, 7, none⟩ = some (.slice zg.tu.A R.tu.length zg.tu.c) := (KGm.out.nx (U0.out)).cell 7
    have r_8 : w15.cell? ⟨bg, 8, none⟩ = some (.slice zg.so.A R.so.length zg.so.c) := (KGm.out.nx (U0.out)).cell 8
    have r_9 : w15.cell? ⟨bg, 9, none⟩ = some (.slice zg.ar.A R.ar.length zg.ar.c) := (KGm.out.nx (U0.out)).cell 9
    have r_10 : w15.cell? ⟨bg, 10, none⟩ = some (.int .i64 R.ti) := (KGm.out.nx (U0.out)).cell 10
    go_wp2_with fail
    refine (lawsHeldNet _ R _ _ 1 _ (FM.out.nx (U0.out)).here HSR.out (by have hm := HMR.out; omega)).mono ?_
    rintro e w16 ⟨rfl, hg⟩
    rw [HKM.out]
    have U16 := Lib.hid ((U0.out).gb hg)
    clear hg r_0 r_1 r_2 r_3 r_4 r_5 r_6 r_7 r_8 r_9 r_10
    have a0_0 : w16.cell? ⟨w.heap.size, 0, none⟩ = some (.int .i64 L0a.W) := (KE0m.out.nx (U16.out)).cell 0
    have a0_1 : w16.cell? ⟨w.heap.size, 1, none⟩ = some (.int .i64 L0a.H) := (KE0m.out.nx (U16.out)).cell 1
    have a0_2 : w16.cell? ⟨w.heap.size, 2, none⟩ = some (.slice A0a.br.A L0a.br.length A0a.br.c) := (KE0m.out.nx (U16.out)).cell 2
    have a0_3 : w16.cell? ⟨w.heap.size, 3, none⟩ = some (.slice A0a.ta.A L0a.ta.length A0a.ta.c) := (KE0m.out.nx (U16.out)).cell 3
    have a0_4 : w16.cell? ⟨w.heap.size, 4, none⟩ = some (.slice A0a.tb.A L0a.tb.length A0a.tb.c) := (KE0m.out.nx (U16.out)).cell 4
    have a0_5 : w16.cell? ⟨w.heap.size, 5, none⟩ = some (.slice A0a.bu.A L0a.bu.length A0a.bu.c) := (KE0m.out.nx (U16.out)).cell 5
    have a0_6 : w16.cell? ⟨w.heap.size, 6, none⟩ = some (.slice A0a.ow.A L0a.ow.length A0a.ow.c) := (KE0m.out.nx (U16.out)).cell 6
    have a0_7 : w16.cell? ⟨w.heap.size, 7, none⟩ = some (.slice A0a.tu.A L0a.tu.length A0a.tu.c) := (KE0m.out.nx (U16.out)).cell 7
    have a0_8 : w16.cell? ⟨w.heap.size, 8, none⟩ = some (.slice A0a.so.A L0a.so.length A0a.so.c) := (KE0m.out.nx (U16.out)).cell 8
    have a0_9 : w16.cell? ⟨w.heap.size, 9, none⟩ = some (.slice A0a.ar.A L0a.ar.length A0a.ar.c) := (KE0m.out.nx (U16.out)).cell 9
    have a0_10 : w16.cell? ⟨w.heap.size, 10, none⟩ = some (.int .i64 L0a.ti) := (KE0m.out.nx (U16.out)).cell 10
    go_wp2_with fail
    refine (lawsToNet _ _ _ (RDA0am.out _ (U16.out)) hnA0a).mono ?_
    rintro e w17 ⟨zh0, rfl, oh0, bh0⟩
    have R17 : Hid (Chg 0 0 w15 w17) := Lib.hid ((U16.out).bl bh0)
    have Q17 := Lib.hid (chg_gb 0 0 (gb_of_below bh0 none))
    have F17 := Lib.hid (fix_net oh0)
    clear bh0 oh0 a0_0 a0_1 a0_2 a0_3 a0_4 a0_5 a0_6 a0_7 a0_8 a0_9 a0_10
    go_wp2_with fail
    refine (lawsToPktS _ _ _ _ _ (RDA1am.out _ (R17.out)) hnA1a).mono ?_
    rintro e w18 ⟨gh1, rfl, oh1, bh1⟩
    have R18 : Hid (Chg 0 0 w15 w18) := Lib.hid ((R17.out).bl bh1)
    have Q18 := Lib.hid (chg_gb 0 0 (gb_of_below bh1 none))
    have F18 := Lib.hid (fix_row oh1)
    clear bh1 oh1
    go_wp2_with fail
    refine (HIM.out _ _ _ _ _ (NetOwn.at ((F17.out.nx Q18.out).here) (Nat.le_refl _)) (recAt_own pktL (by decide) (F18.out.here) (Nat.le_refl _)) (netSm_of hnA0a) (by omega) (NetOwn.cap ((F17.out.nx Q18.out).here)) (own_cap (F18.out.here)).1).mono ?_
    rintro e w19 ⟨zh, rfl, oh, bh⟩
    have R19 : Hid (Chg 0 0 w15 w19) := Lib.hid ((R18.out).bl bh)
    have Q19 := Lib.hid (chg_gb 0 0 (gb_of_below bh none))
    have F19 := Lib.hid (fix_net oh)
    have HLh := Lib.hid (trivial)
    clear bh oh
    have KCh := Lib.hid (Blk.new w19 45 #[.int .i64 R.W, .int .i64 R.H, .slice zh.br.A R.br.length zh.br.c, .slice zh.ta.A R.ta.length zh.ta.c, .slice zh.tb.A R.tb.length zh.tb.c, .slice zh.bu.A R.bu.length zh.bu.c, .slice zh.ow.A R.ow.length zh.ow.c, .slice zh.tu.A R.tu.length zh.tu.c, .slice zh.so.A R.so.length zh.so.c, .slice zh.ar.A R.ar.length zh.ar.c, .int .i64 R.ti])
    have FCh := Lib.hid (F19.out.al (.cells #[.int .i64 R.W, .int .i64 R.H, .slice zh.br.A R.br.length zh.br.c, .slice zh.ta.A R.ta.length zh.ta.c, .slice zh.tb.A R.tb.length zh.tb.c, .slice zh.bu.A R.bu.length zh.bu.c, .slice zh.ow.A R.ow.length zh.ow.c, .slice zh.tu.A R.tu.length zh.tu.c, .slice zh.so.A R.so.length zh.so.c, .slice zh.ar.A R.ar.length zh.ar.c, .int .i64 R.ti] 45))
    have RCh := Lib.hid (R19.out.al (.cells #[.int .i64 R.W, .int .i64 R.H, .slice zh.br.A R.br.length zh.br.c, .slice zh.ta.A R.ta.length zh.ta.c, .slice zh.tb.A R.tb.length zh.tb.c, .slice zh.bu.A R.bu.length zh.bu.c, .slice zh.ow.A R.ow.length zh.ow.c, .slice zh.tu.A R.tu.length zh.tu.c, .slice zh.so.A R.so.length zh.so.c, .slice zh.ar.A R.ar.length zh.ar.c, .int .i64 R.ti] 45))
    have rh_0 : (w19.alloc (.cells #[.int .i64 R.W, .int .i64 R.H, .slice zh.br.A R.br.length zh.br.c, .slice zh.ta.A R.ta.length zh.ta.c, .slice zh.tb.A R.tb.length zh.tb.c, .slice zh.bu.A R.bu.length zh.bu.c, .slice zh.ow.A R.ow.length zh.ow.c, .slice zh.tu.A R.tu.length zh.tu.c, .slice zh.so.A R.so.length zh.so.c, .slice zh.ar.A R.ar.length zh.ar.c, .int .i64 R.ti] 45)).cell? ⟨w19.heap.size, 0, none⟩ = some (.int .i64 R.W) := KCh.out.cell 0
    have rh_1 : (w19.alloc (.cells #[.int .i64 R.W, .int .i64 R.H, .slice zh.br.A R.br.length zh.br.c, .slice zh.ta.A R.ta.length zh.ta.c, .slice zh.tb.A R.tb.length zh.tb.c, .slice zh.bu.A R.bu.length zh.bu.c, .slice zh.ow.A R.ow.length zh.ow.c, .slice zh.tu.A R.tu.length zh.tu.c, .slice zh.so.A R.so.length zh.so.c, .slice zh.ar.A R.ar.length zh.ar.c, .int .i64 R.ti] 45)).cell? ⟨w19.heap.size, 1, none⟩ = some (.int .i64 R.H) := KCh.out.cell 1
    have rh_2 : (w19.alloc (.cells #[.int .i64 R.W, .int .i64 R.H, .slice zh.br.A R.br.length zh.br.c, .slice zh.ta.A R.ta.length zh.ta.c, .slice zh.tb.A R.tb.length zh.tb.c, .slice zh.bu.A R.bu.length zh.bu.c, .slice zh.ow.A R.ow.length zh.ow.c, .slice zh.tu.A R.tu.length zh.tu.c, .slice zh.so.A R.so.length zh.so.c, .slice zh.ar.A R.ar.length zh.ar.c, .int .i64 R.ti] 45)).cell? ⟨w19.heap.size, 2, none⟩ = some (.slice zh.br.A R.br.length zh.br.c) := KCh.out.cell 2
    have rh_3 : (w19.alloc (.cells #[.int .i64 R.W, .int .i64 R.H, .slice zh.br.A R.br.length zh.br.c, .slice zh.ta.A R.ta.length zh.ta.c, .slice zh.tb.A R.tb.length zh.tb.c, .slice zh.bu.A R.bu.length zh.bu.c, .slice zh.ow.A R.ow.length zh.ow.c, .slice zh.tu.A R.tu.length zh.tu.c, .slice zh.so.A R.so.length zh.so.c, .slice zh.ar.A R.ar.length zh.ar.c, .int .i64 R.ti] 45)).cell? ⟨w19.heap.size, 3, none⟩ = some (.slice zh.ta.A R.ta.length zh.ta.c) := KCh.out.cell 3
    have rh_4 : (w19.alloc (.cells #[.int .i64 R.W, .int .i64 R.H, .slice zh.br.A R.br.length zh.br.c, .slice zh.ta.A R.ta.length zh.ta.c, .slice zh.tb.A R.tb.length zh.tb.c, .slice zh.bu.A R.bu.length zh.bu.c, .slice zh.ow.A R.ow.length zh.ow.c, .slice zh.tu.A R.tu.length zh.tu.c, .slice zh.so.A R.so.length zh.so.c, .slice zh.ar.A R.ar.length zh.ar.c, .int .i64 R.ti] 45)).cell? ⟨w19.heap.size, 4, none⟩ = some (.slice zh.tb.A R.tb.length zh.tb.c) := KCh.out.cell 4
    have rh_5 : (w19.alloc (.cells #[.int .i64 R.W, .int .i64 R.H, .slice zh.br.A R.br.length zh.br.c, .slice zh.ta.A R.ta.length zh.ta.c, .slice zh.tb.A R.tb.length zh.tb.c, .slice zh.bu.A R.bu.length zh.bu.c, .slice zh.ow.A R.ow.length zh.ow.c, .slice zh.tu.A R.tu.length zh.tu.c, .slice zh.so.A R.so.length zh.so.c, .slice zh.ar.A R.ar.length zh.ar.c, .int .i64 R.ti] 45)).cell? ⟨w19.heap.size, 5, none⟩ = some (.slice zh.bu.A R.bu.length zh.bu.c) := KCh.out.cell 5
    have rh_6 : (w19.alloc (.cells #[.int .i64 R.W, .int .i64 R.H, .slice zh.br.A R.br.length zh.br.c, .slice zh.ta.A R.ta.length zh.ta.c, .slice zh.tb.A R.tb.length zh.tb.c, .slice zh.bu.A R.bu.length zh.bu.c, .slice zh.ow.A R.ow.length zh.ow.c, .slice zh.tu.A R.tu.length zh.tu.c, .slice zh.so.A R.so.length zh.so.c, .slice zh.ar.A R.ar.length zh.ar.c, .int .i64 R.ti] 45)).cell? ⟨w19.heap.size, 6, none⟩ = some (.slice zh.ow.A R.ow.length zh.ow.c) := KCh.out.cell 6
    have rh_7 : (w19.alloc (.cells #[.int .i64 R.W, .int .i64 R.H, .slice zh.br.A R.br.length zh.br.c, .slice zh.ta.A R.ta.length zh.ta.c, .slice zh.tb.A R.tb.length zh.tb.c, .slice zh.bu.A R.bu.length zh.bu.c, .slice zh.ow.A R.ow.length zh.ow.c, .slice zh.tu.A R.tu.length zh.tu.c, .slice zh.so.A R.so.length zh.so.c, .slice zh.ar.A R.ar.length zh.ar.c, .int .i64 R.ti] 45)).cell? ⟨w19.heap.size, 7, none⟩ = some (.slice zh.tu.A R.tu.length zh.tu.c) := KCh.out.cell 7
    have rh_8 : (w19.alloc (.cells #[.int .i64 R.W, .int .i64 R.H, .slice zh.br.A R.br.length zh.br.c, .slice zh.ta.A R.ta.length zh.ta.c, .slice zh.tb.A R.tb.length zh.tb.c, .slice zh.bu.A R.bu.length zh.bu.c, .slice zh.ow.A R.ow.length zh.ow.c, .slice zh.tu.A R.tu.length zh.tu.c, .slice zh.so.A R.so.length zh.so.c, .slice zh.ar.A R.ar.length zh.ar.c, .int .i64 R.ti] 45)).cell? ⟨w19.heap.size, 8, none⟩ = some (.slice zh.so.A R.so.length zh.so.c) := KCh.out.cell 8
    have rh_9 : (w19.alloc (.cells #[.int .i64 R.W, .int .i64 R.H, .slice zh.br.A R.br.length zh.br.c, .slice zh.ta.A R.ta.length zh.ta.c, .slice zh.tb.A R.tb.length zh.tb.c, .slice zh.bu.A R.bu.length zh.bu.c, .slice zh.ow.A R.ow.length zh.ow.c, .slice zh.tu.A R.tu.length zh.tu.c, .slice zh.so.A R.so.length zh.so.c, .slice zh.ar.A R.ar.length zh.ar.c, .int .i64 R.ti] 45)).cell? ⟨w19.heap.size, 9, none⟩ = some (.slice zh.ar.A R.ar.length zh.ar.c) := KCh.out.cell 9
    have rh_10 : (w19.alloc (.cells #[.int .i64 R.W, .int .i64 R.H, .slice zh.br.A R.br.length zh.br.c, .slice zh.ta.A R.ta.length zh.ta.c, .slice zh.tb.A R.tb.length zh.tb.c, .slice zh.bu.A R.bu.length zh.bu.c, .slice zh.ow.A R.ow.length zh.ow.c, .slice zh.tu.A R.tu.length zh.tu.c, .slice zh.so.A R.so.length zh.so.c, .slice zh.ar.A R.ar.length zh.ar.c, .int .i64 R.ti] 45)).cell? ⟨w19.heap.size, 10, none⟩ = some (.int .i64 R.ti) := KCh.out.cell 10
    have rw_0 : (w19.alloc (.cells #[.int .i64 R.W, .int .i64 R.H, .slice zh.br.A R.br.length zh.br.c, .slice zh.ta.A R.ta.length zh.ta.c, .slice zh.tb.A R.tb.length zh.tb.c, .slice zh.bu.A R.bu.length zh.bu.c, .slice zh.ow.A R.ow.length zh.ow.c, .slice zh.tu.A R.tu.length zh.tu.c, .slice zh.so.A R.so.length zh.so.c, .slice zh.ar.A R.ar.length zh.ar.c, .int .i64 R.ti] 45)).cell? ⟨bv, 0, none⟩ = some (.int .i64 R.W) := (KWm.out.nx (RCh.out)).cell 0
    have rw_1 : (w19.alloc (.cells #[.int .i64 R.W, .int .i64 R.H, .slice zh.br.A R.br.length zh.br.c, .slice zh.ta.A R.ta.length zh.ta.c, .slice zh.tb.A R.tb.length zh.tb.c, .slice zh.bu.A R.bu.length zh.bu.c, .slice zh.ow.A R.ow.length zh.ow.c, .slice zh.tu.A R.tu.length zh.tu.c, .slice zh.so.A R.so.length zh.so.c, .slice zh.ar.A R.ar.length zh.ar.c, .int .i64 R.ti] 45)).cell? ⟨bv, 1, none⟩ = some (.int .i64 R.H) := (KWm.out.nx (RCh.out)).cell 1
    have rw_2 : (w19.alloc (.cells #[.int .i64 R.W, .int .i64 R.H, .slice zh.br.A R.br.length zh.br.c, .slice zh.ta.A R.ta.length zh.ta.c, .slice zh.tb.A R.tb.length zh.tb.c, .slice zh.bu.A R.bu.length zh.bu.c, .slice zh.ow.A R.ow.length zh.ow.c, .slice zh.tu.A R.tu.length zh.tu.c, .slice zh.so.A R.so.length zh.so.c, .slice zh.ar.A R.ar.length zh.ar.c, .int .i64 R.ti] 45)).cell? ⟨bv, 2, none⟩ = some (.slice zw.br.A R.br.length zw.br.c) := (KWm.out.nx (RCh.out)).cell 2
    have rw_3 : (w19.alloc (.cells #[.int .i64 R.W, .int .i64 R.H, .slice zh.br.A R.br.length zh.br.c, .slice zh.ta.A R.ta.length zh.ta.c, .slice zh.tb.A R.tb.length zh.tb.c, .slice zh.bu.A R.bu.length zh.bu.c, .slice zh.ow.A R.ow.length zh.ow.c, .slice zh.tu.A R.tu.length zh.tu.c, .slice zh.so.A R.so.length zh.so.c, .slice zh.ar.A R.ar.length zh.ar.c, .int .i64 R.ti] 45)).cell? ⟨bv, 3, none⟩ = some (.slice zw.ta.A R.ta.length zw.ta.c) := (KWm.out.nx (RCh.out)).cell 3
    have rw_4 : (w19.alloc (.cells #[.int .i64 R.W, .int .i64 R.H, .slice zh.br.A R.br.length zh.br.c, .slice zh.ta.A R.ta.length zh.ta.c, .slice zh.tb.A R.tb.length zh.tb.c, .slice zh.bu.A R.bu.length zh.bu.c, .slice zh.ow.A R.ow.length zh.ow.c, .slice zh.tu.A R.tu.length zh.tu.c, .slice zh.so.A R.so.length zh.so.c, .slice zh.ar.A R.ar.length zh.ar.c, .int .i64 R.ti] 45)).cell? ⟨bv, 4, none⟩ = some (.slice zw.tb.A R.tb.length zw.tb.c) := (KWm.out.nx (RCh.out)).cell 4
    have rw_5 : (w19.alloc (.cells #[.int .i64 R.W, .int .i64 R.H, .slice zh.br.A R.br.length zh.br.c, .slice zh.ta.A R.ta.length zh.ta.c, .slice zh.tb.A R.tb.length zh.tb.c, .slice zh.bu.A R.bu.length zh.bu.c, .slice zh.ow.A R.ow.length zh.ow.c, .slice zh.tu.A R.tu.length zh.tu.c, .slice zh.so.A R.so.length zh.so.c, .slice zh.ar.A R.ar.length zh.ar.c, .int .i64 R.ti] 45)).cell? ⟨bv, 5, none⟩ = some (.slice zw.bu.A R.bu.length zw.bu.c) := (KWm.out.nx (RCh.out)).cell 5
    have rw_6 : (w19.alloc (.cells #[.int .i64 R.W, .int .i64 R.H, .slice zh.br.A R.br.length zh.br.c, .slice zh.ta.A R.ta.length zh.ta.c, .slice zh.tb.A R.tb.length zh.tb.c, .slice zh.bu.A R.bu.length zh.bu.c, .slice zh.ow.A R.ow.length zh.ow.c, .slice zh.tu.A R.tu.length zh.tu.c, .slice zh.so.A R.so.length zh.so.c, .slice zh.ar.A R.ar.length zh.ar.c, .int .i64 R.ti] 45)).cell? ⟨bv, 6, none⟩ = some (.slice zw.ow.A R.ow.length zw.ow.c) := (KWm.out.nx (RCh.out)).cell 6
    have rw_7 : (w19.alloc (.cells #[.int .i64 R.W, .int .i64 R.H, .slice zh.br.A R.br.length zh.br.c, .slice zh.ta.A R.ta.length zh.ta.c, .slice zh.tb.A R.tb.length zh.tb.c, .slice zh.bu.A R.bu.length zh.bu.c, .slice zh.ow.A R.ow.length zh.ow.c, .slice zh.tu.A R.tu.length zh.tu.c, .slice zh.so.A R.so.length zh.so.c, .slice zh.ar.A R.ar.length zh.ar.c, .int .i64 R.ti] 45)).cell? ⟨bv, 7, none⟩ = some (.slice zw.tu.A R.tu.length zw.tu.c) := (KWm.out.nx (RCh.out)).cell 7
    have rw_8 : (w19.alloc (.cells #[.int .i64 R.W, .int .i64 R.H, .slice zh.br.A R.br.length zh.br.c, .slice zh.ta.A R.ta.length zh.ta.c, .slice zh.tb.A R.tb.length zh.tb.c, .slice zh.bu.A R.bu.length zh.bu.c, .slice zh.ow.A R.ow.length zh.ow.c, .slice zh.tu.A R.tu.length zh.tu.c, .slice zh.so.A R.so.length zh.so.c, .slice zh.ar.A R.ar.length zh.ar.c, .int .i64 R.ti] 45)).cell? ⟨bv, 8, none⟩ = some (.slice zw.so.A R.so.length zw.so.c) := (KWm.out.nx (RCh.out)).cell 8
    have rw_9 : (w19.alloc (.cells #[.int .i64 R.W, .int .i64 R.H, .slice zh.br.A R.br.length zh.br.c, .slice zh.ta.A R.ta.length zh.ta.c, .slice zh.tb.A R.tb.length zh.tb.c, .slice zh.bu.A R.bu.length zh.bu.c, .slice zh.ow.A R.ow.length zh.ow.c, .slice zh.tu.A R.tu.length zh.tu.c, .slice zh.so.A R.so.length zh.so.c, .slice zh.ar.A R.ar.length zh.ar.c, .int .i64 R.ti] 45)).cell? ⟨bv, 9, none⟩ = some (.slice zw.ar.A R.ar.length zw.ar.c) := (KWm.out.nx (RCh.out)).cell 9
    have rw_10 : (w19.alloc (.cells #[.int .i64 R.W, .int .i64 R.H, .slice zh.br.A R.br.length zh.br.c, .slice zh.ta.A R.ta.length zh.ta.c, .slice zh.tb.A R.tb.length zh.tb.c, .slice zh.bu.A R.bu.length zh.bu.c, .slice zh.ow.A R.ow.length zh.ow.c, .slice zh.tu.A R.tu.length zh.tu.c, .slice zh.so.A R.so.length zh.so.c, .slice zh.ar.A R.ar.length zh.ar.c, .int .i64 R.ti] 45)).cell? ⟨bv, 10, none⟩ = some (.int .i64 R.ti) := (KWm.out.nx (RCh.out)).cell 10
    go_wp2_with fail
    refine (lawsEqNet _ _ R _ _ _ _ _ FCh.out.here (FWm.out.nx (RCh.out)).here HSR.out).mono ?_
    rintro e w20 ⟨rfl, hg⟩
    have U20 := Lib.hid ((RCh.out).gb hg)
    clear hg rh_0 rh_1 rh_2 rh_3 rh_4 rh_5 rh_6 rh_7 rh_8 rh_9 rh_10 rw_0 rw_1 rw_2 rw_3 rw_4 rw_5 rw_6 rw_7 rw_8 rw_9 rw_10
    have r_0 : w20.cell? ⟨bg, 0, none⟩ = some (.int .i64 R.W) := (KGm.out.nx (U20.out)).cell 0
    have r_1 : w20.cell? ⟨bg, 1, none⟩ = some (.int .i64 R.H) := (KGm.out.nx (U20.out)).cell 1
    have r_2 : w20.cell? ⟨bg, 2, none⟩ = some (.slice zg.br.A R.br.length zg.br.c) := (KGm.out.nx (U20.out)).cell 2
    have r_3 : w20.cell? ⟨bg, 3, none⟩ = some (.slice zg.ta.A R.ta.length zg.ta.c) := (KGm.out.nx (U20.out)).cell 3
    have r_4 : w20.cell? ⟨bg, 4, none⟩ = some (.slice zg.tb.A R.tb.length zg.tb.c) := (KGm.out.nx (U20.out)).cell 4
    have r_5 : w20.cell? ⟨bg, 5, none⟩ = some (.slice zg.bu.A R.bu.length zg.bu.c) := (KGm.out.nx (U20.out)).cell 5
    have r_6 : w20.cell? ⟨bg, 6, none⟩ = some (.slice zg.ow.A R.ow.length zg.ow.c) := (KGm.out.nx (U20.out)).cell 6
    have r_7 : w20.cell? ⟨bg, 7, none⟩ = some (.slice zg.tu.A R.tu.length zg.tu.c) := (KGm.out.nx (U20.out)).cell 7
    have r_8 : w20.cell? ⟨bg, 8, none⟩ = some (.slice zg.so.A R.so.length zg.so.c) := (KGm.out.nx (U20.out)).cell 8
    have r_9 : w20.cell? ⟨bg, 9, none⟩ = some (.slice zg.ar.A R.ar.length zg.ar.c) := (KGm.out.nx (U20.out)).cell 9
    have r_10 : w20.cell? ⟨bg, 10, none⟩ = some (.int .i64 R.ti) := (KGm.out.nx (U20.out)).cell 10
    go_wp2_with fail
    refine (lawsHeldNet _ R _ _ 1 _ (FM.out.nx (U20.out)).here HSR.out (by have hm := HMR.out; omega)).mono ?_
    rintro e w21 ⟨rfl, hg⟩
    rw [HKM.out]
    have U21 := Lib.hid ((U20.out).gb hg)
    clear hg r_0 r_1 r_2 r_3 r_4 r_5 r_6 r_7 r_8 r_9 r_10
    go_wp2_with fail
    go_ret
    exact ⟨rfl, BEm.out.trans ((U21.out).below (.inr (Nat.le_refl _)) BEm.out.size)⟩
end Go.Proofs.YtfloekbmgjmhbaaGreat
end
