/- What is proved here: what the program's NetOk, FlitsInside and FlitsWaiting return, for all arguments; only new blocks are written; the program's new network, for all arguments; only new blocks are written; the program's numbers of the flits inside and of those that wait; nothing is written but new blocks; an append of a whole slice of records to a row of the call's own tells where the result lies; nothing of the program; a network whose one source is written anew: its row, and its place in the header; nothing of the program; the program's appending of flits to one source of a network that is the call's own, through a pointer; whether the model finds a node in a grid; only new blocks are written; what the model's PacketOk and FlitsOf return, for all arguments; only new blocks are written; what the program's PacketOk and FlitsOf return, for all arguments; only new blocks are written; the program's sending of one packet into a network that is the call's own and valid, through a pointer to it; what it means that a call yields a new network and a number; nothing of the program; the program's SendAll, for all arguments; only new blocks are written; the program's NumberPackets, for all arguments; only new blocks are written. -/
import Derived.Test.YtfloekbmgjmhbaaMC
section
namespace Go.Proofs.Ytfloekbmgjmhbaa
open Go.ChangeShapes Go.WideShapes Go.ChangeAt Go.RowKit
set_option linter.unusedVariables false
set_option maxRecDepth 20000

set_option maxHeartbeats 3200000 in
theorem implNetOk (y : Na) (N : Nt) (w : World) (h : NetIn w w.heap.size y N) (hn : NetSm N) (hc : NetCap y N) (hL : WfL N.br) :
    Calls Try.prog 11 #[.agg #[.int .i64 N.W, .int .i64 N.H, .slice y.br.A N.br.length y.br.c, .slice y.ta.A N.ta.length y.ta.c, .slice y.tb.A N.tb.length y.tb.c, .slice y.bu.A N.bu.length y.bu.c, .slice y.ow.A N.ow.length y.ow.c, .slice y.tu.A N.tu.length y.tu.c, .slice y.so.A N.so.length y.so.c, .slice y.ar.A N.ar.length y.ar.c, .int .i64 N.ti]] w (RetB (netOk N) w) := by
  have HI := Lib.hid h
  have X0 := Lib.hid (nkAt_start (w := w) (y := y) (N := N))
  have HC0 := Lib.hid (fun (b : Bool) (hb : clsOk N.W N.H N.br N.ta N.tb = b) w (h : NetIn w w.heap.size y N) => implClassesOkV N.W N.H y.br.A y.ta.A y.tb.A N.br.length y.br.c N.ta.length y.ta.c N.tb.length y.tb.c N.br N.ta N.tb hL b hb w h.br h.ta h.tb hn.br hn.ta hn.tb)
  have HC1 := Lib.hid (fun (b : Bool) (hb : sizesI N = b) w => implSizesV y N b hb w)
  have HC2 := Lib.hid (fun (b : Bool) (hb : bufsI N = b) w (h : NetIn w w.heap.size y N) => implBufsV y N b hb w h hn)
  have HC3 := Lib.hid (fun (b : Bool) (hb : srcsI N = b) w (h : NetIn w w.heap.size y N) => implSrcsV y N b hb w h hn)
  have HC4 := Lib.hid (fun (b : Bool) (hb : withL (-1) 4 N.ow = b) w h => implWithinV (-1) 4 y.ow.A N.ow.length y.ow.c N.ow b hb w h hn.ow)
  have HC5 := Lib.hid (fun (b : Bool) (hb : withL 0 9 N.tu = b) w h => implWithinV 0 9 y.tu.A N.tu.length y.tu.c N.tu b hb w h hn.tu)
  have HC6 := Lib.hid (fun (b : Bool) (hb : withL 0 1000000 [N.ti] = b) w => implWithin1 0 1000000 N.ti b ((withL_one _ _ _).symm.trans hb) w)
  have HNO := Lib.hid (netOk_no (N := N))
  clear h hc
  cases h0 : clsOk N.W N.H N.br N.ta N.tb with
  | false =>
    have C0 := Lib.hid (HC0.out false h0)
    have R := Lib.hid (HNO.out (by rw [h0]; simp))
    clear h0
    go_enter Try.func11, Try.ntmps11
    go_wp2_with fail
    refine (C0.out _ (X0.out.in HI.out)).mono ?_
    rintro e w1 ⟨rfl, g1⟩
    have X1 := Lib.hid (X0.out.gb g1)
    clear g1
    go_wp2_with fail
    go_ret
    exact ⟨ret_bool R.out, X1.out.g⟩
  | true =>
    have C0 := Lib.hid (HC0.out true h0)
    cases h1 : sizesI N with
    | false =>
      have C1 := Lib.hid (HC1.out false h1)
      have R := Lib.hid (HNO.out (by rw [h1]; simp))
      clear h0 h1
      go_enter Try.func11, Try.ntmps11
      go_wp2_with fail
      refine (C0.out _ (X0.out.in HI.out)).mono ?_
      rintro e w1 ⟨rfl, g1⟩
      have X1 := Lib.hid (X0.out.gb g1)
      clear g1
      have a0 : w1.cell? ⟨w.heap.size, 0, none⟩ = some (.int .i64 N.W) := X1.out.b.cell 0
      have a1 : w1.cell? ⟨w.heap.size, 1, none⟩ = some (.int .i64 N.H) := X1.out.b.cell 1
      have a2 : w1.cell? ⟨w.heap.size, 2, none⟩ = some (.slice y.br.A N.br.length y.br.c) := X1.out.b.cell 2
      have a3 : w1.cell? ⟨w.heap.size, 3, none⟩ = some (.slice y.ta.A N.ta.length y.ta.c) := X1.out.b.cell 3
      have a4 : w1.cell? ⟨w.heap.size, 4, none⟩ = some (.slice y.tb.A N.tb.length y.tb.c) := X1.out.b.cell 4
      have a5 : w1.cell? ⟨w.heap.size, 5, none⟩ = some (.slice y.bu.A N.bu.length y.bu.c) := X1.out.b.cell 5
      have a6 : w1.cell? ⟨w.heap.size, 6, none⟩ = some (.slice y.ow.A N.ow.length y.ow.c) := X1.out.b.cell 6
      have a7 : w1.cell? ⟨w.heap.size, 7, none⟩ = some (.slice y.tu.A N.tu.length y.tu.c) := X1.out.b.cell 7
      have a8 : w1.cell? ⟨w.heap.size, 8, none⟩ = some (.slice y.so.A N.so.length y.so.c) := X1.out.b.cell 8
      have a9 : w1.cell? ⟨w.heap.size, 9, none⟩ = some (.slice y.ar.A N.ar.length y.ar.c) := X1.out.b.cell 9
      have a10 : w1.cell? ⟨w.heap.size, 10, none⟩ = some (.int .i64 N.ti) := X1.out.b.cell 10
      go_wp2_with fail
      refine (C1.out _).mono ?_
      rintro e w2 ⟨rfl, g2⟩
      have X2 := Lib.hid (X1.out.gb g2)
      clear g2
      clear a0 a1 a2 a3 a4 a5 a6 a7 a8 a9 a10
      go_wp2_with fail
      go_ret
      exact ⟨ret_bool R.out, X2.out.g⟩
    | true =>
      have C1 := Lib.hid (HC1.out true h1)
      cases h2 : bufsI N with
      | false =>
        have C2 := Lib.hid (HC2.out false h2)
        have R := Lib.hid (HNO.out (by rw [h2]; simp))
        clear h0 h1 h2
        go_enter Try.func11, Try.ntmps11
        go_wp2_with fail
        refine (C0.out _ (X0.out.in HI.out)).mono ?_
        rintro e w1 ⟨rfl, g1⟩
        have X1 := Lib.hid (X0.out.gb g1)
        clear g1
        have a0 : w1.cell? ⟨w.heap.size, 0, none⟩ = some (.int .i64 N.W) := X1.out.b.cell 0
        have a1 : w1.cell? ⟨w.heap.size, 1, none⟩ = some (.int .i64 N.H) := X1.out.b.cell 1
        have a2 : w1.cell? ⟨w.heap.size, 2, none⟩ = some (.slice y.br.A N.br.length y.br.c) := X1.out.b.cell 2
        have a3 : w1.cell? ⟨w.heap.size, 3, none⟩ = some (.slice y.ta.A N.ta.length y.ta.c) := X1.out.b.cell 3
        have a4 : w1.cell? ⟨w.heap.size, 4, none⟩ = some (.slice y.tb.A N.tb.length y.tb.c) := X1.out.b.cell 4
        have a5 : w1.cell? ⟨w.heap.size, 5, none⟩ = some (.slice y.bu.A N.bu.length y.bu.c) := X1.out.b.cell 5
        have a6 : w1.cell? ⟨w.heap.size, 6, none⟩ = some (.slice y.ow.A N.ow.length y.ow.c) := X1.out.b.cell 6
        have a7 : w1.cell? ⟨w.heap.size, 7, none⟩ = some (.slice y.tu.A N.tu.length y.tu.c) := X1.out.b.cell 7
        have a8 : w1.cell? ⟨w.heap.size, 8, none⟩ = some (.slice y.so.A N.so.length y.so.c) := X1.out.b.cell 8
        have a9 : w1.cell? ⟨w.heap.size, 9, none⟩ = some (.slice y.ar.A N.ar.length y.ar.c) := X1.out.b.cell 9
        have a10 : w1.cell? ⟨w.heap.size, 10, none⟩ = some (.int .i64 N.ti) := X1.out.b.cell 10
        go_wp2_with fail
        refine (C1.out _).mono ?_
        rintro e w2 ⟨rfl, g2⟩
        have X2 := Lib.hid (X1.out.gb g2)
        clear g2
        clear a0 a1 a2 a3 a4 a5 a6 a7 a8 a9 a10
        have a0 : w2.cell? ⟨w.heap.size, 0, none⟩ = some (.int .i64 N.W) := X2.out.b.cell 0
        have a1 : w2.cell? ⟨w.heap.size, 1, none⟩ = some (.int .i64 N.H) := X2.out.b.cell 1
        have a2 : w2.cell? ⟨w.heap.size, 2, none⟩ = some (.slice y.br.A N.br.length y.br.c) := X2.out.b.cell 2
        have a3 : w2.cell? ⟨w.heap.size, 3, none⟩ = some (.slice y.ta.A N.ta.length y.ta.c) := X2.out.b.cell 3
        have a4 : w2.cell? ⟨w.heap.size, 4, none⟩ = some (.slice y.tb.A N.tb.length y.tb.c) := X2.out.b.cell 4
        have a5 : w2.cell? ⟨w.heap.size, 5, none⟩ = some (.slice y.bu.A N.bu.length y.bu.c) := X2.out.b.cell 5
        have a6 : w2.cell? ⟨w.heap.size, 6, none⟩ = some (.slice y.ow.A N.ow.length y.ow.c) := X2.out.b.cell 6
        have a7 : w2.cell? ⟨w.heap.size, 7, none⟩ = some (.slice y.tu.A N.tu.length y.tu.c) := X2.out.b.cell 7
        have a8 : w2.cell? ⟨w.heap.size, 8, none⟩ = some (.slice y.so.A N.so.length y.so.c) := X2.out.b.cell 8
        have a9 : w2.cell? ⟨w.heap.size, 9, none⟩ = some (.slice y.ar.A N.ar.length y.ar.c) := X2.out.b.cell 9
        have a10 : w2.cell? ⟨w.heap.size, 10, none⟩ = some (.int .i64 N.ti) := X2.out.b.cell 10
        go_wp2_with fail
        refine (C2.out _ (X2.out.in HI.out)).mono ?_
        rintro e w3 ⟨rfl, g3⟩
        have X3 := Lib.hid (X2.out.gb g3)
        clear g3
        clear a0 a1 a2 a3 a4 a5 a6 a7 a8 a9 a10
        go_wp2_with fail
        go_ret
        exact ⟨ret_bool R.out, X3.out.g⟩
      | true =>
        have C2 := Lib.hid (HC2.out true h2)
        cases h3 : srcsI N with
        | false =>
          have C3 := Lib.hid (HC3.out false h3)
          have R := Lib.hid (HNO.out (by rw [h3]; simp))
          clear h0 h1 h2 h3
          go_enter Try.func11, Try.ntmps11
          go_wp2_with fail
          refine (C0.out _ (X0.out.in HI.out)).mono ?_
          rintro e w1 ⟨rfl, g1⟩
          have X1 := Lib.hid (X0.out.gb g1)
          clear g1
          have a0 : w1.cell? ⟨w.heap.size, 0, none⟩ = some (.int .i64 N.W) := X1.out.b.cell 0
          have a1 : w1.cell? ⟨w.heap.size, 1, none⟩ = some (.int .i64 N.H) := X1.out.b.cell 1
          have a2 : w1.cell? ⟨w.heap.size, 2, none⟩ = some (.slice y.br.A N.br.length y.br.c) := X1.out.b.cell 2
          have a3 : w1.cell? ⟨w.heap.size, 3, none⟩ = some (.slice y.ta.A N.ta.length y.ta.c) := X1.out.b.cell 3
          have a4 : w1.cell? ⟨w.heap.size, 4, none⟩ = some (.slice y.tb.A N.tb.length y.tb.c) := X1.out.b.cell 4
          have a5 : w1.cell? ⟨w.heap.size, 5, none⟩ = some (.slice y.bu.A N.bu.length y.bu.c) := X1.out.b.cell 5
          have a6 : w1.cell? ⟨w.heap.size, 6, none⟩ = some (.slice y.ow.A N.ow.length y.ow.c) := X1.out.b.cell 6
          have a7 : w1.cell? ⟨w.heap.size, 7, none⟩ = some (.slice y.tu.A N.tu.length y.tu.c) := X1.out.b.cell 7
          have a8 : w1.cell? ⟨w.heap.size, 8, none⟩ = some (.slice y.so.A N.so.length y.so.c) := X1.out.b.cell 8
          have a9 : w1.cell? ⟨w.heap.size, 9, none⟩ = some (.slice y.ar.A N.ar.length y.ar.c) := X1.out.b.cell 9
          have a10 : w1.cell? ⟨w.heap.size, 10, none⟩ = some (.int .i64 N.ti) := X1.out.b.cell 10
          go_wp2_with fail
          refine (C1.out _).mono ?_
          rintro e w2 ⟨rfl, g2⟩
          have X2 := Lib.hid (X1.out.gb g2)
          clear g2
          clear a0 a1 a2 a3 a4 a5 a6 a7 a8 a9 a10
          have a0 : w2.cell? ⟨w.heap.size, 0, none⟩ = some (.int .i64 N.W) := X2.out.b.cell 0
          have a1 : w2.cell? ⟨w.heap.size, 1, none⟩ = some (.int .i64 N.H) := X2.out.b.cell 1
          have a2 : w2.cell? ⟨w.heap.size, 2, none⟩ = some (.slice y.br.A N.br.length y.br.c) := X2.out.b.cell 2
          have a3 : w2.cell? ⟨w.heap.size, 3, none⟩ = some (.slice y.ta.A N.ta.length y.ta.c) := X2.out.b.cell 3
          have a4 : w2.cell? ⟨w.heap.size, 4, none⟩ = some (.slice y.tb.A N.tb.length y.tb.c) := X2.out.b.cell 4
          have a5 : w2.cell? ⟨w.heap.size, 5, none⟩ = some (.slice y.bu.A N.bu.length y.bu.c) := X2.out.b.cell 5
          have a6 : w2.cell? ⟨w.heap.size, 6, none⟩ = some (.slice y.ow.A N.ow.length y.ow.c) := X2.out.b.cell 6
          have a7 : w2.cell? ⟨w.heap.size, 7, none⟩ = some (.slice y.tu.A N.tu.length y.tu.c) := X2.out.b.cell 7
          have a8 : w2.cell? ⟨w.heap.size, 8, none⟩ = some (.slice y.so.A N.so.length y.so.c) := X2.out.b.cell 8
          have a9 : w2.cell? ⟨w.heap.size, 9, none⟩ = some (.slice y.ar.A N.ar.length y.ar.c) := X2.out.b.cell 9
          have a10 : w2.cell? ⟨w.heap.size, 10, none⟩ = some (.int .i64 N.ti) := X2.out.b.cell 10
          go_wp2_with fail
          refine (C2.out _ (X2.out.in HI.out)).mono ?_
          rintro e w3 ⟨rfl, g3⟩
          have X3 := Lib.hid (X2.out.gb g3)
          clear g3
          clear a0 a1 a2 a3 a4 a5 a6 a7 a8 a9 a10
          have a0 : w3.cell? ⟨w.heap.size, 0, none⟩ = some (.int .i64 N.W) := X3.out.b.cell 0
          have a1 : w3.cell? ⟨w.heap.size, 1, none⟩ = some (.int .i64 N.H) := X3.out.b.cell 1
          have a2 : w3.cell? ⟨w.heap.size, 2, none⟩ = some (.slice y.br.A N.br.length y.br.c) := X3.out.b.cell 2
          have a3 : w3.cell? ⟨w.heap.size, 3, none⟩ = some (.slice y.ta.A N.ta.length y.ta.c) := X3.out.b.cell 3
          have a4 : w3.cell? ⟨w.heap.size, 4, none⟩ = some (.slice y.tb.A N.tb.length y.tb.c) := X3.out.b.cell 4
          have a5 : w3.cell? ⟨w.heap.size, 5, none⟩ = some (.slice y.bu.A N.bu.length y.bu.c) := X3.out.b.cell 5
          have a6 : w3.cell? ⟨w.heap.size, 6, none⟩ = some (.slice y.ow.A N.ow.length y.ow.c) := X3.out.b.cell 6
          have a7 : w3.cell? ⟨w.heap.size, 7, none⟩ = some (.slice y.tu.A N.tu.length y.tu.c) := X3.out.b.cell 7
          have a8 : w3.cell? ⟨w.heap.size, 8, none⟩ = some (.slice y.so.A N.so.length y.so.c) := X3.out.b.cell 8
          have a9 : w3.cell? ⟨w.heap.size, 9, none⟩ = some (.slice y.ar.A N.ar.length y.ar.c) := X3.out.b.cell 9
          have a10 : w3.cell? ⟨w.heap.size, 10, none⟩ = some (.int .i64 N.ti) := X3.out.b.cell 10
          go_wp2_with fail
          refine (C3.out _ (X3.out.in HI.out)).mono ?_
          rintro e w4 ⟨rfl, g4⟩
          have X4 := Lib.hid (X3.out.gb g4)
          clear g4
          clear a0 a1 a2 a3 a4 a5 a6 a7 a8 a9 a10
          go_wp2_with fail
          go_ret
          exact ⟨ret_bool R.out, X4.out.g⟩
        | true =>
          have C3 := Lib.hid (HC3.out true h3)
          cases h4 : withL (-1) 4 N.ow with
          | false =>
            have C4 := Lib.hid (HC4.out false h4)
            have R := Lib.hid (HNO.out (by rw [h4]; simp))
            clear h0 h1 h2 h3 h4
            go_enter Try.func11, Try.ntmps11
            go_wp2_with fail
            refine (C0.out _ (X0.out.in HI.out)).mono ?_
            rintro e w1 ⟨rfl, g1⟩
            have X1 := Lib.hid (X0.out.gb g1)
            clear g1
            have a0 : w1.cell? ⟨w.heap.size, 0, none⟩ = some (.int .i64 N.W) := X1.out.b.cell 0
            have a1 : w1.cell? ⟨w.heap.size, 1, none⟩ = some (.int .i64 N.H) := X1.out.b.cell 1
            have a2 : w1.cell? ⟨w.heap.size, 2, none⟩ = some (.slice y.br.A N.br.length y.br.c) := X1.out.b.cell 2
            have a3 : w1.cell? ⟨w.heap.size, 3, none⟩ = some (.slice y.ta.A N.ta.length y.ta.c) := X1.out.b.cell 3
            have a4 : w1.cell? ⟨w.heap.size, 4, none⟩ = some (.slice y.tb.A N.tb.length y.tb.c) := X1.out.b.cell 4
            have a5 : w1.cell? ⟨w.heap.size, 5, none⟩ = some (.slice y.bu.A N.bu.length y.bu.c) := X1.out.b.cell 5
            have a6 : w1.cell? ⟨w.heap.size, 6, none⟩ = some (.slice y.ow.A N.ow.length y.ow.c) := X1.out.b.cell 6
            have a7 : w1.cell? ⟨w.heap.size, 7, none⟩ = some (.slice y.tu.A N.tu.length y.tu.c) := X1.out.b.cell 7
            have a8 : w1.cell? ⟨w.heap.size, 8, none⟩ = some (.slice y.so.A N.so.length y.so.c) := X1.out.b.cell 8
            have a9 : w1.cell? ⟨w.heap.size, 9, none⟩ = some (.slice y.ar.A N.ar.length y.ar.c) := X1.out.b.cell 9
            have a10 : w1.cell? ⟨w.heap.size, 10, none⟩ = some (.int .i64 N.ti) := X1.out.b.cell 10
            go_wp2_with fail
            refine (C1.out _).mono ?_
            rintro e w2 ⟨rfl, g2⟩
            have X2 := Lib.hid (X1.out.gb g2)
            clear g2
            clear a0 a1 a2 a3 a4 a5 a6 a7 a8 a9 a10
            have a0 : w2.cell? ⟨w.heap.size, 0, none⟩ = some (.int .i64 N.W) := X2.out.b.cell 0
            have a1 : w2.cell? ⟨w.heap.size, 1, none⟩ = some (.int .i64 N.H) := X2.out.b.cell 1
            have a2 : w2.cell? ⟨w.heap.size, 2, none⟩ = some (.slice y.br.A N.br.length y.br.c) := X2.out.b.cell 2
            have a3 : w2.cell? ⟨w.heap.size, 3, none⟩ = some (.slice y.ta.A N.ta.length y.ta.c) := X2.out.b.cell 3
            have a4 : w2.cell? ⟨w.heap.size, 4, none⟩ = some (.slice y.tb.A N.tb.length y.tb.c) := X2.out.b.cell 4
            have a5 : w2.cell? ⟨w.heap.size, 5, none⟩ = some (.slice y.bu.A N.bu.length y.bu.c) := X2.out.b.cell 5
            have a6 : w2.cell? ⟨w.heap.size, 6, none⟩ = some (.slice y.ow.A N.ow.length y.ow.c) := X2.out.b.cell 6
            have a7 : w2.cell? ⟨w.heap.size, 7, none⟩ = some (.slice y.tu.A N.tu.length y.tu.c) := X2.out.b.cell 7
            have a8 : w2.cell? ⟨w.heap.size, 8, none⟩ = some (.slice y.so.A N.so.length y.so.c) := X2.out.b.cell 8
            have a9 : w2.cell? ⟨w.heap.size, 9, none⟩ = some (.slice y.ar.A N.ar.length y.ar.c) := X2.out.b.cell 9
            have a10 : w2.cell? ⟨w.heap.size, 10, none⟩ = some (.int .i64 N.ti) := X2.out.b.cell 10
            go_wp2_with fail
            refine (C2.out _ (X2.out.in HI.out)).mono ?_
            rintro e w3 ⟨rfl, g3⟩
            have X3 := Lib.hid (X2.out.gb g3)
            clear g3
            clear a0 a1 a2 a3 a4 a5 a6 a7 a8 a9 a10
            have a0 : w3.cell? ⟨w.heap.size, 0, none⟩ = some (.int .i64 N.W) := X3.out.b.cell 0
            have a1 : w3.cell? ⟨w.heap.size, 1, none⟩ = some (.int .i64 N.H) := X3.out.b.cell 1
            have a2 : w3.cell? ⟨w.heap.size, 2, none⟩ = some (.slice y.br.A N.br.length y.br.c) := X3.out.b.cell 2
            have a3 : w3.cell? ⟨w.heap.size, 3, none⟩ = some (.slice y.ta.A N.ta.length y.ta.c) := X3.out.b.cell 3
            have a4 : w3.cell? ⟨w.heap.size, 4, none⟩ = some (.slice y.tb.A N.tb.length y.tb.c) := X3.out.b.cell 4
            have a5 : w3.cell? ⟨w.heap.size, 5, none⟩ = some (.slice y.bu.A N.bu.length y.bu.c) := X3.out.b.cell 5
            have a6 : w3.cell? ⟨w.heap.size, 6, none⟩ = some (.slice y.ow.A N.ow.length y.ow.c) := X3.out.b.cell 6
            have a7 : w3.cell? ⟨w.heap.size, 7, none⟩ = some (.slice y.tu.A N.tu.length y.tu.c) := X3.out.b.cell 7
            have a8 : w3.cell? ⟨w.heap.size, 8, none⟩ = some (.slice y.so.A N.so.length y.so.c) := X3.out.b.cell 8
            have a9 : w3.cell? ⟨w.heap.size, 9, none⟩ = some (.slice y.ar.A N.ar.length y.ar.c) := X3.out.b.cell 9
            have a10 : w3.cell? ⟨w.heap.size, 10, none⟩ = some (.int .i64 N.ti) := X3.out.b.cell 10
            go_wp2_with fail
            refine (C3.out _ (X3.out.in HI.out)).mono ?_
            rintro e w4 ⟨rfl, g4⟩
            have X4 := Lib.hid (X3.out.gb g4)
            clear g4
            clear a0 a1 a2 a3 a4 a5 a6 a7 a8 a9 a10
            have a0 : w4.cell? ⟨w.heap.size, 0, none⟩ = some (.int .i64 N.W) := X4.out.b.cell 0
            have a1 : w4.cell? ⟨w.heap.size, 1, none⟩ = some (.int .i64 N.H) := X4.out.b.cell 1
            have a2 : w4.cell? ⟨w.heap.size, 2, none⟩ = some (.slice y.br.A N.br.length y.br.c) := X4.out.b.cell 2
            have a3 : w4.cell? ⟨w.heap.size, 3, none⟩ = some (.slice y.ta.A N.ta.length y.ta.c) := X4.out.b.cell 3
            have a4 : w4.cell? ⟨w.heap.size, 4, none⟩ = some (.slice y.tb.A N.tb.length y.tb.c) := X4.out.b.cell 4
            have a5 : w4.cell? ⟨w.heap.size, 5, none⟩ = some (.slice y.bu.A N.bu.length y.bu.c) := X4.out.b.cell 5
            have a6 : w4.cell? ⟨w.heap.size, 6, none⟩ = some (.slice y.ow.A N.ow.length y.ow.c) := X4.out.b.cell 6
            have a7 : w4.cell? ⟨w.heap.size, 7, none⟩ = some (.slice y.tu.A N.tu.length y.tu.c) := X4.out.b.cell 7
            have a8 : w4.cell? ⟨w.heap.size, 8, none⟩ = some (.slice y.so.A N.so.length y.so.c) := X4.out.b.cell 8
            have a9 : w4.cell? ⟨w.heap.size, 9, none⟩ = some (.slice y.ar.A N.ar.length y.ar.c) := X4.out.b.cell 9
            have a10 : w4.cell? ⟨w.heap.size, 10, none⟩ = some (.int .i64 N.ti) := X4.out.b.cell 10
            go_wp2_with fail
            refine (C4.out _ (X4.out.in HI.out).ow).mono ?_
            rintro e w5 ⟨rfl, g5⟩
            have X5 := Lib.hid (X4.out.gb g5)
            clear g5
            clear a0 a1 a2 a3 a4 a5 a6 a7 a8 a9 a10
            go_wp2_with fail
            go_ret
            exact ⟨ret_bool R.out, X5.out.g⟩
          | true =>
            have C4 := Lib.hid (HC4.out true h4)
            cases h5 : withL 0 9 N.tu with
            | false =>
              have C5 := Lib.hid (HC5.out false h5)
              have R := Lib.hid (HNO.out (by rw [h5]; simp))
              clear h0 h1 h2 h3 h4 h5
              go_enter Try.func11, Try.ntmps11
              go_wp2_with fail
              refine (C0.out _ (X0.out.in HI.out)).mono ?_
              rintro e w1 ⟨rfl, g1⟩
              have X1 := Lib.hid (X0.out.gb g1)
              clear g1
              have a0 : w1.cell? ⟨w.heap.size, 0, none⟩ = some (.int .i64 N.W) := X1.out.b.cell 0
              have a1 : w1.cell? ⟨w.heap.size, 1, none⟩ = some (.int .i64 N.H) := X1.out.b.cell 1
              have a2 : w1.cell? ⟨w.heap.size, 2, none⟩ = some (.slice y.br.A N.br.length y.br.c) := X1.out.b.cell 2
              have a3 : w1.cell? ⟨w.heap.size, 3, none⟩ = some (.slice y.ta.A N.ta.length y.ta.c) := X1.out.b.cell 3
              have a4 : w1.cell? ⟨w.heap.size, 4, none⟩ = some (.slice y.tb.A N.tb.length y.tb.c) := X1.out.b.cell 4
              have a5 : w1.cell? ⟨w.heap.size, 5, none⟩ = some (.slice y.bu.A N.bu.length y.bu.c) := X1.out.b.cell 5
              have a6 : w1.cell? ⟨w.heap.size, 6, none⟩ = some (.slice y.ow.A N.ow.length y.ow.c) := X1.out.b.cell 6
              have a7 : w1.cell? ⟨w.heap.size, 7, none⟩ = some (.slice y.tu.A N.tu.length y.tu.c) := X1.out.b.cell 7
              have a8 : w1.cell? ⟨w.heap.size, 8, none⟩ = some (.slice y.so.A N.so.length y.so.c) := X1.out.b.cell 8
              have a9 : w1.cell? ⟨w.heap.size, 9, none⟩ = some (.slice y.ar.A N.ar.length y.ar.c) := X1.out.b.cell 9
              have a10 : w1.cell? ⟨w.heap.size, 10, none⟩ = some (.int .i64 N.ti) := X1.out.b.cell 10
              go_wp2_with fail
              refine (C1.out _).mono ?_
              rintro e w2 ⟨rfl, g2⟩
              have X2 := Lib.hid (X1.out.gb g2)
              clear g2
              clear a0 a1 a2 a3 a4 a5 a6 a7 a8 a9 a10
              have a0 : w2.cell? ⟨w.heap.size, 0, none⟩ = some (.int .i64 N.W) := X2.out.b.cell 0
              have a1 : w2.cell? ⟨w.heap.size, 1, none⟩ = some (.int .i64 N.H) := X2.out.b.cell 1
              have a2 : w2.cell? ⟨w.heap.size, 2, none⟩ = some (.slice y.br.A N.br.length y.br.c) := X2.out.b.cell 2
              have a3 : w2.cell? ⟨w.heap.size, 3, none⟩ = some (.slice y.ta.A N.ta.length y.ta.c) := X2.out.b.cell 3
              have a4 : w2.cell? ⟨w.heap.size, 4, none⟩ = some (.slice y.tb.A N.tb.length y.tb.c) := X2.out.b.cell 4
              have a5 : w2.cell? ⟨w.heap.size, 5, none⟩ = some (.slice y.bu.A N.bu.length y.bu.c) := X2.out.b.cell 5
              have a6 : w2.cell? ⟨w.heap.size, 6, none⟩ = some (.slice y.ow.A N.ow.length y.ow.c) := X2.out.b.cell 6
              have a7 : w2.cell? ⟨w.heap.size, 7, none⟩ = some (.slice y.tu.A N.tu.length y.tu.c) := X2.out.b.cell 7
              have a8 : w2.cell? ⟨w.heap.size, 8, none⟩ = some (.slice y.so.A N.so.length y.so.c) := X2.out.b.cell 8
              have a9 : w2.cell? ⟨w.heap.size, 9, none⟩ = some (.slice y.ar.A N.ar.length y.ar.c) := X2.out.b.cell 9
              have a10 : w2.cell? ⟨w.heap.size, 10, none⟩ = some (.int .i64 N.ti) := X2.out.b.cell 10
              go_wp2_with fail
              refine (C2.out _ (X2.out.in HI.out)).mono ?_
              rintro e w3 ⟨rfl, g3⟩
              have X3 := Lib.hid (X2.out.gb g3)
              clear g3
              clear a0 a1 a2 a3 a4 a5 a6 a7 a8 a9 a10
              have a0 : w3.cell? ⟨w.heap.size, 0, none⟩ = some (.int .i64 N.W) := X3.out.b.cell 0
              have a1 : w3.cell? ⟨w.heap.size, 1, none⟩ = some (.int .i64 N.H) := X3.out.b.cell 1
              have a2 : w3.cell? ⟨w.heap.size, 2, none⟩ = some (.slice y.br.A N.br.length y.br.c) := X3.out.b.cell 2
              have a3 : w3.cell? ⟨w.heap.size, 3, none⟩ = some (.slice y.ta.A N.ta.length y.ta.c) := X3.out.b.cell 3
              have a4 : w3.cell? ⟨w.heap.size, 4, none⟩ = some (.slice y.tb.A N.tb.length y.tb.c) := X3.out.b.cell 4
              have a5 : w3.cell? ⟨w.heap.size, 5, none⟩ = some (.slice y.bu.A N.bu.length y.bu.c) := X3.out.b.cell 5
              have a6 : w3.cell? ⟨w.heap.size, 6, none⟩ = some (.slice y.ow.A N.ow.length y.ow.c) := X3.out.b.cell 6
              have a7 : w3.cell? ⟨w.heap.size, 7, none⟩ = some (.slice y.tu.A N.tu.length y.tu.c) := X3.out.b.cell 7
              have a8 : w3.cell? ⟨w.heap.size, 8, none⟩ = some (.slice y.so.A N.so.length y.so.c) := X3.out.b.cell 8
              have a9 : w3.cell? ⟨w.heap.size, 9, none⟩ = some (.slice y.ar.A N.ar.length y.ar.c) := X3.out.b.cell 9
              have a10 : w3.cell? ⟨w.heap.size, 10, none⟩ = some (.int .i64 N.ti) := X3.out.b.cell 10
              go_wp2_with fail
              refine (C3.out _ (X3.out.in HI.out)).mono ?_
              rintro e w4 ⟨rfl, g4⟩
              have X4 := Lib.hid (X3.out.gb g4)
              clear g4
              clear a0 a1 a2 a3 a4 a5 a6 a7 a8 a9 a10
              have a0 : w4.cell? ⟨w.heap.size, 0, none⟩ = some (.int .i64 N.W) := X4.out.b.cell 0
              have a1 : w4.cell? ⟨w.heap.size, 1, none⟩ = some (.int .i64 N.H) := X4.out.b.cell 1
              have a2 : w4.cell? ⟨w.heap.size, 2, none⟩ = some (.slice y.br.A N.br.length y.br.c) := X4.out.b.cell 2
              have a3 : w4.cell? ⟨w.heap.size, 3, none⟩ = some (.slice y.ta.A N.ta.length y.ta.c) := X4.out.b.cell 3
              have a4 : w4.cell? ⟨w.heap.size, 4, none⟩ = some (.slice y.tb.A N.tb.length y.tb.c) := X4.out.b.cell 4
              have a5 : w4.cell? ⟨w.heap.size, 5, none⟩ = some (.slice y.bu.A N.bu.length y.bu.c) := X4.out.b.cell 5
              have a6 : w4.cell? ⟨w.heap.size, 6, none⟩ = some (.slice y.ow.A N.ow.length y.ow.c) := X4.out.b.cell 6
              have a7 : w4.cell? ⟨w.heap.size, 7, none⟩ = some (.slice y.tu.A N.tu.length y.tu.c) := X4.out.b.cell 7
              have a8 : w4.cell? ⟨w.heap.size, 8, none⟩ = some (.slice y.so.A N.so.length y.so.c) := X4.out.b.cell 8
              have a9 : w4.cell? ⟨w.heap.size, 9, none⟩ = some (.slice y.ar.A N.ar.length y.ar.c) := X4.out.b.cell 9
              have a10 : w4.cell? ⟨w.heap.size, 10, none⟩ = some (.int .i64 N.ti) := X4.out.b.cell 10
              go_wp2_with fail
              refine (C4.out _ (X4.out.in HI.out).ow).mono ?_
              rintro e w5 ⟨rfl, g5⟩
              have X5 := Lib.hid (X4.out.gb g5)
              clear g5
              clear a0 a1 a2 a3 a4 a5 a6 a7 a8 a9 a10
              have a0 : w5.cell? ⟨w.heap.size, 0, none⟩ = some (.int .i64 N.W) := X5.out.b.cell 0
              have a1 : w5.cell? ⟨w.heap.size, 1, none⟩ = some (.int .i64 N.H) := X5.out.b.cell 1
              have a2 : w5.cell? ⟨w.heap.size, 2, none⟩ = some (.slice y.br.A N.br.length y.br.c) := X5.out.b.cell 2
              have a3 : w5.cell? ⟨w.heap.size, 3, none⟩ = some (.slice y.ta.A N.ta.length y.ta.c) := X5.out.b.cell 3
              have a4 : w5.cell? ⟨w.heap.size, 4, none⟩ = some (.slice y.tb.A N.tb.length y.tb.c) := X5.out.b.cell 4
              have a5 : w5.cell? ⟨w.heap.size, 5, none⟩ = some (.slice y.bu.A N.bu.length y.bu.c) := X5.out.b.cell 5
              have a6 : w5.cell? ⟨w.heap.size, 6, none⟩ = some (.slice y.ow.A N.ow.length y.ow.c) := X5.out.b.cell 6
              have a7 : w5.cell? ⟨w.heap.size, 7, none⟩ = some (.slice y.tu.A N.tu.length y.tu.c) := X5.out.b.cell 7
              have a8 : w5.cell? ⟨w.heap.size, 8, none⟩ = some (.slice y.so.A N.so.length y.so.c) := X5.out.b.cell 8
              have a9 : w5.cell? ⟨w.heap.size, 9, none⟩ = some (.slice y.ar.A N.ar.length y.ar.c) := X5.out.b.cell 9
              have a10 : w5.cell? ⟨w.heap.size, 10, none⟩ = some (.int .i64 N.ti) := X5.out.b.cell 10
              go_wp2_with fail
              refine (C5.out _ (X5.out.in HI.out).tu).mono ?_
              rintro e w6 ⟨rfl, g6⟩
              have X6 := Lib.hid (X5.out.gb g6)
              clear g6
              clear a0 a1 a2 a3 a4 a5 a6 a7 a8 a9 a10
              go_wp2_with fail
              go_ret
              exact ⟨ret_bool R.out, X6.out.g⟩
            | true =>
              have C5 := Lib.hid (HC5.out true h5)
              cases h6 : withL 0 1000000 [N.ti] with
              | false =>
                have C6 := Lib.hid (HC6.out false h6)
                have R := Lib.hid (HNO.out (by rw [h6]; simp))
                clear h0 h1 h2 h3 h4 h5 h6
                go_enter Try.func11, Try.ntmps11
                go_wp2_with fail
                refine (C0.out _ (X0.out.in HI.out)).mono ?_
                rintro e w1 ⟨rfl, g1⟩
                have X1 := Lib.hid (X0.out.gb g1)
                clear g1
                have a0 : w1.cell? ⟨w.heap.size, 0, none⟩ = some (.int .i64 N.W) := X1.out.b.cell 0
                have a1 : w1.cell? ⟨w.heap.size, 1, none⟩ = some (.int .i64 N.H) := X1.out.b.cell 1
                have a2 : w1.cell? ⟨w.heap.size, 2, none⟩ = some (.slice y.br.A N.br.length y.br.c) := X1.out.b.cell 2
                have a3 : w1.cell? ⟨w.heap.size, 3, none⟩ = some (.slice y.ta.A N.ta.length y.ta.c) := X1.out.b.cell 3
                have a4 : w1.cell? ⟨w.heap.size, 4, none⟩ = some (.slice y.tb.A N.tb.length y.tb.c) := X1.out.b.cell 4
                have a5 : w1.cell? ⟨w.heap.size, 5, none⟩ = some (.slice y.bu.A N.bu.length y.bu.c) := X1.out.b.cell 5
                have a6 : w1.cell? ⟨w.heap.size, 6, none⟩ = some (.slice y.ow.A N.ow.length y.ow.c) := X1.out.b.cell 6
                have a7 : w1.cell? ⟨w.heap.size, 7, none⟩ = some (.slice y.tu.A N.tu.length y.tu.c) := X1.out.b.cell 7
                have a8 : w1.cell? ⟨w.heap.size, 8, none⟩ = some (.slice y.so.A N.so.length y.so.c) := X1.out.b.cell 8
                have a9 : w1.cell? ⟨w.heap.size, 9, none⟩ = some (.slice y.ar.A N.ar.length y.ar.c) := X1.out.b.cell 9
                have a10 : w1.cell? ⟨w.heap.size, 10, none⟩ = some (.int .i64 N.ti) := X1.out.b.cell 10
                go_wp2_with fail
                refine (C1.out _).mono ?_
                rintro e w2 ⟨rfl, g2⟩
                have X2 := Lib.hid (X1.out.gb g2)
                clear g2
                clear a0 a1 a2 a3 a4 a5 a6 a7 a8 a9 a10
                have a0 : w2.cell? ⟨w.heap.size, 0, none⟩ = some (.int .i64 N.W) := X2.out.b.cell 0
                have a1 : w2.cell? ⟨w.heap.size, 1, none⟩ = some (.int .i64 N.H) := X2.out.b.cell 1
                have a2 : w2.cell? ⟨w.heap.size, 2, none⟩ = some (.slice y.br.A N.br.length y.br.c) := X2.out.b.cell 2
                have a3 : w2.cell? ⟨w.heap.size, 3, none⟩ = some (.slice y.ta.A N.ta.length y.ta.c) := X2.out.b.cell 3
                have a4 : w2.cell? ⟨w.heap.size, 4, none⟩ = some (.slice y.tb.A N.tb.length y.tb.c) := X2.out.b.cell 4
                have a5 : w2.cell? ⟨w.heap.size, 5, none⟩ = some (.slice y.bu.A N.bu.length y.bu.c) := X2.out.b.cell 5
                have a6 : w2.cell? ⟨w.heap.size, 6, none⟩ = some (.slice y.ow.A N.ow.length y.ow.c) := X2.out.b.cell 6
                have a7 : w2.cell? ⟨w.heap.size, 7, none⟩ = some (.slice y.tu.A N.tu.length y.tu.c) := X2.out.b.cell 7
                have a8 : w2.cell? ⟨w.heap.size, 8, none⟩ = some (.slice y.so.A N.so.length y.so.c) := X2.out.b.cell 8
                have a9 : w2.cell? ⟨w.heap.size, 9, none⟩ = some (.slice y.ar.A N.ar.length y.ar.c) := X2.out.b.cell 9
                have a10 : w2.cell? ⟨w.heap.size, 10, none⟩ = some (.int .i64 N.ti) := X2.out.b.cell 10
                go_wp2_with fail
                refine (C2.out _ (X2.out.in HI.out)).mono ?_
                rintro e w3 ⟨rfl, g3⟩
                have X3 := Lib.hid (X2.out.gb g3)
                clear g3
                clear a0 a1 a2 a3 a4 a5 a6 a7 a8 a9 a10
                have a0 : w3.cell? ⟨w.heap.size, 0, none⟩ = some (.int .i64 N.W) := X3.out.b.cell 0
                have a1 : w3.cell? ⟨w.heap.size, 1, none⟩ = some (.int .i64 N.H) := X3.out.b.cell 1
                have a2 : w3.cell? ⟨w.heap.size, 2, none⟩ = some (.slice y.br.A N.br.length y.br.c) := X3.out.b.cell 2
                have a3 : w3.cell? ⟨w.heap.size, 3, none⟩ = some (.slice y.ta.A N.ta.length y.ta.c) := X3.out.b.cell 3
                have a4 : w3.cell? ⟨w.heap.size, 4, none⟩ = some (.slice y.tb.A N.tb.length y.tb.c) := X3.out.b.cell 4
                have a5 : w3.cell? ⟨w.heap.size, 5, none⟩ = some (.slice y.bu.A N.bu.length y.bu.c) := X3.out.b.cell 5
                have a6 : w3.cell? ⟨w.heap.size, 6, none⟩ = some (.slice y.ow.A N.ow.length y.ow.c) := X3.out.b.cell 6
                have a7 : w3.cell? ⟨w.heap.size, 7, none⟩ = some (.slice y.tu.A N.tu.length y.tu.c) := X3.out.b.cell 7
                have a8 : w3.cell? ⟨w.heap.size, 8, none⟩ = some (.slice y.so.A N.so.length y.so.c) := X3.out.b.cell 8
                have a9 : w3.cell? ⟨w.heap.size, 9, none⟩ = some (.slice y.ar.A N.ar.length y.ar.c) := X3.out.b.cell 9
                have a10 : w3.cell? ⟨w.heap.size, 10, none⟩ = some (.int .i64 N.ti) := X3.out.b.cell 10
                go_wp2_with fail
                refine (C3.out _ (X3.out.in HI.out)).mono ?_
                rintro e w4 ⟨rfl, g4⟩
                have X4 := Lib.hid (X3.out.gb g4)
                clear g4
                clear a0 a1 a2 a3 a4 a5 a6 a7 a8 a9 a10
                have a0 : w4.cell? ⟨w.heap.size, 0, none⟩ = some (.int .i64 N.W) := X4.out.b.cell 0
                have a1 : w4.cell? ⟨w.heap.size, 1, none⟩ = some (.int .i64 N.H) := X4.out.b.cell 1
                have a2 : w4.cell? ⟨w.heap.size, 2, none⟩ = some (.slice y.br.A N.br.length y.br.c) := X4.out.b.cell 2
                have a3 : w4.cell? ⟨w.heap.size, 3, none⟩ = some (.slice y.ta.A N.ta.length y.ta.c) := X4.out.b.cell 3
                have a4 : w4.cell? ⟨w.heap.size, 4, none⟩ = some (.slice y.tb.A N.tb.length y.tb.c) := X4.out.b.cell 4
                have a5 : w4.cell? ⟨w.heap.size, 5, none⟩ = some (.slice y.bu.A N.bu.length y.bu.c) := X4.out.b.cell 5
                have a6 : w4.cell? ⟨w.heap.size, 6, none⟩ = some (.slice y.ow.A N.ow.length y.ow.c) := X4.out.b.cell 6
                have a7 : w4.cell? ⟨w.heap.size, 7, none⟩ = some (.slice y.tu.A N.tu.length y.tu.c) := X4.out.b.cell 7
                have a8 : w4.cell? ⟨w.heap.size, 8, none⟩ = some (.slice y.so.A N.so.length y.so.c) := X4.out.b.cell 8
                have a9 : w4.cell? ⟨w.heap.size, 9, none⟩ = some (.slice y.ar.A N.ar.length y.ar.c) := X4.out.b.cell 9
                have a10 : w4.cell? ⟨w.heap.size, 10, none⟩ = some (.int .i64 N.ti) := X4.out.b.cell 10
                go_wp2_with fail
                refine (C4.out _ (X4.out.in HI.out).ow).mono ?_
                rintro e w5 ⟨rfl, g5⟩
                have X5 := Lib.hid (X4.out.gb g5)
                clear g5
                clear a0 a1 a2 a3 a4 a5 a6 a7 a8 a9 a10
                have a0 : w5.cell? ⟨w.heap.size, 0, none⟩ = some (.int .i64 N.W) := X5.out.b.cell 0
                have a1 : w5.cell? ⟨w.heap.size, 1, none⟩ = some (.int .i64 N.H) := X5.out.b.cell 1
                have a2 : w5.cell? ⟨w.heap.size, 2, none⟩ = some (.slice y.br.A N.br.length y.br.c) := X5.out.b.cell 2
                have a3 : w5.cell? ⟨w.heap.size, 3, none⟩ = some (.slice y.ta.A N.ta.length y.ta.c) := X5.out.b.cell 3
                have a4 : w5.cell? ⟨w.heap.size, 4, none⟩ = some (.slice y.tb.A N.tb.length y.tb.c) := X5.out.b.cell 4
                have a5 : w5.cell? ⟨w.heap.size, 5, none⟩ = some (.slice y.bu.A N.bu.length y.bu.c) := X5.out.b.cell 5
                have a6 : w5.cell? ⟨w.heap.size, 6, none⟩ = some (.slice y.ow.A N.ow.length y.ow.c) := X5.out.b.cell 6
                have a7 : w5.cell? ⟨w.heap.size, 7, none⟩ = some (.slice y.tu.A N.tu.length y.tu.c) := X5.out.b.cell 7
                have a8 : w5.cell? ⟨w.heap.size, 8, none⟩ = some (.slice y.so.A N.so.length y.so.c) := X5.out.b.cell 8
                have a9 : w5.cell? ⟨w.heap.size, 9, none⟩ = some (.slice y.ar.A N.ar.length y.ar.c) := X5.out.b.cell 9
                have a10 : w5.cell? ⟨w.heap.size, 10, none⟩ = some (.int .i64 N.ti) := X5.out.b.cell 10
                go_wp2_with fail
                refine (C5.out _ (X5.out.in HI.out).tu).mono ?_
                rintro e w6 ⟨rfl, g6⟩
                have X6 := Lib.hid (X5.out.gb g6)
                clear g6
                clear a0 a1 a2 a3 a4 a5 a6 a7 a8 a9 a10
                have a0 : w6.cell? ⟨w.heap.size, 0, none⟩ = some (.int .i64 N.W) := X6.out.b.cell 0
                have a1 : w6.cell? ⟨w.heap.size, 1, none⟩ = some (.int .i64 N.H) := X6.out.b.cell 1
                have a2 : w6.cell? ⟨w.heap.size, 2, none⟩ = some (.slice y.br.A N.br.length y.br.c) := X6.out.b.cell 2
                have a3 : w6.cell? ⟨w.heap.size, 3, none⟩ = some (.slice y.ta.A N.ta.length y.ta.c) := X6.out.b.cell 3
                have a4 : w6.cell? ⟨w.heap.size, 4, none⟩ = some (.slice y.tb.A N.tb.length y.tb.c) := X6.out.b.cell 4
                have a5 : w6.cell? ⟨w.heap.size, 5, none⟩ = some (.slice y.bu.A N.bu.length y.bu.c) := X6.out.b.cell 5
                have a6 : w6.cell? ⟨w.heap.size, 6, none⟩ = some (.slice y.ow.A N.ow.length y.ow.c) := X6.out.b.cell 6
                have a7 : w6.cell? ⟨w.heap.size, 7, none⟩ = some (.slice y.tu.A N.tu.length y.tu.c) := X6.out.b.cell 7
                have a8 : w6.cell? ⟨w.heap.size, 8, none⟩ = some (.slice y.so.A N.so.length y.so.c) := X6.out.b.cell 8
                have a9 : w6.cell? ⟨w.heap.size, 9, none⟩ = some (.slice y.ar.A N.ar.length y.ar.c) := X6.out.b.cell 9
                have a10 : w6.cell? ⟨w.heap.size, 10, none⟩ = some (.int .i64 N.ti) := X6.out.b.cell 10
                go_wp2_with fail
                refine (C6.out _).mono ?_
                rintro e w7 ⟨rfl, g7⟩
                have X7 := Lib.hid (X6.out.gb g7)
                clear g7
                clear a0 a1 a2 a3 a4 a5 a6 a7 a8 a9 a10
                go_wp2_with fail
                go_ret
                exact ⟨ret_bool R.out, X7.out.g⟩
              | true =>
                have C6 := Lib.hid (HC6.out true h6)
                have R := Lib.hid (show true = netOk N from (netOk_iff.2 ⟨h0, h1, h2, h3, h4, h5, h6⟩).symm)
                clear h0 h1 h2 h3 h4 h5 h6
                go_enter Try.func11, Try.ntmps11
                go_wp2_with fail
                refine (C0.out _ (X0.out.in HI.out)).mono ?_
                rintro e w1 ⟨rfl, g1⟩
                have X1 := Lib.hid (X0.out.gb g1)
                clear g1
                have a0 : w1.cell? ⟨w.heap.size, 0, none⟩ = some (.int .i64 N.W) := X1.out.b.cell 0
                have a1 : w1.cell? ⟨w.heap.size, 1, none⟩ = some (.int .i64 N.H) := X1.out.b.cell 1
                have a2 : w1.cell? ⟨w.heap.size, 2, none⟩ = some (.slice y.br.A N.br.length y.br.c) := X1.out.b.cell 2
                have a3 : w1.cell? ⟨w.heap.size, 3, none⟩ = some (.slice y.ta.A N.ta.length y.ta.c) := X1.out.b.cell 3
                have a4 : w1.cell? ⟨w.heap.size, 4, none⟩ = some (.slice y.tb.A N.tb.length y.tb.c) := X1.out.b.cell 4
                have a5 : w1.cell? ⟨w.heap.size, 5, none⟩ = some (.slice y.bu.A N.bu.length y.bu.c) := X1.out.b.cell 5
                have a6 : w1.cell? ⟨w.heap.size, 6, none⟩ = some (.slice y.ow.A N.ow.length y.ow.c) := X1.out.b.cell 6
                have a7 : w1.cell? ⟨w.heap.size, 7, none⟩ = some (.slice y.tu.A N.tu.length y.tu.c) := X1.out.b.cell 7
                have a8 : w1.cell? ⟨w.heap.size, 8, none⟩ = some (.slice y.so.A N.so.length y.so.c) := X1.out.b.cell 8
                have a9 : w1.cell? ⟨w.heap.size, 9, none⟩ = some (.slice y.ar.A N.ar.length y.ar.c) := X1.out.b.cell 9
                have a10 : w1.cell? ⟨w.heap.size, 10, none⟩ = some (.int .i64 N.ti) := X1.out.b.cell 10
                go_wp2_with fail
                refine (C1.out _).mono ?_
                rintro e w2 ⟨rfl, g2⟩
                have X2 := Lib.hid (X1.out.gb g2)
                clear g2
                clear a0 a1 a2 a3 a4 a5 a6 a7 a8 a9 a10
                have a0 : w2.cell? ⟨w.heap.size, 0, none⟩ = some (.int .i64 N.W) := X2.out.b.cell 0
                have a1 : w2.cell? ⟨w.heap.size, 1, none⟩ = some (.int .i64 N.H) := X2.out.b.cell 1
                have a2 : w2.cell? ⟨w.heap.size, 2, none⟩ = some (.slice y.br.A N.br.length y.br.c) := X2.out.b.cell 2
                have a3 : w2.cell? ⟨w.heap.size, 3, none⟩ = some (.slice y.ta.A N.ta.length y.ta.c) := X2.out.b.cell 3
                have a4 : w2.cell? ⟨w.heap.size, 4, none⟩ = some (.slice y.tb.A N.tb.length y.tb.c) := X2.out.b.cell 4
                have a5 : w2.cell? ⟨w.heap.size, 5, none⟩ = some (.slice y.bu.A N.bu.length y.bu.c) := X2.out.b.cell 5
                have a6 : w2.cell? ⟨w.heap.size, 6, none⟩ = some (.slice y.ow.A N.ow.length y.ow.c) := X2.out.b.cell 6
                have a7 : w2.cell? ⟨w.heap.size, 7, none⟩ = some (.slice y.tu.A N.tu.length y.tu.c) := X2.out.b.cell 7
                have a8 : w2.cell? ⟨w.heap.size, 8, none⟩ = some (.slice y.so.A N.so.length y.so.c) := X2.out.b.cell 8
                have a9 : w2.cell? ⟨w.heap.size, 9, none⟩ = some (.slice y.ar.A N.ar.length y.ar.c) := X2.out.b.cell 9
                have a10 : w2.cell? ⟨w.heap.size, 10, none⟩ = some (.int .i64 N.ti) := X2.out.b.cell 10
                go_wp2_with fail
                refine (C2.out _ (X2.out.in HI.out)).mono ?_
                rintro e w3 ⟨rfl, g3⟩
                have X3 := Lib.hid (X2.out.gb g3)
                clear g3
                clear a0 a1 a2 a3 a4 a5 a6 a7 a8 a9 a10
                have a0 : w3.cell? ⟨w.heap.size, 0, none⟩ = some (.int .i64 N.W) := X3.out.b.cell 0
                have a1 : w3.cell? ⟨w.heap.size, 1, none⟩ = some (.int .i64 N.H) := X3.out.b.cell 1
                have a2 : w3.cell? ⟨w.heap.size, 2, none⟩ = some (.slice y.br.A N.br.length y.br.c) := X3.out.b.cell 2
                have a3 : w3.cell? ⟨w.heap.size, 3, none⟩ = some (.slice y.ta.A N.ta.length y.ta.c) := X3.out.b.cell 3
                have a4 : w3.cell? ⟨w.heap.size, 4, none⟩ = some (.slice y.tb.A N.tb.length y.tb.c) := X3.out.b.cell 4
                have a5 : w3.cell? ⟨w.heap.size, 5, none⟩ = some (.slice y.bu.A N.bu.length y.bu.c) := X3.out.b.cell 5
                have a6 : w3.cell? ⟨w.heap.size, 6, none⟩ = some (.slice y.ow.A N.ow.length y.ow.c) := X3.out.b.cell 6
                have a7 : w3.cell? ⟨w.heap.size, 7, none⟩ = some (.slice y.tu.A N.tu.length y.tu.c) := X3.out.b.cell 7
                have a8 : w3.cell? ⟨w.heap.size, 8, none⟩ = some (.slice y.so.A N.so.length y.so.c) := X3.out.b.cell 8
                have a9 : w3.cell? ⟨w.heap.size, 9, none⟩ = some (.slice y.ar.A N.ar.length y.ar.c) := X3.out.b.cell 9
                have a10 : w3.cell? ⟨w.heap.size, 10, none⟩ = some (.int .i64 N.ti) := X3.out.b.cell 10
                go_wp2_with fail
                refine (C3.out _ (X3.out.in HI.out)).mono ?_
                rintro e w4 ⟨rfl, g4⟩
                have X4 := Lib.hid (X3.out.gb g4)
                clear g4
                clear a0 a1 a2 a3 a4 a5 a6 a7 a8 a9 a10
                have a0 : w4.cell? ⟨w.heap.size, 0, none⟩ = some (.int .i64 N.W) := X4.out.b.cell 0
                have a1 : w4.cell? ⟨w.heap.size, 1, none⟩ = some (.int .i64 N.H) := X4.out.b.cell 1
                have a2 : w4.cell? ⟨w.heap.size, 2, none⟩ = some (.slice y.br.A N.br.length y.br.c) := X4.out.b.cell 2
                have a3 : w4.cell? ⟨w.heap.size, 3, none⟩ = some (.slice y.ta.A N.ta.length y.ta.c) := X4.out.b.cell 3
                have a4 : w4.cell? ⟨w.heap.size, 4, none⟩ = some (.slice y.tb.A N.tb.length y.tb.c) := X4.out.b.cell 4
                have a5 : w4.cell? ⟨w.heap.size, 5, none⟩ = some (.slice y.bu.A N.bu.length y.bu.c) := X4.out.b.cell 5
                have a6 : w4.cell? ⟨w.heap.size, 6, none⟩ = some (.slice y.ow.A N.ow.length y.ow.c) := X4.out.b.cell 6
                have a7 : w4.cell? ⟨w.heap.size, 7, none⟩ = some (.slice y.tu.A N.tu.length y.tu.c) := X4.out.b.cell 7
                have a8 : w4.cell? ⟨w.heap.size, 8, none⟩ = some (.slice y.so.A N.so.length y.so.c) := X4.out.b.cell 8
                have a9 : w4.cell? ⟨w.heap.size, 9, none⟩ = some (.slice y.ar.A N.ar.length y.ar.c) := X4.out.b.cell 9
                have a10 : w4.cell? ⟨w.heap.size, 10, none⟩ = some (.int .i64 N.ti) := X4.out.b.cell 10
                go_wp2_with fail
                refine (C4.out _ (X4.out.in HI.out).ow).mono ?_
                rintro e w5 ⟨rfl, g5⟩
                have X5 := Lib.hid (X4.out.gb g5)
                clear g5
                clear a0 a1 a2 a3 a4 a5 a6 a7 a8 a9 a10
                have a0 : w5.cell? ⟨w.heap.size, 0, none⟩ = some (.int .i64 N.W) := X5.out.b.cell 0
                have a1 : w5.cell? ⟨w.heap.size, 1, none⟩ = some (.int .i64 N.H) := X5.out.b.cell 1
                have a2 : w5.cell? ⟨w.heap.size, 2, none⟩ = some (.slice y.br.A N.br.length y.br.c) := X5.out.b.cell 2
                have a3 : w5.cell? ⟨w.heap.size, 3, none⟩ = some (.slice y.ta.A N.ta.length y.ta.c) := X5.out.b.cell 3
                have a4 : w5.cell? ⟨w.heap.size, 4, none⟩ = some (.slice y.tb.A N.tb.length y.tb.c) := X5.out.b.cell 4
                have a5 : w5.cell? ⟨w.heap.size, 5, none⟩ = some (.slice y.bu.A N.bu.length y.bu.c) := X5.out.b.cell 5
                have a6 : w5.cell? ⟨w.heap.size, 6, none⟩ = some (.slice y.ow.A N.ow.length y.ow.c) := X5.out.b.cell 6
                have a7 : w5.cell? ⟨w.heap.size, 7, none⟩ = some (.slice y.tu.A N.tu.length y.tu.c) := X5.out.b.cell 7
                have a8 : w5.cell? ⟨w.heap.size, 8, none⟩ = some (.slice y.so.A N.so.length y.so.c) := X5.out.b.cell 8
                have a9 : w5.cell? ⟨w.heap.size, 9, none⟩ = some (.slice y.ar.A N.ar.length y.ar.c) := X5.out.b.cell 9
                have a10 : w5.cell? ⟨w.heap.size, 10, none⟩ = some (.int .i64 N.ti) := X5.out.b.cell 10
                go_wp2_with fail
                refine (C5.out _ (X5.out.in HI.out).tu).mono ?_
                rintro e w6 ⟨rfl, g6⟩
                have X6 := Lib.hid (X5.out.gb g6)
                clear g6
                clear a0 a1 a2 a3 a4 a5 a6 a7 a8 a9 a10
                have a0 : w6.cell? ⟨w.heap.size, 0, none⟩ = some (.int .i64 N.W) := X6.out.b.cell 0
                have a1 : w6.cell? ⟨w.heap.size, 1, none⟩ = some (.int .i64 N.H) := X6.out.b.cell 1
                have a2 : w6.cell? ⟨w.heap.size, 2, none⟩ = some (.slice y.br.A N.br.length y.br.c) := X6.out.b.cell 2
                have a3 : w6.cell? ⟨w.heap.size, 3, none⟩ = some (.slice y.ta.A N.ta.length y.ta.c) := X6.out.b.cell 3
                have a4 : w6.cell? ⟨w.heap.size, 4, none⟩ = some (.slice y.tb.A N.tb.length y.tb.c) := X6.out.b.cell 4
                have a5 : w6.cell? ⟨w.heap.size, 5, none⟩ = some (.slice y.bu.A N.bu.length y.bu.c) := X6.out.b.cell 5
                have a6 : w6.cell? ⟨w.heap.size, 6, none⟩ = some (.slice y.ow.A N.ow.length y.ow.c) := X6.out.b.cell 6
                have a7 : w6.cell? ⟨w.heap.size, 7, none⟩ = some (.slice y.tu.A N.tu.length y.tu.c) := X6.out.b.cell 7
                have a8 : w6.cell? ⟨w.heap.size, 8, none⟩ = some (.slice y.so.A N.so.length y.so.c) := X6.out.b.cell 8
                have a9 : w6.cell? ⟨w.heap.size, 9, none⟩ = some (.slice y.ar.A N.ar.length y.ar.c) := X6.out.b.cell 9
                have a10 : w6.cell? ⟨w.heap.size, 10, none⟩ = some (.int .i64 N.ti) := X6.out.b.cell 10
                go_wp2_with fail
                refine (C6.out _).mono ?_
                rintro e w7 ⟨rfl, g7⟩
                have X7 := Lib.hid (X6.out.gb g7)
                clear g7
                clear a0 a1 a2 a3 a4 a5 a6 a7 a8 a9 a10
                go_wp2_with fail
                go_ret
                exact ⟨ret_bool R.out, X7.out.g⟩
end Go.Proofs.Ytfloekbmgjmhbaa
end

section
namespace Go.Proofs.Ytfloekbmgjmhbaa
open Go.ChangeShapes Go.WideShapes Go.ChangeAt Go.RowKit
set_option linter.unusedVariables false
set_option maxRecDepth 20000

/-- A row of empty lists can be read. -/
theorem recs_nils {wr : World} {base g m : Nat} (h : wr.ownsRow base 91 1 (.slice (some ⟨g, 0, none⟩) m m) m (List.replicate m (.slice none 0 0))) : RecsAt 5 fltC wr wr.heap.size (some ⟨g, 0, none⟩) m (List.replicate m []) := by
  have h2 : Fams 91 120 5 fltC wr base (.slice (some ⟨g, 0, none⟩) m m) (List.replicate m (.slice none 0 0)) (List.replicate m []) := ⟨by rw [List.length_replicate]; exact h, fam_nils wr base m⟩
  have h3 := h2.at fltL (by decide) (Nat.le_refl wr.heap.size)
  rwa [List.length_replicate] at h3
theorem own_row (m q : Nat) (h : q < m) : (intsV (List.replicate q (-1) ++ List.replicate (m - q) 0)).set q (.int .i64 (-1)) = intsV (List.replicate (q + 1) (-1) ++ List.replicate (m - (q + 1)) 0) := by
  have h1 := set_rep (List.replicate q (-1 : Int)) 0 (-1) m (by rw [List.length_replicate]; exact h)
  rw [List.length_replicate] at h1
  rw [intsV_set, h1, List.length_append, List.length_replicate, List.length_singleton, ← List.replicate_succ']
/-- The frame ahead of, in and behind the making of the parts. -/
def FRj (W H : Int) (A AP AQ : Option Addr) (n cap nP cP nQ cQ kk : Nat) (w : World) (vs : Nat → Value) : Act := ⟨#[.agg #[.int .i64 W, .int .i64 H, .slice A n cap], .agg #[.slice AP nP cP, .slice AQ nQ cQ], .pointer (some ⟨w.heap.size, 0, none⟩), .pointer (some ⟨w.heap.size + 1, 0, none⟩), .pointer (some ⟨w.heap.size + 1 + 1, 0, none⟩), .bool false, .int .i64 (kk : Int), vs 16, undef, .agg #[.int .i64 W, .int .i64 H, .slice A n cap], .agg #[.slice AP nP cP, .slice AQ nQ cQ], .bool true, .bool false, undef, .pointer (some ⟨w.heap.size, 0, none⟩), .agg #[.int .i64 W, .int .i64 H], .int .i64 (kk : Int), vs 0, vs 1, vs 2, vs 3, vs 4, vs 5, vs 6, vs 7, vs 8, vs 9, vs 10, vs 11, vs 12, vs 13, vs 14, vs 15, undef, undef, undef, undef, undef, undef, undef, undef, undef, undef, undef, undef, undef], []⟩
/-- Which operations have been carried out, and what they left. -/
def Ij (W H : Int) (A AP AQ : Option Addr) (n cap nP cP nQ cQ : Nat) (L P Q : List Int) (kk : Nat) (w w2 : World) (Lf : Nat → Bool) (a : Act) (wr : World) : Prop :=
  ((∀ k, k < 18 → Lf k = true) ∧ ∃ L2 vs w9 g cs, (∀ k, k < 17 → L2 k = true) ∧ a = FRj W H A AP AQ n cap nP cP nQ cQ kk w vs ∧ Sj ⟨W, H, A, AP, AQ, n, cap, nP, cP, nQ, cQ, L, P, Q, kk⟩ w2.drew L2 vs w9 ∧ vs 16 = .pointer (some ⟨g, 0, none⟩) ∧ vs 15 = .agg cs ∧ w2.heap.size ≤ g ∧ Blk wr g 38 cs ∧ Chg g (g + 1) w9 wr) ∨
  (Lf 17 = false ∧ ∃ vs, a = FRj W H A AP AQ n cap nP cP nQ cQ kk w vs ∧ Sj ⟨W, H, A, AP, AQ, n, cap, nP, cP, nQ, cQ, L, P, Q, kk⟩ w2.drew Lf vs wr)
set_option maxHeartbeats 6400000 in
theorem implNetNew (W H : Int) (A AP AQ : Option Addr) (n cap nP cP nQ cQ : Nat) (L P Q : List Int) (hL : WfL L) (w : World) (h : IntAt w w.heap.size A n L) (hP : IntAt w w.heap.size AP nP P) (hQ : IntAt w w.heap.size AQ nQ Q) (hn : n ≤ 1000000000) (hnP : nP ≤ 1000000000) (hnQ : nQ ≤ 1000000000) :
    Calls Try.prog 9 #[.agg #[.int .i64 W, .int .i64 H, .slice A n cap], .agg #[.slice AP nP cP, .slice AQ nQ cQ]] w (RetNet (netNewG W H L P Q) (clsOk W H L P Q) w) := by
  have HI := Lib.hid h
  have HP := Lib.hid hP
  have HQ := Lib.hid hQ
  have k0 := ((Blk.new w 28 #[.int .i64 W, .int .i64 H, .slice A n cap]).alloc (.cells #[.slice AP nP cP, .slice AQ nQ cQ] 32)).alloc (.cells #[.int .i64 0, .int .i64 0, .slice none 0 0, .slice none 0 0, .slice none 0 0, .slice none 0 0, .slice none 0 0, .slice none 0 0, .slice none 0 0, .slice none 0 0, .int .i64 0] 38)
  have k1 := (Blk.new (w.alloc (.cells #[.int .i64 W, .int .i64 H, .slice A n cap] 28)) 32 #[.slice AP nP cP, .slice AQ nQ cQ]).alloc (.cells #[.int .i64 0, .int .i64 0, .slice none 0 0, .slice none 0 0, .slice none 0 0, .slice none 0 0, .slice none 0 0, .slice none 0 0, .slice none 0 0, .slice none 0 0, .int .i64 0] 38)
  have k2 := Blk.new ((w.alloc (.cells #[.int .i64 W, .int .i64 H, .slice A n cap] 28)).alloc (.cells #[.slice AP nP cP, .slice AQ nQ cQ] 32)) 38 #[.int .i64 0, .int .i64 0, .slice none 0 0, .slice none 0 0, .slice none 0 0, .slice none 0 0, .slice none 0 0, .slice none 0 0, .slice none 0 0, .slice none 0 0, .int .i64 0]
  have ge := gb_alloc (gb_alloc (gb_alloc (gb_refl w none) (.cells #[.int .i64 W, .int .i64 H, .slice A n cap] 28)) (.cells #[.slice AP nP cP, .slice AQ nQ cQ] 32)) (.cells #[.int .i64 0, .int .i64 0, .slice none 0 0, .slice none 0 0, .slice none 0 0, .slice none 0 0, .slice none 0 0, .slice none 0 0, .slice none 0 0, .slice none 0 0, .int .i64 0] 38)
  have hsz : (((w.alloc (.cells #[.int .i64 W, .int .i64 H, .slice A n cap] 28)).alloc (.cells #[.slice AP nP cP, .slice AQ nQ cQ] 32)).alloc (.cells #[.int .i64 0, .int .i64 0, .slice none 0 0, .slice none 0 0, .slice none 0 0, .slice none 0 0, .slice none 0 0, .slice none 0 0, .slice none 0 0, .slice none 0 0, .int .i64 0] 38)).heap.size = w.heap.size + 3 := by simp only [alloc_size]
  simp only [alloc_size] at k1 k2
  have hin := (h.none (Nat.le_refl _) ge).more ge.size
  have hinP := (hP.none (Nat.le_refl _) ge).more ge.size
  have hinQ := (hQ.none (Nat.le_refl _) ge).more ge.size
  cases hc : clsOk W H L P Q with
  | false =>
    have HCK := Lib.hid (implClassesOkV W H A AP AQ n cap nP cP nQ cQ L P Q hL false hc _ hin hinP hinQ hn hnP hnQ)
    have HN := Lib.hid (show netNewG W H L P Q = zeroNet by rw [netNewG, hc]; rfl)
    have HSZ := Lib.hid hsz
    have K2 := Lib.hid k2
    clear h hP hQ hin hinP hinQ hc
    go_enter Try.func9, Try.ntmps9
    go_wp2_with fail
    have GE := Lib.hid ge
    clear ge k0 k1 k2 hsz
    generalize ((w.alloc (.cells #[.int .i64 W, .int .i64 H, .slice A n cap] 28)).alloc (.cells #[.slice AP nP cP, .slice AQ nQ cQ] 32)).alloc (.cells #[.int .i64 0, .int .i64 0, .slice none 0 0, .slice none 0 0, .slice none 0 0, .slice none 0 0, .slice none 0 0, .slice none 0 0, .slice none 0 0, .slice none 0 0, .int .i64 0] 38) = wx at *
    refine HCK.out.mono ?_
    rintro e w1 ⟨rfl, g1⟩
    have kr := K2.out.grown g1 (by simp)
    have G1 := Lib.hid (gb_trans GE.out g1)
    have S1 := Lib.hid (show w.heap.size + 3 ≤ w1.heap.size by have h1 := g1.size; have h2 := HSZ.out; omega)
    have KR := Lib.hid kr
    have y0 : w1.cell? ⟨w.heap.size + 1 + 1, 0, none⟩ = some (.int .i64 0) := kr.cell 0
    have x0 := kr.frozen 0
    have y1 : w1.cell? ⟨w.heap.size + 1 + 1, 1, none⟩ = some (.int .i64 0) := kr.cell 1
    have x1 := kr.frozen 1
    have y2 : w1.cell? ⟨w.heap.size + 1 + 1, 2, none⟩ = some (.slice none 0 0) := kr.cell 2
    have x2 := kr.frozen 2
    have y3 : w1.cell? ⟨w.heap.size + 1 + 1, 3, none⟩ = some (.slice none 0 0) := kr.cell 3
    have x3 := kr.frozen 3
    have y4 : w1.cell? ⟨w.heap.size + 1 + 1, 4, none⟩ = some (.slice none 0 0) := kr.cell 4
    have x4 := kr.frozen 4
    have y5 : w1.cell? ⟨w.heap.size + 1 + 1, 5, none⟩ = some (.slice none 0 0) := kr.cell 5
    have x5 := kr.frozen 5
    have y6 : w1.cell? ⟨w.heap.size + 1 + 1, 6, none⟩ = some (.slice none 0 0) := kr.cell 6
    have x6 := kr.frozen 6
    have y7 : w1.cell? ⟨w.heap.size + 1 + 1, 7, none⟩ = some (.slice none 0 0) := kr.cell 7
    have x7 := kr.frozen 7
    have y8 : w1.cell? ⟨w.heap.size + 1 + 1, 8, none⟩ = some (.slice none 0 0) := kr.cell 8
    have x8 := kr.frozen 8
    have y9 : w1.cell? ⟨w.heap.size + 1 + 1, 9, none⟩ = some (.slice none 0 0) := kr.cell 9
    have x9 := kr.frozen 9
    have y10 : w1.cell? ⟨w.heap.size + 1 + 1, 10, none⟩ = some (.int .i64 0) := kr.cell 10
    have x10 := kr.frozen 10
    clear kr g1
    go_wp2_with fail
    have kf : Blk (((((((((((w1.setCell ⟨w.heap.size + 1 + 1, 0, none⟩ (.int .i64 0)).setCell ⟨w.heap.size + 1 + 1, 1, none⟩ (.int .i64 0)).setCell ⟨w.heap.size + 1 + 1, 2, none⟩ (.slice none 0 0)).setCell ⟨w.heap.size + 1 + 1, 3, none⟩ (.slice none 0 0)).setCell ⟨w.heap.size + 1 + 1, 4, none⟩ (.slice none 0 0)).setCell ⟨w.heap.size + 1 + 1, 5, none⟩ (.slice none 0 0)).setCell ⟨w.heap.size + 1 + 1, 6, none⟩ (.slice none 0 0)).setCell ⟨w.heap.size + 1 + 1, 7, none⟩ (.slice none 0 0)).setCell ⟨w.heap.size + 1 + 1, 8, none⟩ (.slice none 0 0)).setCell ⟨w.heap.size + 1 + 1, 9, none⟩ (.slice none 0 0)).setCell ⟨w.heap.size + 1 + 1, 10, none⟩ (.int .i64 0)) (w.heap.size + 1 + 1) 38 #[.int .i64 0, .int .i64 0, .slice none 0 0, .slice none 0 0, .slice none 0 0, .slice none 0 0, .slice none 0 0, .slice none 0 0, .slice none 0 0, .slice none 0 0, .int .i64 0] := by
      have hz := (((((((((((KR.out.set_ 0 (.int .i64 0)).set_ 1 (.int .i64 0)).set_ 2 (.slice none 0 0)).set_ 3 (.slice none 0 0)).set_ 4 (.slice none 0 0)).set_ 5 (.slice none 0 0)).set_ 6 (.slice none 0 0)).set_ 7 (.slice none 0 0)).set_ 8 (.slice none 0 0)).set_ 9 (.slice none 0 0)).set_ 10 (.int .i64 0))
      simpa using hz
    have qz : Chg (w.heap.size + 1 + 1) (w.heap.size + 1 + 1 + 1) w1 (((((((((((w1.setCell ⟨w.heap.size + 1 + 1, 0, none⟩ (.int .i64 0)).setCell ⟨w.heap.size + 1 + 1, 1, none⟩ (.int .i64 0)).setCell ⟨w.heap.size + 1 + 1, 2, none⟩ (.slice none 0 0)).setCell ⟨w.heap.size + 1 + 1, 3, none⟩ (.slice none 0 0)).setCell ⟨w.heap.size + 1 + 1, 4, none⟩ (.slice none 0 0)).setCell ⟨w.heap.size + 1 + 1, 5, none⟩ (.slice none 0 0)).setCell ⟨w.heap.size + 1 + 1, 6, none⟩ (.slice none 0 0)).setCell ⟨w.heap.size + 1 + 1, 7, none⟩ (.slice none 0 0)).setCell ⟨w.heap.size + 1 + 1, 8, none⟩ (.slice none 0 0)).setCell ⟨w.heap.size + 1 + 1, 9, none⟩ (.slice none 0 0)).setCell ⟨w.heap.size + 1 + 1, 10, none⟩ (.int .i64 0)) := (((((((((((st_in _ _ _ _).sx _ _).sx _ _).sx _ _).sx _ _).sx _ _).sx _ _).sx _ _).sx _ _).sx _ _).sx _ _)
    generalize (((((((((((w1.setCell ⟨w.heap.size + 1 + 1, 0, none⟩ (.int .i64 0)).setCell ⟨w.heap.size + 1 + 1, 1, none⟩ (.int .i64 0)).setCell ⟨w.heap.size + 1 + 1, 2, none⟩ (.slice none 0 0)).setCell ⟨w.heap.size + 1 + 1, 3, none⟩ (.slice none 0 0)).setCell ⟨w.heap.size + 1 + 1, 4, none⟩ (.slice none 0 0)).setCell ⟨w.heap.size + 1 + 1, 5, none⟩ (.slice none 0 0)).setCell ⟨w.heap.size + 1 + 1, 6, none⟩ (.slice none 0 0)).setCell ⟨w.heap.size + 1 + 1, 7, none⟩ (.slice none 0 0)).setCell ⟨w.heap.size + 1 + 1, 8, none⟩ (.slice none 0 0)).setCell ⟨w.heap.size + 1 + 1, 9, none⟩ (.slice none 0 0)).setCell ⟨w.heap.size + 1 + 1, 10, none⟩ (.int .i64 0)) = wz at *
    have r0 := kf.cell 0
    have r1 := kf.cell 1
    have r2 := kf.cell 2
    have r3 := kf.cell 3
    have r4 := kf.cell 4
    have r5 := kf.cell 5
    have r6 := kf.cell 6
    have r7 := kf.cell 7
    have r8 := kf.cell 8
    have r9 := kf.cell 9
    have r10 := kf.cell 10
    simp only [List.getElem?_toArray, List.getElem?_cons_zero, List.getElem?_cons_succ] at r0 r1 r2 r3 r4 r5 r6 r7 r8 r9 r10
    rw [HN.out]
    refine bodyPost_ret (v := .tuple #[.agg #[.int .i64 0, .int .i64 0, .slice none 0 0, .slice none 0 0, .slice none 0 0, .slice none 0 0, .slice none 0 0, .slice none 0 0, .slice none 0 0, .slice none 0 0, .int .i64 0], .bool false]) (by simp [results, Try.results9, go_sem, r0, r1, r2, r3, r4, r5, r6, r7, r8, r9, r10]) rfl ⟨zeroNa, rfl, netOwn_zero _ _, (gb_below_none G1.out (Nat.le_refl _)).trans (qz.below (.inl (by omega)) (by have h2 := S1.out; omega))⟩
  | true =>
    have HCK := Lib.hid (implClassesOkV W H A AP AQ n cap nP cP nQ cQ L P Q hL true hc _ hin hinP hinQ hn hnP hnQ)
    have HN := Lib.hid (show netNewG W H L P Q = newNet W H L P Q by rw [netNewG, hc]; rfl)
    obtain ⟨kk, hkk⟩ : ∃ kk : Nat, countG W H = (kk : Int) := ⟨(countG W H).toNat, by have := (countG_le W H).1; omega⟩
    have hk16 : kk ≤ 16 := by have := (countG_le W H).2; omega
    have HNC : Hid (∀ w, Calls Try.prog 37 #[.agg #[.int .i64 W, .int .i64 H]] w (RetI (kk : Int) none w)) := Lib.hid (fun w => by have h := implNodeCount W H w; rw [hkk] at h; exact h)
    have HKK := Lib.hid hkk
    clear h hP hQ hin hinP hinQ hkk hc
    go_enter Try.func9, Try.ntmps9
    go_wp2_with fail
    have GE := Lib.hid ge
    have K0 := Lib.hid k0
    have K1 := Lib.hid k1
    have K2 := Lib.hid k2
    have HSZ := Lib.hid hsz
    clear ge k0 k1 k2 hsz
    generalize ((w.alloc (.cells #[.int .i64 W, .int .i64 H, .slice A n cap] 28)).alloc (.cells #[.slice AP nP cP, .slice AQ nQ cQ] 32)).alloc (.cells #[.int .i64 0, .int .i64 0, .slice none 0 0, .slice none 0 0, .slice none 0 0, .slice none 0 0, .slice none 0 0, .slice none 0 0, .slice none 0 0, .slice none 0 0, .int .i64 0] 38) = wx at *
    refine HCK.out.mono ?_
    rintro e w1 ⟨rfl, g1⟩
    have G1 := Lib.hid g1
    have kk0 := K0.out.grown g1 (by simp)
    have a0 : w1.cell? ⟨w.heap.size, 0, none⟩ = some (.int .i64 W) := kk0.cell 0
    have a1 : w1.cell? ⟨w.heap.size, 1, none⟩ = some (.int .i64 H) := kk0.cell 1
    clear kk0 g1
    go_wp2_with fail
    refine (HNC.out _).mono ?_
    rintro e w2 ⟨rfl, g2⟩
    have G2 := Lib.hid (gb_trans G1.out g2)
    have kk0 := K0.out.grown G2.out (by simp)
    have b0 : w2.cell? ⟨w.heap.size, 0, none⟩ = some (.int .i64 W) := kk0.cell 0
    have b1 : w2.cell? ⟨w.heap.size, 1, none⟩ = some (.int .i64 H) := kk0.cell 1
    have b2 : w2.cell? ⟨w.heap.size, 2, none⟩ = some (.slice A n cap) := kk0.cell 2
    have kk1 := K1.out.grown G2.out (by simp)
    have c0 : w2.cell? ⟨w.heap.size + 1, 0, none⟩ = some (.slice AP nP cP) := kk1.cell 0
    have c1 : w2.cell? ⟨w.heap.size + 1, 1, none⟩ = some (.slice AQ nQ cQ) := kk1.cell 1
    clear kk0 kk1 g2 a0 a1 G1
    obtain ⟨f0, fi, fz0, fz1, fz2⟩ := info_parts info_fss
    obtain ⟨i0, ii, iz0, iz1, iz2⟩ := info_parts info_int
    have e10w : IntKind.i64.wrap (10 * (kk : Int)) = ((10 * kk : Nat) : Int) := by rw [IntWalk.i64_in _ (by omega)]; omega
    have e5w : IntKind.i64.wrap (5 * (kk : Int)) = ((5 * kk : Nat) : Int) := by rw [IntWalk.i64_in _ (by omega)]; omega
    have e10 : wrap64 (10 * (kk : Int)) = ((10 * kk : Nat) : Int) := by rw [IntWalk.wrap64_in _ (by omega)]; omega
    have e5 : wrap64 (5 * (kk : Int)) = ((5 * kk : Nat) : Int) := by rw [IntWalk.wrap64_in _ (by omega)]; omega
    go_wp2_with fail
    have IA := Lib.hid (show ∀ wr, w2.grownBy wr none → IntAt wr wr.heap.size A n L from fun wr hg => (HI.out.none (Nat.le_refl _) (gb_trans (gb_trans GE.out G2.out) hg)).more (gb_trans (gb_trans GE.out G2.out) hg).size)
    have IP := Lib.hid (show ∀ wr, w2.grownBy wr none → IntAt wr wr.heap.size AP nP P from fun wr hg => (HP.out.none (Nat.le_refl _) (gb_trans (gb_trans GE.out G2.out) hg)).more (gb_trans (gb_trans GE.out G2.out) hg).size)
    have IQ := Lib.hid (show ∀ wr, w2.grownBy wr none → IntAt wr wr.heap.size AQ nQ Q from fun wr hg => (HQ.out.none (Nat.le_refl _) (gb_trans (gb_trans GE.out G2.out) hg)).more (gb_trans (gb_trans GE.out G2.out) hg).size)
    have CB := Lib.hid (show ∀ wr, w2.grownBy wr none → wr.cell? ⟨w.heap.size, 0, none⟩ = some (.int .i64 W) ∧ wr.cell? ⟨w.heap.size, 1, none⟩ = some (.int .i64 H) ∧ wr.cell? ⟨w.heap.size, 2, none⟩ = some (.slice A n cap) ∧ wr.cell? ⟨w.heap.size + 1, 0, none⟩ = some (.slice AP nP cP) ∧ wr.cell? ⟨w.heap.size + 1, 1, none⟩ = some (.slice AQ nQ cQ) from fun wr hg => ⟨hg.cell b0 (by simp), hg.cell b1 (by simp), hg.cell b2 (by simp), hg.cell c0 (by simp), hg.cell c1 (by simp)⟩)
    clear b0 b1 b2 c0 c1
    refine region_inv (by kernel_rfl) (by kernel_rfl) (Ij W H A AP AQ n cap nP cP nQ cQ L P Q kk w w2) (.inr ⟨rfl, fun _ => undef, rfl, Sj.start⟩) ?_ ?_
    · intro Lf a wr hI i o ho hLi he K' hK
      rcases hI with ⟨hall, _⟩ | ⟨h17, vs, rfl, hS⟩
      · have h18 := (Array.getElem?_eq_some_iff.1 ho).1
        rw [hall i h18] at hLi
        cases hLi
      · have h18 : i < 18 := (Array.getElem?_eq_some_iff.1 ho).1
        have hg2 : w2.grownBy wr none := ⟨hS.g.os, hS.g.tape, hS.g.output, hS.g.size, hS.g.block⟩
        have hB0 : w2.drew.heap.size ≤ wr.heap.size := hS.g.size
        obtain ⟨m0, m1, m2, m3, m4⟩ := CB.out wr hg2
        have hc18 : i = 0 ∨ i = 1 ∨ i = 2 ∨ i = 3 ∨ i = 4 ∨ i = 5 ∨ i = 6 ∨ i = 7 ∨ i = 8 ∨ i = 9 ∨ i = 10 ∨ i = 11 ∨ i = 12 ∨ i = 13 ∨ i = 14 ∨ i = 15 ∨ i = 16 ∨ i = 17 := by omega
        rcases hc18 with rfl | rfl | rfl | rfl | rfl | rfl | rfl | rfl | rfl | rfl | rfl | rfl | rfl | rfl | rfl | rfl | rfl | rfl
        all_goals (simp only [List.getElem?_toArray, List.getElem?_cons_zero, List.getElem?_cons_succ, Option.some.injEq] at ho; subst ho)
        · skip
          simp only [FRj] at *
          go_simp
          exact hK.out _ _ (.inr ⟨(by simpa using h17), upd vs 0 (.agg #[.int .i64 W, .int .i64 H, .slice A n cap]), rfl, hS.quiet hLi (by decide) rfl rfl⟩)
        · skip
          simp only [FRj] at *
          go_simp
          exact hK.out _ _ (.inr ⟨(by simpa using h17), upd vs 1 (.agg #[.slice AP nP cP, .slice AQ nQ cQ]), rfl, hS.quiet hLi (by decide) rfl rfl⟩)
        · skip
          simp only [FRj] at *
          go_simp
          exact hK.out _ _ (.inr ⟨(by simpa using h17), upd vs 2 (.int .i64 (kk : Int)), rfl, hS.quiet hLi (by decide) rfl rfl⟩)
        · skip
          have vv : vs 2 = .int .i64 (kk : Int) := hS.G 2 (he ⟨2, .data⟩ (by simp) rfl)
          simp only [FRj] at *
          go_simp
          exact hK.out _ _ (.inr ⟨(by simpa using h17), upd vs 3 (.int .i64 ((10 * kk : Nat) : Int)), (by simp [FRj, upd, vv]), hS.quiet hLi (by decide) rfl rfl⟩)
        · have vv : vs 3 = .int .i64 ((10 * kk : Nat) : Int) := hS.G 3 (he ⟨3, .data⟩ (by simp) rfl)
          refine step_make_full wr rfl (.tmp 20) (.tmp 20) 36 rfl w2.drew.heap.size 91 f0 (.slice none 0 0) 1 Try.underlying36 fi fz0 fz1 .i64 .i64 _ _ (10 * kk) vv vv rfl rfl (by rw [fz2]; omega) (by unfold maxLen; omega) hB0 ?_
          intro w' o g
          rw [made_nils] at o
          exact hK.out _ _ (.inr ⟨(by simpa using h17), upd vs 4 (.slice (some ⟨wr.heap.size, 0, none⟩) (10 * kk) (10 * kk)), by simp [FRj, upd, Act.put], hS.step hLi (by decide) g ⟨wr.heap.size, rfl, o⟩ (fun k hk => by cases hk; exact Nat.le_refl _)⟩)
        · skip
          simp only [FRj] at *
          go_simp
          exact hK.out _ _ (.inr ⟨(by simpa using h17), upd vs 5 (.int .i64 (kk : Int)), rfl, hS.quiet hLi (by decide) rfl rfl⟩)
        · skip
          have vv : vs 5 = .int .i64 (kk : Int) := hS.G 5 (he ⟨5, .data⟩ (by simp) rfl)
          simp only [FRj] at *
          go_simp
          exact hK.out _ _ (.inr ⟨(by simpa using h17), upd vs 6 (.int .i64 ((10 * kk : Nat) : Int)), (by simp [FRj, upd, vv]), hS.quiet hLi (by decide) rfl rfl⟩)
        · have vv : vs 6 = .int .i64 ((10 * kk : Nat) : Int) := hS.G 6 (he ⟨6, .data⟩ (by simp) rfl)
          refine step_make_full wr rfl (.tmp 23) (.tmp 23) 26 rfl w2.drew.heap.size 3 i0 (.int .i64 0) 1 Try.underlying26 ii iz0 iz1 .i64 .i64 _ _ (10 * kk) vv vv rfl rfl (by rw [iz2]; omega) (by unfold maxLen; omega) hB0 ?_
          intro w' o g
          rw [made_ints] at o
          exact hK.out _ _ (.inr ⟨(by simpa using h17), upd vs 7 (.slice (some ⟨wr.heap.size, 0, none⟩) (10 * kk) (10 * kk)), by simp [FRj, upd, Act.put], hS.step hLi (by decide) g ⟨wr.heap.size, rfl, o⟩ (fun k hk => by cases hk; exact Nat.le_refl _)⟩)
        · skip
          simp only [FRj] at *
          go_simp
          exact hK.out _ _ (.inr ⟨(by simpa using h17), upd vs 8 (.int .i64 (kk : Int)), rfl, hS.quiet hLi (by decide) rfl rfl⟩)
        · skip
          have vv : vs 8 = .int .i64 (kk : Int) := hS.G 8 (he ⟨8, .data⟩ (by simp) rfl)
          simp only [FRj] at *
          go_simp
          exact hK.out _ _ (.inr ⟨(by simpa using h17), upd vs 9 (.int .i64 ((5 * kk : Nat) : Int)), (by simp [FRj, upd, vv]), hS.quiet hLi (by decide) rfl rfl⟩)
        · have vv : vs 9 = .int .i64 ((5 * kk : Nat) : Int) := hS.G 9 (he ⟨9, .data⟩ (by simp) rfl)
          refine step_make_full wr rfl (.tmp 26) (.tmp 26) 26 rfl w2.drew.heap.size 3 i0 (.int .i64 0) 1 Try.underlying26 ii iz0 iz1 .i64 .i64 _ _ (5 * kk) vv vv rfl rfl (by rw [iz2]; omega) (by unfold maxLen; omega) hB0 ?_
          intro w' o g
          rw [made_ints] at o
          exact hK.out _ _ (.inr ⟨(by simpa using h17), upd vs 10 (.slice (some ⟨wr.heap.size, 0, none⟩) (5 * kk) (5 * kk)), by simp [FRj, upd, Act.put], hS.step hLi (by decide) g ⟨wr.heap.size, rfl, o⟩ (fun k hk => by cases hk; exact Nat.le_refl _)⟩)
        · skip
          simp only [FRj] at *
          go_simp
          exact hK.out _ _ (.inr ⟨(by simpa using h17), upd vs 11 (.int .i64 (kk : Int)), rfl, hS.quiet hLi (by decide) rfl rfl⟩)
        · have vv : vs 11 = .int .i64 ((kk : Nat) : Int) := hS.G 11 (he ⟨11, .data⟩ (by simp) rfl)
          refine step_make_full wr rfl (.tmp 28) (.tmp 28) 36 rfl w2.drew.heap.size 91 f0 (.slice none 0 0) 1 Try.underlying36 fi fz0 fz1 .i64 .i64 _ _ (kk) vv vv rfl rfl (by rw [fz2]; omega) (by unfold maxLen; omega) hB0 ?_
          intro w' o g
          rw [made_nils] at o
          exact hK.out _ _ (.inr ⟨(by simpa using h17), upd vs 12 (.slice (some ⟨wr.heap.size, 0, none⟩) (kk) (kk)), by simp [FRj, upd, Act.put], hS.step hLi (by decide) g ⟨wr.heap.size, rfl, o⟩ (fun k hk => by cases hk; exact Nat.le_refl _)⟩)
        · skip
          simp only [FRj] at *
          go_simp
          exact hK.out _ _ (.inr ⟨(by simpa using h17), upd vs 13 (.int .i64 (kk : Int)), rfl, hS.quiet hLi (by decide) rfl rfl⟩)
        · have vv : vs 13 = .int .i64 ((kk : Nat) : Int) := hS.G 13 (he ⟨13, .data⟩ (by simp) rfl)
          refine step_make_full wr rfl (.tmp 30) (.tmp 30) 36 rfl w2.drew.heap.size 91 f0 (.slice none 0 0) 1 Try.underlying36 fi fz0 fz1 .i64 .i64 _ _ (kk) vv vv rfl rfl (by rw [fz2]; omega) (by unfold maxLen; omega) hB0 ?_
          intro w' o g
          rw [made_nils] at o
          exact hK.out _ _ (.inr ⟨(by simpa using h17), upd vs 14 (.slice (some ⟨wr.heap.size, 0, none⟩) (kk) (kk)), by simp [FRj, upd, Act.put], hS.step hLi (by decide) g ⟨wr.heap.size, rfl, o⟩ (fun k hk => by cases hk; exact Nat.le_refl _)⟩)
        · have v0 : vs 0 = .agg #[.int .i64 W, .int .i64 H, .slice A n cap] := hS.G 0 (he ⟨0, .data⟩ (by simp) rfl)
          have v1 : vs 1 = .agg #[.slice AP nP cP, .slice AQ nQ cQ] := hS.G 1 (he ⟨1, .data⟩ (by simp) rfl)
          obtain ⟨g4, v4, _⟩ := hS.G 4 (he ⟨4, .data⟩ (by simp) rfl)
          obtain ⟨g7, v7, _⟩ := hS.G 7 (he ⟨7, .data⟩ (by simp) rfl)
          obtain ⟨g10, v10, _⟩ := hS.G 10 (he ⟨10, .data⟩ (by simp) rfl)
          obtain ⟨g12, v12, _⟩ := hS.G 12 (he ⟨12, .data⟩ (by simp) rfl)
          obtain ⟨g14, v14, _⟩ := hS.G 14 (he ⟨14, .data⟩ (by simp) rfl)
          simp only [FRj] at *
          go_simp
          exact hK.out _ _ (.inr ⟨(by simpa using h17), upd vs 15 (.agg #[.int .i64 W, .int .i64 H, .slice A n cap, .slice AP nP cP, .slice AQ nQ cQ, .slice (some ⟨g4, 0, none⟩) (10 * kk) (10 * kk), .slice (some ⟨g7, 0, none⟩) (10 * kk) (10 * kk), .slice (some ⟨g10, 0, none⟩) (5 * kk) (5 * kk), .slice (some ⟨g12, 0, none⟩) (kk) (kk), .slice (some ⟨g14, 0, none⟩) (kk) (kk), .int .i64 0]), by simp [FRj, upd, v0, v1, v4, v7, v10, v12, v14], hS.build hLi ⟨(he ⟨4, .data⟩ (by simp) rfl), (he ⟨7, .data⟩ (by simp) rfl), (he ⟨10, .data⟩ (by simp) rfl), (he ⟨12, .data⟩ (by simp) rfl), (he ⟨14, .data⟩ (by simp) rfl)⟩ ⟨g4, g7, g10, g12, g14, by rw [upd_ne _ _ (by decide), v4], by rw [upd_ne _ _ (by decide), v7], by rw [upd_ne _ _ (by decide), v10], by rw [upd_ne _ _ (by decide), v12], by rw [upd_ne _ _ (by decide), v14], by rw [upd_at]⟩⟩)
        · skip
          simp only [FRj] at *
          go_simp
          exact hK.out _ _ (.inr ⟨(by simpa using h17), upd vs 16 (.pointer (some ⟨wr.heap.size, 0, none⟩)), by simp [FRj, upd], hS.step hLi (by decide) (gb_alloc (gb_refl wr none) _) ⟨wr.heap.size, rfl, Blk.new wr _ _, hB0⟩ (fun k hk => by cases hk)⟩)
        · have p0 := (he ⟨0, .phase⟩ (by simp) rfl)
          have p1 := (he ⟨1, .phase⟩ (by simp) rfl)
          have p2 := (he ⟨2, .phase⟩ (by simp) rfl)
          have p3 := (he ⟨3, .phase⟩ (by simp) rfl)
          have p4 := (he ⟨4, .phase⟩ (by simp) rfl)
          have p5 := (he ⟨5, .phase⟩ (by simp) rfl)
          have p6 := (he ⟨6, .phase⟩ (by simp) rfl)
          have p7 := (he ⟨7, .phase⟩ (by simp) rfl)
          have p8 := (he ⟨8, .phase⟩ (by simp) rfl)
          have p9 := (he ⟨9, .phase⟩ (by simp) rfl)
          have p10 := (he ⟨10, .phase⟩ (by simp) rfl)
          have p11 := (he ⟨11, .phase⟩ (by simp) rfl)
          have p12 := (he ⟨12, .phase⟩ (by simp) rfl)
          have p13 := (he ⟨13, .phase⟩ (by simp) rfl)
          have p14 := (he ⟨14, .phase⟩ (by simp) rfl)
          have p15 := (he ⟨15, .phase⟩ (by simp) rfl)
          have p16 := (he ⟨16, .phase⟩ (by simp) rfl)
          have hall : ∀ k, k < 17 → Lf k = true := fun k hk => by
            have hk17 : k = 0 ∨ k = 1 ∨ k = 2 ∨ k = 3 ∨ k = 4 ∨ k = 5 ∨ k = 6 ∨ k = 7 ∨ k = 8 ∨ k = 9 ∨ k = 10 ∨ k = 11 ∨ k = 12 ∨ k = 13 ∨ k = 14 ∨ k = 15 ∨ k = 16 := by omega
            rcases hk17 with rfl | rfl | rfl | rfl | rfl | rfl | rfl | rfl | rfl | rfl | rfl | rfl | rfl | rfl | rfl | rfl | rfl <;> assumption
          obtain ⟨g, v16, bk, hlo⟩ := hS.G 16 p16
          obtain ⟨g4, g7, g10, g12, g14, v4, v7, v10, v12, v14, v15⟩ := (hS.B p15).2
          have z0 : wr.cell? ⟨g, 0, none⟩ = some (.int .i64 0) := bk.cell 0
          have y0 := bk.frozen 0
          have z1 : wr.cell? ⟨g, 1, none⟩ = some (.int .i64 0) := bk.cell 1
          have y1 := bk.frozen 1
          have z2 : wr.cell? ⟨g, 2, none⟩ = some (.slice none 0 0) := bk.cell 2
          have y2 := bk.frozen 2
          have z3 : wr.cell? ⟨g, 3, none⟩ = some (.slice none 0 0) := bk.cell 3
          have y3 := bk.frozen 3
          have z4 : wr.cell? ⟨g, 4, none⟩ = some (.slice none 0 0) := bk.cell 4
          have y4 := bk.frozen 4
          have z5 : wr.cell? ⟨g, 5, none⟩ = some (.slice none 0 0) := bk.cell 5
          have y5 := bk.frozen 5
          have z6 : wr.cell? ⟨g, 6, none⟩ = some (.slice none 0 0) := bk.cell 6
          have y6 := bk.frozen 6
          have z7 : wr.cell? ⟨g, 7, none⟩ = some (.slice none 0 0) := bk.cell 7
          have y7 := bk.frozen 7
          have z8 : wr.cell? ⟨g, 8, none⟩ = some (.slice none 0 0) := bk.cell 8
          have y8 := bk.frozen 8
          have z9 : wr.cell? ⟨g, 9, none⟩ = some (.slice none 0 0) := bk.cell 9
          have y9 := bk.frozen 9
          have z10 : wr.cell? ⟨g, 10, none⟩ = some (.int .i64 0) := bk.cell 10
          have y10 := bk.frozen 10
          have BK := Lib.hid bk
          have HS17 := Lib.hid hS
          clear bk p0 p1 p2 p3 p4 p5 p6 p7 p8 p9 p10 p11 p12 p13 p14 p15 p16
          simp only [FRj] at *
          go_simp
          exact hK.out _ _ (.inl ⟨fun k hk => by show (if k = 17 then true else Lf k) = true; split; rfl; exact hall k (by omega), Lf, vs, wr, g, #[.int .i64 W, .int .i64 H, .slice A n cap, .slice AP nP cP, .slice AQ nQ cQ, .slice (some ⟨g4, 0, none⟩) (10 * kk) (10 * kk), .slice (some ⟨g7, 0, none⟩) (10 * kk) (10 * kk), .slice (some ⟨g10, 0, none⟩) (5 * kk) (5 * kk), .slice (some ⟨g12, 0, none⟩) (kk) (kk), .slice (some ⟨g14, 0, none⟩) (kk) (kk), .int .i64 0], hall, by simp [FRj, v4, v7, v10, v12, v14, v15, v16], HS17.out, v16, v15, hlo, by have hz := (((((((((((BK.out.set_ 0 (.int .i64 W)).set_ 1 (.int .i64 H)).set_ 2 (.slice A n cap)).set_ 3 (.slice AP nP cP)).set_ 4 (.slice AQ nQ cQ)).set_ 5 (.slice (some ⟨g4, 0, none⟩) (10 * kk) (10 * kk))).set_ 6 (.slice (some ⟨g7, 0, none⟩) (10 * kk) (10 * kk))).set_ 7 (.slice (some ⟨g10, 0, none⟩) (5 * kk) (5 * kk))).set_ 8 (.slice (some ⟨g12, 0, none⟩) (kk) (kk))).set_ 9 (.slice (some ⟨g14, 0, none⟩) (kk) (kk))).set_ 10 (.int .i64 0)); simpa using hz, (((((((((((st_in _ _ _ _).sx _ _).sx _ _).sx _ _).sx _ _).sx _ _).sx _ _).sx _ _).sx _ _).sx _ _).sx _ _)⟩)
    · intro Lf a wo hI hall
      rcases hI with ⟨_, L2, vs, w9, g, cs, hl2, rfl, hS, v16, v15, hgB, hbk, hch⟩ | ⟨h17, _⟩
      · obtain ⟨g4, g7, g10, g12, g14, v4, v7, v10, v12, v14, hv15⟩ := (hS.B (hl2 15 (by omega))).2
        rw [v15] at hv15
        injection hv15 with hcs
        subst hcs
        have hg29 : w2.grownBy w9 none := ⟨hS.g.os, hS.g.tape, hS.g.output, hS.g.size, hS.g.block⟩
        have hs2 : w.heap.size + 3 ≤ w2.heap.size := by have h1 := G2.out.size; have h2 := HSZ.out; omega
        have hgw : g < wo.heap.size := hbk.lt
        have row : ∀ {t : TypeId} {m q : Nat} {xs : List Value}, w9.ownsRow w2.drew.heap.size t 1 (.slice (some ⟨q, 0, none⟩) m m) m xs → q ≠ g → wo.ownsRow w2.heap.size t 1 (.slice (some ⟨q, 0, none⟩) m m) m xs := fun ho hne => own_chg ho (fun e => hne (by cases e; rfl)) hch
        have K9 : ∃ cs9, Blk w9 g 38 cs9 := by
          obtain ⟨g', e, b, _⟩ := hS.G 16 (hl2 16 (by omega))
          rw [v16] at e
          cases e
          exact ⟨_, b⟩
        obtain ⟨cs9, hk9⟩ := K9
        have ne : ∀ {t : TypeId} {m q : Nat} {xs : List Value}, w9.ownsRow w2.drew.heap.size t 1 (.slice (some ⟨q, 0, none⟩) m m) m xs → t ≠ 38 → q ≠ g := fun ho ht e => own_ne ho hk9 ht (by rw [e]; rfl)
        have o4 : wo.ownsRow w2.heap.size 91 1 (.slice (some ⟨g4, 0, none⟩) (10 * kk) (10 * kk)) (10 * kk) (List.replicate (10 * kk) (.slice none 0 0)) := by
          obtain ⟨q, e, o⟩ := hS.G 4 (hl2 4 (by omega))
          rw [v4] at e
          cases e
          exact row o (ne o (by decide))
        have o7 : wo.ownsRow w2.heap.size 3 1 (.slice (some ⟨g7, 0, none⟩) (10 * kk) (10 * kk)) (10 * kk) (intsV (List.replicate (10 * kk) 0)) := by
          obtain ⟨q, e, o⟩ := hS.G 7 (hl2 7 (by omega))
          rw [v7] at e
          cases e
          exact row o (ne o (by decide))
        have o10 : wo.ownsRow w2.heap.size 3 1 (.slice (some ⟨g10, 0, none⟩) (5 * kk) (5 * kk)) (5 * kk) (intsV (List.replicate (5 * kk) 0)) := by
          obtain ⟨q, e, o⟩ := hS.G 10 (hl2 10 (by omega))
          rw [v10] at e
          cases e
          exact row o (ne o (by decide))
        have o12 : wo.ownsRow w2.heap.size 91 1 (.slice (some ⟨g12, 0, none⟩) (kk) (kk)) (kk) (List.replicate (kk) (.slice none 0 0)) := by
          obtain ⟨q, e, o⟩ := hS.G 12 (hl2 12 (by omega))
          rw [v12] at e
          cases e
          exact row o (ne o (by decide))
        have o14 : wo.ownsRow w2.heap.size 91 1 (.slice (some ⟨g14, 0, none⟩) (kk) (kk)) (kk) (List.replicate (kk) (.slice none 0 0)) := by
          obtain ⟨q, e, o⟩ := hS.G 14 (hl2 14 (by omega))
          rw [v14] at e
          cases e
          exact row o (ne o (by decide))
        have ap : g10 ≠ g7 := by
          have h1 := hS.K (hl2 7 (by omega)) (hl2 10 (by omega))
          rw [v7, v10] at h1
          exact fun e => h1 g7 rfl (by rw [e]; rfl)
        have nz : g ≠ g7 := by
          obtain ⟨q, e, o⟩ := hS.G 7 (hl2 7 (by omega))
          rw [v7] at e
          cases e
          exact fun e => ne o (by decide) e.symm
        have n4 : g4 ≠ g7 := fun e => own_typesG o7 o4 (by decide) (k := g7) rfl (by rw [e]; rfl)
        have n12 : g12 ≠ g7 := fun e => own_typesG o7 o12 (by decide) (k := g7) rfl (by rw [e]; rfl)
        have n14 : g14 ≠ g7 := fun e => own_typesG o7 o14 (by decide) (k := g7) rfl (by rw [e]; rfl)
        have O4 := Lib.hid o4
        have O7 := Lib.hid o7
        have O10 := Lib.hid o10
        have O12 := Lib.hid o12
        have O14 := Lib.hid o14
        have NE := Lib.hid (And.intro nz (And.intro ap (And.intro n4 (And.intro n12 n14))))
        have BK := Lib.hid hbk
        have KR := Lib.hid (((K2.out.grown G2.out (by simp)).grown hg29 (by simp)).chg hch (.inl (by omega)))
        have BR := Lib.hid ((gb_below_none (gb_trans (gb_trans GE.out G2.out) hg29) (Nat.le_refl _)).trans (hch.below (.inl (by omega)) (by have h1 := hg29.size; omega)))
        have HGS := Lib.hid (And.intro hgB (And.intro hgw hs2))
        have h7lt := o7.lt g7 rfl
        have H7L := Lib.hid h7lt
        simp only [FRj, v16]
        have z3 : wo.cell? ⟨g, 6, none⟩ = some (.slice (some ⟨g7, 0, none⟩) (10 * kk) (10 * kk)) := hbk.cell 6
        clear hbk hgB hgw hg29 hs2 hch hS hl2 v4 v7 v10 v12 v14 v15 v16 hall row ne hk9 o4 o7 o10 o12 o14 ap nz n4 n12 n14 h7lt
        go_wp2_with fail
        clear z3
        go_loopw [36] (fun i wr => ∃ q : Nat, i = .int .i64 (q : Int) ∧ q ≤ 10 * kk ∧ wr.ownsRow w2.heap.size 3 1 (.slice (some ⟨g7, 0, none⟩) (10 * kk) (10 * kk)) (10 * kk) (intsV (List.replicate q (-1) ++ List.replicate (10 * kk - q) 0)) ∧ Chg g7 (g7 + 1) wo wr) (fun i _ => 10 * kk - (intOf i).toNat)
        case atStart => exact ⟨0, rfl, Nat.zero_le _, by simpa using O7.out, Chg.refl _ _ _⟩
        case round =>
          obtain ⟨q, rfl, hq, how, hcl⟩ := hrel
          have HOW := Lib.hid how
          have CL := Lib.hid hcl
          have hbl := BK.out.chg hcl (by have h1 := NE.out.1; omega)
          have hsl := hcl.size
          by_cases hlt : q < 10 * kk
          · have l0 : (0 : Int) ≤ (q : Int) := by omega
            have l1 : (q : Int) < ((10 * kk : Nat) : Int) := by omega
            have l2 : (q : Int) < 10 * (kk : Int) := by omega
            have z6 : wr.cell? ⟨g, 6, none⟩ = some (.slice (some ⟨g7, 0, none⟩) (10 * kk) (10 * kk)) := hbl.cell 6
            have hcell := how.cellAt q (by omega)
            have hlen : q < (intsV (List.replicate q (-1) ++ List.replicate (10 * kk - q) 0)).length := by simp [intsV]; omega
            obtain ⟨x, hx⟩ : ∃ x, (intsV (List.replicate q (-1) ++ List.replicate (10 * kk - q) 0))[q]? = some x := ⟨_, List.getElem?_eq_getElem hlen⟩
            rw [hx] at hcell
            have hfz := how.frozenAt q
            obtain ⟨o5, g5⟩ := how.stored q (.int .i64 (-1))
            rw [own_row _ _ hlt] at o5
            have O5 := Lib.hid o5
            have C5 := Lib.hid (hcl.si (i := q) (.int .i64 (-1)))
            have HQ := Lib.hid hlt
            clear how hcl hbl hlen hx o5 g5
            go_wp2_with fail
            go_roundw
            case rel => exact ⟨q + 1, by go_num, by have := HQ.out; omega, O5.out, C5.out⟩
            case measure => have := HQ.out; simp [intOf]; omega
          · obtain rfl : q = 10 * kk := by omega
            have l1 : ¬ ((10 * kk : Nat) : Int) < ((10 * kk : Nat) : Int) := by omega
            have l2 : ¬ 10 * (kk : Int) < 10 * (kk : Int) := by omega
            have hbw := BR.out.trans (hcl.below (B := w.heap.size) (.inl (by have h1 := H7L.out; have h2 := HGS.out; omega)) (by have h2 := HGS.out; omega))
            have e7 : wr.ownsRow w2.heap.size 3 1 (.slice (some ⟨g7, 0, none⟩) (10 * kk) (10 * kk)) (10 * kk) (intsV (List.replicate (10 * kk) (-1))) := by simpa using how
            have oc : ∀ {t : TypeId} {m k : Nat} {xs : List Value}, wo.ownsRow w2.heap.size t 1 (.slice (some ⟨k, 0, none⟩) m m) m xs → k ≠ g7 → wr.ownsRow w2.heap.size t 1 (.slice (some ⟨k, 0, none⟩) m m) m xs := fun ho hne => own_chg ho (fun e => hne (by cases e; rfl)) hcl
            obtain ⟨_, n10, n4, n12, n14⟩ := NE.out
            obtain ⟨NN, hNN⟩ : ∃ NN, newNet W H L P Q = NN := ⟨_, rfl⟩
            have HNN := Lib.hid (HN.out.trans hNN)
            have hlL : L.length = n := HI.out.1
            have hlP : P.length = nP := HP.out.1
            have hlQ : Q.length = nQ := HQ.out.1
            have hnn : NN = ⟨W, H, L, P, Q, List.replicate (10 * kk) [], List.replicate (10 * kk) (-1), List.replicate (5 * kk) 0, List.replicate kk [], List.replicate kk [], 0⟩ := by
              rw [← hNN]
              unfold newNet
              rw [HKK.out]
              rfl
            have hin : NetIn wr wr.heap.size ⟨⟨A, cap⟩, ⟨AP, cP⟩, ⟨AQ, cQ⟩, ⟨some ⟨g4, 0, none⟩, 10 * kk⟩, ⟨some ⟨g7, 0, none⟩, 10 * kk⟩, ⟨some ⟨g10, 0, none⟩, 5 * kk⟩, ⟨some ⟨g12, 0, none⟩, kk⟩, ⟨some ⟨g14, 0, none⟩, kk⟩⟩ NN := by
              have r4 := recs_nils (oc O4.out n4)
              have r12 := recs_nils (oc O12.out n12)
              have r14 := recs_nils (oc O14.out n14)
              have i7 := intAt_own e7 (by simp) (Nat.le_refl _)
              have i10 := intAt_own (oc O10.out n10) (by simp) (Nat.le_refl _)
              have iA := (HI.out.below hbw).more hbw.size
              have iP := (HP.out.below hbw).more hbw.size
              have iQ := (HQ.out.below hbw).more hbw.size
              rw [hnn]
              refine ⟨?_, ?_, ?_, ?_, ?_, ?_, ?_, ?_⟩
              · show IntAt _ _ A L.length L; rw [hlL]; exact iA
              · show IntAt _ _ AP P.length P; rw [hlP]; exact iP
              · show IntAt _ _ AQ Q.length Q; rw [hlQ]; exact iQ
              · show IntAt _ _ (some ⟨g7, 0, none⟩) (List.replicate (10 * kk) (-1)).length _; rw [List.length_replicate]; exact i7
              · show IntAt _ _ (some ⟨g10, 0, none⟩) (List.replicate (5 * kk) 0).length _; rw [List.length_replicate]; exact i10
              · show RecsAt 5 fltC _ _ (some ⟨g4, 0, none⟩) (List.replicate (10 * kk) []).length _; rw [List.length_replicate]; exact r4
              · show RecsAt 5 fltC _ _ (some ⟨g12, 0, none⟩) (List.replicate kk []).length _; rw [List.length_replicate]; exact r12
              · show RecsAt 5 fltC _ _ (some ⟨g14, 0, none⟩) (List.replicate kk []).length _; rw [List.length_replicate]; exact r14
            have hsm : NetSm NN := by
              rw [hnn]
              refine ⟨?_, ?_, ?_, ?_, ?_, ?_, ?_, ?_, ?_, ?_, ?_⟩
              all_goals simp [sumL_rep]
              all_goals omega
            have hcn := implClone _ NN wr hin hsm
            have HCN : Hid (Calls Try.prog 38 #[.agg #[.int .i64 W, .int .i64 H, .slice A n cap, .slice AP nP cP, .slice AQ nQ cQ, .slice (some ⟨g4, 0, none⟩) (10 * kk) (10 * kk), .slice (some ⟨g7, 0, none⟩) (10 * kk) (10 * kk), .slice (some ⟨g10, 0, none⟩) (5 * kk) (5 * kk), .slice (some ⟨g12, 0, none⟩) (kk) (kk), .slice (some ⟨g14, 0, none⟩) (kk) (kk), .int .i64 0]] wr (NewNet NN wr)) := Lib.hid (by
              have e : (.agg #[.int .i64 NN.W, .int .i64 NN.H, .slice A NN.br.length cap, .slice AP NN.ta.length cP, .slice AQ NN.tb.length cQ, .slice (some ⟨g4, 0, none⟩) NN.bu.length (10 * kk), .slice (some ⟨g7, 0, none⟩) NN.ow.length (10 * kk), .slice (some ⟨g10, 0, none⟩) NN.tu.length (5 * kk), .slice (some ⟨g12, 0, none⟩) NN.so.length kk, .slice (some ⟨g14, 0, none⟩) NN.ar.length kk, .int .i64 NN.ti] : Value) = .agg #[.int .i64 W, .int .i64 H, .slice A n cap, .slice AP nP cP, .slice AQ nQ cQ, .slice (some ⟨g4, 0, none⟩) (10 * kk) (10 * kk), .slice (some ⟨g7, 0, none⟩) (10 * kk) (10 * kk), .slice (some ⟨g10, 0, none⟩) (5 * kk) (5 * kk), .slice (some ⟨g12, 0, none⟩) (kk) (kk), .slice (some ⟨g14, 0, none⟩) (kk) (kk), .int .i64 0] := by
                rw [hnn]
                simp [hlL, hlP, hlQ]
              exact e ▸ hcn)
            have kr := KR.out.chg hcl (.inl (by have h1 := H7L.out; have h2 := HGS.out; omega))
            have KRL := Lib.hid kr
            have BW := Lib.hid hbw
            have SW := Lib.hid (show w.heap.size + 3 ≤ wr.heap.size by have h1 := HGS.out; omega)
            have z0 : wr.cell? ⟨g, 0, none⟩ = some (.int .i64 W) := hbl.cell 0
            have z1 : wr.cell? ⟨g, 1, none⟩ = some (.int .i64 H) := hbl.cell 1
            have z2 : wr.cell? ⟨g, 2, none⟩ = some (.slice A n cap) := hbl.cell 2
            have z3 : wr.cell? ⟨g, 3, none⟩ = some (.slice AP nP cP) := hbl.cell 3
            have z4 : wr.cell? ⟨g, 4, none⟩ = some (.slice AQ nQ cQ) := hbl.cell 4
            have z5 : wr.cell? ⟨g, 5, none⟩ = some (.slice (some ⟨g4, 0, none⟩) (10 * kk) (10 * kk)) := hbl.cell 5
            have z6 : wr.cell? ⟨g, 6, none⟩ = some (.slice (some ⟨g7, 0, none⟩) (10 * kk) (10 * kk)) := hbl.cell 6
            have z7 : wr.cell? ⟨g, 7, none⟩ = some (.slice (some ⟨g10, 0, none⟩) (5 * kk) (5 * kk)) := hbl.cell 7
            have z8 : wr.cell? ⟨g, 8, none⟩ = some (.slice (some ⟨g12, 0, none⟩) (kk) (kk)) := hbl.cell 8
            have z9 : wr.cell? ⟨g, 9, none⟩ = some (.slice (some ⟨g14, 0, none⟩) (kk) (kk)) := hbl.cell 9
            have z10 : wr.cell? ⟨g, 10, none⟩ = some (.int .i64 0) := hbl.cell 10
            clear how hcl hbl hbw e7 oc n10 n4 n12 n14 hNN hlL hlP hlQ hnn hin hsm hcn kr
            go_wp2_with fail
            refine HCN.out.mono ?_
            rintro e w4 ⟨y, rfl, hown, hbel⟩
            have HOWN := Lib.hid hown
            have HBEL := Lib.hid hbel
            have kr := KRL.out.grown (gb_of_below hbel none) (by simp)
            have KR4 := Lib.hid kr
            have y0 : w4.cell? ⟨w.heap.size + 1 + 1, 0, none⟩ = some (.int .i64 0) := kr.cell 0
            have x0 := kr.frozen 0
            have y1 : w4.cell? ⟨w.heap.size + 1 + 1, 1, none⟩ = some (.int .i64 0) := kr.cell 1
            have x1 := kr.frozen 1
            have y2 : w4.cell? ⟨w.heap.size + 1 + 1, 2, none⟩ = some (.slice none 0 0) := kr.cell 2
            have x2 := kr.frozen 2
            have y3 : w4.cell? ⟨w.heap.size + 1 + 1, 3, none⟩ = some (.slice none 0 0) := kr.cell 3
            have x3 := kr.frozen 3
            have y4 : w4.cell? ⟨w.heap.size + 1 + 1, 4, none⟩ = some (.slice none 0 0) := kr.cell 4
            have x4 := kr.frozen 4
            have y5 : w4.cell? ⟨w.heap.size + 1 + 1, 5, none⟩ = some (.slice none 0 0) := kr.cell 5
            have x5 := kr.frozen 5
            have y6 : w4.cell? ⟨w.heap.size + 1 + 1, 6, none⟩ = some (.slice none 0 0) := kr.cell 6
            have x6 := kr.frozen 6
            have y7 : w4.cell? ⟨w.heap.size + 1 + 1, 7, none⟩ = some (.slice none 0 0) := kr.cell 7
            have x7 := kr.frozen 7
            have y8 : w4.cell? ⟨w.heap.size + 1 + 1, 8, none⟩ = some (.slice none 0 0) := kr.cell 8
            have x8 := kr.frozen 8
            have y9 : w4.cell? ⟨w.heap.size + 1 + 1, 9, none⟩ = some (.slice none 0 0) := kr.cell 9
            have x9 := kr.frozen 9
            have y10 : w4.cell? ⟨w.heap.size + 1 + 1, 10, none⟩ = some (.int .i64 0) := kr.cell 10
            have x10 := kr.frozen 10
            clear kr hown hbel z0 z1 z2 z3 z4 z5 z6 z7 z8 z9 z10
            go_wp2_with fail
            have kf : Blk (((((((((((w4.setCell ⟨w.heap.size + 1 + 1, 0, none⟩ (.int .i64 NN.W)).setCell ⟨w.heap.size + 1 + 1, 1, none⟩ (.int .i64 NN.H)).setCell ⟨w.heap.size + 1 + 1, 2, none⟩ (.slice y.br.A NN.br.length y.br.c)).setCell ⟨w.heap.size + 1 + 1, 3, none⟩ (.slice y.ta.A NN.ta.length y.ta.c)).setCell ⟨w.heap.size + 1 + 1, 4, none⟩ (.slice y.tb.A NN.tb.length y.tb.c)).setCell ⟨w.heap.size + 1 + 1, 5, none⟩ (.slice y.bu.A NN.bu.length y.bu.c)).setCell ⟨w.heap.size + 1 + 1, 6, none⟩ (.slice y.ow.A NN.ow.length y.ow.c)).setCell ⟨w.heap.size + 1 + 1, 7, none⟩ (.slice y.tu.A NN.tu.length y.tu.c)).setCell ⟨w.heap.size + 1 + 1, 8, none⟩ (.slice y.so.A NN.so.length y.so.c)).setCell ⟨w.heap.size + 1 + 1, 9, none⟩ (.slice y.ar.A NN.ar.length y.ar.c)).setCell ⟨w.heap.size + 1 + 1, 10, none⟩ (.int .i64 NN.ti)) (w.heap.size + 1 + 1) 38 #[.int .i64 NN.W, .int .i64 NN.H, .slice y.br.A NN.br.length y.br.c, .slice y.ta.A NN.ta.length y.ta.c, .slice y.tb.A NN.tb.length y.tb.c, .slice y.bu.A NN.bu.length y.bu.c, .slice y.ow.A NN.ow.length y.ow.c, .slice y.tu.A NN.tu.length y.tu.c, .slice y.so.A NN.so.length y.so.c, .slice y.ar.A NN.ar.length y.ar.c, .int .i64 NN.ti] := by
              have hz := (((((((((((KR4.out.set_ 0 (.int .i64 NN.W)).set_ 1 (.int .i64 NN.H)).set_ 2 (.slice y.br.A NN.br.length y.br.c)).set_ 3 (.slice y.ta.A NN.ta.length y.ta.c)).set_ 4 (.slice y.tb.A NN.tb.length y.tb.c)).set_ 5 (.slice y.bu.A NN.bu.length y.bu.c)).set_ 6 (.slice y.ow.A NN.ow.length y.ow.c)).set_ 7 (.slice y.tu.A NN.tu.length y.tu.c)).set_ 8 (.slice y.so.A NN.so.length y.so.c)).set_ 9 (.slice y.ar.A NN.ar.length y.ar.c)).set_ 10 (.int .i64 NN.ti))
              simpa using hz
            have qz : Chg (w.heap.size + 1 + 1) (w.heap.size + 1 + 1 + 1) w4 (((((((((((w4.setCell ⟨w.heap.size + 1 + 1, 0, none⟩ (.int .i64 NN.W)).setCell ⟨w.heap.size + 1 + 1, 1, none⟩ (.int .i64 NN.H)).setCell ⟨w.heap.size + 1 + 1, 2, none⟩ (.slice y.br.A NN.br.length y.br.c)).setCell ⟨w.heap.size + 1 + 1, 3, none⟩ (.slice y.ta.A NN.ta.length y.ta.c)).setCell ⟨w.heap.size + 1 + 1, 4, none⟩ (.slice y.tb.A NN.tb.length y.tb.c)).setCell ⟨w.heap.size + 1 + 1, 5, none⟩ (.slice y.bu.A NN.bu.length y.bu.c)).setCell ⟨w.heap.size + 1 + 1, 6, none⟩ (.slice y.ow.A NN.ow.length y.ow.c)).setCell ⟨w.heap.size + 1 + 1, 7, none⟩ (.slice y.tu.A NN.tu.length y.tu.c)).setCell ⟨w.heap.size + 1 + 1, 8, none⟩ (.slice y.so.A NN.so.length y.so.c)).setCell ⟨w.heap.size + 1 + 1, 9, none⟩ (.slice y.ar.A NN.ar.length y.ar.c)).setCell ⟨w.heap.size + 1 + 1, 10, none⟩ (.int .i64 NN.ti)) := (((((((((((st_in w4 (w.heap.size + 1 + 1) 0 (.int .i64 NN.W)).sx 1 (.int .i64 NN.H)).sx 2 (.slice y.br.A NN.br.length y.br.c)).sx 3 (.slice y.ta.A NN.ta.length y.ta.c)).sx 4 (.slice y.tb.A NN.tb.length y.tb.c)).sx 5 (.slice y.bu.A NN.bu.length y.bu.c)).sx 6 (.slice y.ow.A NN.ow.length y.ow.c)).sx 7 (.slice y.tu.A NN.tu.length y.tu.c)).sx 8 (.slice y.so.A NN.so.length y.so.c)).sx 9 (.slice y.ar.A NN.ar.length y.ar.c)).sx 10 (.int .i64 NN.ti))
            generalize (((((((((((w4.setCell ⟨w.heap.size + 1 + 1, 0, none⟩ (.int .i64 NN.W)).setCell ⟨w.heap.size + 1 + 1, 1, none⟩ (.int .i64 NN.H)).setCell ⟨w.heap.size + 1 + 1, 2, none⟩ (.slice y.br.A NN.br.length y.br.c)).setCell ⟨w.heap.size + 1 + 1, 3, none⟩ (.slice y.ta.A NN.ta.length y.ta.c)).setCell ⟨w.heap.size + 1 + 1, 4, none⟩ (.slice y.tb.A NN.tb.length y.tb.c)).setCell ⟨w.heap.size + 1 + 1, 5, none⟩ (.slice y.bu.A NN.bu.length y.bu.c)).setCell ⟨w.heap.size + 1 + 1, 6, none⟩ (.slice y.ow.A NN.ow.length y.ow.c)).setCell ⟨w.heap.size + 1 + 1, 7, none⟩ (.slice y.tu.A NN.tu.length y.tu.c)).setCell ⟨w.heap.size + 1 + 1, 8, none⟩ (.slice y.so.A NN.so.length y.so.c)).setCell ⟨w.heap.size + 1 + 1, 9, none⟩ (.slice y.ar.A NN.ar.length y.ar.c)).setCell ⟨w.heap.size + 1 + 1, 10, none⟩ (.int .i64 NN.ti)) = wz at *
            have r0 := kf.cell 0
            have r1 := kf.cell 1
            have r2 := kf.cell 2
            have r3 := kf.cell 3
            have r4 := kf.cell 4
            have r5 := kf.cell 5
            have r6 := kf.cell 6
            have r7 := kf.cell 7
            have r8 := kf.cell 8
            have r9 := kf.cell 9
            have r10 := kf.cell 10
            simp only [List.getElem?_toArray, List.getElem?_cons_zero, List.getElem?_cons_succ] at r0 r1 r2 r3 r4 r5 r6 r7 r8 r9 r10
            have hb1 := BW.out.trans (HBEL.out.mono BW.out.size)
            have hnet : NetOwn wz wr.heap.size w4.heap.size y NN := HOWN.out.heap (fun k h1 h2 => qz.block k h2 (by have h3 := SW.out; omega))
            rw [HNN.out]
            refine bodyPost_ret (v := .tuple #[.agg #[.int .i64 NN.W, .int .i64 NN.H, .slice y.br.A NN.br.length y.br.c, .slice y.ta.A NN.ta.length y.ta.c, .slice y.tb.A NN.tb.length y.tb.c, .slice y.bu.A NN.bu.length y.bu.c, .slice y.ow.A NN.ow.length y.ow.c, .slice y.tu.A NN.tu.length y.tu.c, .slice y.so.A NN.so.length y.so.c, .slice y.ar.A NN.ar.length y.ar.c, .int .i64 NN.ti], .bool true]) (by simp [results, Try.results9, go_sem, r0, r1, r2, r3, r4, r5, r6, r7, r8, r9, r10]) rfl ⟨y, rfl, (hnet.less BW.out.size).upto qz.size, hb1.trans (qz.below (.inl (by omega)) (by have h1 := hb1.size; omega))⟩
      · rw [hall 17 (by simp)] at h17
        cases h17
end Go.Proofs.Ytfloekbmgjmhbaa
end

section
namespace Go.Proofs.Ytfloekbmgjmhbaa
open Go.ChangeShapes Go.WideShapes Go.ChangeAt Go.RowKit
set_option linter.unusedVariables false
set_option maxRecDepth 20000

set_option maxHeartbeats 1600000 in
theorem implCount (A : Option Addr) (n cap : Nat) (DD : List (List Flt)) (w : World) (h : RecsAt 5 fltC w w.heap.size A n DD) (hn : n ≤ 1000000000) (hs : sumL DD ≤ 1000000000) :
    Calls Try.prog 44 #[.slice A n cap] w (RetI (sumL DD : Int) none w) := by
  have HI := Lib.hid h
  have hl := h.1
  have HZ := Lib.hid (sumL_zero DD)
  clear h
  go_enter Try.func44, Try.ntmps44
  go_wp2_with fail
  go_loopw [3, 8] (fun c i wr => ∃ k : Nat, i = .int .i64 (k : Int) ∧ k ≤ n ∧ c = .int .i64 (sumL (DD.take k) : Int) ∧ w.grownBy wr none) (fun _ i _ => n - (intOf i).toNat)
  case atStart => exact ⟨0, rfl, Nat.zero_le _, by rw [HZ.out]; rfl, gb_refl _ _⟩
  case round =>
    obtain ⟨k, rfl, hk, rfl, hg⟩ := hrel
    have HG := Lib.hid hg
    obtain ⟨t, ht⟩ : ∃ t, sumL (DD.take k) = t := ⟨_, rfl⟩
    by_cases hlt : k < n
    · obtain ⟨b, off, D, A', c', rfl, _, hD, hc, _, _⟩ := (HI.out.none (Nat.le_refl _) hg).at k hlt
      have hat := sumL_at hD
      have HNX := Lib.hid (sumL_next hD)
      rw [ht] at hat HNX ⊢
      obtain ⟨x, hx⟩ : ∃ x, D.length = x := ⟨_, rfl⟩
      rw [hx] at hc hat HNX
      have e1 : IntKind.i64.wrap ((t : Int) + (x : Int)) = ((t + x : Nat) : Int) := by rw [IntWalk.i64_in _ (by omega)]; omega
      have k0 : (0 : Int) ≤ (k : Int) := by omega
      have k1 : (k : Int) < (n : Int) := by omega
      clear hD hg ht hx hat
      go_wp2_with fail
      go_roundw
      case rel => exact ⟨k + 1, by go_num, by omega, by rw [HNX.out]; simp, by first | exact HG.out | exact gb_drewN HG.out _⟩
      case measure => simp [intOf]; omega
    · have hkn : k = n := by omega
      have HR := Lib.hid (show sumL (DD.take k) = sumL DD by rw [hkn, ← hl, sumL_all])
      have k1 : ¬ (k : Int) < (n : Int) := by omega
      clear hg ht hkn
      go_wp2_with fail
      go_ret
      exact ⟨by rw [HR.out]; rfl, HG.out⟩
theorem implFlitsInside (y : Na) (N : Nt) (w : World) (h : NetIn w w.heap.size y N) (hn : NetSm N) (hc : NetCap y N) (hL : WfL N.br) :
    Calls Try.prog 13 #[.agg #[.int .i64 N.W, .int .i64 N.H, .slice y.br.A N.br.length y.br.c, .slice y.ta.A N.ta.length y.ta.c, .slice y.tb.A N.tb.length y.tb.c, .slice y.bu.A N.bu.length y.bu.c, .slice y.ow.A N.ow.length y.ow.c, .slice y.tu.A N.tu.length y.tu.c, .slice y.so.A N.so.length y.so.c, .slice y.ar.A N.ar.length y.ar.c, .int .i64 N.ti]] w (RetI (insideG N) none w) := by
  have X0 := Lib.hid (nkAt_start (w := w) (y := y) (N := N))
  have h0 := X0.out.in h
  have HV := Lib.hid (fun (b : Bool) (hb : netOk N = b) w (h : NetIn w w.heap.size y N) => show Calls Try.prog 11 #[.agg #[.int .i64 N.W, .int .i64 N.H, .slice y.br.A N.br.length y.br.c, .slice y.ta.A N.ta.length y.ta.c, .slice y.tb.A N.tb.length y.tb.c, .slice y.bu.A N.bu.length y.bu.c, .slice y.ow.A N.ow.length y.ow.c, .slice y.tu.A N.tu.length y.tu.c, .slice y.so.A N.so.length y.so.c, .slice y.ar.A N.ar.length y.ar.c, .int .i64 N.ti]] w (RetB b w) from hb ▸ implNetOk y N w h hn hc hL)
  cases hb : netOk N with
  | false =>
    have HN := Lib.hid (HV.out false hb _ h0)
    have HR := Lib.hid (show (-1 : Int) = insideG N by rw [insideG, hb]; rfl)
    clear h hn h0 hb
    go_enter Try.func13, Try.ntmps13
    go_wp2_with fail
    refine HN.out.mono ?_
    rintro e w1 ⟨rfl, hg⟩
    have X1 := Lib.hid (X0.out.gb hg)
    clear hg
    go_wp2_with fail
    go_ret
    exact ⟨ret_int64 HR.out, X1.out.g⟩
  | true =>
    have HN := Lib.hid (HV.out true hb _ h0)
    have HR := Lib.hid (show ((sumL N.bu : Nat) : Int) = insideG N by rw [insideG, hb]; rfl)
    have HI := Lib.hid h
    have HSM := Lib.hid hn
    clear h hn h0 hb
    go_enter Try.func13, Try.ntmps13
    go_wp2_with fail
    refine HN.out.mono ?_
    rintro e w1 ⟨rfl, hg⟩
    have X1 := Lib.hid (X0.out.gb hg)
    have a1 : w1.cell? ⟨w.heap.size, 5, none⟩ = some (.slice y.bu.A N.bu.length y.bu.c) := X1.out.b.cell 5
    clear hg
    go_wp2_with fail
    refine (implCount _ _ _ N.bu _ (X1.out.in HI.out).bu HSM.out.bu HSM.out.sbu).mono ?_
    rintro e w2 ⟨rfl, hg⟩
    have X2 := Lib.hid (X1.out.gb hg)
    clear hg a1
    go_wp2_with fail
    go_ret
    exact ⟨ret_int64 HR.out, X2.out.g⟩
theorem implFlitsWaiting (y : Na) (N : Nt) (w : World) (h : NetIn w w.heap.size y N) (hn : NetSm N) (hc : NetCap y N) (hL : WfL N.br) :
    Calls Try.prog 12 #[.agg #[.int .i64 N.W, .int .i64 N.H, .slice y.br.A N.br.length y.br.c, .slice y.ta.A N.ta.length y.ta.c, .slice y.tb.A N.tb.length y.tb.c, .slice y.bu.A N.bu.length y.bu.c, .slice y.ow.A N.ow.length y.ow.c, .slice y.tu.A N.tu.length y.tu.c, .slice y.so.A N.so.length y.so.c, .slice y.ar.A N.ar.length y.ar.c, .int .i64 N.ti]] w (RetI (waitingG N) none w) := by
  have X0 := Lib.hid (nkAt_start (w := w) (y := y) (N := N))
  have h0 := X0.out.in h
  have HV := Lib.hid (fun (b : Bool) (hb : netOk N = b) w (h : NetIn w w.heap.size y N) => show Calls Try.prog 11 #[.agg #[.int .i64 N.W, .int .i64 N.H, .slice y.br.A N.br.length y.br.c, .slice y.ta.A N.ta.length y.ta.c, .slice y.tb.A N.tb.length y.tb.c, .slice y.bu.A N.bu.length y.bu.c, .slice y.ow.A N.ow.length y.ow.c, .slice y.tu.A N.tu.length y.tu.c, .slice y.so.A N.so.length y.so.c, .slice y.ar.A N.ar.length y.ar.c, .int .i64 N.ti]] w (RetB b w) from hb ▸ implNetOk y N w h hn hc hL)
  cases hb : netOk N with
  | false =>
    have HN := Lib.hid (HV.out false hb _ h0)
    have HR := Lib.hid (show (-1 : Int) = waitingG N by rw [waitingG, hb]; rfl)
    clear h hn h0 hb
    go_enter Try.func12, Try.ntmps12
    go_wp2_with fail
    refine HN.out.mono ?_
    rintro e w1 ⟨rfl, hg⟩
    have X1 := Lib.hid (X0.out.gb hg)
    clear hg
    go_wp2_with fail
    go_ret
    exact ⟨ret_int64 HR.out, X1.out.g⟩
  | true =>
    have HN := Lib.hid (HV.out true hb _ h0)
    have HR := Lib.hid (show ((sumL N.so : Nat) : Int) = waitingG N by rw [waitingG, hb]; rfl)
    have HI := Lib.hid h
    have HSM := Lib.hid hn
    clear h hn h0 hb
    go_enter Try.func12, Try.ntmps12
    go_wp2_with fail
    refine HN.out.mono ?_
    rintro e w1 ⟨rfl, hg⟩
    have X1 := Lib.hid (X0.out.gb hg)
    have a1 : w1.cell? ⟨w.heap.size, 8, none⟩ = some (.slice y.so.A N.so.length y.so.c) := X1.out.b.cell 8
    clear hg
    go_wp2_with fail
    refine (implCount _ _ _ N.so _ (X1.out.in HI.out).so HSM.out.so HSM.out.sso).mono ?_
    rintro e w2 ⟨rfl, hg⟩
    have X2 := Lib.hid (X1.out.gb hg)
    clear hg a1
    go_wp2_with fail
    go_ret
    exact ⟨ret_int64 HR.out, X2.out.g⟩
end Go.Proofs.Ytfloekbmgjmhbaa
end

section
namespace Go.Proofs.Ytfloekbmgjmhbaa
open Go.ChangeShapes Go.WideShapes Go.ChangeAt Go.RowKit
set_option linter.unusedVariables false
section
variable {α : Type} {z bytes : Nat} {c : α → List Value} {T e : TypeId} {zv : Value}
theorem wpList_app_atR {ops : Array Oper} {rest : List Oper} {o : Oper} {a : Act} {Q : Exit → Act → World → Prop} (hL : Lay z c) (hz : 0 < z) (hT : Try.prog.underlying T = some (.slice e)) (w : World) (hgd : o.guard = none) (s x : Operand)
    (ho : o.op = .call { callee := .builtin .append, args := #[s, x], argTypes := #[T, T] })
    (i0 : TypeInfo) (hi : Try.prog.info? e = some i0) (hz0 : i0.zero = some zv) (hz1 : i0.size = z) (hz2 : i0.bytes = bytes) (hzs : zv.cells.size = z) (hby : bytes ≤ 1000)
    (base n m cc B : Nat) (A : Option Addr) (X D : List α) (v : Value) (hs : a.eval s = v) (hx : a.eval x = .slice A m cc) (hown : w.ownsRow base e z v n (recV c X)) (h : RecAt z c w B A m D) (hm : n + m ≤ 1000000000) (hb : base ≤ w.heap.size)
    (hk : ∀ v' w', w'.ownsRow base e z v' (n + m) (recV c (X ++ D)) → w.grownBy w' v.ownBlock → (∀ b, v'.ownBlock = some b → v.ownBlock = some b ∨ b = w.heap.size) → wpList Try.prog ops Q rest (a.put o.dst v') w') : wpList Try.prog ops Q (o :: rest) a w := by
  have key : ∃ v' w', (Builtin.append_ #[T, T] o.type #[v, .slice A m cc]).run Try.prog w = .ok v' w' ∧ w'.ownsRow base e z v' (n + m) (recV c (X ++ D)) ∧ w.grownBy w' v.ownBlock ∧ ∀ b, v'.ownBlock = some b → v.ownBlock = some b ∨ b = w.heap.size := by
    have hl := h.1
    rcases Nat.eq_zero_or_pos m with h0 | h0
    · subst h0
      obtain rfl : D = [] := List.eq_nil_of_length_eq_zero hl
      obtain ⟨A', c', rfl, _⟩ := own_form hown
      exact ⟨_, _, run_app_nothingR hT w o.type A' n c' (own_cap hown).1 _ i0 hi hz1 (src_rec hL hz hT h cc), by rw [List.append_nil]; exact hown, gb_refl _ _, fun b hb => .inl hb⟩
    · obtain ⟨b, off, rfl, _⟩ := h.2 h0
      obtain ⟨v', w', h1, h2, h3, _, h5⟩ := run_append_own_at (P := Try.prog) w base T o.type e i0 zv z bytes hT hi hz0 hz1 hz2 hzs hz v n (recV c X) hown ⟨b, off, none⟩ m cc (recV c D)
        (by rw [recV_length hL, hl]) (rec_news hL hz h) (recV_one hL D) (by unfold maxLen; omega) (by
          have h4 : (n + m) * bytes ≤ 1000000000 * 1000 := Nat.mul_le_mul hm hby
          omega) hb
      refine ⟨v', w', h1, by rw [recV_append]; exact h2, h3, fun q hq => ?_⟩
      rcases h5 with h5 | h5
      · exact .inl (by rw [← h5]; exact hq)
      · right
        rw [h5] at hq
        exact (Option.some.inj hq).symm
  refine wpList_plain hgd fun K hK => ?_
  obtain ⟨v', w', hr, h2, h3, h4⟩ := key
  unfold Oper.wp execOp
  simp only [ho, resolve, invoke, builtin, Sem.run_bind, Sem.run_pure, Result.andThen_ok, List.map_toArray, List.map_cons, List.map_nil, hs, hx, hr]
  exact hK _ _ (hk v' w' h2 h3 h4)
end
end Go.Proofs.Ytfloekbmgjmhbaa
end

section
namespace Go.Proofs.Ytfloekbmgjmhbaa
open Go.ChangeShapes Go.WideShapes Go.ChangeAt Go.RowKit
set_option linter.unusedVariables false

section
variable {w w1 : World} {base E : Nat} {y : Na} {N : Nt} {vb vs va : List Value}
theorem set_mid {α : Type} (P Q S : List α) (i : Nat) (x : α) (hi : i < Q.length) : (P ++ (Q ++ S)).set (P.length + i) x = P ++ (Q.set i x ++ S) := by
  rw [List.set_append_right _ _ (by omega), show P.length + i - P.length = i by omega, List.set_append_left _ _ hi]
theorem get_mid {α : Type} (P Q S : List α) (i : Nat) (hi : i < Q.length) : (P ++ (Q ++ S))[P.length + i]? = Q[i]? := by
  rw [List.getElem?_append_right (by omega), show P.length + i - P.length = i by omega, List.getElem?_append_left hi]
theorem fam_kept_types {α β : Type} {e e2 : TypeId} {z z2 n2 b2 : Nat} {c : α → List Value} {us : List Value} {DD : List (List α)} {v : Value} {xs : List Value} {row : Option Nat} {w w' : World} {base : Nat} (h : Fam e z c w base us DD) (ho : w.ownsRow b2 e2 z2 v n2 xs) (hg : w.grownBy w' row) (hr : ∀ k, row = some k → v.ownBlock = some k) (hne : e2 ≠ e) : Fam e z c w' base us DD :=
  h.kept hg (fun i u k hu hk e1 => by
    have hi := (List.getElem?_eq_some_iff.1 hu).1
    obtain ⟨u2, hu2, hou⟩ := h.get (i := i) (by rw [← h.len]; exact hi)
    rw [hu] at hu2
    obtain rfl := Option.some.inj hu2
    exact own_typesG ho hou hne (hr k e1) hk)
/-- One source is written anew: its row in its own block or a new one, then its place in the header. -/
theorem NetRows.putSo (h : NetRows w base E y N vb vs va) {i g : Nat} {v v' : Value} {D' : List Flt} (hv : vs[i]? = some v) (hA : y.so.A = some ⟨g, 0, none⟩) (hg : w.grownBy w1 v.ownBlock) (ho : w1.ownsRow base 120 5 v' D'.length (recV fltC D'))
    (hn : ∀ k, v'.ownBlock = some k → v.ownBlock = some k ∨ w.heap.size ≤ k) : NetRows (w1.setCell ⟨g, i, none⟩ v') base (w1.setCell ⟨g, i, none⟩ v').heap.size y {N with so := N.so.set i D'} vb (vs.set i v') va ∧ w1.grownBy (w1.setCell ⟨g, i, none⟩ v') (some g) := by
  have hi := (List.getElem?_eq_some_iff.1 hv).1
  have hiN : i < N.so.length := by rw [← h.ls]; exact hi
  obtain ⟨u, hu, hou⟩ := h.so.fam.get hiN
  rw [hv] at hu
  obtain rfl := Option.some.inj hu
  -- behind the row's write
  have I1 := fam_kept_types (β := Flt) h.int hou hg (fun k e => e) (by decide)
  have H1 := fam_kept_types (β := Flt) h.hd hou hg (fun k e => e) (by decide)
  have hfv : (vb ++ (vs ++ va))[vb.length + i]? = some v := by rw [get_mid _ _ _ _ hi]; exact hv
  have F1 := h.fl.set hfv hg ho hn
  rw [set_mid vb vs va i v' hi, show vb.length + i = N.bu.length + i by rw [h.lb], set_mid N.bu N.so N.ar i D' hiN] at F1
  -- behind the header's
  have hh := H1.row 1 _ _ rfl rfl
  rw [recV_id] at hh
  have hlen : vs.length = N.so.length := h.ls
  have hh' : w1.ownsRow base 91 1 (.slice (some ⟨g, 0, none⟩) N.so.length y.so.c) N.so.length vs := by rw [← hA]; rw [hlen] at hh; exact hh
  obtain ⟨h2, g2⟩ := hh'.stored i v'
  have g2' : w1.grownBy (w1.setCell ⟨g, i, none⟩ v') (some g) := g2
  have I2 := fam_kept_types (β := Flt) I1 hh' g2' (fun k e => by cases e; rfl) (by decide)
  have F2 := fam_kept_types (β := Flt) F1 hh' g2' (fun k e => by cases e; rfl) (by decide)
  have e1 : hdsOf y {N with so := N.so.set i D'} = hdsOf y N := by simp only [hdsOf, List.length_set]
  have H2 := H1.set (i := 1) (v := .slice y.so.A N.so.length y.so.c) (v' := .slice y.so.A N.so.length y.so.c) (D' := vs.set i v') rfl (by rw [hA]; exact g2') (by rw [recV_id, List.length_set, hlen, hA]; exact h2) (fun k hk => .inl hk)
  exact ⟨netRows_mk I2 (by rw [e1]; exact H2) F2 h.lb (by rw [List.length_set, List.length_set]; exact h.ls) h.la, g2'⟩
end
end Go.Proofs.Ytfloekbmgjmhbaa
end

section
namespace Go.Proofs.Ytfloekbmgjmhbaa
open Go.ChangeShapes Go.WideShapes Go.ChangeAt Go.RowKit
set_option linter.unusedVariables false
set_option maxRecDepth 20000

/-- Blocks below base, and blocks that hold neither flits nor lists of flits, stay as they are. -/
structure KeptN (base : Nat) (w w' : World) : Prop where
  b : Below base w w'
  s : w.heap.size ≤ w'.heap.size
  k : ∀ g t cs, t ≠ 120 → t ≠ 91 → Blk w g t cs → Blk w' g t cs
theorem keptN_gb {w w' : World} (base : Nat) (hb : base ≤ w.heap.size) (h : w.grownBy w' none) : KeptN base w w' := ⟨gb_below_none h hb, h.size, fun g t cs _ _ hk => hk.grown h (by simp)⟩
theorem KeptN.trans {base : Nat} {a b c : World} (h : KeptN base a b) (k : KeptN base b c) : KeptN base a c := ⟨h.b.trans k.b, Nat.le_trans h.s k.s, fun g t cs h1 h2 hk => k.k g t cs h1 h2 (h.k g t cs h1 h2 hk)⟩
section
variable (y : Na) (N : Nt) (base E g f c : Nat) (vb vs va : List Value) (A : Option Addr) (X D : List Flt) (w : World)
set_option maxHeartbeats 1600000 in
theorem implEnter_yes (hr : NetRows w base E y N vb vs va) (hA : y.so.A = some ⟨g, 0, none⟩) (hX : N.so[f]? = some X) (hx1 : X.length + D.length ≤ 60) (h : RecAt 5 fltC w w.heap.size A D.length D) (hb : base ≤ w.heap.size) :
    Calls Try.prog 81 #[.pointer (some ⟨g, f, none⟩), .slice A D.length c] w fun e w' => e = .returned (.bool true) ∧ (∃ vs', NetRows w' base w'.heap.size y {N with so := N.so.set f (X ++ D)} vb vs' va) ∧ KeptN base w w' := by
  obtain ⟨j0, fi, fz0, fz1, fz2⟩ := info_parts info_flt
  have hfl := (List.getElem?_eq_some_iff.1 hX).1
  have hlsf : f < vs.length := by rw [hr.ls]; exact hfl
  obtain ⟨u, hu⟩ : ∃ u, vs[f]? = some u := ⟨_, List.getElem?_eq_getElem hlsf⟩
  have hou := hr.so.fam.row f u X hu hX
  obtain ⟨Au, cu, rfl, _⟩ := own_form hou
  have hhd := hr.so.hd
  rw [hA] at hhd
  have hel := hhd.cellAt f (by rw [Nat.mul_one]; exact hfl)
  rw [hu] at hel
  have nty : (Value.slice Au X.length cu).ownBlock ≠ some g := fun e => own_typesG hou hhd (by decide) e rfl
  have HOU := Lib.hid hou
  have HIN := Lib.hid h
  have HD := Lib.hid hhd
  have HR := Lib.hid hr
  have HU := Lib.hid hu
  have HAA := Lib.hid hA
  have NTY := Lib.hid nty
  have HFL := Lib.hid hfl
  obtain ⟨n, hn⟩ : ∃ n, X.length = n := ⟨_, rfl⟩
  obtain ⟨m, hm⟩ : ∃ m, D.length = m := ⟨_, rfl⟩
  have HN := Lib.hid hn
  have HM := Lib.hid hm
  rw [hn] at hel hx1 HOU NTY HU
  rw [hm] at hx1 HIN
  rw [hm]
  have e1 : IntKind.i64.wrap ((n : Int) + (m : Int)) = ((n + m : Nat) : Int) := by rw [IntWalk.i64_in _ (by omega)]; omega
  have e2 : ¬ ((n + m : Nat) : Int) > 60 := by omega
  clear hr hA hX h hfl hlsf hu hou hhd nty hn hm
  go_enter Try.func81, Try.ntmps81
  go_wp2_with (at_builtin; refine wpList_app_atR fltL (by decide) Try.underlying91 _ rfl _ _ rfl j0 fi fz0 fz1 fz2 rfl (by decide) base n m c _ _ X D (.slice Au n cu) rfl rfl HOU.out HIN.out (by omega) hb ?_; intro v1 w1 hown1 hgrow1 hat1; obtain ⟨B1, d1, rfl, _⟩ := own_form hown1; have hh1 := row_keptR HD.out hgrow1 (fun j e1 e2 => by cases e2; exact NTY.out e1); have cc := hh1.cellAt f (by rw [Nat.mul_one]; exact HFL.out); have ff := hh1.frozenAt f; rw [HU.out] at cc; have O1 := Lib.hid hown1; have G1 := Lib.hid hgrow1; have A1 := Lib.hid hat1; have H1 := Lib.hid hh1; clear hown1 hgrow1 hat1 hh1)
  go_ret
  have o1 : w1.ownsRow base 120 5 (.slice B1 (n + m) d1) (X ++ D).length (recV fltC (X ++ D)) := by rw [List.length_append, HN.out, HM.out]; exact O1.out
  obtain ⟨p1, p2⟩ := HR.out.putSo HU.out HAA.out G1.out o1 (fun k hk => (A1.out k hk).elim .inl (fun e => .inr (by omega)))
  refine ⟨rfl, ⟨_, p1⟩, ⟨((Below.refl base w).grown G1.out hb (fun j e => (HOU.out.lt j e).1)).grown p2 (Nat.le_trans hb G1.out.size) (fun j e => by cases e; exact (HD.out.lt _ rfl).1), Nat.le_trans G1.out.size p2.size, fun q t cs h1 h2 hk => ?_⟩⟩
  refine (hk.grown G1.out (fun e => own_ne HOU.out hk (Ne.symm h1) e.symm)).grown p2 (fun e => ?_)
  injection e with e
  subst e
  exact own_ne HD.out hk (Ne.symm h2) rfl
set_option maxHeartbeats 1600000 in
theorem implEnter_no (hr : NetRows w base E y N vb vs va) (hA : y.so.A = some ⟨g, 0, none⟩) (hX : N.so[f]? = some X) (hx0 : X.length ≤ 60) (hx1 : D.length ≤ 60) (hx2 : ¬ X.length + D.length ≤ 60) :
    Calls Try.prog 81 #[.pointer (some ⟨g, f, none⟩), .slice A D.length c] w fun e w' => e = .returned (.bool false) ∧ w' = w := by
  have hfl := (List.getElem?_eq_some_iff.1 hX).1
  have hlsf : f < vs.length := by rw [hr.ls]; exact hfl
  obtain ⟨u, hu⟩ : ∃ u, vs[f]? = some u := ⟨_, List.getElem?_eq_getElem hlsf⟩
  have hou := hr.so.fam.row f u X hu hX
  obtain ⟨Au, cu, rfl, _⟩ := own_form hou
  have hhd := hr.so.hd
  rw [hA] at hhd
  have hel := hhd.cellAt f (by rw [Nat.mul_one]; exact hfl)
  rw [hu] at hel
  obtain ⟨n, hn⟩ : ∃ n, X.length = n := ⟨_, rfl⟩
  obtain ⟨m, hm⟩ : ∃ m, D.length = m := ⟨_, rfl⟩
  rw [hn] at hel hx0 hx2
  rw [hm] at hx1 hx2
  rw [hm]
  have e1 : IntKind.i64.wrap ((n : Int) + (m : Int)) = ((n + m : Nat) : Int) := by rw [IntWalk.i64_in _ (by omega)]; omega
  have e2 : ((n + m : Nat) : Int) > 60 := by omega
  clear hr hA hX hfl hlsf hu hou hhd hn hm
  go_enter Try.func81, Try.ntmps81
  go_wp2_with fail
  go_ret
  exact ⟨rfl, rfl⟩
end
end Go.Proofs.Ytfloekbmgjmhbaa
end

section
namespace Go.Proofs.Ytfloekbmgjmhbaa
open Go.ChangeShapes Go.WideShapes Go.ChangeAt Go.RowKit
set_option linter.unusedVariables false

theorem specHas (W H n : Int) (w : World) :
    Calls Try.prog 88 #[.agg #[.int .i64 W, .int .i64 H], .int .i64 n] w (RetB (hasG W H n) w) := by
  obtain ⟨k, hk⟩ : ∃ k, countG W H = k := ⟨_, rfl⟩
  have hl := countG_le W H
  rw [hk] at hl
  obtain ⟨hl0, hl1⟩ := hl
  go_enter Try.func88, Try.ntmps88
  go_wp2_with fail
  refine (specNodeCount W H _).mono ?_
  rintro e w1 ⟨rfl, hg⟩
  rw [hk]
  go_wp2_with fail
  refine (specInV n 0 _ (hasG W H n) (by unfold hasG; rw [hk]; exact decide_eq_decide.2 (by omega)) _).mono ?_
  rintro e w2 ⟨rfl, rfl⟩
  go_wp2_with fail
  go_ret
  exact ⟨rfl, box_gb hg⟩
theorem specHasV (W H n : Int) (b : Bool) (h : hasG W H n = b) (w : World) :
    Calls Try.prog 88 #[.agg #[.int .i64 W, .int .i64 H], .int .i64 n] w (RetB b w) := h ▸ specHas W H n w
end Go.Proofs.Ytfloekbmgjmhbaa
end

section
namespace Go.Proofs.Ytfloekbmgjmhbaa
open Go.ChangeShapes Go.WideShapes Go.ChangeAt Go.RowKit
set_option linter.unusedVariables false
set_option maxRecDepth 20000

def pkB (W H : Int) (p : Pkt) (w : World) : World := (w.alloc (.cells #[.int .i64 W, .int .i64 H] 25)).alloc (.cells #[.int .i64 p.id, .int .i64 p.fr, .int .i64 p.to, .int .i64 p.cl, .int .i64 p.ln] 44)
/-- The boxes of a grid and a packet as they are. -/
structure PkAt (W H : Int) (p : Pkt) (w wr : World) : Prop where
  g : Blk wr w.heap.size 25 #[.int .i64 W, .int .i64 H]
  p : Blk wr (w.heap.size + 1) 44 #[.int .i64 p.id, .int .i64 p.fr, .int .i64 p.to, .int .i64 p.cl, .int .i64 p.ln]
  gb0 : w.grownBy wr none
section
variable {W H : Int} {p : Pkt} {w wr w' : World}
theorem pkAt_start : PkAt W H p w (pkB W H p w) := by
  have hp := Blk.new (w.alloc (.cells #[.int .i64 W, .int .i64 H] 25)) 44 #[.int .i64 p.id, .int .i64 p.fr, .int .i64 p.to, .int .i64 p.cl, .int .i64 p.ln]
  rw [alloc_size] at hp
  exact ⟨(Blk.new w 25 _).alloc _, hp, gb_alloc (gb_alloc (gb_refl w none) _) _⟩
theorem PkAt.gb (h : PkAt W H p w wr) (hg : wr.grownBy w' none) : PkAt W H p w w' := ⟨h.g.grown hg (by simp), h.p.grown hg (by simp), gb_trans h.gb0 hg⟩
theorem PkAt.cells (h : PkAt W H p w wr) : wr.cell? ⟨w.heap.size, 0, none⟩ = some (.int .i64 W) ∧ wr.cell? ⟨w.heap.size, 1, none⟩ = some (.int .i64 H) ∧ wr.cell? ⟨w.heap.size + 1, 0, none⟩ = some (.int .i64 p.id) ∧ wr.cell? ⟨w.heap.size + 1, 1, none⟩ = some (.int .i64 p.fr) ∧ wr.cell? ⟨w.heap.size + 1, 2, none⟩ = some (.int .i64 p.to) ∧ wr.cell? ⟨w.heap.size + 1, 3, none⟩ = some (.int .i64 p.cl) ∧ wr.cell? ⟨w.heap.size + 1, 4, none⟩ = some (.int .i64 p.ln) :=
  ⟨h.g.cell 0, h.g.cell 1, h.p.cell 0, h.p.cell 1, h.p.cell 2, h.p.cell 3, h.p.cell 4⟩
end

set_option maxHeartbeats 1600000 in
theorem specPacketOk (W H : Int) (p : Pkt) (w : World) :
    Calls Try.prog 51 #[.agg #[.int .i64 W, .int .i64 H], pktX p] w (RetB (pktOk W H p) w) := by
  have X0 := Lib.hid (pkAt_start (W := W) (H := H) (p := p) (w := w))
  obtain ⟨r, hr⟩ : ∃ r, pktOk W H p = r := ⟨_, rfl⟩
  rw [hr]
  have hr' := hr
  unfold pktOk at hr'
  unfold pktX
  have HIN := Lib.hid (fun (x lo hi : Int) (b : Bool) (hb : decide (lo ≤ x ∧ x ≤ hi) = b) w => specInV x lo hi b hb w)
  have HHS := Lib.hid (fun (n : Int) (b : Bool) (h : hasG W H n = b) w => specHasV W H n b h w)
  cases hb1 : decide (1 ≤ p.id ∧ p.id ≤ 9999) with
  | false =>
    rw [hb1, Bool.false_and] at hr'
    subst hr'
    have C0 := Lib.hid (HIN.out p.id 1 9999 false hb1)
    obtain ⟨a0, a1, a2, a3, a4, a5, a6⟩ := X0.out.cells
    clear hr hb1
    go_enter Try.func51, Try.ntmps51
    go_wp2_with fail
    refine (C0.out _).mono ?_
    rintro e w1 ⟨rfl, rfl⟩
    go_wp2_with fail
    go_ret
    exact ⟨rfl, X0.out.gb0⟩
  | true =>
    cases hb2 : hasG W H p.fr with
    | false =>
      rw [hb1, Bool.true_and, hb2, Bool.false_and] at hr'
      subst hr'
      have C0 := Lib.hid (HIN.out p.id 1 9999 true hb1)
      have C1 := Lib.hid (HHS.out p.fr false hb2)
      obtain ⟨a0, a1, a2, a3, a4, a5, a6⟩ := X0.out.cells
      clear hr hb1 hb2
      go_enter Try.func51, Try.ntmps51
      go_wp2_with fail
      refine (C0.out _).mono ?_
      rintro e w1 ⟨rfl, rfl⟩
      go_wp2_with fail
      refine (C1.out _).mono ?_
      rintro e w2 ⟨rfl, g2⟩
      have X2 := Lib.hid (X0.out.gb g2)
      clear g2 a0 a1 a2 a3 a4 a5 a6
      obtain ⟨a0, a1, a2, a3, a4, a5, a6⟩ := X2.out.cells
      go_wp2_with fail
      go_ret
      exact ⟨rfl, X2.out.gb0⟩
    | true =>
      cases hb3 : hasG W H p.to with
      | false =>
        rw [hb1, Bool.true_and, hb2, Bool.true_and, hb3, Bool.false_and] at hr'
        subst hr'
        have C0 := Lib.hid (HIN.out p.id 1 9999 true hb1)
        have C1 := Lib.hid (HHS.out p.fr true hb2)
        have C2 := Lib.hid (HHS.out p.to false hb3)
        obtain ⟨a0, a1, a2, a3, a4, a5, a6⟩ := X0.out.cells
        clear hr hb1 hb2 hb3
        go_enter Try.func51, Try.ntmps51
        go_wp2_with fail
        refine (C0.out _).mono ?_
        rintro e w1 ⟨rfl, rfl⟩
        go_wp2_with fail
        refine (C1.out _).mono ?_
        rintro e w2 ⟨rfl, g2⟩
        have X2 := Lib.hid (X0.out.gb g2)
        clear g2 a0 a1 a2 a3 a4 a5 a6
        obtain ⟨a0, a1, a2, a3, a4, a5, a6⟩ := X2.out.cells
        go_wp2_with fail
        refine (C2.out _).mono ?_
        rintro e w3 ⟨rfl, g3⟩
        have X3 := Lib.hid (X2.out.gb g3)
        clear g3 a0 a1 a2 a3 a4 a5 a6
        obtain ⟨a0, a1, a2, a3, a4, a5, a6⟩ := X3.out.cells
        go_wp2_with fail
        go_ret
        exact ⟨rfl, X3.out.gb0⟩
      | true =>
        cases hb4 : decide (p.fr ≠ p.to) with
        | false =>
          rw [hb1, Bool.true_and, hb2, Bool.true_and, hb3, Bool.true_and, hb4, Bool.false_and] at hr'
          subst hr'
          have C0 := Lib.hid (HIN.out p.id 1 9999 true hb1)
          have C1 := Lib.hid (HHS.out p.fr true hb2)
          have C2 := Lib.hid (HHS.out p.to true hb3)
          have hne : (p.fr != p.to) = false := by simpa using hb4
          obtain ⟨a0, a1, a2, a3, a4, a5, a6⟩ := X0.out.cells
          clear hr hb1 hb2 hb3 hb4
          go_enter Try.func51, Try.ntmps51
          go_wp2_with fail
          refine (C0.out _).mono ?_
          rintro e w1 ⟨rfl, rfl⟩
          go_wp2_with fail
          refine (C1.out _).mono ?_
          rintro e w2 ⟨rfl, g2⟩
          have X2 := Lib.hid (X0.out.gb g2)
          clear g2 a0 a1 a2 a3 a4 a5 a6
          obtain ⟨a0, a1, a2, a3, a4, a5, a6⟩ := X2.out.cells
          go_wp2_with fail
          refine (C2.out _).mono ?_
          rintro e w3 ⟨rfl, g3⟩
          have X3 := Lib.hid (X2.out.gb g3)
          clear g3 a0 a1 a2 a3 a4 a5 a6
          obtain ⟨a0, a1, a2, a3, a4, a5, a6⟩ := X3.out.cells
          go_wp2_with fail
          go_ret
          exact ⟨rfl, X3.out.gb0⟩
        | true =>
          cases hb5 : decide (0 ≤ p.cl ∧ p.cl ≤ 1) with
          | false =>
            rw [hb1, Bool.true_and, hb2, Bool.true_and, hb3, Bool.true_and, hb4, Bool.true_and, hb5, Bool.false_and] at hr'
            subst hr'
            have C0 := Lib.hid (HIN.out p.id 1 9999 true hb1)
            have C1 := Lib.hid (HHS.out p.fr true hb2)
            have C2 := Lib.hid (HHS.out p.to true hb3)
            have hne : (p.fr != p.to) = true := by simpa using hb4
            have C4 := Lib.hid (HIN.out p.cl 0 1 false hb5)
            obtain ⟨a0, a1, a2, a3, a4, a5, a6⟩ := X0.out.cells
            clear hr hb1 hb2 hb3 hb4 hb5
            go_enter Try.func51, Try.ntmps51
            go_wp2_with fail
            refine (C0.out _).mono ?_
            rintro e w1 ⟨rfl, rfl⟩
            go_wp2_with fail
            refine (C1.out _).mono ?_
            rintro e w2 ⟨rfl, g2⟩
            have X2 := Lib.hid (X0.out.gb g2)
            clear g2 a0 a1 a2 a3 a4 a5 a6
            obtain ⟨a0, a1, a2, a3, a4, a5, a6⟩ := X2.out.cells
            go_wp2_with fail
            refine (C2.out _).mono ?_
            rintro e w3 ⟨rfl, g3⟩
            have X3 := Lib.hid (X2.out.gb g3)
            clear g3 a0 a1 a2 a3 a4 a5 a6
            obtain ⟨a0, a1, a2, a3, a4, a5, a6⟩ := X3.out.cells
            go_wp2_with fail
            refine (C4.out _).mono ?_
            rintro e w5 ⟨rfl, rfl⟩
            go_wp2_with fail
            go_ret
            exact ⟨rfl, X3.out.gb0⟩
          | true =>
            obtain ⟨b6, hb6⟩ : ∃ b, decide (1 ≤ p.ln ∧ p.ln ≤ 5) = b := ⟨_, rfl⟩
            rw [hb1, Bool.true_and, hb2, Bool.true_and, hb3, Bool.true_and, hb4, Bool.true_and, hb5, Bool.true_and, hb6] at hr'
            subst hr'
            have C0 := Lib.hid (HIN.out p.id 1 9999 true hb1)
            have C1 := Lib.hid (HHS.out p.fr true hb2)
            have C2 := Lib.hid (HHS.out p.to true hb3)
            have hne : (p.fr != p.to) = true := by simpa using hb4
            have C4 := Lib.hid (HIN.out p.cl 0 1 true hb5)
            have C5 := Lib.hid (HIN.out p.ln 1 5 b6 hb6)
            obtain ⟨a0, a1, a2, a3, a4, a5, a6⟩ := X0.out.cells
            clear hr hb1 hb2 hb3 hb4 hb5 hb6
            go_enter Try.func51, Try.ntmps51
            go_wp2_with fail
            refine (C0.out _).mono ?_
            rintro e w1 ⟨rfl, rfl⟩
            go_wp2_with fail
            refine (C1.out _).mono ?_
            rintro e w2 ⟨rfl, g2⟩
            have X2 := Lib.hid (X0.out.gb g2)
            clear g2 a0 a1 a2 a3 a4 a5 a6
            obtain ⟨a0, a1, a2, a3, a4, a5, a6⟩ := X2.out.cells
            go_wp2_with fail
            refine (C2.out _).mono ?_
            rintro e w3 ⟨rfl, g3⟩
            have X3 := Lib.hid (X2.out.gb g3)
            clear g3 a0 a1 a2 a3 a4 a5 a6
            obtain ⟨a0, a1, a2, a3, a4, a5, a6⟩ := X3.out.cells
            go_wp2_with fail
            refine (C4.out _).mono ?_
            rintro e w5 ⟨rfl, rfl⟩
            go_wp2_with fail
            refine (C5.out _).mono ?_
            rintro e w6 ⟨rfl, rfl⟩
            go_wp2_with fail
            go_ret
            exact ⟨rfl, X3.out.gb0⟩
theorem specPacketOkV (W H : Int) (p : Pkt) (b : Bool) (h : pktOk W H p = b) (w : World) :
    Calls Try.prog 51 #[.agg #[.int .i64 W, .int .i64 H], pktX p] w (RetB b w) := h ▸ specPacketOk W H p w
/-- A new list of flits. -/
def NewF (D : List Flt) (w : World) (e : Ending) (w' : World) : Prop :=
  ∃ v, e = .returned v ∧ w'.ownsRow w.heap.size 120 5 v D.length (recV fltC D) ∧ Below w.heap.size w w'
def lenF : Value → Nat | .slice _ n _ => n | _ => 0

set_option maxHeartbeats 1600000 in
theorem specFlitsOf (W H : Int) (p : Pkt) (w : World) :
    Calls Try.prog 92 #[.agg #[.int .i64 W, .int .i64 H], pktX p] w (NewF (flitsG W H p) w) := by
  obtain ⟨i0, hi, hz0, hz1, hz2⟩ := info_parts info_flt
  have x0 := pkAt_start (W := W) (H := H) (p := p) (w := w)
  have X0 := Lib.hid (x0.gb (gb_alloc (gb_refl _ none) (.cells #[] 120)))
  have ho := World.ownsRow_made (base := w.heap.size) (e := 120) (size := 5) (pkB W H p w) #[] 0 x0.gb0.size (by decide) rfl
  have hs : (pkB W H p w).heap.size = w.heap.size + 2 := by unfold pkB; rw [alloc_size, alloc_size]
  rw [hs] at ho
  have HO0 := Lib.hid ho
  unfold pktX
  clear x0 ho hs
  cases hok : pktOk W H p with
  | false =>
    have HP := Lib.hid (fun w => specPacketOkV W H p false hok w)
    rw [flitsG_no hok]
    clear hok
    obtain ⟨a0, a1, a2, a3, a4, a5, a6⟩ := X0.out.cells
    go_enter Try.func92, Try.ntmps92
    go_wp2_with fail
    go_loopw [5, 6] (fun v i wr => v = .slice (some ⟨w.heap.size + 2, 0, none⟩) 0 0 ∧ i = .int .i64 0 ∧ wr = (pkB W H p w).alloc (.cells #[] 120)) (fun _ _ _ => 0)
    case atStart => exact ⟨rfl, rfl, rfl⟩
    case round =>
      obtain ⟨rfl, rfl, rfl⟩ := hrel
      by_cases hlt : (0 : Int) < p.ln
      · go_wp2_with fail
        refine (HP.out _).mono ?_
        rintro e w1 ⟨rfl, g1⟩
        have X1 := Lib.hid (X0.out.gb g1)
        have O1 := Lib.hid (own_none HO0.out g1)
        clear g1
        go_wp2_with fail
        go_ret
        exact ⟨_, rfl, O1.out, gb_below_none X1.out.gb0 (Nat.le_refl _)⟩
      · go_wp2_with fail
        go_ret
        exact ⟨_, rfl, HO0.out, gb_below_none X0.out.gb0 (Nat.le_refl _)⟩
  | true =>
    have HP := Lib.hid (fun w => specPacketOkV W H p true hok w)
    rw [flitsG_yes hok]
    have hln := (pktOk_iff.1 hok).2.2.2.2.2
    obtain ⟨m, hm⟩ : ∃ m : Nat, p.ln.toNat = m := ⟨_, rfl⟩
    have hmi : p.ln = (m : Int) := by omega
    have hm5 : m ≤ 5 := by omega
    have hm1 : 1 ≤ m := by omega
    have HFA := Lib.hid (fun k => show flitAt p k = ⟨p.id, p.to, p.cl, decide (k = 0), decide ((k : Int) = (m : Int) - 1)⟩ by rw [flitAt, hmi])
    rw [hm]
    obtain ⟨a0, a1, a2, a3, a4, a5, a6⟩ := X0.out.cells
    have HMI := Lib.hid hmi
    clear hok hln hm hmi
    go_enter Try.func92, Try.ntmps92
    go_wp2_with fail
    have X0' := Lib.hid (show PkAt W H p w ((pkB W H p w).alloc (.cells #[] 120)) from X0.out)
    clear a0 a1 a2 a3 a4 a5 a6
    go_loopw [5, 6] (fun v i wr => ∃ k : Nat, i = .int .i64 (k : Int) ∧ k ≤ m ∧ wr.ownsRow (w.heap.size) 120 5 v k (recV fltC (flitsTo p k)) ∧ (v.ownBlock ≠ some w.heap.size ∧ v.ownBlock ≠ some (w.heap.size + 1)) ∧ Blk wr w.heap.size 25 #[.int .i64 W, .int .i64 H] ∧ Blk wr (w.heap.size + 1) 44 #[.int .i64 p.id, .int .i64 p.fr, .int .i64 p.to, .int .i64 p.cl, .int .i64 p.ln] ∧ Below w.heap.size w wr) (fun v _ _ => 6 - lenF v)
    case atStart => exact ⟨0, rfl, Nat.zero_le _, HO0.out, ⟨by simp [Value.ownBlock] <;> omega, by simp [Value.ownBlock] <;> omega⟩, X0'.out.g, X0'.out.p, gb_below_none X0'.out.gb0 (Nat.le_refl _)⟩
    case round =>
      obtain ⟨k, rfl, hk, ho, hne, hbg, hbp, hbl⟩ := hrel
      have HO := Lib.hid ho
      have HBG := Lib.hid hbg
      have HBP := Lib.hid hbp
      have HB := Lib.hid hbl
      have HNE := Lib.hid hne
      have b0 : wr.cell? ⟨w.heap.size, 0, none⟩ = some (.int .i64 W) := hbg.cell 0
      have b1 : wr.cell? ⟨w.heap.size, 1, none⟩ = some (.int .i64 H) := hbg.cell 1
      have b2 : wr.cell? ⟨w.heap.size + 1, 0, none⟩ = some (.int .i64 p.id) := hbp.cell 0
      have b3 : wr.cell? ⟨w.heap.size + 1, 1, none⟩ = some (.int .i64 p.fr) := hbp.cell 1
      have b4 : wr.cell? ⟨w.heap.size + 1, 2, none⟩ = some (.int .i64 p.to) := hbp.cell 2
      have b5 : wr.cell? ⟨w.heap.size + 1, 3, none⟩ = some (.int .i64 p.cl) := hbp.cell 3
      have b6 : wr.cell? ⟨w.heap.size + 1, 4, none⟩ = some (.int .i64 p.ln) := hbp.cell 4
      obtain ⟨Av, cv, rfl, _⟩ := own_form ho
      have hsz := hbl.size
      have hlt2 := hbp.lt
      clear ho hne hbg hbp hbl
      by_cases hlt : k < m
      · have hl1 : (k : Int) < p.ln := by have := HMI.out; omega
        go_wp2_with fail
        refine (HP.out _).mono ?_
        rintro e w1 ⟨rfl, g1⟩
        have O1 := Lib.hid (own_none HO.out g1)
        have G1 := Lib.hid (HBG.out.grown g1 (by simp))
        have P1 := Lib.hid (HBP.out.grown g1 (by simp))
        have B1 := Lib.hid (below_gb HB.out (Nat.le_refl _) g1)
        have c2 : w1.cell? ⟨w.heap.size + 1, 0, none⟩ = some (.int .i64 p.id) := P1.out.cell 0
        have c4 : w1.cell? ⟨w.heap.size + 1, 2, none⟩ = some (.int .i64 p.to) := P1.out.cell 2
        have c5 : w1.cell? ⟨w.heap.size + 1, 3, none⟩ = some (.int .i64 p.cl) := P1.out.cell 3
        have c6 : w1.cell? ⟨w.heap.size + 1, 4, none⟩ = some (.int .i64 p.ln) := P1.out.cell 4
        have s1 := B1.out.size
        have e1 : IntKind.i64.wrap (p.ln - 1) = p.ln - 1 := IntWalk.i64_in _ (by have := HMI.out; omega)
        have u1 : ((k : Int) == 0) = decide (k = 0) := by by_cases h : k = 0 <;> simp [h]
        have u2 : ((k : Int) == p.ln - 1) = decide ((k : Int) = (m : Int) - 1) := by rw [HMI.out]; by_cases h : (k : Int) = (m : Int) - 1 <;> simp [h]
        obtain ⟨t1, ht1⟩ : ∃ t, decide (k = 0) = t := ⟨_, rfl⟩
        obtain ⟨t2, ht2⟩ : ∃ t, decide ((k : Int) = (m : Int) - 1) = t := ⟨_, rfl⟩
        rw [ht1] at u1
        rw [ht2] at u2
        have b3' := Lib.hid (show ∀ u ∈ [Value.int .i64 p.id, .int .i64 p.to, .int .i64 p.cl, .bool t1, .bool t2], u.oneCell' = true by simp [Value.oneCell'])
        have b4' := Lib.hid (show k + 1 ≤ maxLen by unfold maxLen; omega)
        have HTO := Lib.hid (show recV fltC (flitsTo p k) ++ [.int .i64 p.id, .int .i64 p.to, .int .i64 p.cl, .bool t1, .bool t2] = recV fltC (flitsTo p (k + 1)) by rw [flitsTo_next, recV_append, HFA.out, ht1, ht2]; rfl)
        have SZ := Lib.hid (show w.heap.size ≤ (w1.alloc (.cells #[.int .i64 p.id, .int .i64 p.to, .int .i64 p.cl, .bool t1, .bool t2] 120)).heap.size by rw [alloc_size]; omega)
        have W1 := Lib.hid P1.out.lt
        clear g1 b0 b1 b2 b3 b4 b5 b6 ht1 ht2
        go_wp2_with (at_builtin; refine wpList_append_own _ rfl _ _ 91 rfl w.heap.size 120 i0 (fltX flt0) 5 32 Try.underlying91 hi hz0 hz1 hz2 rfl (by decide) _ k _ rfl (O1.out.alloc _) ⟨w1.heap.size, 0, none⟩ 1 1 [.int .i64 p.id, .int .i64 p.to, .int .i64 p.cl, .bool t1, .bool t2] rfl rfl (World.news_of_block (cs := #[.int .i64 p.id, .int .i64 p.to, .int .i64 p.cl, .bool t1, .bool t2]) (t := 120) (fr := (0, 0)) (heap_alloc_new w1 _)) b3'.out b4'.out (by omega) SZ.out ?_; intro v' w4 hown4 hgrow4 hnb4; rw [HTO.out] at hown4; have O4 := Lib.hid hown4; have B4 := Lib.hid ((B1.out.alloc (B1.out.size) _).grown hgrow4 SZ.out (fun j hj => (O1.out.lt j hj).1)); have G4 := Lib.hid ((G1.out.alloc _).grown hgrow4 (fun e => HNE.out.1 e.symm)); have P4 := Lib.hid ((P1.out.alloc _).grown hgrow4 (fun e => HNE.out.2 e.symm)); have N4 := Lib.hid (show v'.ownBlock ≠ some w.heap.size ∧ v'.ownBlock ≠ some (w.heap.size + 1) from ⟨fun e => own_ne O4.out G4.out (by decide) e, fun e => own_ne O4.out P4.out (by decide) e⟩); obtain ⟨A4, c4', rfl, _⟩ := own_form hown4; clear hown4 hgrow4 hnb4)
        go_roundw
        case rel => exact ⟨k + 1, by go_num, by omega, O4.out, N4.out, G4.out, P4.out, B4.out⟩
        case measure => simp [lenF]; omega
      · have hkm : k = m := by omega
        have HKM := Lib.hid hkm
        have hl1 : ¬ (k : Int) < p.ln := by have := HMI.out; omega
        clear hkm
        go_wp2_with fail
        go_ret
        refine ⟨_, rfl, ?_, HB.out⟩
        have := HO.out
        rw [HKM.out] at this ⊢
        rw [flitsTo_length]
        exact this
end Go.Proofs.Ytfloekbmgjmhbaa
end

section
namespace Go.Proofs.Ytfloekbmgjmhbaa
open Go.ChangeShapes Go.WideShapes Go.ChangeAt Go.RowKit
set_option linter.unusedVariables false
set_option maxRecDepth 20000

theorem implIsClass (c : Int) (b : Bool) (hb : decide (0 ≤ c ∧ c ≤ 1) = b) (w : World) :
    Calls Try.prog 111 #[.int .i64 c] w fun e w' => e = .returned (.bool b) ∧ w = w' := by
  have HB := Lib.hid hb
  clear hb
  by_cases h0 : c = 0
  · have HN := Lib.hid (show true = b by rw [← HB.out]; exact (decide_eq_true (by omega)).symm)
    subst h0
    go_enter Try.func111, Try.ntmps111
    go_wp2_with fail
    go_ret
    exact ⟨ret_bool HN.out, rfl⟩
  · have HN := Lib.hid (show (c == 1) = b by rw [← HB.out]; exact Bool.eq_iff_iff.2 (by simp; omega))
    have q0 : (c == 0) = false := by simpa using h0
    go_enter Try.func111, Try.ntmps111
    go_wp2_with fail
    go_ret
    exact ⟨ret_bool (by first | exact HN.out | (rw [← HN.out]; simp)), rfl⟩
theorem hasNV (W H n : Int) (b : Bool) (h : hasG W H n = b) (w : World) :
    Calls Try.prog 110 #[.agg #[.int .i64 W, .int .i64 H], .int .i64 n] w (RetB b w) := h ▸ implHasNode W H n w
theorem pk_bad {W H : Int} {p : Pkt} {b : Bool} (hb : pktOk W H p = b) (h : ¬ ((1 ≤ p.id ∧ p.id ≤ 9999) ∧ hasG W H p.fr = true ∧ hasG W H p.to = true ∧ p.fr ≠ p.to ∧ (0 ≤ p.cl ∧ p.cl ≤ 1) ∧ (1 ≤ p.ln ∧ p.ln ≤ 5))) : false = b := by
  subst hb
  cases hk : pktOk W H p with
  | false => rfl
  | true => exact absurd (pktOk_iff.1 hk) h

set_option maxHeartbeats 1600000 in
theorem implPacketOkV (W H : Int) (p : Pkt) (b : Bool) (hb : pktOk W H p = b) (w : World) :
    Calls Try.prog 109 #[.agg #[.int .i64 W, .int .i64 H], pktX p] w (RetB b w) := by
  have X0 := Lib.hid (pkAt_start (W := W) (H := H) (p := p) (w := w))
  unfold pktX
  have HHS := Lib.hid (fun (n : Int) (b : Bool) (h : hasG W H n = b) w => hasNV W H n b h w)
  have HBAD := Lib.hid (pk_bad hb)
  have HB := Lib.hid hb
  clear hb
  obtain ⟨a0, a1, a2, a3, a4, a5, a6⟩ := X0.out.cells
  cases hb2 : hasG W H p.fr with
  | false =>
    have C1 := Lib.hid (HHS.out p.fr false hb2)
    have R := Lib.hid (HBAD.out (by rw [hb2]; simp))
    clear hb2
    go_enter Try.func109, Try.ntmps109
    go_wp2_with fail
    refine (C1.out _).mono ?_
    rintro e w2 ⟨rfl, g2⟩
    have X2 := Lib.hid (X0.out.gb g2)
    clear g2 a0 a1 a2 a3 a4 a5 a6
    go_wp2_with fail
    go_ret
    exact ⟨ret_bool R.out, X2.out.gb0⟩
  | true =>
    have C1 := Lib.hid (HHS.out p.fr true hb2)
    cases hb3 : hasG W H p.to with
    | false =>
      have C2 := Lib.hid (HHS.out p.to false hb3)
      have R := Lib.hid (HBAD.out (by rw [hb3]; simp))
      clear hb2 hb3
      go_enter Try.func109, Try.ntmps109
      go_wp2_with fail
      refine (C1.out _).mono ?_
      rintro e w2 ⟨rfl, g2⟩
      have X2 := Lib.hid (X0.out.gb g2)
      clear g2 a0 a1 a2 a3 a4 a5 a6
      obtain ⟨a0, a1, a2, a3, a4, a5, a6⟩ := X2.out.cells
      go_wp2_with fail
      refine (C2.out _).mono ?_
      rintro e w3 ⟨rfl, g3⟩
      have X3 := Lib.hid (X2.out.gb g3)
      clear g3 a0 a1 a2 a3 a4 a5 a6
      go_wp2_with fail
      go_ret
      exact ⟨ret_bool R.out, X3.out.gb0⟩
    | true =>
      have C2 := Lib.hid (HHS.out p.to true hb3)
      by_cases hb4 : p.fr = p.to
      · have R := Lib.hid (HBAD.out (fun h => h.2.2.2.1 hb4))
        have q4 : (p.fr == p.to) = true := by simp [hb4]
        clear hb2 hb3 hb4
        go_enter Try.func109, Try.ntmps109
        go_wp2_with fail
        refine (C1.out _).mono ?_
        rintro e w2 ⟨rfl, g2⟩
        have X2 := Lib.hid (X0.out.gb g2)
        clear g2 a0 a1 a2 a3 a4 a5 a6
        obtain ⟨a0, a1, a2, a3, a4, a5, a6⟩ := X2.out.cells
        go_wp2_with fail
        refine (C2.out _).mono ?_
        rintro e w3 ⟨rfl, g3⟩
        have X3 := Lib.hid (X2.out.gb g3)
        clear g3 a0 a1 a2 a3 a4 a5 a6
        obtain ⟨a0, a1, a2, a3, a4, a5, a6⟩ := X3.out.cells
        go_wp2_with fail
        go_ret
        exact ⟨ret_bool R.out, X3.out.gb0⟩
      · have q4 : (p.fr == p.to) = false := by simpa using hb4
        obtain ⟨bc, hbc⟩ : ∃ bc, decide (0 ≤ p.cl ∧ p.cl ≤ 1) = bc := ⟨_, rfl⟩
        have C3 := Lib.hid (implIsClass p.cl bc hbc)
        have R := Lib.hid (show (decide (1 ≤ p.id) && (decide (p.id ≤ 9999) && (bc && (decide (1 ≤ p.ln) && decide (p.ln ≤ 5))))) = b by
          rw [← HB.out, pktOk, hb2, hb3, ← hbc, decide_eq_true hb4]
          exact Bool.eq_iff_iff.2 (by simp; omega))
        clear hb2 hb3 hb4 hbc
        by_cases i1 : p.id ≥ 1 <;> by_cases i2 : p.id ≤ 9999 <;> cases bc <;> by_cases i3 : p.ln ≥ 1 <;> by_cases i4 : p.ln ≤ 5
        all_goals first | (exfalso; omega) | skip
        all_goals
          have R2 := Lib.hid (show b = _ from by have h := R.out; simp [i1, i2, i3, i4] at h; exact h)
          clear R
          go_enter Try.func109, Try.ntmps109
          go_wp2_with fail
          refine (C1.out _).mono ?_
          rintro e w2 ⟨rfl, g2⟩
          have X2 := Lib.hid (X0.out.gb g2)
          clear g2 a0 a1 a2 a3 a4 a5 a6
          obtain ⟨a0, a1, a2, a3, a4, a5, a6⟩ := X2.out.cells
          go_wp2_with fail
          refine (C2.out _).mono ?_
          rintro e w3 ⟨rfl, g3⟩
          have X3 := Lib.hid (X2.out.gb g3)
          clear g3 a0 a1 a2 a3 a4 a5 a6
          obtain ⟨a0, a1, a2, a3, a4, a5, a6⟩ := X3.out.cells
          go_wp2_with fail
          try
            refine (C3.out _).mono ?_
            rintro e w4 ⟨rfl, rfl⟩
            go_wp2_with fail
          go_ret
          exact ⟨ret_bool (by rw [R2.out]; first | done | (simp; done) | (simp; omega)), X3.out.gb0⟩
theorem implPacketOk (W H : Int) (p : Pkt) (w : World) :
    Calls Try.prog 109 #[.agg #[.int .i64 W, .int .i64 H], pktX p] w (RetB (pktOk W H p) w) := implPacketOkV W H p _ rfl w

set_option maxHeartbeats 1600000 in
theorem implFlitsOf (W H : Int) (p : Pkt) (w : World) :
    Calls Try.prog 80 #[.agg #[.int .i64 W, .int .i64 H], pktX p] w (NewF (flitsG W H p) w) := by
  obtain ⟨i0, hi, hz0, hz1, hz2⟩ := info_parts info_flt
  have X0 := Lib.hid (pkAt_start (W := W) (H := H) (p := p) (w := w))
  unfold pktX
  obtain ⟨a0, a1, a2, a3, a4, a5, a6⟩ := X0.out.cells
  cases hok : pktOk W H p with
  | false =>
    have HP := Lib.hid (fun w => implPacketOkV W H p false hok w)
    rw [flitsG_no hok]
    clear hok
    go_enter Try.func80, Try.ntmps80
    go_wp2_with fail
    refine (HP.out _).mono ?_
    rintro e w1 ⟨rfl, g1⟩
    have X1 := Lib.hid (X0.out.gb g1)
    clear g1 a0 a1 a2 a3 a4 a5 a6
    go_wp2_with fail
    go_ret
    exact ⟨_, rfl, World.ownsRow_nil _ _ _ _, gb_below_none X1.out.gb0 (Nat.le_refl _)⟩
  | true =>
    have HP := Lib.hid (fun w => implPacketOkV W H p true hok w)
    rw [flitsG_yes hok]
    have hln := (pktOk_iff.1 hok).2.2.2.2.2
    obtain ⟨m, hm⟩ : ∃ m : Nat, p.ln.toNat = m := ⟨_, rfl⟩
    have hmi : p.ln = (m : Int) := by omega
    have hm5 : m ≤ 5 := by omega
    have hm1 : 1 ≤ m := by omega
    have HFA := Lib.hid (fun k => show flitAt p k = ⟨p.id, p.to, p.cl, decide (k = 0), decide ((k : Int) = (m : Int) - 1)⟩ by rw [flitAt, hmi])
    rw [hm]
    have HMI := Lib.hid hmi
    rw [hmi] at a6
    clear hok hln hm hmi
    go_enter Try.func80, Try.ntmps80
    go_wp2_with fail
    refine (HP.out _).mono ?_
    rintro e w1 ⟨rfl, g1⟩
    have X1 := Lib.hid (X0.out.gb g1)
    clear g1 a0 a1 a2 a3 a4 a5 a6
    obtain ⟨a0, a1, a2, a3, a4, a5, a6⟩ := X1.out.cells
    rw [HMI.out] at a6
    go_wp2_with (at_make; refine wpList_make_full _ rfl _ _ 91 rfl w.heap.size 120 i0 (fltX flt0) 5 Try.underlying91 hi hz0 hz1 .i64 .i64 _ _ m rfl rfl (by omega) (by omega) (by rw [hz2]; omega) (by unfold maxLen; omega) X1.out.gb0.size ?_; intro w2 hown2 hgrow2)
    have ho2 : w2.ownsRow w.heap.size 120 5 (.slice (some ⟨w1.heap.size, 0, none⟩) m m) m (recV fltC (fillF (flitsTo p m) m 0)) := by rw [fillF_zero, ← madeFlts m]; exact hown2
    have HO2 := Lib.hid ho2
    have X2 := Lib.hid (X1.out.gb hgrow2)
    have HF := Lib.hid (fun (k : Nat) (h : k < m) => show (fillF (flitsTo p m) m k).set k ⟨p.id, p.to, p.cl, decide (k = 0), decide ((k : Int) = (m : Int) - 1)⟩ = fillF (flitsTo p m) m (k + 1) by rw [← HFA.out]; exact fillF_next _ _ _ _ (flitsTo_at h))
    have HA := Lib.hid (show fillF (flitsTo p m) m m = flitsTo p m from fillF_all _ _ (flitsTo_length p m))
    obtain ⟨g, hgg⟩ : ∃ g, w1.heap.size = g := ⟨_, rfl⟩
    have hg2 : w.heap.size + 2 ≤ g := by have := X1.out.p.lt; omega
    rw [hgg] at HO2 ⊢
    have e1 : IntKind.i64.wrap ((m : Int) - 1) = (m : Int) - 1 := IntWalk.i64_in _ (by omega)
    clear hown2 hgrow2 ho2 a0 a1 a2 a3 a4 a5 a6 hgg HP
    go_loopw [6, 16] (fun _ i wr => ∃ k : Nat, k ≤ m ∧ i = .int .i64 (k : Int) ∧ wr.ownsRow w.heap.size 120 5 (.slice (some ⟨g, 0, none⟩) m m) m (recV fltC (fillF (flitsTo p m) m k)) ∧ Blk wr (w.heap.size + 1) 44 #[.int .i64 p.id, .int .i64 p.fr, .int .i64 p.to, .int .i64 p.cl, .int .i64 p.ln] ∧ Below w.heap.size w wr) (fun _ i _ => m - (intOf i).toNat)
    case atStart => exact ⟨0, Nat.zero_le _, rfl, HO2.out, X2.out.p, gb_below_none X2.out.gb0 (Nat.le_refl _)⟩
    case round =>
      obtain ⟨k, hk, rfl, hown, hp, hbel⟩ := hrel
      have HB := Lib.hid hbel
      have HO := Lib.hid hown
      have HP := Lib.hid hp
      by_cases hlt : k < m
      · have b2 : wr.cell? ⟨w.heap.size + 1, 0, none⟩ = some (.int .i64 p.id) := hp.cell 0
        have b4 : wr.cell? ⟨w.heap.size + 1, 2, none⟩ = some (.int .i64 p.to) := hp.cell 2
        have b5 : wr.cell? ⟨w.heap.size + 1, 3, none⟩ = some (.int .i64 p.cl) := hp.cell 3
        have b6 : wr.cell? ⟨w.heap.size + 1, 4, none⟩ = some (.int .i64 (m : Int)) := by rw [← HMI.out]; exact hp.cell 4
        have k0 : (0 : Int) ≤ (k : Int) := by omega
        have k1 : (k : Int) < (m : Int) := by omega
        obtain ⟨t1, ht1⟩ : ∃ t, decide (k = 0) = t := ⟨_, rfl⟩
        obtain ⟨t2, ht2⟩ : ∃ t, decide ((k : Int) = (m : Int) - 1) = t := ⟨_, rfl⟩
        have u1 : ((k : Int) == 0) = t1 := by rw [← ht1]; by_cases h : k = 0 <;> simp [h]
        have u2 : ((k : Int) == (m : Int) - 1) = t2 := by rw [← ht2]; by_cases h : (k : Int) = (m : Int) - 1 <;> simp [h]
        have HFk := Lib.hid (show (fillF (flitsTo p m) m k).set k ⟨p.id, p.to, p.cl, t1, t2⟩ = fillF (flitsTo p m) m (k + 1) by rw [← ht1, ← ht2]; exact HF.out k hlt)
        have hsz5 : (#[.int .i64 p.id, .int .i64 p.to, .int .i64 p.cl, .bool t1, .bool t2] : Array Value).size = 5 := rfl
        have HTH := Lib.hid (show wr.there g (k * 5) (#[.int .i64 p.id, .int .i64 p.to, .int .i64 p.cl, .bool t1, .bool t2] : Array Value).size by rw [hsz5]; exact there_ownF HO.out hlt)
        clear hown hbel hp hsz5 ht1 ht2
        go_wp2_with (refine wpList_store_mid rfl 120 (.tmp 35) (.tmp 34) rfl g (k * 5) #[.int .i64 p.id, .int .i64 p.to, .int .i64 p.cl, .bool t1, .bool t2] ?_ ?_ ?_ ?_ ?_ ?_; rfl; rfl; exact HTH.out; (rw [hi]; simp [hz1]); (simp [Value.oneCell']))
        have X5 := Lib.hid (stored_ownF HO.out k ⟨p.id, p.to, p.cl, t1, t2⟩)
        have O5 := Lib.hid (show (wr.setCells g (k * 5) [.int .i64 p.id, .int .i64 p.to, .int .i64 p.cl, .bool t1, .bool t2]).ownsRow w.heap.size 120 5 (.slice (some ⟨g, 0, none⟩) m m) m (recV fltC (fillF (flitsTo p m) m (k + 1))) by rw [← HFk.out]; exact X5.out.1)
        have P5 := Lib.hid (HP.out.grown X5.out.2 (by simp; omega))
        have B5 := Lib.hid (HB.out.grown X5.out.2 HB.out.size (fun j e => by cases e; omega))
        go_roundw
        case rel => exact ⟨k + 1, by omega, by go_num, O5.out, P5.out, B5.out⟩
        case measure => simp [intOf]; omega
      · obtain rfl : k = m := by omega
        have k1 : ¬ (k : Int) < (k : Int) := by omega
        clear hown hbel hp
        go_wp2_with fail
        go_ret
        have h3 := HO.out
        rw [HA.out] at h3
        exact ⟨_, rfl, by rw [flitsTo_length]; exact h3, HB.out⟩
end Go.Proofs.Ytfloekbmgjmhbaa
end

section
namespace Go.Proofs.Ytfloekbmgjmhbaa
open Go.ChangeShapes Go.WideShapes Go.ChangeAt Go.RowKit
set_option linter.unusedVariables false
set_option maxRecDepth 20000

set_option maxHeartbeats 3200000 in
theorem implSend (y : Na) (N : Nt) (p : Pkt) (g0 base E : Nat) (w : World) (hbx : Blk w g0 38 #[.int .i64 N.W, .int .i64 N.H, .slice y.br.A N.br.length y.br.c, .slice y.ta.A N.ta.length y.ta.c, .slice y.tb.A N.tb.length y.tb.c, .slice y.bu.A N.bu.length y.bu.c, .slice y.ow.A N.ow.length y.ow.c, .slice y.tu.A N.tu.length y.tu.c, .slice y.so.A N.so.length y.so.c, .slice y.ar.A N.ar.length y.ar.c, .int .i64 N.ti]) (hr : NetOwn w base E y N) (hok : netOk N = true) (hbs : base ≤ w.heap.size) (hEs : E ≤ w.heap.size) :
    Calls Try.prog 39 #[.pointer (some ⟨g0, 0, none⟩), .agg #[.int .i64 p.id, .int .i64 p.fr, .int .i64 p.to, .int .i64 p.cl, .int .i64 p.ln]] w fun e w' => e = .returned (.bool (sendOk N p)) ∧ NetOwn w' base w'.heap.size y (sendG N p) ∧ KeptN base w w' := by
  obtain ⟨D, hD⟩ : ∃ D, flitsG N.W N.H p = D := ⟨_, rfl⟩
  have HFO := Lib.hid (fun w' => by have h := implFlitsOf N.W N.H p w'; rw [hD] at h; exact h)
  have k0 := hbx.alloc (.cells #[.int .i64 p.id, .int .i64 p.fr, .int .i64 p.to, .int .i64 p.cl, .int .i64 p.ln] 44)
  have k1 := Blk.new w 44 #[.int .i64 p.id, .int .i64 p.fr, .int .i64 p.to, .int .i64 p.cl, .int .i64 p.ln]
  have ge := gb_alloc (gb_refl w none) (.cells #[.int .i64 p.id, .int .i64 p.fr, .int .i64 p.to, .int .i64 p.cl, .int .i64 p.ln] 44)
  have hsz : (w.alloc (.cells #[.int .i64 p.id, .int .i64 p.fr, .int .i64 p.to, .int .i64 p.cl, .int .i64 p.ln] 44)).heap.size = w.heap.size + 1 := by rw [alloc_size]
  have hlt := hbx.lt
  go_enter Try.func39, Try.ntmps39
  go_wp2_with fail
  generalize w.alloc (.cells #[.int .i64 p.id, .int .i64 p.fr, .int .i64 p.to, .int .i64 p.cl, .int .i64 p.ln] 44) = w0 at *
  have KB : Hid (Blk w0 g0 38 #[.int .i64 N.W, .int .i64 N.H, .slice y.br.A N.br.length y.br.c, .slice y.ta.A N.ta.length y.ta.c, .slice y.tb.A N.tb.length y.tb.c, .slice y.bu.A N.bu.length y.bu.c, .slice y.ow.A N.ow.length y.ow.c, .slice y.tu.A N.tu.length y.tu.c, .slice y.so.A N.so.length y.so.c, .slice y.ar.A N.ar.length y.ar.c, .int .i64 N.ti]) := Lib.hid k0
  have KP : Hid (Blk w0 w.heap.size 44 #[.int .i64 p.id, .int .i64 p.fr, .int .i64 p.to, .int .i64 p.cl, .int .i64 p.ln]) := Lib.hid k1
  have GE := Lib.hid ge
  have SZ := Lib.hid hsz
  have HR := Lib.hid (hr.gb ge)
  have HDD := Lib.hid hD
  have CB := Lib.hid (show ∀ wr, w0.grownBy wr none → wr.cell? ⟨g0, 0, none⟩ = some (.int .i64 N.W) ∧ wr.cell? ⟨g0, 1, none⟩ = some (.int .i64 N.H) ∧ wr.cell? ⟨g0, 8, none⟩ = some (.slice y.so.A N.so.length y.so.c) ∧ wr.cell? ⟨w.heap.size, 0, none⟩ = some (.int .i64 p.id) ∧ wr.cell? ⟨w.heap.size, 1, none⟩ = some (.int .i64 p.fr) ∧ wr.cell? ⟨w.heap.size, 2, none⟩ = some (.int .i64 p.to) ∧ wr.cell? ⟨w.heap.size, 3, none⟩ = some (.int .i64 p.cl) ∧ wr.cell? ⟨w.heap.size, 4, none⟩ = some (.int .i64 p.ln) from fun wr hg => by
    have ga := KB.out.grown hg (by simp)
    have gb := KP.out.grown hg (by simp)
    exact ⟨ga.cell 0, ga.cell 1, ga.cell 8, gb.cell 0, gb.cell 1, gb.cell 2, gb.cell 3, gb.cell 4⟩)
  clear k0 k1 ge hsz hr hbx
  obtain ⟨a0, a1, a8, p0, p1, p2, p3, p4⟩ := CB.out w0 (gb_refl _ _)
  refine wp_region_held_drew (S := (fun w' => w'.cell? ⟨g0, 0, none⟩ = some (.int .i64 N.W) ∧ w'.cell? ⟨g0, 1, none⟩ = some (.int .i64 N.H) ∧ w'.cell? ⟨g0, 8, none⟩ = some (.slice y.so.A N.so.length y.so.c) ∧ w'.cell? ⟨w.heap.size, 0, none⟩ = some (.int .i64 p.id) ∧ w'.cell? ⟨w.heap.size, 1, none⟩ = some (.int .i64 p.fr) ∧ w'.cell? ⟨w.heap.size, 2, none⟩ = some (.int .i64 p.to) ∧ w'.cell? ⟨w.heap.size, 3, none⟩ = some (.int .i64 p.cl) ∧ w'.cell? ⟨w.heap.size, 4, none⟩ = some (.int .i64 p.ln))) (by kernel_rfl) (⟨a0, a1, a8, p0, p1, p2, p3, p4⟩) (fun hHeld => ?_)
  refine wpAnyH_take (i := 0) (v := ?_) rfl (by kernel_rfl) (by kernel_rfl) (by kernel_rfl) (fun _ _ _ h => h) (Or.inl ⟨by rfl, ?_⟩) (by assumption) ?_
  rotate_left
  · intro wq hSw; (try dsimp only at hSw); go_simp; (try with_reducible rfl)
  simp only [List.getElem_toArray, List.getElem_cons_zero, Act.put, List.setIfInBounds_toArray, List.set_cons_zero, List.set_cons_succ]
  refine wpAnyH_take (i := 1) (v := ?_) rfl (by kernel_rfl) (by kernel_rfl) (by kernel_rfl) (fun _ _ _ h => h) (Or.inl ⟨by rfl, ?_⟩) (by assumption) ?_
  rotate_left
  · intro wq hSw; (try dsimp only at hSw); go_simp; (try with_reducible rfl)
  simp only [List.getElem_toArray, List.getElem_cons_succ, List.getElem_cons_zero, Act.put, List.setIfInBounds_toArray, List.set_cons_zero, List.set_cons_succ]
  refine wpAnyH_take (i := 2) (v := ?_) rfl (by kernel_rfl) (by kernel_rfl) (by kernel_rfl) (fun _ _ _ h => h) (Or.inl ⟨by rfl, ?_⟩) (by assumption) ?_
  rotate_left
  · intro wq hSw; (try dsimp only at hSw); go_simp; (try with_reducible rfl)
  simp only [List.getElem_toArray, List.getElem_cons_succ, List.getElem_cons_zero, Act.put, List.setIfInBounds_toArray, List.set_cons_zero, List.set_cons_succ]
  refine wpAnyH_take (i := 3) (v := ?_) rfl (by kernel_rfl) (by kernel_rfl) (by kernel_rfl) (fun _ _ _ h => h) (Or.inl ⟨by rfl, ?_⟩) (by assumption) ?_
  rotate_left
  · intro wq hSw; (try dsimp only at hSw); go_simp; (try with_reducible rfl)
  simp only [List.getElem_toArray, List.getElem_cons_succ, List.getElem_cons_zero, Act.put, List.setIfInBounds_toArray, List.set_cons_zero, List.set_cons_succ]
  refine wpAnyH_take (i := 4) (v := ?_) rfl (by kernel_rfl) (by kernel_rfl) (by kernel_rfl) (fun _ _ _ h => h) (Or.inl ⟨by rfl, ?_⟩) (by assumption) ?_
  rotate_left
  · intro wq hSw; (try dsimp only at hSw); go_simp; (try with_reducible rfl)
  simp only [List.getElem_toArray, List.getElem_cons_succ, List.getElem_cons_zero, Act.put, List.setIfInBounds_toArray, List.set_cons_zero, List.set_cons_succ]
  refine wpAnyH_take (i := 5) (v := ?_) rfl (by kernel_rfl) (by kernel_rfl) (by kernel_rfl) (fun _ _ _ h => h) (Or.inl ⟨by rfl, ?_⟩) (by assumption) ?_
  rotate_left
  · intro wq hSw; (try dsimp only at hSw); go_simp; (try with_reducible rfl)
  simp only [List.getElem_toArray, List.getElem_cons_succ, List.getElem_cons_zero, Act.put, List.setIfInBounds_toArray, List.set_cons_zero, List.set_cons_succ]
  refine wpAnyH_ready (rs := [6]) (by kernel_rfl) (by simp) ?_
  refine AllReadyH.cons rfl (fun K hK => ?_) AllReadyH.nil
  go_simp
  refine (HFO.out _).mono ?_; rintro e w1 ⟨v, rfl, o1, b1⟩; obtain ⟨A1, c1, rfl, _⟩ := own_form o1; have G1 := Lib.hid (gb_drF (gb_of_below b1 none)); have RD := Lib.hid (recAt_own fltL (by decide) o1 (Nat.le_refl _)); clear o1 b1; obtain ⟨d0, d1, d8, q0, q1, q2, q3, q4⟩ := CB.out _ G1.out
  try go_wp2_with fail
  refine hK.out _ _ (⟨d0, d1, d8, q0, q1, q2, q3, q4⟩) (fun hHeld => ?_)
  clear hK K
  try simp only [List.getElem_toArray, List.getElem_cons_succ, List.getElem_cons_zero, Act.put, List.setIfInBounds_toArray, List.set_cons_zero, List.set_cons_succ]
  refine wpAnyH_take (i := 7) (v := ?_) rfl (by kernel_rfl) (by kernel_rfl) (by kernel_rfl) (fun _ _ _ h => h) (Or.inl ⟨by rfl, ?_⟩) (by assumption) ?_
  rotate_left
  · intro wq hSw; (try dsimp only at hSw); go_simp; (try with_reducible rfl)
  simp only [List.getElem_toArray, List.getElem_cons_succ, List.getElem_cons_zero, Act.put, List.setIfInBounds_toArray, List.set_cons_zero, List.set_cons_succ]
  refine wpAnyH_done (by kernel_rfl) ?_ _
  go_wp2_with fail
  have HR1 := Lib.hid (HR.out.gb G1.out)
  have S1 := Lib.hid G1.out.size
  have HBW := Lib.hid (show base ≤ w1.heap.size by have h1 := S1.out; have h2 := SZ.out; omega)
  clear a0 a1 a8 p0 p1 p2 p3 p4
  cases hpk : pktOk N.W N.H p with
  | false =>
    have HNO := Lib.hid (show sendOk N p = false by rw [sendOk, hok, hpk]; rfl)
    obtain rfl : D = [] := by rw [← hD]; exact flitsG_no hpk
    clear d0 d1 d8 q0 q1 q2 q3 q4
    clear hD hpk hok
    refine wp_region_held_drew (S := (fun _ => True)) (by kernel_rfl) (trivial) (fun hHeld => ?_)
    refine wpAnyH_take (i := 0) (v := ?_) rfl (by kernel_rfl) (by kernel_rfl) (by kernel_rfl) (fun _ _ _ h => h) (Or.inl ⟨by rfl, ?_⟩) (by assumption) ?_
    rotate_left
    · intro wq hSw; (try dsimp only at hSw); go_simp; (try with_reducible rfl)
    simp only [List.getElem_toArray, List.getElem_cons_zero, Act.put, List.setIfInBounds_toArray, List.set_cons_zero, List.set_cons_succ]
    refine wpAnyH_take (i := 1) (v := ?_) rfl (by kernel_rfl) (by kernel_rfl) (by kernel_rfl) (fun _ _ _ h => h) (Or.inl ⟨by rfl, ?_⟩) (by assumption) ?_
    rotate_left
    · intro wq hSw; (try dsimp only at hSw); go_simp; (try with_reducible rfl)
    simp only [List.getElem_toArray, List.getElem_cons_succ, List.getElem_cons_zero, Act.put, List.setIfInBounds_toArray, List.set_cons_zero, List.set_cons_succ]
    refine wpAnyH_take (i := 2) (v := ?_) rfl (by kernel_rfl) (by kernel_rfl) (by kernel_rfl) (fun _ _ _ h => h) (Or.inl ⟨by rfl, ?_⟩) (by assumption) ?_
    rotate_left
    · intro wq hSw; (try dsimp only at hSw); go_simp; (try with_reducible rfl)
    simp only [List.getElem_toArray, List.getElem_cons_succ, List.getElem_cons_zero, Act.put, List.setIfInBounds_toArray, List.set_cons_zero, List.set_cons_succ]
    refine wpAnyH_take (i := 3) (v := ?_) rfl (by kernel_rfl) (by kernel_rfl) (by kernel_rfl) (fun _ _ _ h => h) (Or.inl ⟨by rfl, ?_⟩) (by assumption) ?_
    rotate_left
    · intro wq hSw; (try dsimp only at hSw); go_simp; (try with_reducible rfl)
    simp only [List.getElem_toArray, List.getElem_cons_succ, List.getElem_cons_zero, Act.put, List.setIfInBounds_toArray, List.set_cons_zero, List.set_cons_succ]
    refine wpAnyH_take (i := 4) (v := undef) rfl (by kernel_rfl) (by kernel_rfl) (by kernel_rfl) (fun _ _ _ h => h) (Or.inr ⟨by rfl, rfl⟩) (by assumption) ?_
    simp only [List.getElem_toArray, List.getElem_cons_succ, List.getElem_cons_zero, Act.put, List.setIfInBounds_toArray, List.set_cons_zero, List.set_cons_succ]
    refine wpAnyH_take (i := 5) (v := undef) rfl (by kernel_rfl) (by kernel_rfl) (by kernel_rfl) (fun _ _ _ h => h) (Or.inr ⟨by rfl, rfl⟩) (by assumption) ?_
    simp only [List.getElem_toArray, List.getElem_cons_succ, List.getElem_cons_zero, Act.put, List.setIfInBounds_toArray, List.set_cons_zero, List.set_cons_succ]
    refine wpAnyH_take (i := 6) (v := undef) rfl (by kernel_rfl) (by kernel_rfl) (by kernel_rfl) (fun _ _ _ h => h) (Or.inr ⟨by rfl, rfl⟩) (by assumption) ?_
    simp only [List.getElem_toArray, List.getElem_cons_succ, List.getElem_cons_zero, Act.put, List.setIfInBounds_toArray, List.set_cons_zero, List.set_cons_succ]
    refine wpAnyH_take (i := 7) (v := undef) rfl (by kernel_rfl) (by kernel_rfl) (by kernel_rfl) (fun _ _ _ h => h) (Or.inr ⟨by rfl, rfl⟩) (by assumption) ?_
    simp only [List.getElem_toArray, List.getElem_cons_succ, List.getElem_cons_zero, Act.put, List.setIfInBounds_toArray, List.set_cons_zero, List.set_cons_succ]
    refine wpAnyH_take (i := 8) (v := undef) rfl (by kernel_rfl) (by kernel_rfl) (by kernel_rfl) (fun _ _ _ h => h) (Or.inr ⟨by rfl, rfl⟩) (by assumption) ?_
    simp only [List.getElem_toArray, List.getElem_cons_succ, List.getElem_cons_zero, Act.put, List.setIfInBounds_toArray, List.set_cons_zero, List.set_cons_succ]
    refine wpAnyH_take (i := 9) (v := undef) rfl (by kernel_rfl) (by kernel_rfl) (by kernel_rfl) (fun _ _ _ h => h) (Or.inr ⟨by rfl, rfl⟩) (by assumption) ?_
    simp only [List.getElem_toArray, List.getElem_cons_succ, List.getElem_cons_zero, Act.put, List.setIfInBounds_toArray, List.set_cons_zero, List.set_cons_succ]
    refine wpAnyH_take (i := 10) (v := undef) rfl (by kernel_rfl) (by kernel_rfl) (by kernel_rfl) (fun _ _ _ h => h) (Or.inr ⟨by rfl, rfl⟩) (by assumption) ?_
    simp only [List.getElem_toArray, List.getElem_cons_succ, List.getElem_cons_zero, Act.put, List.setIfInBounds_toArray, List.set_cons_zero, List.set_cons_succ]
    refine wpAnyH_take (i := 11) (v := undef) rfl (by kernel_rfl) (by kernel_rfl) (by kernel_rfl) (fun _ _ _ h => h) (Or.inr ⟨by rfl, rfl⟩) (by assumption) ?_
    simp only [List.getElem_toArray, List.getElem_cons_succ, List.getElem_cons_zero, Act.put, List.setIfInBounds_toArray, List.set_cons_zero, List.set_cons_succ]
    refine wpAnyH_take (i := 12) (v := undef) rfl (by kernel_rfl) (by kernel_rfl) (by kernel_rfl) (fun _ _ _ h => h) (Or.inr ⟨by rfl, rfl⟩) (by assumption) ?_
    simp only [List.getElem_toArray, List.getElem_cons_succ, List.getElem_cons_zero, Act.put, List.setIfInBounds_toArray, List.set_cons_zero, List.set_cons_succ]
    refine wpAnyH_take (i := 13) (v := ?_) rfl (by kernel_rfl) (by kernel_rfl) (by kernel_rfl) (fun _ _ _ h => h) (Or.inl ⟨by rfl, ?_⟩) (by assumption) ?_
    rotate_left
    · intro wq hSw; (try dsimp only at hSw); go_simp; (try with_reducible rfl)
    simp only [List.getElem_toArray, List.getElem_cons_succ, List.getElem_cons_zero, Act.put, List.setIfInBounds_toArray, List.set_cons_zero, List.set_cons_succ]
    refine wpAnyH_take (i := 14) (v := ?_) rfl (by kernel_rfl) (by kernel_rfl) (by kernel_rfl) (fun _ _ _ h => h) (Or.inl ⟨by rfl, ?_⟩) (by assumption) ?_
    rotate_left
    · intro wq hSw; (try dsimp only at hSw); go_simp; (try with_reducible rfl)
    simp only [List.getElem_toArray, List.getElem_cons_succ, List.getElem_cons_zero, Act.put, List.setIfInBounds_toArray, List.set_cons_zero, List.set_cons_succ]
    refine wpAnyH_done (by kernel_rfl) ?_ _
    go_wp2_with fail
    go_ret
    rw [HNO.out, sendG_no HNO.out]
    exact ⟨rfl, (HR1.out.gb (gb_drew (gb_refl _ none))).upto (by rw [drew_heap]; have h1 := S1.out; have h2 := SZ.out; omega), (keptN_gb base hbs (gb_drew (gb_trans GE.out G1.out)))⟩
  | true =>
    obtain ⟨hf0, hfl, hsrc⟩ := src_there hok hpk
    obtain ⟨f, hf⟩ : ∃ f : Nat, p.fr = (f : Int) := ⟨p.fr.toNat, by omega⟩
    have hft : p.fr.toNat = f := by omega
    rw [hft] at hfl hsrc
    have hX := Lib.hid (show sendOk N p = decide (((srcN N p).length : Int) + p.ln ≤ 60) by rw [sendOk, hok, hpk]; rfl)
    have hln := (pktOk_iff.1 hpk).2.2.2.2.2
    have hDl : (D.length : Int) = p.ln := by rw [← hD]; exact flitsG_length hpk
    have hso := netOk_so hok hsrc
    obtain ⟨vb, vs, va, hrw⟩ := HR1.out
    obtain ⟨A0, c0, hsl, hA0⟩ := own_form hrw.so.hd
    obtain ⟨hb, hhb⟩ := hA0 (by omega)
    have hzA : y.so.A = some ⟨hb, 0, none⟩ := by injection hsl with h1 h2 h3; rw [h1, hhb]
    rw [hzA] at d8
    rw [hf] at q1
    have f0 : (0 : Int) ≤ (f : Int) := by omega
    have f1 : (f : Int) < (N.so.length : Int) := by omega
    have hl0 : (0 : Int) < (D.length : Int) := by omega
    have HST := Lib.hid (show sendTo N p = {N with so := N.so.set f (srcN N p ++ D)} by rw [sendTo, hD, hft])
    have CS := Lib.hid (show ∀ wr, KeptN base w1 wr → wr.cell? ⟨g0, 8, none⟩ = some (.slice (some ⟨hb, 0, none⟩) N.so.length y.so.c) ∧ wr.cell? ⟨w.heap.size, 1, none⟩ = some (.int .i64 (f : Int)) from fun wr hk => by
      have ga := hk.k _ _ _ (by decide) (by decide) (KB.out.grown G1.out (by simp))
      have gb := hk.k _ _ _ (by decide) (by decide) (KP.out.grown G1.out (by simp))
      have c8 := ga.cell 8
      have c1 := gb.cell 1
      simp only [List.getElem?_toArray, List.getElem?_cons_zero, List.getElem?_cons_succ] at c8 c1
      rw [hzA] at c8
      rw [hf] at c1
      exact ⟨c8, c1⟩)
    obtain ⟨m, hm⟩ : ∃ m, D.length = m := ⟨_, rfl⟩
    have hm0 : 0 < m := by omega
    have hm1 : (0 : Int) < (m : Int) := by omega
    rw [hm]
    have s8 := d8
    have s1 := q1
    clear d0 d1 d8 q0 q1 q2 q3 q4
    by_cases hfit : (srcN N p).length + D.length ≤ 60
    · have HYE := Lib.hid (show sendOk N p = true by rw [hX.out]; exact decide_eq_true (by omega))
      have hE := implEnter_yes y N base E hb f c1 vb vs va A1 (srcN N p) D w1.drew (hrw.gb (gb_drew (gb_refl _ none))) hzA hsrc hfit (RD.out.more (Nat.le_refl _)) (by rw [drew_heap]; have h1 := S1.out; have h2 := SZ.out; omega)
      rw [hm] at hE
      have HE := Lib.hid hE
      clear hE hok hpk hf0 hfl hsrc hf hft hln hDl hso hrw hsl hA0 hhb hzA hfit hD hm hl0
      refine wp_region_held_drew (S := (fun w' => w'.cell? ⟨g0, 8, none⟩ = some (.slice (some ⟨hb, 0, none⟩) N.so.length y.so.c) ∧ w'.cell? ⟨w.heap.size, 1, none⟩ = some (.int .i64 (f : Int)))) (by kernel_rfl) (⟨s8, s1⟩) (fun hHeld => ?_)
      refine wpAnyH_take (i := 0) (v := ?_) rfl (by kernel_rfl) (by kernel_rfl) (by kernel_rfl) (fun _ _ _ h => h) (Or.inl ⟨by rfl, ?_⟩) (by assumption) ?_
      rotate_left
      · intro wq hSw; (try dsimp only at hSw); go_simp; (try with_reducible rfl)
      simp only [List.getElem_toArray, List.getElem_cons_zero, Act.put, List.setIfInBounds_toArray, List.set_cons_zero, List.set_cons_succ]
      refine wpAnyH_take (i := 1) (v := ?_) rfl (by kernel_rfl) (by kernel_rfl) (by kernel_rfl) (fun _ _ _ h => h) (Or.inl ⟨by rfl, ?_⟩) (by assumption) ?_
      rotate_left
      · intro wq hSw; (try dsimp only at hSw); go_simp; (try with_reducible rfl)
      simp only [List.getElem_toArray, List.getElem_cons_succ, List.getElem_cons_zero, Act.put, List.setIfInBounds_toArray, List.set_cons_zero, List.set_cons_succ]
      refine wpAnyH_take (i := 2) (v := ?_) rfl (by kernel_rfl) (by kernel_rfl) (by kernel_rfl) (fun _ _ _ h => h) (Or.inl ⟨by rfl, ?_⟩) (by assumption) ?_
      rotate_left
      · intro wq hSw; (try dsimp only at hSw); go_simp; (try with_reducible rfl)
      simp only [List.getElem_toArray, List.getElem_cons_succ, List.getElem_cons_zero, Act.put, List.setIfInBounds_toArray, List.set_cons_zero, List.set_cons_succ]
      refine wpAnyH_take (i := 3) (v := ?_) rfl (by kernel_rfl) (by kernel_rfl) (by kernel_rfl) (fun _ _ _ h => h) (Or.inl ⟨by rfl, ?_⟩) (by assumption) ?_
      rotate_left
      · intro wq hSw; (try dsimp only at hSw); go_simp; (try with_reducible rfl)
      simp only [List.getElem_toArray, List.getElem_cons_succ, List.getElem_cons_zero, Act.put, List.setIfInBounds_toArray, List.set_cons_zero, List.set_cons_succ]
      refine wpAnyH_take (i := 4) (v := ?_) rfl (by kernel_rfl) (by kernel_rfl) (by kernel_rfl) (fun _ _ _ h => h) (Or.inl ⟨by rfl, ?_⟩) (by assumption) ?_
      rotate_left
      · intro wq hSw; (try dsimp only at hSw); go_simp; (try with_reducible rfl)
      simp only [List.getElem_toArray, List.getElem_cons_succ, List.getElem_cons_zero, Act.put, List.setIfInBounds_toArray, List.set_cons_zero, List.set_cons_succ]
      refine wpAnyH_take (i := 5) (v := ?_) rfl (by kernel_rfl) (by kernel_rfl) (by kernel_rfl) (fun _ _ _ h => h) (Or.inl ⟨by rfl, ?_⟩) (by assumption) ?_
      rotate_left
      · intro wq hSw; (try dsimp only at hSw); go_simp; (try with_reducible rfl)
      simp only [List.getElem_toArray, List.getElem_cons_succ, List.getElem_cons_zero, Act.put, List.setIfInBounds_toArray, List.set_cons_zero, List.set_cons_succ]
      refine wpAnyH_take (i := 6) (v := ?_) rfl (by kernel_rfl) (by kernel_rfl) (by kernel_rfl) (fun _ _ _ h => h) (Or.inl ⟨by rfl, ?_⟩) (by assumption) ?_
      rotate_left
      · intro wq hSw; (try dsimp only at hSw); go_simp; (try with_reducible rfl)
      simp only [List.getElem_toArray, List.getElem_cons_succ, List.getElem_cons_zero, Act.put, List.setIfInBounds_toArray, List.set_cons_zero, List.set_cons_succ]
      refine wpAnyH_take (i := 7) (v := ?_) rfl (by kernel_rfl) (by kernel_rfl) (by kernel_rfl) (fun _ _ _ h => h) (Or.inl ⟨by rfl, ?_⟩) (by assumption) ?_
      rotate_left
      · intro wq hSw; (try dsimp only at hSw); go_simp; (try with_reducible rfl)
      simp only [List.getElem_toArray, List.getElem_cons_succ, List.getElem_cons_zero, Act.put, List.setIfInBounds_toArray, List.set_cons_zero, List.set_cons_succ]
      refine wpAnyH_take (i := 8) (v := ?_) rfl (by kernel_rfl) (by kernel_rfl) (by kernel_rfl) (fun _ _ _ h => h) (Or.inl ⟨by rfl, ?_⟩) (by assumption) ?_
      rotate_left
      · intro wq hSw; (try dsimp only at hSw); go_simp; (try with_reducible rfl)
      simp only [List.getElem_toArray, List.getElem_cons_succ, List.getElem_cons_zero, Act.put, List.setIfInBounds_toArray, List.set_cons_zero, List.set_cons_succ]
      refine wpAnyH_take (i := 9) (v := ?_) rfl (by kernel_rfl) (by kernel_rfl) (by kernel_rfl) (fun _ _ _ h => h) (Or.inl ⟨by rfl, ?_⟩) (by assumption) ?_
      rotate_left
      · intro wq hSw; (try dsimp only at hSw); go_simp; (try with_reducible rfl)
      simp only [List.getElem_toArray, List.getElem_cons_succ, List.getElem_cons_zero, Act.put, List.setIfInBounds_toArray, List.set_cons_zero, List.set_cons_succ]
      refine wpAnyH_take (i := 10) (v := ?_) rfl (by kernel_rfl) (by kernel_rfl) (by kernel_rfl) (fun _ _ _ h => h) (Or.inl ⟨by rfl, ?_⟩) (by assumption) ?_
      rotate_left
      · intro wq hSw; (try dsimp only at hSw); go_simp; (try with_reducible rfl)
      simp only [List.getElem_toArray, List.getElem_cons_succ, List.getElem_cons_zero, Act.put, List.setIfInBounds_toArray, List.set_cons_zero, List.set_cons_succ]
      refine wpAnyH_take (i := 11) (v := ?_) rfl (by kernel_rfl) (by kernel_rfl) (by kernel_rfl) (fun _ _ _ h => h) (Or.inl ⟨by rfl, ?_⟩) (by assumption) ?_
      rotate_left
      · intro wq hSw; (try dsimp only at hSw); go_simp; (try with_reducible rfl)
      simp only [List.getElem_toArray, List.getElem_cons_succ, List.getElem_cons_zero, Act.put, List.setIfInBounds_toArray, List.set_cons_zero, List.set_cons_succ]
      refine wpAnyH_ready (rs := [12]) (by kernel_rfl) (by simp) ?_
      refine AllReadyH.cons rfl (fun K hK => ?_) AllReadyH.nil
      go_simp
      refine HE.out.mono ?_; rintro e w2 ⟨rfl, hv, hk⟩; have HV := Lib.hid hv; have HK := Lib.hid ((keptN_gb base HBW.out (gb_drew (gb_refl _ none))).trans hk); clear hv hk; obtain ⟨z8, z1⟩ := CS.out _ HK.out
      try go_wp2_with fail
      refine hK.out _ _ (⟨z8, z1⟩) (fun hHeld => ?_)
      clear hK K
      try simp only [List.getElem_toArray, List.getElem_cons_succ, List.getElem_cons_zero, Act.put, List.setIfInBounds_toArray, List.set_cons_zero, List.set_cons_succ]
      refine wpAnyH_take (i := 13) (v := ?_) rfl (by kernel_rfl) (by kernel_rfl) (by kernel_rfl) (fun _ _ _ h => h) (Or.inl ⟨by rfl, ?_⟩) (by assumption) ?_
      rotate_left
      · intro wq hSw; (try dsimp only at hSw); go_simp; (try with_reducible rfl)
      simp only [List.getElem_toArray, List.getElem_cons_succ, List.getElem_cons_zero, Act.put, List.setIfInBounds_toArray, List.set_cons_zero, List.set_cons_succ]
      refine wpAnyH_take (i := 14) (v := ?_) rfl (by kernel_rfl) (by kernel_rfl) (by kernel_rfl) (fun _ _ _ h => h) (Or.inl ⟨by rfl, ?_⟩) (by assumption) ?_
      rotate_left
      · intro wq hSw; (try dsimp only at hSw); go_simp; (try with_reducible rfl)
      simp only [List.getElem_toArray, List.getElem_cons_succ, List.getElem_cons_zero, Act.put, List.setIfInBounds_toArray, List.set_cons_zero, List.set_cons_succ]
      refine wpAnyH_done (by kernel_rfl) ?_ _
      go_wp2_with fail
      go_ret
      rw [HYE.out, sendG_yes HYE.out, HST.out]
      obtain ⟨vs', hv'⟩ := HV.out
      exact ⟨rfl, ⟨_, _, _, hv'⟩, (keptN_gb base hbs (gb_trans GE.out G1.out)).trans HK.out⟩
    · have HNO := Lib.hid (show sendOk N p = false by rw [hX.out]; exact decide_eq_false (by omega))
      have hE := implEnter_no y N base E hb f c1 vb vs va A1 (srcN N p) D w1.drew (hrw.gb (gb_drew (gb_refl _ none))) hzA hsrc hso (by omega) hfit
      rw [hm] at hE
      have HE := Lib.hid hE
      clear hE hok hpk hf0 hfl hsrc hf hft hln hDl hso hrw hsl hA0 hhb hzA hfit hD hm hl0
      refine wp_region_held_drew (S := (fun w' => w'.cell? ⟨g0, 8, none⟩ = some (.slice (some ⟨hb, 0, none⟩) N.so.length y.so.c) ∧ w'.cell? ⟨w.heap.size, 1, none⟩ = some (.int .i64 (f : Int)))) (by kernel_rfl) (⟨s8, s1⟩) (fun hHeld => ?_)
      refine wpAnyH_take (i := 0) (v := ?_) rfl (by kernel_rfl) (by kernel_rfl) (by kernel_rfl) (fun _ _ _ h => h) (Or.inl ⟨by rfl, ?_⟩) (by assumption) ?_
      rotate_left
      · intro wq hSw; (try dsimp only at hSw); go_simp; (try with_reducible rfl)
      simp only [List.getElem_toArray, List.getElem_cons_zero, Act.put, List.setIfInBounds_toArray, List.set_cons_zero, List.set_cons_succ]
      refine wpAnyH_take (i := 1) (v := ?_) rfl (by kernel_rfl) (by kernel_rfl) (by kernel_rfl) (fun _ _ _ h => h) (Or.inl ⟨by rfl, ?_⟩) (by assumption) ?_
      rotate_left
      · intro wq hSw; (try dsimp only at hSw); go_simp; (try with_reducible rfl)
      simp only [List.getElem_toArray, List.getElem_cons_succ, List.getElem_cons_zero, Act.put, List.setIfInBounds_toArray, List.set_cons_zero, List.set_cons_succ]
      refine wpAnyH_take (i := 2) (v := ?_) rfl (by kernel_rfl) (by kernel_rfl) (by kernel_rfl) (fun _ _ _ h => h) (Or.inl ⟨by rfl, ?_⟩) (by assumption) ?_
      rotate_left
      · intro wq hSw; (try dsimp only at hSw); go_simp; (try with_reducible rfl)
      simp only [List.getElem_toArray, List.getElem_cons_succ, List.getElem_cons_zero, Act.put, List.setIfInBounds_toArray, List.set_cons_zero, List.set_cons_succ]
      refine wpAnyH_take (i := 3) (v := ?_) rfl (by kernel_rfl) (by kernel_rfl) (by kernel_rfl) (fun _ _ _ h => h) (Or.inl ⟨by rfl, ?_⟩) (by assumption) ?_
      rotate_left
      · intro wq hSw; (try dsimp only at hSw); go_simp; (try with_reducible rfl)
      simp only [List.getElem_toArray, List.getElem_cons_succ, List.getElem_cons_zero, Act.put, List.setIfInBounds_toArray, List.set_cons_zero, List.set_cons_succ]
      refine wpAnyH_take (i := 4) (v := ?_) rfl (by kernel_rfl) (by kernel_rfl) (by kernel_rfl) (fun _ _ _ h => h) (Or.inl ⟨by rfl, ?_⟩) (by assumption) ?_
      rotate_left
      · intro wq hSw; (try dsimp only at hSw); go_simp; (try with_reducible rfl)
      simp only [List.getElem_toArray, List.getElem_cons_succ, List.getElem_cons_zero, Act.put, List.setIfInBounds_toArray, List.set_cons_zero, List.set_cons_succ]
      refine wpAnyH_take (i := 5) (v := ?_) rfl (by kernel_rfl) (by kernel_rfl) (by kernel_rfl) (fun _ _ _ h => h) (Or.inl ⟨by rfl, ?_⟩) (by assumption) ?_
      rotate_left
      · intro wq hSw; (try dsimp only at hSw); go_simp; (try with_reducible rfl)
      simp only [List.getElem_toArray, List.getElem_cons_succ, List.getElem_cons_zero, Act.put, List.setIfInBounds_toArray, List.set_cons_zero, List.set_cons_succ]
      refine wpAnyH_take (i := 6) (v := ?_) rfl (by kernel_rfl) (by kernel_rfl) (by kernel_rfl) (fun _ _ _ h => h) (Or.inl ⟨by rfl, ?_⟩) (by assumption) ?_
      rotate_left
      · intro wq hSw; (try dsimp only at hSw); go_simp; (try with_reducible rfl)
      simp only [List.getElem_toArray, List.getElem_cons_succ, List.getElem_cons_zero, Act.put, List.setIfInBounds_toArray, List.set_cons_zero, List.set_cons_succ]
      refine wpAnyH_take (i := 7) (v := ?_) rfl (by kernel_rfl) (by kernel_rfl) (by kernel_rfl) (fun _ _ _ h => h) (Or.inl ⟨by rfl, ?_⟩) (by assumption) ?_
      rotate_left
      · intro wq hSw; (try dsimp only at hSw); go_simp; (try with_reducible rfl)
      simp only [List.getElem_toArray, List.getElem_cons_succ, List.getElem_cons_zero, Act.put, List.setIfInBounds_toArray, List.set_cons_zero, List.set_cons_succ]
      refine wpAnyH_take (i := 8) (v := ?_) rfl (by kernel_rfl) (by kernel_rfl) (by kernel_rfl) (fun _ _ _ h => h) (Or.inl ⟨by rfl, ?_⟩) (by assumption) ?_
      rotate_left
      · intro wq hSw; (try dsimp only at hSw); go_simp; (try with_reducible rfl)
      simp only [List.getElem_toArray, List.getElem_cons_succ, List.getElem_cons_zero, Act.put, List.setIfInBounds_toArray, List.set_cons_zero, List.set_cons_succ]
      refine wpAnyH_take (i := 9) (v := ?_) rfl (by kernel_rfl) (by kernel_rfl) (by kernel_rfl) (fun _ _ _ h => h) (Or.inl ⟨by rfl, ?_⟩) (by assumption) ?_
      rotate_left
      · intro wq hSw; (try dsimp only at hSw); go_simp; (try with_reducible rfl)
      simp only [List.getElem_toArray, List.getElem_cons_succ, List.getElem_cons_zero, Act.put, List.setIfInBounds_toArray, List.set_cons_zero, List.set_cons_succ]
      refine wpAnyH_take (i := 10) (v := ?_) rfl (by kernel_rfl) (by kernel_rfl) (by kernel_rfl) (fun _ _ _ h => h) (Or.inl ⟨by rfl, ?_⟩) (by assumption) ?_
      rotate_left
      · intro wq hSw; (try dsimp only at hSw); go_simp; (try with_reducible rfl)
      simp only [List.getElem_toArray, List.getElem_cons_succ, List.getElem_cons_zero, Act.put, List.setIfInBounds_toArray, List.set_cons_zero, List.set_cons_succ]
      refine wpAnyH_take (i := 11) (v := ?_) rfl (by kernel_rfl) (by kernel_rfl) (by kernel_rfl) (fun _ _ _ h => h) (Or.inl ⟨by rfl, ?_⟩) (by assumption) ?_
      rotate_left
      · intro wq hSw; (try dsimp only at hSw); go_simp; (try with_reducible rfl)
      simp only [List.getElem_toArray, List.getElem_cons_succ, List.getElem_cons_zero, Act.put, List.setIfInBounds_toArray, List.set_cons_zero, List.set_cons_succ]
      refine wpAnyH_ready (rs := [12]) (by kernel_rfl) (by simp) ?_
      refine AllReadyH.cons rfl (fun K hK => ?_) AllReadyH.nil
      go_simp
      refine HE.out.mono ?_; rintro e w2 ⟨rfl, rfl⟩
      try go_wp2_with fail
      refine hK.out _ _ (⟨s8, s1⟩) (fun hHeld => ?_)
      clear hK K
      try simp only [List.getElem_toArray, List.getElem_cons_succ, List.getElem_cons_zero, Act.put, List.setIfInBounds_toArray, List.set_cons_zero, List.set_cons_succ]
      refine wpAnyH_take (i := 13) (v := ?_) rfl (by kernel_rfl) (by kernel_rfl) (by kernel_rfl) (fun _ _ _ h => h) (Or.inl ⟨by rfl, ?_⟩) (by assumption) ?_
      rotate_left
      · intro wq hSw; (try dsimp only at hSw); go_simp; (try with_reducible rfl)
      simp only [List.getElem_toArray, List.getElem_cons_succ, List.getElem_cons_zero, Act.put, List.setIfInBounds_toArray, List.set_cons_zero, List.set_cons_succ]
      refine wpAnyH_take (i := 14) (v := ?_) rfl (by kernel_rfl) (by kernel_rfl) (by kernel_rfl) (fun _ _ _ h => h) (Or.inl ⟨by rfl, ?_⟩) (by assumption) ?_
      rotate_left
      · intro wq hSw; (try dsimp only at hSw); go_simp; (try with_reducible rfl)
      simp only [List.getElem_toArray, List.getElem_cons_succ, List.getElem_cons_zero, Act.put, List.setIfInBounds_toArray, List.set_cons_zero, List.set_cons_succ]
      refine wpAnyH_done (by kernel_rfl) ?_ _
      go_wp2_with fail
      go_ret
      rw [HNO.out, sendG_no HNO.out]
      exact ⟨rfl, (HR1.out.gb (gb_drew (gb_refl _ none))).upto (by rw [drew_heap]; have h1 := S1.out; have h2 := SZ.out; omega), (keptN_gb base hbs (gb_drew (gb_trans GE.out G1.out)))⟩
end Go.Proofs.Ytfloekbmgjmhbaa
end

section
namespace Go.Proofs.Ytfloekbmgjmhbaa
open Go.ChangeShapes Go.WideShapes Go.ChangeAt Go.RowKit
set_option linter.unusedVariables false

/-- A new network and a number. -/
def RetNetI (N : Nt) (x : Int) (w : World) (e : Ending) (w' : World) : Prop :=
  ∃ y : Na, e = .returned (.tuple #[.agg #[.int .i64 N.W, .int .i64 N.H, .slice y.br.A N.br.length y.br.c, .slice y.ta.A N.ta.length y.ta.c, .slice y.tb.A N.tb.length y.tb.c, .slice y.bu.A N.bu.length y.bu.c, .slice y.ow.A N.ow.length y.ow.c, .slice y.tu.A N.tu.length y.tu.c, .slice y.so.A N.so.length y.so.c, .slice y.ar.A N.ar.length y.ar.c, .int .i64 N.ti], .int .i64 x]) ∧ NetOwn w' w.heap.size w'.heap.size y N ∧ Below w.heap.size w w'
end Go.Proofs.Ytfloekbmgjmhbaa
end

section
namespace Go.Proofs.Ytfloekbmgjmhbaa
open Go.ChangeShapes Go.WideShapes Go.ChangeAt Go.RowKit
set_option linter.unusedVariables false
set_option maxRecDepth 20000

/-- A network like another one lies in the same cells. -/
theorem blk_like {w : World} {g k : Nat} {z : Na} {N R : Nt} (LK : NetLike N R k) (h : Blk w g 38 #[.int .i64 N.W, .int .i64 N.H, .slice z.br.A N.br.length z.br.c, .slice z.ta.A N.ta.length z.ta.c, .slice z.tb.A N.tb.length z.tb.c, .slice z.bu.A N.bu.length z.bu.c, .slice z.ow.A N.ow.length z.ow.c, .slice z.tu.A N.tu.length z.tu.c, .slice z.so.A N.so.length z.so.c, .slice z.ar.A N.ar.length z.ar.c, .int .i64 N.ti]) : Blk w g 38 #[.int .i64 R.W, .int .i64 R.H, .slice z.br.A R.br.length z.br.c, .slice z.ta.A R.ta.length z.ta.c, .slice z.tb.A R.tb.length z.tb.c, .slice z.bu.A R.bu.length z.bu.c, .slice z.ow.A R.ow.length z.ow.c, .slice z.tu.A R.tu.length z.tu.c, .slice z.so.A R.so.length z.so.c, .slice z.ar.A R.ar.length z.ar.c, .int .i64 R.ti] := by
  simp only [LK.W, LK.H, LK.br, LK.ta, LK.tb, LK.bu, LK.ow, LK.tu, LK.so, LK.ar, LK.ti]
  exact h
set_option maxHeartbeats 3200000 in
theorem implSendAll (y : Na) (N : Nt) (A : Option Addr) (n cap : Nat) (D : List Pkt) (w : World) (h : NetIn w w.heap.size y N) (hn : NetSm N) (hc : NetCap y N) (hL : WfL N.br) (hr : RecAt 5 pktC w w.heap.size A n D) (hn1 : n ≤ 1000000000) :
    Calls Try.prog 10 #[.agg #[.int .i64 N.W, .int .i64 N.H, .slice y.br.A N.br.length y.br.c, .slice y.ta.A N.ta.length y.ta.c, .slice y.tb.A N.tb.length y.tb.c, .slice y.bu.A N.bu.length y.bu.c, .slice y.ow.A N.ow.length y.ow.c, .slice y.tu.A N.tu.length y.tu.c, .slice y.so.A N.so.length y.so.c, .slice y.ar.A N.ar.length y.ar.c, .int .i64 N.ti], .slice A n cap] w (RetNetI (sendAllG N D) (sentG N D) w) := by
  have HNK := Lib.hid (fun w' (g : w.grownBy w' none) => implNetOk y N w' ((h.none (Nat.le_refl _) g).more g.size) hn hc hL)
  have HCP := Lib.hid (fun w' (g : w.grownBy w' none) => implClone y N w' ((h.none (Nat.le_refl _) g).more g.size) hn)
  have HRD := Lib.hid hr
  have hlD := hr.1
  have k0 := (Blk.new w 38 #[.int .i64 N.W, .int .i64 N.H, .slice y.br.A N.br.length y.br.c, .slice y.ta.A N.ta.length y.ta.c, .slice y.tb.A N.tb.length y.tb.c, .slice y.bu.A N.bu.length y.bu.c, .slice y.ow.A N.ow.length y.ow.c, .slice y.tu.A N.tu.length y.tu.c, .slice y.so.A N.so.length y.so.c, .slice y.ar.A N.ar.length y.ar.c, .int .i64 N.ti]).alloc (.cells #[.int .i64 0, .int .i64 0, .slice none 0 0, .slice none 0 0, .slice none 0 0, .slice none 0 0, .slice none 0 0, .slice none 0 0, .slice none 0 0, .slice none 0 0, .int .i64 0] 38)
  have k2 := Blk.new (w.alloc (.cells #[.int .i64 N.W, .int .i64 N.H, .slice y.br.A N.br.length y.br.c, .slice y.ta.A N.ta.length y.ta.c, .slice y.tb.A N.tb.length y.tb.c, .slice y.bu.A N.bu.length y.bu.c, .slice y.ow.A N.ow.length y.ow.c, .slice y.tu.A N.tu.length y.tu.c, .slice y.so.A N.so.length y.so.c, .slice y.ar.A N.ar.length y.ar.c, .int .i64 N.ti] 38)) 38 #[.int .i64 0, .int .i64 0, .slice none 0 0, .slice none 0 0, .slice none 0 0, .slice none 0 0, .slice none 0 0, .slice none 0 0, .slice none 0 0, .slice none 0 0, .int .i64 0]
  have ge := gb_alloc (gb_alloc (gb_refl w none) (.cells #[.int .i64 N.W, .int .i64 N.H, .slice y.br.A N.br.length y.br.c, .slice y.ta.A N.ta.length y.ta.c, .slice y.tb.A N.tb.length y.tb.c, .slice y.bu.A N.bu.length y.bu.c, .slice y.ow.A N.ow.length y.ow.c, .slice y.tu.A N.tu.length y.tu.c, .slice y.so.A N.so.length y.so.c, .slice y.ar.A N.ar.length y.ar.c, .int .i64 N.ti] 38)) (.cells #[.int .i64 0, .int .i64 0, .slice none 0 0, .slice none 0 0, .slice none 0 0, .slice none 0 0, .slice none 0 0, .slice none 0 0, .slice none 0 0, .slice none 0 0, .int .i64 0] 38)
  have hsz : ((w.alloc (.cells #[.int .i64 N.W, .int .i64 N.H, .slice y.br.A N.br.length y.br.c, .slice y.ta.A N.ta.length y.ta.c, .slice y.tb.A N.tb.length y.tb.c, .slice y.bu.A N.bu.length y.bu.c, .slice y.ow.A N.ow.length y.ow.c, .slice y.tu.A N.tu.length y.tu.c, .slice y.so.A N.so.length y.so.c, .slice y.ar.A N.ar.length y.ar.c, .int .i64 N.ti] 38)).alloc (.cells #[.int .i64 0, .int .i64 0, .slice none 0 0, .slice none 0 0, .slice none 0 0, .slice none 0 0, .slice none 0 0, .slice none 0 0, .slice none 0 0, .slice none 0 0, .int .i64 0] 38)).heap.size = w.heap.size + 2 := by simp only [alloc_size]
  simp only [alloc_size] at k2
  clear h hc hL hr
  go_enter Try.func10, Try.ntmps10
  go_wp2_with fail
  generalize (w.alloc (.cells #[.int .i64 N.W, .int .i64 N.H, .slice y.br.A N.br.length y.br.c, .slice y.ta.A N.ta.length y.ta.c, .slice y.tb.A N.tb.length y.tb.c, .slice y.bu.A N.bu.length y.bu.c, .slice y.ow.A N.ow.length y.ow.c, .slice y.tu.A N.tu.length y.tu.c, .slice y.so.A N.so.length y.so.c, .slice y.ar.A N.ar.length y.ar.c, .int .i64 N.ti] 38)).alloc (.cells #[.int .i64 0, .int .i64 0, .slice none 0 0, .slice none 0 0, .slice none 0 0, .slice none 0 0, .slice none 0 0, .slice none 0 0, .slice none 0 0, .slice none 0 0, .int .i64 0] 38) = w0 at *
  have K0 : Hid (Blk w0 w.heap.size 38 #[.int .i64 N.W, .int .i64 N.H, .slice y.br.A N.br.length y.br.c, .slice y.ta.A N.ta.length y.ta.c, .slice y.tb.A N.tb.length y.tb.c, .slice y.bu.A N.bu.length y.bu.c, .slice y.ow.A N.ow.length y.ow.c, .slice y.tu.A N.tu.length y.tu.c, .slice y.so.A N.so.length y.so.c, .slice y.ar.A N.ar.length y.ar.c, .int .i64 N.ti]) := Lib.hid k0
  have K2 : Hid (Blk w0 (w.heap.size + 1) 38 #[.int .i64 0, .int .i64 0, .slice none 0 0, .slice none 0 0, .slice none 0 0, .slice none 0 0, .slice none 0 0, .slice none 0 0, .slice none 0 0, .slice none 0 0, .int .i64 0]) := Lib.hid k2
  have GE := Lib.hid ge
  have SZ := Lib.hid hsz
  clear k0 k2 ge hsz
  refine (HCP.out _ GE.out).mono ?_
  rintro e w1 ⟨z, rfl, o1, b1⟩
  have O1 := Lib.hid (NetOwn.gb o1 (gb_alloc (gb_refl w1 none) (.cells #[.int .i64 N.W, .int .i64 N.H, .slice z.br.A N.br.length z.br.c, .slice z.ta.A N.ta.length z.ta.c, .slice z.tb.A N.tb.length z.tb.c, .slice z.bu.A N.bu.length z.bu.c, .slice z.ow.A N.ow.length z.ow.c, .slice z.tu.A N.tu.length z.tu.c, .slice z.so.A N.so.length z.so.c, .slice z.ar.A N.ar.length z.ar.c, .int .i64 N.ti] 38)))
  have G1 := Lib.hid (gb_alloc (gb_of_below b1 none) (.cells #[.int .i64 N.W, .int .i64 N.H, .slice z.br.A N.br.length z.br.c, .slice z.ta.A N.ta.length z.ta.c, .slice z.tb.A N.tb.length z.tb.c, .slice z.bu.A N.bu.length z.bu.c, .slice z.ow.A N.ow.length z.ow.c, .slice z.tu.A N.tu.length z.tu.c, .slice z.so.A N.so.length z.so.c, .slice z.ar.A N.ar.length z.ar.c, .int .i64 N.ti] 38))
  have SZ1 := Lib.hid (show w0.heap.size ≤ w1.heap.size from b1.size)
  have KG := Lib.hid (Blk.new w1 38 #[.int .i64 N.W, .int .i64 N.H, .slice z.br.A N.br.length z.br.c, .slice z.ta.A N.ta.length z.ta.c, .slice z.tb.A N.tb.length z.tb.c, .slice z.bu.A N.bu.length z.bu.c, .slice z.ow.A N.ow.length z.ow.c, .slice z.tu.A N.tu.length z.tu.c, .slice z.so.A N.so.length z.so.c, .slice z.ar.A N.ar.length z.ar.c, .int .i64 N.ti])
  have S0 := Lib.hid (alloc_size w1 (.cells #[.int .i64 N.W, .int .i64 N.H, .slice z.br.A N.br.length z.br.c, .slice z.ta.A N.ta.length z.ta.c, .slice z.tb.A N.tb.length z.tb.c, .slice z.bu.A N.bu.length z.bu.c, .slice z.ow.A N.ow.length z.ow.c, .slice z.tu.A N.tu.length z.tu.c, .slice z.so.A N.so.length z.so.c, .slice z.ar.A N.ar.length z.ar.c, .int .i64 N.ti] 38))
  clear o1 b1
  have a0 : (w1.alloc (.cells #[.int .i64 N.W, .int .i64 N.H, .slice z.br.A N.br.length z.br.c, .slice z.ta.A N.ta.length z.ta.c, .slice z.tb.A N.tb.length z.tb.c, .slice z.bu.A N.bu.length z.bu.c, .slice z.ow.A N.ow.length z.ow.c, .slice z.tu.A N.tu.length z.tu.c, .slice z.so.A N.so.length z.so.c, .slice z.ar.A N.ar.length z.ar.c, .int .i64 N.ti] 38)).cell? ⟨w.heap.size, 0, none⟩ = some (.int .i64 N.W) := (K0.out.grown G1.out (by simp)).cell 0
  have a1 : (w1.alloc (.cells #[.int .i64 N.W, .int .i64 N.H, .slice z.br.A N.br.length z.br.c, .slice z.ta.A N.ta.length z.ta.c, .slice z.tb.A N.tb.length z.tb.c, .slice z.bu.A N.bu.length z.bu.c, .slice z.ow.A N.ow.length z.ow.c, .slice z.tu.A N.tu.length z.tu.c, .slice z.so.A N.so.length z.so.c, .slice z.ar.A N.ar.length z.ar.c, .int .i64 N.ti] 38)).cell? ⟨w.heap.size, 1, none⟩ = some (.int .i64 N.H) := (K0.out.grown G1.out (by simp)).cell 1
  have a2 : (w1.alloc (.cells #[.int .i64 N.W, .int .i64 N.H, .slice z.br.A N.br.length z.br.c, .slice z.ta.A N.ta.length z.ta.c, .slice z.tb.A N.tb.length z.tb.c, .slice z.bu.A N.bu.length z.bu.c, .slice z.ow.A N.ow.length z.ow.c, .slice z.tu.A N.tu.length z.tu.c, .slice z.so.A N.so.length z.so.c, .slice z.ar.A N.ar.length z.ar.c, .int .i64 N.ti] 38)).cell? ⟨w.heap.size, 2, none⟩ = some (.slice y.br.A N.br.length y.br.c) := (K0.out.grown G1.out (by simp)).cell 2
  have a3 : (w1.alloc (.cells #[.int .i64 N.W, .int .i64 N.H, .slice z.br.A N.br.length z.br.c, .slice z.ta.A N.ta.length z.ta.c, .slice z.tb.A N.tb.length z.tb.c, .slice z.bu.A N.bu.length z.bu.c, .slice z.ow.A N.ow.length z.ow.c, .slice z.tu.A N.tu.length z.tu.c, .slice z.so.A N.so.length z.so.c, .slice z.ar.A N.ar.length z.ar.c, .int .i64 N.ti] 38)).cell? ⟨w.heap.size, 3, none⟩ = some (.slice y.ta.A N.ta.length y.ta.c) := (K0.out.grown G1.out (by simp)).cell 3
  have a4 : (w1.alloc (.cells #[.int .i64 N.W, .int .i64 N.H, .slice z.br.A N.br.length z.br.c, .slice z.ta.A N.ta.length z.ta.c, .slice z.tb.A N.tb.length z.tb.c, .slice z.bu.A N.bu.length z.bu.c, .slice z.ow.A N.ow.length z.ow.c, .slice z.tu.A N.tu.length z.tu.c, .slice z.so.A N.so.length z.so.c, .slice z.ar.A N.ar.length z.ar.c, .int .i64 N.ti] 38)).cell? ⟨w.heap.size, 4, none⟩ = some (.slice y.tb.A N.tb.length y.tb.c) := (K0.out.grown G1.out (by simp)).cell 4
  have a5 : (w1.alloc (.cells #[.int .i64 N.W, .int .i64 N.H, .slice z.br.A N.br.length z.br.c, .slice z.ta.A N.ta.length z.ta.c, .slice z.tb.A N.tb.length z.tb.c, .slice z.bu.A N.bu.length z.bu.c, .slice z.ow.A N.ow.length z.ow.c, .slice z.tu.A N.tu.length z.tu.c, .slice z.so.A N.so.length z.so.c, .slice z.ar.A N.ar.length z.ar.c, .int .i64 N.ti] 38)).cell? ⟨w.heap.size, 5, none⟩ = some (.slice y.bu.A N.bu.length y.bu.c) := (K0.out.grown G1.out (by simp)).cell 5
  have a6 : (w1.alloc (.cells #[.int .i64 N.W, .int .i64 N.H, .slice z.br.A N.br.length z.br.c, .slice z.ta.A N.ta.length z.ta.c, .slice z.tb.A N.tb.length z.tb.c, .slice z.bu.A N.bu.length z.bu.c, .slice z.ow.A N.ow.length z.ow.c, .slice z.tu.A N.tu.length z.tu.c, .slice z.so.A N.so.length z.so.c, .slice z.ar.A N.ar.length z.ar.c, .int .i64 N.ti] 38)).cell? ⟨w.heap.size, 6, none⟩ = some (.slice y.ow.A N.ow.length y.ow.c) := (K0.out.grown G1.out (by simp)).cell 6
  have a7 : (w1.alloc (.cells #[.int .i64 N.W, .int .i64 N.H, .slice z.br.A N.br.length z.br.c, .slice z.ta.A N.ta.length z.ta.c, .slice z.tb.A N.tb.length z.tb.c, .slice z.bu.A N.bu.length z.bu.c, .slice z.ow.A N.ow.length z.ow.c, .slice z.tu.A N.tu.length z.tu.c, .slice z.so.A N.so.length z.so.c, .slice z.ar.A N.ar.length z.ar.c, .int .i64 N.ti] 38)).cell? ⟨w.heap.size, 7, none⟩ = some (.slice y.tu.A N.tu.length y.tu.c) := (K0.out.grown G1.out (by simp)).cell 7
  have a8 : (w1.alloc (.cells #[.int .i64 N.W, .int .i64 N.H, .slice z.br.A N.br.length z.br.c, .slice z.ta.A N.ta.length z.ta.c, .slice z.tb.A N.tb.length z.tb.c, .slice z.bu.A N.bu.length z.bu.c, .slice z.ow.A N.ow.length z.ow.c, .slice z.tu.A N.tu.length z.tu.c, .slice z.so.A N.so.length z.so.c, .slice z.ar.A N.ar.length z.ar.c, .int .i64 N.ti] 38)).cell? ⟨w.heap.size, 8, none⟩ = some (.slice y.so.A N.so.length y.so.c) := (K0.out.grown G1.out (by simp)).cell 8
  have a9 : (w1.alloc (.cells #[.int .i64 N.W, .int .i64 N.H, .slice z.br.A N.br.length z.br.c, .slice z.ta.A N.ta.length z.ta.c, .slice z.tb.A N.tb.length z.tb.c, .slice z.bu.A N.bu.length z.bu.c, .slice z.ow.A N.ow.length z.ow.c, .slice z.tu.A N.tu.length z.tu.c, .slice z.so.A N.so.length z.so.c, .slice z.ar.A N.ar.length z.ar.c, .int .i64 N.ti] 38)).cell? ⟨w.heap.size, 9, none⟩ = some (.slice y.ar.A N.ar.length y.ar.c) := (K0.out.grown G1.out (by simp)).cell 9
  have a10 : (w1.alloc (.cells #[.int .i64 N.W, .int .i64 N.H, .slice z.br.A N.br.length z.br.c, .slice z.ta.A N.ta.length z.ta.c, .slice z.tb.A N.tb.length z.tb.c, .slice z.bu.A N.bu.length z.bu.c, .slice z.ow.A N.ow.length z.ow.c, .slice z.tu.A N.tu.length z.tu.c, .slice z.so.A N.so.length z.so.c, .slice z.ar.A N.ar.length z.ar.c, .int .i64 N.ti] 38)).cell? ⟨w.heap.size, 10, none⟩ = some (.int .i64 N.ti) := (K0.out.grown G1.out (by simp)).cell 10
  go_wp2_with fail
  generalize (w1.alloc (.cells #[.int .i64 N.W, .int .i64 N.H, .slice z.br.A N.br.length z.br.c, .slice z.ta.A N.ta.length z.ta.c, .slice z.tb.A N.tb.length z.tb.c, .slice z.bu.A N.bu.length z.bu.c, .slice z.ow.A N.ow.length z.ow.c, .slice z.tu.A N.tu.length z.tu.c, .slice z.so.A N.so.length z.so.c, .slice z.ar.A N.ar.length z.ar.c, .int .i64 N.ti] 38)) = wx at *
  refine (HNK.out _ (gb_trans GE.out G1.out)).mono ?_
  rintro e w2 ⟨rfl, hg2⟩
  have G2 := Lib.hid hg2
  have SZ2 := Lib.hid (show w1.heap.size + 1 ≤ w2.heap.size by have h1 := hg2.size; have h2 := S0.out; omega)
  have KG2 := Lib.hid (KG.out.grown hg2 (by simp))
  have O2 := Lib.hid (O1.out.gb hg2)
  have GG := Lib.hid (gb_trans (gb_trans GE.out G1.out) hg2)
  have KR2 := Lib.hid (((K2.out.grown G1.out (by simp)).grown hg2 (by simp)))
  clear hg2 a0 a1 a2 a3 a4 a5 a6 a7 a8 a9 a10
  have BB := Lib.hid (gb_below_none GG.out (Nat.le_refl _))
  cases hok : netOk N with
  | false =>
    have HNO := Lib.hid (show allOk N D = false by rw [allOk, hok]; rfl)
    have HA := Lib.hid (show sendAllG N D = N ∧ sentG N D = -1 from ⟨if_neg (by rw [HNO.out]; decide), if_neg (by rw [HNO.out]; decide)⟩)
    have b0 : w2.cell? ⟨w1.heap.size, 0, none⟩ = some (.int .i64 N.W) := KG2.out.cell 0
    have b1 : w2.cell? ⟨w1.heap.size, 1, none⟩ = some (.int .i64 N.H) := KG2.out.cell 1
    have b2 : w2.cell? ⟨w1.heap.size, 2, none⟩ = some (.slice z.br.A N.br.length z.br.c) := KG2.out.cell 2
    have b3 : w2.cell? ⟨w1.heap.size, 3, none⟩ = some (.slice z.ta.A N.ta.length z.ta.c) := KG2.out.cell 3
    have b4 : w2.cell? ⟨w1.heap.size, 4, none⟩ = some (.slice z.tb.A N.tb.length z.tb.c) := KG2.out.cell 4
    have b5 : w2.cell? ⟨w1.heap.size, 5, none⟩ = some (.slice z.bu.A N.bu.length z.bu.c) := KG2.out.cell 5
    have b6 : w2.cell? ⟨w1.heap.size, 6, none⟩ = some (.slice z.ow.A N.ow.length z.ow.c) := KG2.out.cell 6
    have b7 : w2.cell? ⟨w1.heap.size, 7, none⟩ = some (.slice z.tu.A N.tu.length z.tu.c) := KG2.out.cell 7
    have b8 : w2.cell? ⟨w1.heap.size, 8, none⟩ = some (.slice z.so.A N.so.length z.so.c) := KG2.out.cell 8
    have b9 : w2.cell? ⟨w1.heap.size, 9, none⟩ = some (.slice z.ar.A N.ar.length z.ar.c) := KG2.out.cell 9
    have b10 : w2.cell? ⟨w1.heap.size, 10, none⟩ = some (.int .i64 N.ti) := KG2.out.cell 10
    have kr : Blk w2 (w.heap.size + 1) 38 #[.int .i64 0, .int .i64 0, .slice none 0 0, .slice none 0 0, .slice none 0 0, .slice none 0 0, .slice none 0 0, .slice none 0 0, .slice none 0 0, .slice none 0 0, .int .i64 0] := KR2.out
    have KR4 := Lib.hid kr
    have y0 : w2.cell? ⟨w.heap.size + 1, 0, none⟩ = some (.int .i64 0) := kr.cell 0
    have x0 := kr.frozen 0
    have y1 : w2.cell? ⟨w.heap.size + 1, 1, none⟩ = some (.int .i64 0) := kr.cell 1
    have x1 := kr.frozen 1
    have y2 : w2.cell? ⟨w.heap.size + 1, 2, none⟩ = some (.slice none 0 0) := kr.cell 2
    have x2 := kr.frozen 2
    have y3 : w2.cell? ⟨w.heap.size + 1, 3, none⟩ = some (.slice none 0 0) := kr.cell 3
    have x3 := kr.frozen 3
    have y4 : w2.cell? ⟨w.heap.size + 1, 4, none⟩ = some (.slice none 0 0) := kr.cell 4
    have x4 := kr.frozen 4
    have y5 : w2.cell? ⟨w.heap.size + 1, 5, none⟩ = some (.slice none 0 0) := kr.cell 5
    have x5 := kr.frozen 5
    have y6 : w2.cell? ⟨w.heap.size + 1, 6, none⟩ = some (.slice none 0 0) := kr.cell 6
    have x6 := kr.frozen 6
    have y7 : w2.cell? ⟨w.heap.size + 1, 7, none⟩ = some (.slice none 0 0) := kr.cell 7
    have x7 := kr.frozen 7
    have y8 : w2.cell? ⟨w.heap.size + 1, 8, none⟩ = some (.slice none 0 0) := kr.cell 8
    have x8 := kr.frozen 8
    have y9 : w2.cell? ⟨w.heap.size + 1, 9, none⟩ = some (.slice none 0 0) := kr.cell 9
    have x9 := kr.frozen 9
    have y10 : w2.cell? ⟨w.heap.size + 1, 10, none⟩ = some (.int .i64 0) := kr.cell 10
    have x10 := kr.frozen 10
    clear kr
    go_wp2_with fail
    have kf : Blk (((((((((((w2.setCell ⟨w.heap.size + 1, 0, none⟩ (.int .i64 N.W)).setCell ⟨w.heap.size + 1, 1, none⟩ (.int .i64 N.H)).setCell ⟨w.heap.size + 1, 2, none⟩ (.slice z.br.A N.br.length z.br.c)).setCell ⟨w.heap.size + 1, 3, none⟩ (.slice z.ta.A N.ta.length z.ta.c)).setCell ⟨w.heap.size + 1, 4, none⟩ (.slice z.tb.A N.tb.length z.tb.c)).setCell ⟨w.heap.size + 1, 5, none⟩ (.slice z.bu.A N.bu.length z.bu.c)).setCell ⟨w.heap.size + 1, 6, none⟩ (.slice z.ow.A N.ow.length z.ow.c)).setCell ⟨w.heap.size + 1, 7, none⟩ (.slice z.tu.A N.tu.length z.tu.c)).setCell ⟨w.heap.size + 1, 8, none⟩ (.slice z.so.A N.so.length z.so.c)).setCell ⟨w.heap.size + 1, 9, none⟩ (.slice z.ar.A N.ar.length z.ar.c)).setCell ⟨w.heap.size + 1, 10, none⟩ (.int .i64 N.ti)) (w.heap.size + 1) 38 #[.int .i64 N.W, .int .i64 N.H, .slice z.br.A N.br.length z.br.c, .slice z.ta.A N.ta.length z.ta.c, .slice z.tb.A N.tb.length z.tb.c, .slice z.bu.A N.bu.length z.bu.c, .slice z.ow.A N.ow.length z.ow.c, .slice z.tu.A N.tu.length z.tu.c, .slice z.so.A N.so.length z.so.c, .slice z.ar.A N.ar.length z.ar.c, .int .i64 N.ti] := by
      have hz := (((((((((((KR4.out.set_ 0 (.int .i64 N.W)).set_ 1 (.int .i64 N.H)).set_ 2 (.slice z.br.A N.br.length z.br.c)).set_ 3 (.slice z.ta.A N.ta.length z.ta.c)).set_ 4 (.slice z.tb.A N.tb.length z.tb.c)).set_ 5 (.slice z.bu.A N.bu.length z.bu.c)).set_ 6 (.slice z.ow.A N.ow.length z.ow.c)).set_ 7 (.slice z.tu.A N.tu.length z.tu.c)).set_ 8 (.slice z.so.A N.so.length z.so.c)).set_ 9 (.slice z.ar.A N.ar.length z.ar.c)).set_ 10 (.int .i64 N.ti))
      simpa using hz
    have qz : Chg (w.heap.size + 1) (w.heap.size + 1 + 1) w2 (((((((((((w2.setCell ⟨w.heap.size + 1, 0, none⟩ (.int .i64 N.W)).setCell ⟨w.heap.size + 1, 1, none⟩ (.int .i64 N.H)).setCell ⟨w.heap.size + 1, 2, none⟩ (.slice z.br.A N.br.length z.br.c)).setCell ⟨w.heap.size + 1, 3, none⟩ (.slice z.ta.A N.ta.length z.ta.c)).setCell ⟨w.heap.size + 1, 4, none⟩ (.slice z.tb.A N.tb.length z.tb.c)).setCell ⟨w.heap.size + 1, 5, none⟩ (.slice z.bu.A N.bu.length z.bu.c)).setCell ⟨w.heap.size + 1, 6, none⟩ (.slice z.ow.A N.ow.length z.ow.c)).setCell ⟨w.heap.size + 1, 7, none⟩ (.slice z.tu.A N.tu.length z.tu.c)).setCell ⟨w.heap.size + 1, 8, none⟩ (.slice z.so.A N.so.length z.so.c)).setCell ⟨w.heap.size + 1, 9, none⟩ (.slice z.ar.A N.ar.length z.ar.c)).setCell ⟨w.heap.size + 1, 10, none⟩ (.int .i64 N.ti)) := ((((((((((st_in w2 (w.heap.size + 1) 0 (.int .i64 N.W)).sx 1 (.int .i64 N.H)).sx 2 (.slice z.br.A N.br.length z.br.c)).sx 3 (.slice z.ta.A N.ta.length z.ta.c)).sx 4 (.slice z.tb.A N.tb.length z.tb.c)).sx 5 (.slice z.bu.A N.bu.length z.bu.c)).sx 6 (.slice z.ow.A N.ow.length z.ow.c)).sx 7 (.slice z.tu.A N.tu.length z.tu.c)).sx 8 (.slice z.so.A N.so.length z.so.c)).sx 9 (.slice z.ar.A N.ar.length z.ar.c)).sx 10 (.int .i64 N.ti)
    generalize (((((((((((w2.setCell ⟨w.heap.size + 1, 0, none⟩ (.int .i64 N.W)).setCell ⟨w.heap.size + 1, 1, none⟩ (.int .i64 N.H)).setCell ⟨w.heap.size + 1, 2, none⟩ (.slice z.br.A N.br.length z.br.c)).setCell ⟨w.heap.size + 1, 3, none⟩ (.slice z.ta.A N.ta.length z.ta.c)).setCell ⟨w.heap.size + 1, 4, none⟩ (.slice z.tb.A N.tb.length z.tb.c)).setCell ⟨w.heap.size + 1, 5, none⟩ (.slice z.bu.A N.bu.length z.bu.c)).setCell ⟨w.heap.size + 1, 6, none⟩ (.slice z.ow.A N.ow.length z.ow.c)).setCell ⟨w.heap.size + 1, 7, none⟩ (.slice z.tu.A N.tu.length z.tu.c)).setCell ⟨w.heap.size + 1, 8, none⟩ (.slice z.so.A N.so.length z.so.c)).setCell ⟨w.heap.size + 1, 9, none⟩ (.slice z.ar.A N.ar.length z.ar.c)).setCell ⟨w.heap.size + 1, 10, none⟩ (.int .i64 N.ti)) = wz at *
    have r0 := kf.cell 0
    have r1 := kf.cell 1
    have r2 := kf.cell 2
    have r3 := kf.cell 3
    have r4 := kf.cell 4
    have r5 := kf.cell 5
    have r6 := kf.cell 6
    have r7 := kf.cell 7
    have r8 := kf.cell 8
    have r9 := kf.cell 9
    have r10 := kf.cell 10
    simp only [List.getElem?_toArray, List.getElem?_cons_zero, List.getElem?_cons_succ] at r0 r1 r2 r3 r4 r5 r6 r7 r8 r9 r10
    rw [HA.out.1, HA.out.2]
    have hnet : NetOwn wz _ w2.heap.size z N := (O2.out.upto (show w1.heap.size ≤ w2.heap.size by have h3 := SZ.out; have h4 := SZ1.out; have h5 := SZ2.out; omega)).heap (fun k h1 h2 => qz.block k h2 (by have h3 := SZ.out; have h4 := SZ1.out; have h5 := SZ2.out; omega))
    refine bodyPost_ret (v := .tuple #[.agg #[.int .i64 N.W, .int .i64 N.H, .slice z.br.A N.br.length z.br.c, .slice z.ta.A N.ta.length z.ta.c, .slice z.tb.A N.tb.length z.tb.c, .slice z.bu.A N.bu.length z.bu.c, .slice z.ow.A N.ow.length z.ow.c, .slice z.tu.A N.tu.length z.tu.c, .slice z.so.A N.so.length z.so.c, .slice z.ar.A N.ar.length z.ar.c, .int .i64 N.ti], .int .i64 (-1)]) (by simp [results, Try.results10, go_sem, r0, r1, r2, r3, r4, r5, r6, r7, r8, r9, r10]) rfl ⟨z, rfl, (hnet.less (by have h3 := SZ.out; have h4 := SZ1.out; have h5 := SZ2.out; omega)).upto qz.size, (BB.out).trans (qz.below (.inl (by omega)) (by have h3 := SZ.out; have h4 := SZ1.out; have h5 := SZ2.out; omega))⟩
  | true =>
    have HOK := Lib.hid hok
    by_cases h40 : n ≤ 40
    rotate_left
    · have HNO := Lib.hid (show allOk N D = false by rw [allOk, decide_eq_false (by omega), Bool.and_false])
      have HA := Lib.hid (show sendAllG N D = N ∧ sentG N D = -1 from ⟨if_neg (by rw [HNO.out]; decide), if_neg (by rw [HNO.out]; decide)⟩)
      have e1 : (n : Int) > 40 := by omega
      clear hok h40
      have b0 : w2.cell? ⟨w1.heap.size, 0, none⟩ = some (.int .i64 N.W) := KG2.out.cell 0
      have b1 : w2.cell? ⟨w1.heap.size, 1, none⟩ = some (.int .i64 N.H) := KG2.out.cell 1
      have b2 : w2.cell? ⟨w1.heap.size, 2, none⟩ = some (.slice z.br.A N.br.length z.br.c) := KG2.out.cell 2
      have b3 : w2.cell? ⟨w1.heap.size, 3, none⟩ = some (.slice z.ta.A N.ta.length z.ta.c) := KG2.out.cell 3
      have b4 : w2.cell? ⟨w1.heap.size, 4, none⟩ = some (.slice z.tb.A N.tb.length z.tb.c) := KG2.out.cell 4
      have b5 : w2.cell? ⟨w1.heap.size, 5, none⟩ = some (.slice z.bu.A N.bu.length z.bu.c) := KG2.out.cell 5
      have b6 : w2.cell? ⟨w1.heap.size, 6, none⟩ = some (.slice z.ow.A N.ow.length z.ow.c) := KG2.out.cell 6
      have b7 : w2.cell? ⟨w1.heap.size, 7, none⟩ = some (.slice z.tu.A N.tu.length z.tu.c) := KG2.out.cell 7
      have b8 : w2.cell? ⟨w1.heap.size, 8, none⟩ = some (.slice z.so.A N.so.length z.so.c) := KG2.out.cell 8
      have b9 : w2.cell? ⟨w1.heap.size, 9, none⟩ = some (.slice z.ar.A N.ar.length z.ar.c) := KG2.out.cell 9
      have b10 : w2.cell? ⟨w1.heap.size, 10, none⟩ = some (.int .i64 N.ti) := KG2.out.cell 10
      have kr : Blk w2 (w.heap.size + 1) 38 #[.int .i64 0, .int .i64 0, .slice none 0 0, .slice none 0 0, .slice none 0 0, .slice none 0 0, .slice none 0 0, .slice none 0 0, .slice none 0 0, .slice none 0 0, .int .i64 0] := KR2.out
      have KR4 := Lib.hid kr
      have y0 : w2.cell? ⟨w.heap.size + 1, 0, none⟩ = some (.int .i64 0) := kr.cell 0
      have x0 := kr.frozen 0
      have y1 : w2.cell? ⟨w.heap.size + 1, 1, none⟩ = some (.int .i64 0) := kr.cell 1
      have x1 := kr.frozen 1
      have y2 : w2.cell? ⟨w.heap.size + 1, 2, none⟩ = some (.slice none 0 0) := kr.cell 2
      have x2 := kr.frozen 2
      have y3 : w2.cell? ⟨w.heap.size + 1, 3, none⟩ = some (.slice none 0 0) := kr.cell 3
      have x3 := kr.frozen 3
      have y4 : w2.cell? ⟨w.heap.size + 1, 4, none⟩ = some (.slice none 0 0) := kr.cell 4
      have x4 := kr.frozen 4
      have y5 : w2.cell? ⟨w.heap.size + 1, 5, none⟩ = some (.slice none 0 0) := kr.cell 5
      have x5 := kr.frozen 5
      have y6 : w2.cell? ⟨w.heap.size + 1, 6, none⟩ = some (.slice none 0 0) := kr.cell 6
      have x6 := kr.frozen 6
      have y7 : w2.cell? ⟨w.heap.size + 1, 7, none⟩ = some (.slice none 0 0) := kr.cell 7
      have x7 := kr.frozen 7
      have y8 : w2.cell? ⟨w.heap.size + 1, 8, none⟩ = some (.slice none 0 0) := kr.cell 8
      have x8 := kr.frozen 8
      have y9 : w2.cell? ⟨w.heap.size + 1, 9, none⟩ = some (.slice none 0 0) := kr.cell 9
      have x9 := kr.frozen 9
      have y10 : w2.cell? ⟨w.heap.size + 1, 10, none⟩ = some (.int .i64 0) := kr.cell 10
      have x10 := kr.frozen 10
      clear kr
      go_wp2_with fail
      have kf : Blk (((((((((((w2.setCell ⟨w.heap.size + 1, 0, none⟩ (.int .i64 N.W)).setCell ⟨w.heap.size + 1, 1, none⟩ (.int .i64 N.H)).setCell ⟨w.heap.size + 1, 2, none⟩ (.slice z.br.A N.br.length z.br.c)).setCell ⟨w.heap.size + 1, 3, none⟩ (.slice z.ta.A N.ta.length z.ta.c)).setCell ⟨w.heap.size + 1, 4, none⟩ (.slice z.tb.A N.tb.length z.tb.c)).setCell ⟨w.heap.size + 1, 5, none⟩ (.slice z.bu.A N.bu.length z.bu.c)).setCell ⟨w.heap.size + 1, 6, none⟩ (.slice z.ow.A N.ow.length z.ow.c)).setCell ⟨w.heap.size + 1, 7, none⟩ (.slice z.tu.A N.tu.length z.tu.c)).setCell ⟨w.heap.size + 1, 8, none⟩ (.slice z.so.A N.so.length z.so.c)).setCell ⟨w.heap.size + 1, 9, none⟩ (.slice z.ar.A N.ar.length z.ar.c)).setCell ⟨w.heap.size + 1, 10, none⟩ (.int .i64 N.ti)) (w.heap.size + 1) 38 #[.int .i64 N.W, .int .i64 N.H, .slice z.br.A N.br.length z.br.c, .slice z.ta.A N.ta.length z.ta.c, .slice z.tb.A N.tb.length z.tb.c, .slice z.bu.A N.bu.length z.bu.c, .slice z.ow.A N.ow.length z.ow.c, .slice z.tu.A N.tu.length z.tu.c, .slice z.so.A N.so.length z.so.c, .slice z.ar.A N.ar.length z.ar.c, .int .i64 N.ti] := by
        have hz := (((((((((((KR4.out.set_ 0 (.int .i64 N.W)).set_ 1 (.int .i64 N.H)).set_ 2 (.slice z.br.A N.br.length z.br.c)).set_ 3 (.slice z.ta.A N.ta.length z.ta.c)).set_ 4 (.slice z.tb.A N.tb.length z.tb.c)).set_ 5 (.slice z.bu.A N.bu.length z.bu.c)).set_ 6 (.slice z.ow.A N.ow.length z.ow.c)).set_ 7 (.slice z.tu.A N.tu.length z.tu.c)).set_ 8 (.slice z.so.A N.so.length z.so.c)).set_ 9 (.slice z.ar.A N.ar.length z.ar.c)).set_ 10 (.int .i64 N.ti))
        simpa using hz
      have qz : Chg (w.heap.size + 1) (w.heap.size + 1 + 1) w2 (((((((((((w2.setCell ⟨w.heap.size + 1, 0, none⟩ (.int .i64 N.W)).setCell ⟨w.heap.size + 1, 1, none⟩ (.int .i64 N.H)).setCell ⟨w.heap.size + 1, 2, none⟩ (.slice z.br.A N.br.length z.br.c)).setCell ⟨w.heap.size + 1, 3, none⟩ (.slice z.ta.A N.ta.length z.ta.c)).setCell ⟨w.heap.size + 1, 4, none⟩ (.slice z.tb.A N.tb.length z.tb.c)).setCell ⟨w.heap.size + 1, 5, none⟩ (.slice z.bu.A N.bu.length z.bu.c)).setCell ⟨w.heap.size + 1, 6, none⟩ (.slice z.ow.A N.ow.length z.ow.c)).setCell ⟨w.heap.size + 1, 7, none⟩ (.slice z.tu.A N.tu.length z.tu.c)).setCell ⟨w.heap.size + 1, 8, none⟩ (.slice z.so.A N.so.length z.so.c)).setCell ⟨w.heap.size + 1, 9, none⟩ (.slice z.ar.A N.ar.length z.ar.c)).setCell ⟨w.heap.size + 1, 10, none⟩ (.int .i64 N.ti)) := ((((((((((st_in w2 (w.heap.size + 1) 0 (.int .i64 N.W)).sx 1 (.int .i64 N.H)).sx 2 (.slice z.br.A N.br.length z.br.c)).sx 3 (.slice z.ta.A N.ta.length z.ta.c)).sx 4 (.slice z.tb.A N.tb.length z.tb.c)).sx 5 (.slice z.bu.A N.bu.length z.bu.c)).sx 6 (.slice z.ow.A N.ow.length z.ow.c)).sx 7 (.slice z.tu.A N.tu.length z.tu.c)).sx 8 (.slice z.so.A N.so.length z.so.c)).sx 9 (.slice z.ar.A N.ar.length z.ar.c)).sx 10 (.int .i64 N.ti)
      generalize (((((((((((w2.setCell ⟨w.heap.size + 1, 0, none⟩ (.int .i64 N.W)).setCell ⟨w.heap.size + 1, 1, none⟩ (.int .i64 N.H)).setCell ⟨w.heap.size + 1, 2, none⟩ (.slice z.br.A N.br.length z.br.c)).setCell ⟨w.heap.size + 1, 3, none⟩ (.slice z.ta.A N.ta.length z.ta.c)).setCell ⟨w.heap.size + 1, 4, none⟩ (.slice z.tb.A N.tb.length z.tb.c)).setCell ⟨w.heap.size + 1, 5, none⟩ (.slice z.bu.A N.bu.length z.bu.c)).setCell ⟨w.heap.size + 1, 6, none⟩ (.slice z.ow.A N.ow.length z.ow.c)).setCell ⟨w.heap.size + 1, 7, none⟩ (.slice z.tu.A N.tu.length z.tu.c)).setCell ⟨w.heap.size + 1, 8, none⟩ (.slice z.so.A N.so.length z.so.c)).setCell ⟨w.heap.size + 1, 9, none⟩ (.slice z.ar.A N.ar.length z.ar.c)).setCell ⟨w.heap.size + 1, 10, none⟩ (.int .i64 N.ti)) = wz at *
      have r0 := kf.cell 0
      have r1 := kf.cell 1
      have r2 := kf.cell 2
      have r3 := kf.cell 3
      have r4 := kf.cell 4
      have r5 := kf.cell 5
      have r6 := kf.cell 6
      have r7 := kf.cell 7
      have r8 := kf.cell 8
      have r9 := kf.cell 9
      have r10 := kf.cell 10
      simp only [List.getElem?_toArray, List.getElem?_cons_zero, List.getElem?_cons_succ] at r0 r1 r2 r3 r4 r5 r6 r7 r8 r9 r10
      rw [HA.out.1, HA.out.2]
      have hnet : NetOwn wz _ w2.heap.size z N := (O2.out.upto (show w1.heap.size ≤ w2.heap.size by have h3 := SZ.out; have h4 := SZ1.out; have h5 := SZ2.out; omega)).heap (fun k h1 h2 => qz.block k h2 (by have h3 := SZ.out; have h4 := SZ1.out; have h5 := SZ2.out; omega))
      refine bodyPost_ret (v := .tuple #[.agg #[.int .i64 N.W, .int .i64 N.H, .slice z.br.A N.br.length z.br.c, .slice z.ta.A N.ta.length z.ta.c, .slice z.tb.A N.tb.length z.tb.c, .slice z.bu.A N.bu.length z.bu.c, .slice z.ow.A N.ow.length z.ow.c, .slice z.tu.A N.tu.length z.tu.c, .slice z.so.A N.so.length z.so.c, .slice z.ar.A N.ar.length z.ar.c, .int .i64 N.ti], .int .i64 (-1)]) (by simp [results, Try.results10, go_sem, r0, r1, r2, r3, r4, r5, r6, r7, r8, r9, r10]) rfl ⟨z, rfl, (hnet.less (by have h3 := SZ.out; have h4 := SZ1.out; have h5 := SZ2.out; omega)).upto qz.size, (BB.out).trans (qz.below (.inl (by omega)) (by have h3 := SZ.out; have h4 := SZ1.out; have h5 := SZ2.out; omega))⟩
    · have e1 : ¬ (n : Int) > 40 := by omega
      have HA := Lib.hid (show sendAllG N D = (sendsP N D).1 ∧ sentG N D = ((sendsP N D).2 : Int) from ⟨if_pos (by rw [allOk, hok, decide_eq_true (by omega)]; rfl), if_pos (by rw [allOk, hok, decide_eq_true (by omega)]; rfl)⟩)
      have HLD := Lib.hid hlD
      clear hok
      go_wp2_with fail
      go_loopw [7, 23] (fun c i wr => ∃ k : Nat, i = .int .i64 (k : Int) ∧ k ≤ n ∧ c = .int .i64 ((sendsP N (D.take k)).2 : Int) ∧ NetOwn wr w0.heap.size wr.heap.size z (sendsP N (D.take k)).1 ∧ KeptN w0.heap.size w2 wr) (fun _ i _ => n - (intOf i).toNat)
      case atStart => exact ⟨0, rfl, Nat.zero_le _, rfl, O2.out.upto (by have h3 := SZ.out; have h4 := SZ1.out; have h5 := SZ2.out; omega), keptN_gb _ (by have h3 := SZ.out; have h4 := SZ1.out; have h5 := SZ2.out; omega) (gb_refl _ _)⟩
      case round =>
        obtain ⟨k, rfl, hk, rfl, ho, hkk⟩ := hrel
        have HO := Lib.hid ho
        have HK := Lib.hid hkk
        have SR := Lib.hid hkk.s
        have KGR := Lib.hid (hkk.k _ _ _ (by decide) (by decide) KG2.out)
        have BR := Lib.hid (BB.out.trans (hkk.b.mono (by have h3 := SZ.out; have h4 := SZ1.out; have h5 := SZ2.out; omega)))
        have HST := Lib.hid (sendsP_take N D k)
        obtain ⟨R, hR⟩ : ∃ R, (sendsP N (D.take k)).1 = R := ⟨_, rfl⟩
        obtain ⟨t, ht⟩ : ∃ t, (sendsP N (D.take k)).2 = t := ⟨_, rfl⟩
        have HNX := Lib.hid (fun p (hp : D[k]? = some p) => sendsP_next (N := N) hp)
        rw [hR, ht] at HST
        rw [hR] at HO
        rw [hR, ht] at HNX
        rw [ht]
        have HRT := Lib.hid (show (sendsP N (D.take k)).1 = R ∧ (sendsP N (D.take k)).2 = t from ⟨hR, ht⟩)
        have ht9 : t ≤ 1000000000 := by have := HST.out.2.2; omega
        clear ho hkk hR ht
        by_cases hlt : k < n
        · obtain ⟨q, o, p, rfl, _, hx, hpc⟩ := (HRD.out.below BR.out).at k hlt
          obtain ⟨c0, c1, c2, c3, c4⟩ := pkt_five hpc
          have k0 : (0 : Int) ≤ (k : Int) := by omega
          have k1 : (k : Int) < (n : Int) := by omega
          have e2 : IntKind.i64.wrap ((k : Int) + 1) = ((k + 1 : Nat) : Int) := by rw [IntWalk.i64_in _ (by omega)]; omega
          have e3 : IntKind.i64.wrap ((t : Int) + 1) = ((t + 1 : Nat) : Int) := by rw [IntWalk.i64_in _ (by omega)]; omega
          have HX := Lib.hid (HNX.out p hx)
          have GP := Lib.hid (gb_alloc (gb_refl wr none) (.cells #[.int .i64 p.id, .int .i64 p.fr, .int .i64 p.to, .int .i64 p.cl, .int .i64 p.ln] 44))
          have HS := Lib.hid (implSend z R p w1.heap.size w0.heap.size wr.heap.size (wr.alloc (.cells #[.int .i64 p.id, .int .i64 p.fr, .int .i64 p.to, .int .i64 p.cl, .int .i64 p.ln] 44)) (blk_like HST.out.2.1 (KGR.out.grown GP.out (by simp))) (HO.out.gb GP.out) (HST.out.1.trans HOK.out) (by have h1 := GP.out.size; have h2 := SR.out; have h3 := SZ.out; have h4 := SZ1.out; have h5 := SZ2.out; omega) (by have h1 := GP.out.size; omega))
          clear hx hpc
          go_wp2_with fail
          refine HS.out.mono ?_
          rintro e w3 ⟨rfl, o3, hk3⟩
          have O3 := Lib.hid o3
          have HK3 := Lib.hid (HK.out.trans ((keptN_gb _ (by have h2 := SR.out; have h3 := SZ.out; have h4 := SZ1.out; have h5 := SZ2.out; omega) GP.out).trans hk3))
          clear o3 hk3
          obtain ⟨b, hb⟩ : ∃ b, sendOk R p = b := ⟨_, rfl⟩
          rw [hb]
          rw [hb] at HX
          cases b with
          | true =>
            go_wp2_with fail
            go_roundw
            case rel => exact ⟨k + 1, by go_num, by omega, by rw [HX.out]; simp, by rw [HX.out]; exact O3.out, HK3.out⟩
            case measure => simp [intOf]; omega
          | false =>
            go_wp2_with fail
            go_roundw
            case rel => exact ⟨k + 1, by go_num, by omega, by rw [HX.out]; simp, by rw [HX.out]; exact O3.out, HK3.out⟩
            case measure => simp [intOf]; omega
        · obtain rfl : k = n := by omega
          have k1 : ¬ (k : Int) < (k : Int) := by omega
          have KRR := Lib.hid (HK.out.k _ _ _ (by decide) (by decide) KR2.out)
          have LIKE := Lib.hid HST.out.2.1
          have HA2 := Lib.hid (show sendAllG N D = R ∧ sentG N D = (t : Int) by
            have h1 := HA.out
            have h2 : D.take k = D := by rw [← HLD.out, List.take_length]
            have h3 := HRT.out
            rw [h2] at h3
            rw [h3.1, h3.2] at h1
            exact h1)
          have b0 : wr.cell? ⟨w1.heap.size, 0, none⟩ = some (.int .i64 N.W) := KGR.out.cell 0
          have b1 : wr.cell? ⟨w1.heap.size, 1, none⟩ = some (.int .i64 N.H) := KGR.out.cell 1
          have b2 : wr.cell? ⟨w1.heap.size, 2, none⟩ = some (.slice z.br.A N.br.length z.br.c) := KGR.out.cell 2
          have b3 : wr.cell? ⟨w1.heap.size, 3, none⟩ = some (.slice z.ta.A N.ta.length z.ta.c) := KGR.out.cell 3
          have b4 : wr.cell? ⟨w1.heap.size, 4, none⟩ = some (.slice z.tb.A N.tb.length z.tb.c) := KGR.out.cell 4
          have b5 : wr.cell? ⟨w1.heap.size, 5, none⟩ = some (.slice z.bu.A N.bu.length z.bu.c) := KGR.out.cell 5
          have b6 : wr.cell? ⟨w1.heap.size, 6, none⟩ = some (.slice z.ow.A N.ow.length z.ow.c) := KGR.out.cell 6
          have b7 : wr.cell? ⟨w1.heap.size, 7, none⟩ = some (.slice z.tu.A N.tu.length z.tu.c) := KGR.out.cell 7
          have b8 : wr.cell? ⟨w1.heap.size, 8, none⟩ = some (.slice z.so.A N.so.length z.so.c) := KGR.out.cell 8
          have b9 : wr.cell? ⟨w1.heap.size, 9, none⟩ = some (.slice z.ar.A N.ar.length z.ar.c) := KGR.out.cell 9
          have b10 : wr.cell? ⟨w1.heap.size, 10, none⟩ = some (.int .i64 N.ti) := KGR.out.cell 10
          have kr : Blk wr (w.heap.size + 1) 38 #[.int .i64 0, .int .i64 0, .slice none 0 0, .slice none 0 0, .slice none 0 0, .slice none 0 0, .slice none 0 0, .slice none 0 0, .slice none 0 0, .slice none 0 0, .int .i64 0] := KRR.out
          have KR4 := Lib.hid kr
          have y0 : wr.cell? ⟨w.heap.size + 1, 0, none⟩ = some (.int .i64 0) := kr.cell 0
          have x0 := kr.frozen 0
          have y1 : wr.cell? ⟨w.heap.size + 1, 1, none⟩ = some (.int .i64 0) := kr.cell 1
          have x1 := kr.frozen 1
          have y2 : wr.cell? ⟨w.heap.size + 1, 2, none⟩ = some (.slice none 0 0) := kr.cell 2
          have x2 := kr.frozen 2
          have y3 : wr.cell? ⟨w.heap.size + 1, 3, none⟩ = some (.slice none 0 0) := kr.cell 3
          have x3 := kr.frozen 3
          have y4 : wr.cell? ⟨w.heap.size + 1, 4, none⟩ = some (.slice none 0 0) := kr.cell 4
          have x4 := kr.frozen 4
          have y5 : wr.cell? ⟨w.heap.size + 1, 5, none⟩ = some (.slice none 0 0) := kr.cell 5
          have x5 := kr.frozen 5
          have y6 : wr.cell? ⟨w.heap.size + 1, 6, none⟩ = some (.slice none 0 0) := kr.cell 6
          have x6 := kr.frozen 6
          have y7 : wr.cell? ⟨w.heap.size + 1, 7, none⟩ = some (.slice none 0 0) := kr.cell 7
          have x7 := kr.frozen 7
          have y8 : wr.cell? ⟨w.heap.size + 1, 8, none⟩ = some (.slice none 0 0) := kr.cell 8
          have x8 := kr.frozen 8
          have y9 : wr.cell? ⟨w.heap.size + 1, 9, none⟩ = some (.slice none 0 0) := kr.cell 9
          have x9 := kr.frozen 9
          have y10 : wr.cell? ⟨w.heap.size + 1, 10, none⟩ = some (.int .i64 0) := kr.cell 10
          have x10 := kr.frozen 10
          clear kr
          go_wp2_with fail
          have kf : Blk (((((((((((wr.setCell ⟨w.heap.size + 1, 0, none⟩ (.int .i64 N.W)).setCell ⟨w.heap.size + 1, 1, none⟩ (.int .i64 N.H)).setCell ⟨w.heap.size + 1, 2, none⟩ (.slice z.br.A N.br.length z.br.c)).setCell ⟨w.heap.size + 1, 3, none⟩ (.slice z.ta.A N.ta.length z.ta.c)).setCell ⟨w.heap.size + 1, 4, none⟩ (.slice z.tb.A N.tb.length z.tb.c)).setCell ⟨w.heap.size + 1, 5, none⟩ (.slice z.bu.A N.bu.length z.bu.c)).setCell ⟨w.heap.size + 1, 6, none⟩ (.slice z.ow.A N.ow.length z.ow.c)).setCell ⟨w.heap.size + 1, 7, none⟩ (.slice z.tu.A N.tu.length z.tu.c)).setCell ⟨w.heap.size + 1, 8, none⟩ (.slice z.so.A N.so.length z.so.c)).setCell ⟨w.heap.size + 1, 9, none⟩ (.slice z.ar.A N.ar.length z.ar.c)).setCell ⟨w.heap.size + 1, 10, none⟩ (.int .i64 N.ti)) (w.heap.size + 1) 38 #[.int .i64 N.W, .int .i64 N.H, .slice z.br.A N.br.length z.br.c, .slice z.ta.A N.ta.length z.ta.c, .slice z.tb.A N.tb.length z.tb.c, .slice z.bu.A N.bu.length z.bu.c, .slice z.ow.A N.ow.length z.ow.c, .slice z.tu.A N.tu.length z.tu.c, .slice z.so.A N.so.length z.so.c, .slice z.ar.A N.ar.length z.ar.c, .int .i64 N.ti] := by
            have hz := (((((((((((KR4.out.set_ 0 (.int .i64 N.W)).set_ 1 (.int .i64 N.H)).set_ 2 (.slice z.br.A N.br.length z.br.c)).set_ 3 (.slice z.ta.A N.ta.length z.ta.c)).set_ 4 (.slice z.tb.A N.tb.length z.tb.c)).set_ 5 (.slice z.bu.A N.bu.length z.bu.c)).set_ 6 (.slice z.ow.A N.ow.length z.ow.c)).set_ 7 (.slice z.tu.A N.tu.length z.tu.c)).set_ 8 (.slice z.so.A N.so.length z.so.c)).set_ 9 (.slice z.ar.A N.ar.length z.ar.c)).set_ 10 (.int .i64 N.ti))
            simpa using hz
          have qz : Chg (w.heap.size + 1) (w.heap.size + 1 + 1) wr (((((((((((wr.setCell ⟨w.heap.size + 1, 0, none⟩ (.int .i64 N.W)).setCell ⟨w.heap.size + 1, 1, none⟩ (.int .i64 N.H)).setCell ⟨w.heap.size + 1, 2, none⟩ (.slice z.br.A N.br.length z.br.c)).setCell ⟨w.heap.size + 1, 3, none⟩ (.slice z.ta.A N.ta.length z.ta.c)).setCell ⟨w.heap.size + 1, 4, none⟩ (.slice z.tb.A N.tb.length z.tb.c)).setCell ⟨w.heap.size + 1, 5, none⟩ (.slice z.bu.A N.bu.length z.bu.c)).setCell ⟨w.heap.size + 1, 6, none⟩ (.slice z.ow.A N.ow.length z.ow.c)).setCell ⟨w.heap.size + 1, 7, none⟩ (.slice z.tu.A N.tu.length z.tu.c)).setCell ⟨w.heap.size + 1, 8, none⟩ (.slice z.so.A N.so.length z.so.c)).setCell ⟨w.heap.size + 1, 9, none⟩ (.slice z.ar.A N.ar.length z.ar.c)).setCell ⟨w.heap.size + 1, 10, none⟩ (.int .i64 N.ti)) := ((((((((((st_in wr (w.heap.size + 1) 0 (.int .i64 N.W)).sx 1 (.int .i64 N.H)).sx 2 (.slice z.br.A N.br.length z.br.c)).sx 3 (.slice z.ta.A N.ta.length z.ta.c)).sx 4 (.slice z.tb.A N.tb.length z.tb.c)).sx 5 (.slice z.bu.A N.bu.length z.bu.c)).sx 6 (.slice z.ow.A N.ow.length z.ow.c)).sx 7 (.slice z.tu.A N.tu.length z.tu.c)).sx 8 (.slice z.so.A N.so.length z.so.c)).sx 9 (.slice z.ar.A N.ar.length z.ar.c)).sx 10 (.int .i64 N.ti)
          generalize (((((((((((wr.setCell ⟨w.heap.size + 1, 0, none⟩ (.int .i64 N.W)).setCell ⟨w.heap.size + 1, 1, none⟩ (.int .i64 N.H)).setCell ⟨w.heap.size + 1, 2, none⟩ (.slice z.br.A N.br.length z.br.c)).setCell ⟨w.heap.size + 1, 3, none⟩ (.slice z.ta.A N.ta.length z.ta.c)).setCell ⟨w.heap.size + 1, 4, none⟩ (.slice z.tb.A N.tb.length z.tb.c)).setCell ⟨w.heap.size + 1, 5, none⟩ (.slice z.bu.A N.bu.length z.bu.c)).setCell ⟨w.heap.size + 1, 6, none⟩ (.slice z.ow.A N.ow.length z.ow.c)).setCell ⟨w.heap.size + 1, 7, none⟩ (.slice z.tu.A N.tu.length z.tu.c)).setCell ⟨w.heap.size + 1, 8, none⟩ (.slice z.so.A N.so.length z.so.c)).setCell ⟨w.heap.size + 1, 9, none⟩ (.slice z.ar.A N.ar.length z.ar.c)).setCell ⟨w.heap.size + 1, 10, none⟩ (.int .i64 N.ti)) = wz at *
          have r0 := kf.cell 0
          have r1 := kf.cell 1
          have r2 := kf.cell 2
          have r3 := kf.cell 3
          have r4 := kf.cell 4
          have r5 := kf.cell 5
          have r6 := kf.cell 6
          have r7 := kf.cell 7
          have r8 := kf.cell 8
          have r9 := kf.cell 9
          have r10 := kf.cell 10
          simp only [List.getElem?_toArray, List.getElem?_cons_zero, List.getElem?_cons_succ] at r0 r1 r2 r3 r4 r5 r6 r7 r8 r9 r10
          rw [HA2.out.1, HA2.out.2]
          have hnet : NetOwn wz _ wr.heap.size z R := (HO.out).heap (fun k h1 h2 => qz.block k h2 (by have h3 := SZ.out; have h4 := SZ1.out; have h5 := SZ2.out; have h6 := SR.out; omega))
          refine bodyPost_ret (v := .tuple #[.agg #[.int .i64 N.W, .int .i64 N.H, .slice z.br.A N.br.length z.br.c, .slice z.ta.A N.ta.length z.ta.c, .slice z.tb.A N.tb.length z.tb.c, .slice z.bu.A N.bu.length z.bu.c, .slice z.ow.A N.ow.length z.ow.c, .slice z.tu.A N.tu.length z.tu.c, .slice z.so.A N.so.length z.so.c, .slice z.ar.A N.ar.length z.ar.c, .int .i64 N.ti], .int .i64 (t : Int)]) (by simp [results, Try.results10, go_sem, r0, r1, r2, r3, r4, r5, r6, r7, r8, r9, r10]) rfl ⟨z, (by have LK := LIKE.out; simp only [LK.W, LK.H, LK.br, LK.ta, LK.tb, LK.bu, LK.ow, LK.tu, LK.so, LK.ar, LK.ti]), (hnet.less (by have h3 := SZ.out; have h4 := SZ1.out; have h5 := SZ2.out; have h6 := SR.out; omega)).upto qz.size, (BR.out).trans (qz.below (.inl (by omega)) (by have h3 := SZ.out; have h4 := SZ1.out; have h5 := SZ2.out; have h6 := SR.out; omega))⟩
end Go.Proofs.Ytfloekbmgjmhbaa
end

section
namespace Go.Proofs.Ytfloekbmgjmhbaa
open Go.ChangeShapes Go.WideShapes Go.ChangeAt Go.RowKit
set_option linter.unusedVariables false
set_option maxRecDepth 20000

set_option maxHeartbeats 1600000 in
theorem implCopyP (A : Option Addr) (n cap : Nat) (D : List Pkt) (w : World) (h : RecAt 5 pktC w w.heap.size A n D) (hn : n ≤ 1000000000) :
    Calls Try.prog 45 #[.slice A n cap] w (NewPL D w) := by
  obtain ⟨i0, hi, hz0, hz1, hz2⟩ := info_parts info_pkt
  have hsz : (Try.prog.info? 44).map (·.size) = some 5 := by rw [hi]; simp [hz1]
  have hl := h.1
  have HI := Lib.hid h
  have HL := Lib.hid (show (recV pktC D).length = n * 5 by rw [recV_length pktL, hl])
  have HONE := Lib.hid (recV_one pktL D)
  have HLN := Lib.hid hl
  clear h hl
  go_enter Try.func45, Try.ntmps45
  go_wp2_with (first
    | (at_make; refine wpList_make_full _ rfl _ _ 33 rfl w.heap.size 44 i0 (pktX pkt0) 5 Try.underlying33 hi hz0 hz1 .i64 .i64 _ _ n rfl rfl (by omega) (by omega) (by rw [hz2]; omega) (by unfold maxLen; omega) (Nat.le_refl _) ?_; intro w0 hown0 hgrow0; have O0 := Lib.hid hown0; have G0 := Lib.hid hgrow0; clear hown0 hgrow0)
    | (refine wpList_copy_whole rfl (.tmp 7) (.tmp 8) 33 33 rfl 44 Try.underlying33 5 hsz w.heap.size w.heap.size n cap A rfl rfl _ (recV pktC D) O0.out HL.out (fun h0 => by
        obtain ⟨b, off, e, _⟩ := HI.out.2 h0
        subst e
        exact ⟨_, rfl, recAt_news pktL (by decide) (HI.out.none (Nat.le_refl _) G0.out)⟩) HONE.out ?_; intro w2 hown2 hgrow2; have O2 := Lib.hid hown2; have G2 := Lib.hid hgrow2; clear hown2 hgrow2))
  go_ret
  refine ⟨_, rfl, ?_, ?_⟩
  · rw [HLN.out]; exact O2.out
  · exact (gb_below_none G0.out (Nat.le_refl _)).grown G2.out G0.out.size (fun j hj => by cases hj; exact Nat.le_refl _)
set_option maxHeartbeats 1600000 in
theorem implNumberPackets (A : Option Addr) (n cap : Nat) (D : List Pkt) (w : World) (h : RecAt 5 pktC w w.heap.size A n D) (hn : n ≤ 1000000000) :
    Calls Try.prog 15 #[.slice A n cap] w (NewPL (numG D) w) := by
  have hl := h.1
  have HL := Lib.hid hl
  have HCP := Lib.hid (implCopyP A n cap D w h hn)
  clear h
  go_enter Try.func15, Try.ntmps15
  go_wp2_with fail
  refine HCP.out.mono ?_
  rintro e w1 ⟨v, rfl, o1, b1⟩
  rw [HL.out] at o1
  obtain ⟨A1, c1, rfl, ha1⟩ := own_form o1
  have O2 := Lib.hid (show w1.ownsRow w.heap.size 44 5 (.slice A1 n c1) n (recV pktC (numTo D 0)) by rw [numTo_zero]; exact o1)
  have B1 := Lib.hid b1
  clear o1 b1
  go_wp2_with fail
  go_loopw [9] (fun i wr => ∃ k : Nat, i = .int .i64 (k : Int) ∧ k ≤ n ∧ wr.ownsRow w.heap.size 44 5 (.slice A1 n c1) n (recV pktC (numTo D k)) ∧ Below w.heap.size w wr) (fun i _ => n - (intOf i).toNat)
  case atStart => exact ⟨0, rfl, Nat.zero_le _, O2.out, B1.out⟩
  case round =>
    obtain ⟨k, rfl, hk, ho, hb⟩ := hrel
    have HO := Lib.hid ho
    have HB := Lib.hid hb
    by_cases hlt : k < n
    · obtain ⟨g, rfl⟩ := ha1 (by omega)
      have k0 : (0 : Int) ≤ (k : Int) := by omega
      have k1 : (k : Int) < (n : Int) := by omega
      have e1 : IntKind.i64.wrap ((k : Int) + 1) = ((k + 1 : Nat) : Int) := by rw [IntWalk.i64_in _ (by omega)]; omega
      have hkD : k < D.length := by omega
      have hlen : (recV pktC (numTo D k)).length = n * 5 := by rw [recV_length pktL, numTo_length]; omega
      have hc := ho.cellAt (k * 5) (by omega)
      have hx := recV_at pktL (numTo D k) k 0 (atP D k) (.int .i64 (atP D k).id) (numTo_at D hkD) rfl
      rw [Nat.add_zero] at hx
      rw [hx] at hc
      have hf := ho.frozenAt (k * 5)
      obtain ⟨o2, g2⟩ := ho.stored (k * 5) (.int .i64 ((k + 1 : Nat) : Int))
      rw [pktV_id _ _ _ _ (numTo_at D hkD), show (⟨((k + 1 : Nat) : Int), (atP D k).fr, (atP D k).to, (atP D k).cl, (atP D k).ln⟩ : Pkt) = numP (atP D k) k from rfl, numTo_next D k hkD] at o2
      have O2 := Lib.hid o2
      have B2 := Lib.hid (hb.grown g2 hb.size (fun j e => by cases e; exact (ho.lt _ rfl).1))
      clear ho hb hx hlen o2 g2 hkD
      go_wp2_with fail
      go_roundw
      case rel => exact ⟨k + 1, by go_num, by omega, O2.out, B2.out⟩
      case measure => simp [intOf]; omega
    · obtain rfl : k = n := by omega
      clear ho hb
      go_wp2_with fail
      go_ret
      exact ⟨_, rfl, by rw [numG_length, HL.out]; have := HO.out; rw [numG, HL.out]; exact this, HB.out⟩
end Go.Proofs.Ytfloekbmgjmhbaa
end
