/- What is proved here: the model's SendPacket, for all arguments; only new blocks are written; an append of a whole slice of records to a row of the call's own tells where the result lies; nothing of the program; the program's appending of flits to one source of a network that is the call's own, through a pointer; what the program's GridOk, NodeCount and hasNode return, for all arguments; only new blocks are written; what the program's PacketOk and FlitsOf return, for all arguments; only new blocks are written; the program's sending of one packet into a network that is the call's own and valid, through a pointer to it; the built-in copy of a whole slice into a row that was just made, and the program's copies of slices of numbers, of flits and of slices of flits; only new blocks are written; the program's clone of a network: a network of the call's own with the same contents; only new blocks are written; whether the program says that all numbers of a list lie in a range, and what its BufferAt returns, for all arguments; only new blocks are written; when a network is valid, as the program asks it, part by part; nothing of the program; what the program says of the parts of a network: its lists' sizes, its buffers and its sources; only new blocks are written. -/
import Derived.Test.YtfloekbmgjmhbaaMC
import Derived.Laws.CopyOwn
section
namespace Go.Proofs.Ytfloekbmgjmhbaa
open Go.ChangeShapes Go.WideShapes Go.ChangeAt Go.RowKit
set_option linter.unusedVariables false
set_option maxRecDepth 20000

set_option maxHeartbeats 6400000 in
theorem specSendPacket (y : Na) (N : Nt) (p : Pkt) (w : World) (h : NetIn w w.heap.size y N) (hn : NetSm N) :
    Calls Try.prog 17 #[.agg #[.int .i64 N.W, .int .i64 N.H, .slice y.br.A N.br.length y.br.c, .slice y.ta.A N.ta.length y.ta.c, .slice y.tb.A N.tb.length y.tb.c, .slice y.bu.A N.bu.length y.bu.c, .slice y.ow.A N.ow.length y.ow.c, .slice y.tu.A N.tu.length y.tu.c, .slice y.so.A N.so.length y.so.c, .slice y.ar.A N.ar.length y.ar.c, .int .i64 N.ti], .agg #[.int .i64 p.id, .int .i64 p.fr, .int .i64 p.to, .int .i64 p.cl, .int .i64 p.ln]] w (RetNet (sendG N p) (sendOk N p) w) := by
  have HNK := Lib.hid (fun w' (g : w.grownBy w' none) => specNetOk y N w' ((h.none (Nat.le_refl _) g).more g.size) hn)
  have HPK := Lib.hid (fun w' => specPacketOk N.W N.H p w')
  have HCP := Lib.hid (fun w' (g : w.grownBy w' none) => specL15Copy y N w' ((h.none (Nat.le_refl _) g).more g.size) hn)
  have HSD := Lib.hid (fun w' (g : w.grownBy w' none) => specL16Send y N p w' ((h.none (Nat.le_refl _) g).more g.size) hn)
  have HIN := Lib.hid h
  have k0 := ((Blk.new w 38 #[.int .i64 N.W, .int .i64 N.H, .slice y.br.A N.br.length y.br.c, .slice y.ta.A N.ta.length y.ta.c, .slice y.tb.A N.tb.length y.tb.c, .slice y.bu.A N.bu.length y.bu.c, .slice y.ow.A N.ow.length y.ow.c, .slice y.tu.A N.tu.length y.tu.c, .slice y.so.A N.so.length y.so.c, .slice y.ar.A N.ar.length y.ar.c, .int .i64 N.ti]).alloc (.cells #[.int .i64 p.id, .int .i64 p.fr, .int .i64 p.to, .int .i64 p.cl, .int .i64 p.ln] 44)).alloc (.cells #[.int .i64 0, .int .i64 0, .slice none 0 0, .slice none 0 0, .slice none 0 0, .slice none 0 0, .slice none 0 0, .slice none 0 0, .slice none 0 0, .slice none 0 0, .int .i64 0] 38)
  have k1 := (Blk.new (w.alloc (.cells #[.int .i64 N.W, .int .i64 N.H, .slice y.br.A N.br.length y.br.c, .slice y.ta.A N.ta.length y.ta.c, .slice y.tb.A N.tb.length y.tb.c, .slice y.bu.A N.bu.length y.bu.c, .slice y.ow.A N.ow.length y.ow.c, .slice y.tu.A N.tu.length y.tu.c, .slice y.so.A N.so.length y.so.c, .slice y.ar.A N.ar.length y.ar.c, .int .i64 N.ti] 38)) 44 #[.int .i64 p.id, .int .i64 p.fr, .int .i64 p.to, .int .i64 p.cl, .int .i64 p.ln]).alloc (.cells #[.int .i64 0, .int .i64 0, .slice none 0 0, .slice none 0 0, .slice none 0 0, .slice none 0 0, .slice none 0 0, .slice none 0 0, .slice none 0 0, .slice none 0 0, .int .i64 0] 38)
  have k2 := Blk.new ((w.alloc (.cells #[.int .i64 N.W, .int .i64 N.H, .slice y.br.A N.br.length y.br.c, .slice y.ta.A N.ta.length y.ta.c, .slice y.tb.A N.tb.length y.tb.c, .slice y.bu.A N.bu.length y.bu.c, .slice y.ow.A N.ow.length y.ow.c, .slice y.tu.A N.tu.length y.tu.c, .slice y.so.A N.so.length y.so.c, .slice y.ar.A N.ar.length y.ar.c, .int .i64 N.ti] 38)).alloc (.cells #[.int .i64 p.id, .int .i64 p.fr, .int .i64 p.to, .int .i64 p.cl, .int .i64 p.ln] 44)) 38 #[.int .i64 0, .int .i64 0, .slice none 0 0, .slice none 0 0, .slice none 0 0, .slice none 0 0, .slice none 0 0, .slice none 0 0, .slice none 0 0, .slice none 0 0, .int .i64 0]
  have ge := gb_alloc (gb_alloc (gb_alloc (gb_refl w none) (.cells #[.int .i64 N.W, .int .i64 N.H, .slice y.br.A N.br.length y.br.c, .slice y.ta.A N.ta.length y.ta.c, .slice y.tb.A N.tb.length y.tb.c, .slice y.bu.A N.bu.length y.bu.c, .slice y.ow.A N.ow.length y.ow.c, .slice y.tu.A N.tu.length y.tu.c, .slice y.so.A N.so.length y.so.c, .slice y.ar.A N.ar.length y.ar.c, .int .i64 N.ti] 38)) (.cells #[.int .i64 p.id, .int .i64 p.fr, .int .i64 p.to, .int .i64 p.cl, .int .i64 p.ln] 44)) (.cells #[.int .i64 0, .int .i64 0, .slice none 0 0, .slice none 0 0, .slice none 0 0, .slice none 0 0, .slice none 0 0, .slice none 0 0, .slice none 0 0, .slice none 0 0, .int .i64 0] 38)
  have hsz : (((w.alloc (.cells #[.int .i64 N.W, .int .i64 N.H, .slice y.br.A N.br.length y.br.c, .slice y.ta.A N.ta.length y.ta.c, .slice y.tb.A N.tb.length y.tb.c, .slice y.bu.A N.bu.length y.bu.c, .slice y.ow.A N.ow.length y.ow.c, .slice y.tu.A N.tu.length y.tu.c, .slice y.so.A N.so.length y.so.c, .slice y.ar.A N.ar.length y.ar.c, .int .i64 N.ti] 38)).alloc (.cells #[.int .i64 p.id, .int .i64 p.fr, .int .i64 p.to, .int .i64 p.cl, .int .i64 p.ln] 44)).alloc (.cells #[.int .i64 0, .int .i64 0, .slice none 0 0, .slice none 0 0, .slice none 0 0, .slice none 0 0, .slice none 0 0, .slice none 0 0, .slice none 0 0, .slice none 0 0, .int .i64 0] 38)).heap.size = w.heap.size + 3 := by simp only [alloc_size]
  simp only [alloc_size] at k1 k2
  clear h
  go_enter Try.func17, Try.ntmps17
  go_wp2_with fail
  generalize ((w.alloc (.cells #[.int .i64 N.W, .int .i64 N.H, .slice y.br.A N.br.length y.br.c, .slice y.ta.A N.ta.length y.ta.c, .slice y.tb.A N.tb.length y.tb.c, .slice y.bu.A N.bu.length y.bu.c, .slice y.ow.A N.ow.length y.ow.c, .slice y.tu.A N.tu.length y.tu.c, .slice y.so.A N.so.length y.so.c, .slice y.ar.A N.ar.length y.ar.c, .int .i64 N.ti] 38)).alloc (.cells #[.int .i64 p.id, .int .i64 p.fr, .int .i64 p.to, .int .i64 p.cl, .int .i64 p.ln] 44)).alloc (.cells #[.int .i64 0, .int .i64 0, .slice none 0 0, .slice none 0 0, .slice none 0 0, .slice none 0 0, .slice none 0 0, .slice none 0 0, .slice none 0 0, .slice none 0 0, .int .i64 0] 38) = w0 at *
  have K0 : Hid (Blk w0 w.heap.size 38 #[.int .i64 N.W, .int .i64 N.H, .slice y.br.A N.br.length y.br.c, .slice y.ta.A N.ta.length y.ta.c, .slice y.tb.A N.tb.length y.tb.c, .slice y.bu.A N.bu.length y.bu.c, .slice y.ow.A N.ow.length y.ow.c, .slice y.tu.A N.tu.length y.tu.c, .slice y.so.A N.so.length y.so.c, .slice y.ar.A N.ar.length y.ar.c, .int .i64 N.ti]) := Lib.hid k0
  have K1 : Hid (Blk w0 (w.heap.size + 1) 44 #[.int .i64 p.id, .int .i64 p.fr, .int .i64 p.to, .int .i64 p.cl, .int .i64 p.ln]) := Lib.hid k1
  have K2 : Hid (Blk w0 (w.heap.size + 1 + 1) 38 #[.int .i64 0, .int .i64 0, .slice none 0 0, .slice none 0 0, .slice none 0 0, .slice none 0 0, .slice none 0 0, .slice none 0 0, .slice none 0 0, .slice none 0 0, .int .i64 0]) := Lib.hid k2
  have GE := Lib.hid ge
  have SZ := Lib.hid hsz
  have CB := Lib.hid (show ∀ wr, w0.grownBy wr none → wr.cell? ⟨w.heap.size, 0, none⟩ = some (.int .i64 N.W) ∧ wr.cell? ⟨w.heap.size, 1, none⟩ = some (.int .i64 N.H) ∧ wr.cell? ⟨w.heap.size, 2, none⟩ = some (.slice y.br.A N.br.length y.br.c) ∧ wr.cell? ⟨w.heap.size, 3, none⟩ = some (.slice y.ta.A N.ta.length y.ta.c) ∧ wr.cell? ⟨w.heap.size, 4, none⟩ = some (.slice y.tb.A N.tb.length y.tb.c) ∧ wr.cell? ⟨w.heap.size, 5, none⟩ = some (.slice y.bu.A N.bu.length y.bu.c) ∧ wr.cell? ⟨w.heap.size, 6, none⟩ = some (.slice y.ow.A N.ow.length y.ow.c) ∧ wr.cell? ⟨w.heap.size, 7, none⟩ = some (.slice y.tu.A N.tu.length y.tu.c) ∧ wr.cell? ⟨w.heap.size, 8, none⟩ = some (.slice y.so.A N.so.length y.so.c) ∧ wr.cell? ⟨w.heap.size, 9, none⟩ = some (.slice y.ar.A N.ar.length y.ar.c) ∧ wr.cell? ⟨w.heap.size, 10, none⟩ = some (.int .i64 N.ti) ∧ wr.cell? ⟨w.heap.size + 1, 0, none⟩ = some (.int .i64 p.id) ∧ wr.cell? ⟨w.heap.size + 1, 1, none⟩ = some (.int .i64 p.fr) ∧ wr.cell? ⟨w.heap.size + 1, 2, none⟩ = some (.int .i64 p.to) ∧ wr.cell? ⟨w.heap.size + 1, 3, none⟩ = some (.int .i64 p.cl) ∧ wr.cell? ⟨w.heap.size + 1, 4, none⟩ = some (.int .i64 p.ln) from fun wr hg => by
    have ga := K0.out.grown hg (by simp)
    have gb := K1.out.grown hg (by simp)
    exact ⟨ga.cell 0, ga.cell 1, ga.cell 2, ga.cell 3, ga.cell 4, ga.cell 5, ga.cell 6, ga.cell 7, ga.cell 8, ga.cell 9, ga.cell 10, gb.cell 0, gb.cell 1, gb.cell 2, gb.cell 3, gb.cell 4⟩)
  clear k0 k1 k2 ge hsz
  obtain ⟨a0, a1, a2, a3, a4, a5, a6, a7, a8, a9, a10, p0, p1, p2, p3, p4⟩ := CB.out w0 (gb_refl _ _)
  cases hok : netOk N with
  | false =>
    have HNF := Lib.hid (show ∀ w', w.grownBy w' none → Calls Try.prog 50 #[.agg #[.int .i64 N.W, .int .i64 N.H, .slice y.br.A N.br.length y.br.c, .slice y.ta.A N.ta.length y.ta.c, .slice y.tb.A N.tb.length y.tb.c, .slice y.bu.A N.bu.length y.bu.c, .slice y.ow.A N.ow.length y.ow.c, .slice y.tu.A N.tu.length y.tu.c, .slice y.so.A N.so.length y.so.c, .slice y.ar.A N.ar.length y.ar.c, .int .i64 N.ti]] w' (RetB false w') from fun w' g => by have := HNK.out w' g; rwa [hok] at this)
    have HNO := Lib.hid (show sendOk N p = false by rw [sendOk, hok]; rfl)
    refine wp_region_held_drew (S := (fun w' => w'.cell? ⟨w.heap.size, 0, none⟩ = some (.int .i64 N.W) ∧ w'.cell? ⟨w.heap.size, 1, none⟩ = some (.int .i64 N.H) ∧ w'.cell? ⟨w.heap.size, 2, none⟩ = some (.slice y.br.A N.br.length y.br.c) ∧ w'.cell? ⟨w.heap.size, 3, none⟩ = some (.slice y.ta.A N.ta.length y.ta.c) ∧ w'.cell? ⟨w.heap.size, 4, none⟩ = some (.slice y.tb.A N.tb.length y.tb.c) ∧ w'.cell? ⟨w.heap.size, 5, none⟩ = some (.slice y.bu.A N.bu.length y.bu.c) ∧ w'.cell? ⟨w.heap.size, 6, none⟩ = some (.slice y.ow.A N.ow.length y.ow.c) ∧ w'.cell? ⟨w.heap.size, 7, none⟩ = some (.slice y.tu.A N.tu.length y.tu.c) ∧ w'.cell? ⟨w.heap.size, 8, none⟩ = some (.slice y.so.A N.so.length y.so.c) ∧ w'.cell? ⟨w.heap.size, 9, none⟩ = some (.slice y.ar.A N.ar.length y.ar.c) ∧ w'.cell? ⟨w.heap.size, 10, none⟩ = some (.int .i64 N.ti) ∧ w'.cell? ⟨w.heap.size + 1, 0, none⟩ = some (.int .i64 p.id) ∧ w'.cell? ⟨w.heap.size + 1, 1, none⟩ = some (.int .i64 p.fr) ∧ w'.cell? ⟨w.heap.size + 1, 2, none⟩ = some (.int .i64 p.to) ∧ w'.cell? ⟨w.heap.size + 1, 3, none⟩ = some (.int .i64 p.cl) ∧ w'.cell? ⟨w.heap.size + 1, 4, none⟩ = some (.int .i64 p.ln))) (by kernel_rfl) (⟨a0, a1, a2, a3, a4, a5, a6, a7, a8, a9, a10, p0, p1, p2, p3, p4⟩) (fun hHeld => ?_)
    refine wpAnyH_take (i := 0) (v := ?_) rfl (by kernel_rfl) (by kernel_rfl) (by kernel_rfl) (fun _ _ _ h => h) (Or.inl ⟨by rfl, ?_⟩) (by assumption) ?_
    rotate_left
    · intro wq hSw; (try dsimp only at hSw); go_simp; (try with_reducible rfl)
    simp only [List.getElem_toArray, List.getElem_cons_zero, Act.put, List.setIfInBounds_toArray, List.set_cons_zero, List.set_cons_succ]
    refine wpAnyH_ready (rs := [1]) (by kernel_rfl) (by simp) ?_
    refine AllReadyH.cons rfl (fun K hK => ?_) AllReadyH.nil
    go_simp
    refine (HNF.out _ (gb_drew GE.out)).mono ?_; rintro e w1 ⟨rfl, hg1⟩; have G1 := Lib.hid (gb_drF hg1); clear hg1; obtain ⟨d0, d1, d2, d3, d4, d5, d6, d7, d8, d9, d10, d11, d12, d13, d14, d15⟩ := CB.out _ G1.out
    try go_wp2_with fail
    refine hK.out _ _ (⟨d0, d1, d2, d3, d4, d5, d6, d7, d8, d9, d10, d11, d12, d13, d14, d15⟩) (fun hHeld => ?_)
    clear hK K
    try simp only [List.getElem_toArray, List.getElem_cons_succ, List.getElem_cons_zero, Act.put, List.setIfInBounds_toArray, List.set_cons_zero, List.set_cons_succ]
    refine wpAnyH_take (i := 2) (v := ?_) rfl (by kernel_rfl) (by kernel_rfl) (by kernel_rfl) (fun _ _ _ h => h) (Or.inl ⟨by rfl, ?_⟩) (by assumption) ?_
    rotate_left
    · intro wq hSw; (try dsimp only at hSw); go_simp; (try with_reducible rfl)
    simp only [List.getElem_toArray, List.getElem_cons_succ, List.getElem_cons_zero, Act.put, List.setIfInBounds_toArray, List.set_cons_zero, List.set_cons_succ]
    refine wpAnyH_take (i := 3) (v := ?_) rfl (by kernel_rfl) (by kernel_rfl) (by kernel_rfl) (fun _ _ _ h => h) (Or.inl ⟨by rfl, ?_⟩) (by assumption) ?_
    rotate_left
    · intro wq hSw; (try dsimp only at hSw); go_simp; (try with_reducible rfl)
    simp only [List.getElem_toArray, List.getElem_cons_succ, List.getElem_cons_zero, Act.put, List.setIfInBounds_toArray, List.set_cons_zero, List.set_cons_succ]
    refine wpAnyH_take (i := 4) (v := undef) rfl (by kernel_rfl) (by kernel_rfl) (by kernel_rfl) (fun _ _ _ h => h) (Or.inr ⟨by rfl, rfl⟩) (by assumption) ?_
    simp only [List.getElem_toArray, List.getElem_cons_succ, List.getElem_cons_zero, Act.put, List.setIfInBounds_toArray, List.set_cons_zero, List.set_cons_succ]
    refine wpAnyH_take (i := 5) (v := undef) rfl (by kernel_rfl) (by kernel_rfl) (by kernel_rfl) (fun _ _ _ h => h) (Or.inr ⟨by rfl, rfl⟩) (by assumption) ?_
    simp only [List.getElem_toArray, List.getElem_cons_succ, List.getElem_cons_zero, Act.put, List.setIfInBounds_toArray, List.set_cons_zero, List.set_cons_succ]
    refine wpAnyH_take (i := 6) (v := undef) rfl (by kernel_rfl) (by kernel_rfl) (by kernel_rfl) (fun _ _ _ h => h) (Or.inr ⟨by rfl, rfl⟩) (by assumption) ?_
    simp only [List.getElem_toArray, List.getElem_cons_succ, List.getElem_cons_zero, Act.put, List.setIfInBounds_toArray, List.set_cons_zero, List.set_cons_succ]
    refine wpAnyH_take (i := 7) (v := undef) rfl (by kernel_rfl) (by kernel_rfl) (by kernel_rfl) (fun _ _ _ h => h) (Or.inr ⟨by rfl, rfl⟩) (by assumption) ?_
    simp only [List.getElem_toArray, List.getElem_cons_succ, List.getElem_cons_zero, Act.put, List.setIfInBounds_toArray, List.set_cons_zero, List.set_cons_succ]
    refine wpAnyH_take (i := 8) (v := undef) rfl (by kernel_rfl) (by kernel_rfl) (by kernel_rfl) (fun _ _ _ h => h) (Or.inr ⟨by rfl, rfl⟩) (by assumption) ?_
    simp only [List.getElem_toArray, List.getElem_cons_succ, List.getElem_cons_zero, Act.put, List.setIfInBounds_toArray, List.set_cons_zero, List.set_cons_succ]
    refine wpAnyH_take (i := 9) (v := undef) rfl (by kernel_rfl) (by kernel_rfl) (by kernel_rfl) (fun _ _ _ h => h) (Or.inr ⟨by rfl, rfl⟩) (by assumption) ?_
    simp only [List.getElem_toArray, List.getElem_cons_succ, List.getElem_cons_zero, Act.put, List.setIfInBounds_toArray, List.set_cons_zero, List.set_cons_succ]
    refine wpAnyH_take (i := 10) (v := ?_) rfl (by kernel_rfl) (by kernel_rfl) (by kernel_rfl) (fun _ _ _ h => h) (Or.inl ⟨by rfl, ?_⟩) (by assumption) ?_
    rotate_left
    · intro wq hSw; (try dsimp only at hSw); go_simp; (try with_reducible rfl)
    simp only [List.getElem_toArray, List.getElem_cons_succ, List.getElem_cons_zero, Act.put, List.setIfInBounds_toArray, List.set_cons_zero, List.set_cons_succ]
    refine wpAnyH_take (i := 11) (v := ?_) rfl (by kernel_rfl) (by kernel_rfl) (by kernel_rfl) (fun _ _ _ h => h) (Or.inl ⟨by rfl, ?_⟩) (by assumption) ?_
    rotate_left
    · intro wq hSw; (try dsimp only at hSw); go_simp; (try with_reducible rfl)
    simp only [List.getElem_toArray, List.getElem_cons_succ, List.getElem_cons_zero, Act.put, List.setIfInBounds_toArray, List.set_cons_zero, List.set_cons_succ]
    refine wpAnyH_take (i := 12) (v := undef) rfl (by kernel_rfl) (by kernel_rfl) (by kernel_rfl) (fun _ _ _ h => h) (Or.inr ⟨by rfl, rfl⟩) (by assumption) ?_
    simp only [List.getElem_toArray, List.getElem_cons_succ, List.getElem_cons_zero, Act.put, List.setIfInBounds_toArray, List.set_cons_zero, List.set_cons_succ]
    refine wpAnyH_take (i := 13) (v := undef) rfl (by kernel_rfl) (by kernel_rfl) (by kernel_rfl) (fun _ _ _ h => h) (Or.inr ⟨by rfl, rfl⟩) (by assumption) ?_
    simp only [List.getElem_toArray, List.getElem_cons_succ, List.getElem_cons_zero, Act.put, List.setIfInBounds_toArray, List.set_cons_zero, List.set_cons_succ]
    refine wpAnyH_take (i := 14) (v := undef) rfl (by kernel_rfl) (by kernel_rfl) (by kernel_rfl) (fun _ _ _ h => h) (Or.inr ⟨by rfl, rfl⟩) (by assumption) ?_
    simp only [List.getElem_toArray, List.getElem_cons_succ, List.getElem_cons_zero, Act.put, List.setIfInBounds_toArray, List.set_cons_zero, List.set_cons_succ]
    refine wpAnyH_take (i := 15) (v := undef) rfl (by kernel_rfl) (by kernel_rfl) (by kernel_rfl) (fun _ _ _ h => h) (Or.inr ⟨by rfl, rfl⟩) (by assumption) ?_
    simp only [List.getElem_toArray, List.getElem_cons_succ, List.getElem_cons_zero, Act.put, List.setIfInBounds_toArray, List.set_cons_zero, List.set_cons_succ]
    refine wpAnyH_take (i := 16) (v := undef) rfl (by kernel_rfl) (by kernel_rfl) (by kernel_rfl) (fun _ _ _ h => h) (Or.inr ⟨by rfl, rfl⟩) (by assumption) ?_
    simp only [List.getElem_toArray, List.getElem_cons_succ, List.getElem_cons_zero, Act.put, List.setIfInBounds_toArray, List.set_cons_zero, List.set_cons_succ]
    refine wpAnyH_take (i := 17) (v := undef) rfl (by kernel_rfl) (by kernel_rfl) (by kernel_rfl) (fun _ _ _ h => h) (Or.inr ⟨by rfl, rfl⟩) (by assumption) ?_
    simp only [List.getElem_toArray, List.getElem_cons_succ, List.getElem_cons_zero, Act.put, List.setIfInBounds_toArray, List.set_cons_zero, List.set_cons_succ]
    refine wpAnyH_take (i := 18) (v := undef) rfl (by kernel_rfl) (by kernel_rfl) (by kernel_rfl) (fun _ _ _ h => h) (Or.inr ⟨by rfl, rfl⟩) (by assumption) ?_
    simp only [List.getElem_toArray, List.getElem_cons_succ, List.getElem_cons_zero, Act.put, List.setIfInBounds_toArray, List.set_cons_zero, List.set_cons_succ]
    refine wpAnyH_take (i := 19) (v := undef) rfl (by kernel_rfl) (by kernel_rfl) (by kernel_rfl) (fun _ _ _ h => h) (Or.inr ⟨by rfl, rfl⟩) (by assumption) ?_
    simp only [List.getElem_toArray, List.getElem_cons_succ, List.getElem_cons_zero, Act.put, List.setIfInBounds_toArray, List.set_cons_zero, List.set_cons_succ]
    refine wpAnyH_take (i := 20) (v := undef) rfl (by kernel_rfl) (by kernel_rfl) (by kernel_rfl) (fun _ _ _ h => h) (Or.inr ⟨by rfl, rfl⟩) (by assumption) ?_
    simp only [List.getElem_toArray, List.getElem_cons_succ, List.getElem_cons_zero, Act.put, List.setIfInBounds_toArray, List.set_cons_zero, List.set_cons_succ]
    refine wpAnyH_take (i := 21) (v := undef) rfl (by kernel_rfl) (by kernel_rfl) (by kernel_rfl) (fun _ _ _ h => h) (Or.inr ⟨by rfl, rfl⟩) (by assumption) ?_
    simp only [List.getElem_toArray, List.getElem_cons_succ, List.getElem_cons_zero, Act.put, List.setIfInBounds_toArray, List.set_cons_zero, List.set_cons_succ]
    refine wpAnyH_take (i := 22) (v := undef) rfl (by kernel_rfl) (by kernel_rfl) (by kernel_rfl) (fun _ _ _ h => h) (Or.inr ⟨by rfl, rfl⟩) (by assumption) ?_
    simp only [List.getElem_toArray, List.getElem_cons_succ, List.getElem_cons_zero, Act.put, List.setIfInBounds_toArray, List.set_cons_zero, List.set_cons_succ]
    refine wpAnyH_take (i := 23) (v := ?_) rfl (by kernel_rfl) (by kernel_rfl) (by kernel_rfl) (fun _ _ _ h => h) (Or.inl ⟨by rfl, ?_⟩) (by assumption) ?_
    rotate_left
    · intro wq hSw; (try dsimp only at hSw); go_simp; (try with_reducible rfl)
    simp only [List.getElem_toArray, List.getElem_cons_succ, List.getElem_cons_zero, Act.put, List.setIfInBounds_toArray, List.set_cons_zero, List.set_cons_succ]
    refine wpAnyH_done (by kernel_rfl) ?_ _
    go_wp2_with fail
    have GG := Lib.hid (gb_trans GE.out G1.out)
    have GZ := Lib.hid (G1.out.size)
    refine (HCP.out _ GG.out).mono ?_
    rintro e w3 ⟨z, rfl, o3, b3⟩
    have BB := Lib.hid ((gb_below_none GG.out (Nat.le_refl _)).trans (b3.mono GG.out.size))
    have O3 := Lib.hid o3
    have K3 := Lib.hid ((K2.out.grown G1.out (by simp)).below b3 (by have h3 := SZ.out; have h4 := GZ.out; omega))
    have BZ := Lib.hid b3.size
    clear o3 b3
    have kr : Blk w3 (w.heap.size + 1 + 1) 38 #[.int .i64 0, .int .i64 0, .slice none 0 0, .slice none 0 0, .slice none 0 0, .slice none 0 0, .slice none 0 0, .slice none 0 0, .slice none 0 0, .slice none 0 0, .int .i64 0] := K3.out
    have KR4 := Lib.hid kr
    have y0 : w3.cell? ⟨w.heap.size + 1 + 1, 0, none⟩ = some (.int .i64 0) := kr.cell 0
    have x0 := kr.frozen 0
    have y1 : w3.cell? ⟨w.heap.size + 1 + 1, 1, none⟩ = some (.int .i64 0) := kr.cell 1
    have x1 := kr.frozen 1
    have y2 : w3.cell? ⟨w.heap.size + 1 + 1, 2, none⟩ = some (.slice none 0 0) := kr.cell 2
    have x2 := kr.frozen 2
    have y3 : w3.cell? ⟨w.heap.size + 1 + 1, 3, none⟩ = some (.slice none 0 0) := kr.cell 3
    have x3 := kr.frozen 3
    have y4 : w3.cell? ⟨w.heap.size + 1 + 1, 4, none⟩ = some (.slice none 0 0) := kr.cell 4
    have x4 := kr.frozen 4
    have y5 : w3.cell? ⟨w.heap.size + 1 + 1, 5, none⟩ = some (.slice none 0 0) := kr.cell 5
    have x5 := kr.frozen 5
    have y6 : w3.cell? ⟨w.heap.size + 1 + 1, 6, none⟩ = some (.slice none 0 0) := kr.cell 6
    have x6 := kr.frozen 6
    have y7 : w3.cell? ⟨w.heap.size + 1 + 1, 7, none⟩ = some (.slice none 0 0) := kr.cell 7
    have x7 := kr.frozen 7
    have y8 : w3.cell? ⟨w.heap.size + 1 + 1, 8, none⟩ = some (.slice none 0 0) := kr.cell 8
    have x8 := kr.frozen 8
    have y9 : w3.cell? ⟨w.heap.size + 1 + 1, 9, none⟩ = some (.slice none 0 0) := kr.cell 9
    have x9 := kr.frozen 9
    have y10 : w3.cell? ⟨w.heap.size + 1 + 1, 10, none⟩ = some (.int .i64 0) := kr.cell 10
    have x10 := kr.frozen 10
    clear kr
    go_wp2_with fail
    have kf : Blk (((((((((((w3.setCell ⟨w.heap.size + 1 + 1, 0, none⟩ (.int .i64 N.W)).setCell ⟨w.heap.size + 1 + 1, 1, none⟩ (.int .i64 N.H)).setCell ⟨w.heap.size + 1 + 1, 2, none⟩ (.slice z.br.A N.br.length z.br.c)).setCell ⟨w.heap.size + 1 + 1, 3, none⟩ (.slice z.ta.A N.ta.length z.ta.c)).setCell ⟨w.heap.size + 1 + 1, 4, none⟩ (.slice z.tb.A N.tb.length z.tb.c)).setCell ⟨w.heap.size + 1 + 1, 5, none⟩ (.slice z.bu.A N.bu.length z.bu.c)).setCell ⟨w.heap.size + 1 + 1, 6, none⟩ (.slice z.ow.A N.ow.length z.ow.c)).setCell ⟨w.heap.size + 1 + 1, 7, none⟩ (.slice z.tu.A N.tu.length z.tu.c)).setCell ⟨w.heap.size + 1 + 1, 8, none⟩ (.slice z.so.A N.so.length z.so.c)).setCell ⟨w.heap.size + 1 + 1, 9, none⟩ (.slice z.ar.A N.ar.length z.ar.c)).setCell ⟨w.heap.size + 1 + 1, 10, none⟩ (.int .i64 N.ti)) (w.heap.size + 1 + 1) 38 #[.int .i64 N.W, .int .i64 N.H, .slice z.br.A N.br.length z.br.c, .slice z.ta.A N.ta.length z.ta.c, .slice z.tb.A N.tb.length z.tb.c, .slice z.bu.A N.bu.length z.bu.c, .slice z.ow.A N.ow.length z.ow.c, .slice z.tu.A N.tu.length z.tu.c, .slice z.so.A N.so.length z.so.c, .slice z.ar.A N.ar.length z.ar.c, .int .i64 N.ti] := by
      have hz := (((((((((((KR4.out.set_ 0 (.int .i64 N.W)).set_ 1 (.int .i64 N.H)).set_ 2 (.slice z.br.A N.br.length z.br.c)).set_ 3 (.slice z.ta.A N.ta.length z.ta.c)).set_ 4 (.slice z.tb.A N.tb.length z.tb.c)).set_ 5 (.slice z.bu.A N.bu.length z.bu.c)).set_ 6 (.slice z.ow.A N.ow.length z.ow.c)).set_ 7 (.slice z.tu.A N.tu.length z.tu.c)).set_ 8 (.slice z.so.A N.so.length z.so.c)).set_ 9 (.slice z.ar.A N.ar.length z.ar.c)).set_ 10 (.int .i64 N.ti))
      simpa using hz
    have qz : Chg (w.heap.size + 1 + 1) (w.heap.size + 1 + 1 + 1) w3 (((((((((((w3.setCell ⟨w.heap.size + 1 + 1, 0, none⟩ (.int .i64 N.W)).setCell ⟨w.heap.size + 1 + 1, 1, none⟩ (.int .i64 N.H)).setCell ⟨w.heap.size + 1 + 1, 2, none⟩ (.slice z.br.A N.br.length z.br.c)).setCell ⟨w.heap.size + 1 + 1, 3, none⟩ (.slice z.ta.A N.ta.length z.ta.c)).setCell ⟨w.heap.size + 1 + 1, 4, none⟩ (.slice z.tb.A N.tb.length z.tb.c)).setCell ⟨w.heap.size + 1 + 1, 5, none⟩ (.slice z.bu.A N.bu.length z.bu.c)).setCell ⟨w.heap.size + 1 + 1, 6, none⟩ (.slice z.ow.A N.ow.length z.ow.c)).setCell ⟨w.heap.size + 1 + 1, 7, none⟩ (.slice z.tu.A N.tu.length z.tu.c)).setCell ⟨w.heap.size + 1 + 1, 8, none⟩ (.slice z.so.A N.so.length z.so.c)).setCell ⟨w.heap.size + 1 + 1, 9, none⟩ (.slice z.ar.A N.ar.length z.ar.c)).setCell ⟨w.heap.size + 1 + 1, 10, none⟩ (.int .i64 N.ti)) := ((((((((((st_in w3 (w.heap.size + 1 + 1) 0 (.int .i64 N.W)).sx 1 (.int .i64 N.H)).sx 2 (.slice z.br.A N.br.length z.br.c)).sx 3 (.slice z.ta.A N.ta.length z.ta.c)).sx 4 (.slice z.tb.A N.tb.length z.tb.c)).sx 5 (.slice z.bu.A N.bu.length z.bu.c)).sx 6 (.slice z.ow.A N.ow.length z.ow.c)).sx 7 (.slice z.tu.A N.tu.length z.tu.c)).sx 8 (.slice z.so.A N.so.length z.so.c)).sx 9 (.slice z.ar.A N.ar.length z.ar.c)).sx 10 (.int .i64 N.ti)
    generalize (((((((((((w3.setCell ⟨w.heap.size + 1 + 1, 0, none⟩ (.int .i64 N.W)).setCell ⟨w.heap.size + 1 + 1, 1, none⟩ (.int .i64 N.H)).setCell ⟨w.heap.size + 1 + 1, 2, none⟩ (.slice z.br.A N.br.length z.br.c)).setCell ⟨w.heap.size + 1 + 1, 3, none⟩ (.slice z.ta.A N.ta.length z.ta.c)).setCell ⟨w.heap.size + 1 + 1, 4, none⟩ (.slice z.tb.A N.tb.length z.tb.c)).setCell ⟨w.heap.size + 1 + 1, 5, none⟩ (.slice z.bu.A N.bu.length z.bu.c)).setCell ⟨w.heap.size + 1 + 1, 6, none⟩ (.slice z.ow.A N.ow.length z.ow.c)).setCell ⟨w.heap.size + 1 + 1, 7, none⟩ (.slice z.tu.A N.tu.length z.tu.c)).setCell ⟨w.heap.size + 1 + 1, 8, none⟩ (.slice z.so.A N.so.length z.so.c)).setCell ⟨w.heap.size + 1 + 1, 9, none⟩ (.slice z.ar.A N.ar.length z.ar.c)).setCell ⟨w.heap.size + 1 + 1, 10, none⟩ (.int .i64 N.ti)) = wz at *
    have r0 := kf.cell 0
    have r1 := kf.cell 1
    have r2 := kf.cell 2
    have r3 := kf.cell 3
    have r4 := kf.cell 4
    have r5 := kf.cell 5
    have r6 := kf.cell 6
    have r7 := kf.cell 7
    have r8 := kf.cell 8
    have r9 := kf.cell 9
    have r10 := kf.cell 10
    simp only [List.getElem?_toArray, List.getElem?_cons_zero, List.getElem?_cons_succ] at r0 r1 r2 r3 r4 r5 r6 r7 r8 r9 r10
    have GZ2 := GZ.out
    have BZ2 := BZ.out
    rw [HNO.out, sendG_no HNO.out]
    have hnet : NetOwn wz _ w3.heap.size z N := (O3.out).heap (fun k h1 h2 => qz.block k h2 (by have h3 := SZ.out; omega))
    refine bodyPost_ret (v := .tuple #[.agg #[.int .i64 N.W, .int .i64 N.H, .slice z.br.A N.br.length z.br.c, .slice z.ta.A N.ta.length z.ta.c, .slice z.tb.A N.tb.length z.tb.c, .slice z.bu.A N.bu.length z.bu.c, .slice z.ow.A N.ow.length z.ow.c, .slice z.tu.A N.tu.length z.tu.c, .slice z.so.A N.so.length z.so.c, .slice z.ar.A N.ar.length z.ar.c, .int .i64 N.ti], .bool false]) (by simp [results, Try.results17, go_sem, r0, r1, r2, r3, r4, r5, r6, r7, r8, r9, r10]) rfl ⟨z, rfl, (hnet.less (by have h3 := SZ.out; omega)).upto qz.size, (BB.out).trans (qz.below (.inl (by omega)) (by have h3 := SZ.out; omega))⟩
  | true =>
    have HNT := Lib.hid (show ∀ w', w.grownBy w' none → Calls Try.prog 50 #[.agg #[.int .i64 N.W, .int .i64 N.H, .slice y.br.A N.br.length y.br.c, .slice y.ta.A N.ta.length y.ta.c, .slice y.tb.A N.tb.length y.tb.c, .slice y.bu.A N.bu.length y.bu.c, .slice y.ow.A N.ow.length y.ow.c, .slice y.tu.A N.tu.length y.tu.c, .slice y.so.A N.so.length y.so.c, .slice y.ar.A N.ar.length y.ar.c, .int .i64 N.ti]] w' (RetB true w') from fun w' g => by have := HNK.out w' g; rwa [hok] at this)
    have HOK := Lib.hid hok
    cases hpk : pktOk N.W N.H p with
    | false =>
      have HPF := Lib.hid (show ∀ w', Calls Try.prog 51 #[.agg #[.int .i64 N.W, .int .i64 N.H], .agg #[.int .i64 p.id, .int .i64 p.fr, .int .i64 p.to, .int .i64 p.cl, .int .i64 p.ln]] w' (RetB false w') from fun w' => by have := HPK.out w'; rwa [hpk] at this)
      have HNO := Lib.hid (show sendOk N p = false by rw [sendOk, hok, hpk]; rfl)
      refine wp_region_held_drew (S := (fun w' => w'.cell? ⟨w.heap.size, 0, none⟩ = some (.int .i64 N.W) ∧ w'.cell? ⟨w.heap.size, 1, none⟩ = some (.int .i64 N.H) ∧ w'.cell? ⟨w.heap.size, 2, none⟩ = some (.slice y.br.A N.br.length y.br.c) ∧ w'.cell? ⟨w.heap.size, 3, none⟩ = some (.slice y.ta.A N.ta.length y.ta.c) ∧ w'.cell? ⟨w.heap.size, 4, none⟩ = some (.slice y.tb.A N.tb.length y.tb.c) ∧ w'.cell? ⟨w.heap.size, 5, none⟩ = some (.slice y.bu.A N.bu.length y.bu.c) ∧ w'.cell? ⟨w.heap.size, 6, none⟩ = some (.slice y.ow.A N.ow.length y.ow.c) ∧ w'.cell? ⟨w.heap.size, 7, none⟩ = some (.slice y.tu.A N.tu.length y.tu.c) ∧ w'.cell? ⟨w.heap.size, 8, none⟩ = some (.slice y.so.A N.so.length y.so.c) ∧ w'.cell? ⟨w.heap.size, 9, none⟩ = some (.slice y.ar.A N.ar.length y.ar.c) ∧ w'.cell? ⟨w.heap.size, 10, none⟩ = some (.int .i64 N.ti) ∧ w'.cell? ⟨w.heap.size + 1, 0, none⟩ = some (.int .i64 p.id) ∧ w'.cell? ⟨w.heap.size + 1, 1, none⟩ = some (.int .i64 p.fr) ∧ w'.cell? ⟨w.heap.size + 1, 2, none⟩ = some (.int .i64 p.to) ∧ w'.cell? ⟨w.heap.size + 1, 3, none⟩ = some (.int .i64 p.cl) ∧ w'.cell? ⟨w.heap.size + 1, 4, none⟩ = some (.int .i64 p.ln))) (by kernel_rfl) (⟨a0, a1, a2, a3, a4, a5, a6, a7, a8, a9, a10, p0, p1, p2, p3, p4⟩) (fun hHeld => ?_)
      refine wpAnyH_take (i := 0) (v := ?_) rfl (by kernel_rfl) (by kernel_rfl) (by kernel_rfl) (fun _ _ _ h => h) (Or.inl ⟨by rfl, ?_⟩) (by assumption) ?_
      rotate_left
      · intro wq hSw; (try dsimp only at hSw); go_simp; (try with_reducible rfl)
      simp only [List.getElem_toArray, List.getElem_cons_zero, Act.put, List.setIfInBounds_toArray, List.set_cons_zero, List.set_cons_succ]
      refine wpAnyH_ready (rs := [1]) (by kernel_rfl) (by simp) ?_
      refine AllReadyH.cons rfl (fun K hK => ?_) AllReadyH.nil
      go_simp
      refine (HNT.out _ (gb_drew GE.out)).mono ?_; rintro e w1 ⟨rfl, hg1⟩; have G1 := Lib.hid (gb_drF hg1); clear hg1; obtain ⟨d0, d1, d2, d3, d4, d5, d6, d7, d8, d9, d10, d11, d12, d13, d14, d15⟩ := CB.out _ G1.out
      try go_wp2_with fail
      refine hK.out _ _ (⟨d0, d1, d2, d3, d4, d5, d6, d7, d8, d9, d10, d11, d12, d13, d14, d15⟩) (fun hHeld => ?_)
      clear hK K
      try simp only [List.getElem_toArray, List.getElem_cons_succ, List.getElem_cons_zero, Act.put, List.setIfInBounds_toArray, List.set_cons_zero, List.set_cons_succ]
      refine wpAnyH_take (i := 2) (v := ?_) rfl (by kernel_rfl) (by kernel_rfl) (by kernel_rfl) (fun _ _ _ h => h) (Or.inl ⟨by rfl, ?_⟩) (by assumption) ?_
      rotate_left
      · intro wq hSw; (try dsimp only at hSw); go_simp; (try with_reducible rfl)
      simp only [List.getElem_toArray, List.getElem_cons_succ, List.getElem_cons_zero, Act.put, List.setIfInBounds_toArray, List.set_cons_zero, List.set_cons_succ]
      refine wpAnyH_take (i := 3) (v := ?_) rfl (by kernel_rfl) (by kernel_rfl) (by kernel_rfl) (fun _ _ _ h => h) (Or.inl ⟨by rfl, ?_⟩) (by assumption) ?_
      rotate_left
      · intro wq hSw; (try dsimp only at hSw); go_simp; (try with_reducible rfl)
      simp only [List.getElem_toArray, List.getElem_cons_succ, List.getElem_cons_zero, Act.put, List.setIfInBounds_toArray, List.set_cons_zero, List.set_cons_succ]
      refine wpAnyH_take (i := 4) (v := ?_) rfl (by kernel_rfl) (by kernel_rfl) (by kernel_rfl) (fun _ _ _ h => h) (Or.inl ⟨by rfl, ?_⟩) (by assumption) ?_
      rotate_left
      · intro wq hSw; (try dsimp only at hSw); go_simp; (try with_reducible rfl)
      simp only [List.getElem_toArray, List.getElem_cons_succ, List.getElem_cons_zero, Act.put, List.setIfInBounds_toArray, List.set_cons_zero, List.set_cons_succ]
      refine wpAnyH_take (i := 5) (v := ?_) rfl (by kernel_rfl) (by kernel_rfl) (by kernel_rfl) (fun _ _ _ h => h) (Or.inl ⟨by rfl, ?_⟩) (by assumption) ?_
      rotate_left
      · intro wq hSw; (try dsimp only at hSw); go_simp; (try with_reducible rfl)
      simp only [List.getElem_toArray, List.getElem_cons_succ, List.getElem_cons_zero, Act.put, List.setIfInBounds_toArray, List.set_cons_zero, List.set_cons_succ]
      refine wpAnyH_take (i := 6) (v := ?_) rfl (by kernel_rfl) (by kernel_rfl) (by kernel_rfl) (fun _ _ _ h => h) (Or.inl ⟨by rfl, ?_⟩) (by assumption) ?_
      rotate_left
      · intro wq hSw; (try dsimp only at hSw); go_simp; (try with_reducible rfl)
      simp only [List.getElem_toArray, List.getElem_cons_succ, List.getElem_cons_zero, Act.put, List.setIfInBounds_toArray, List.set_cons_zero, List.set_cons_succ]
      refine wpAnyH_take (i := 7) (v := ?_) rfl (by kernel_rfl) (by kernel_rfl) (by kernel_rfl) (fun _ _ _ h => h) (Or.inl ⟨by rfl, ?_⟩) (by assumption) ?_
      rotate_left
      · intro wq hSw; (try dsimp only at hSw); go_simp; (try with_reducible rfl)
      simp only [List.getElem_toArray, List.getElem_cons_succ, List.getElem_cons_zero, Act.put, List.setIfInBounds_toArray, List.set_cons_zero, List.set_cons_succ]
      refine wpAnyH_ready (rs := [8]) (by kernel_rfl) (by simp) ?_
      refine AllReadyH.cons rfl (fun K hK => ?_) AllReadyH.nil
      go_simp
      clear d0 d1 d2 d3 d4 d5 d6 d7 d8 d9 d10 d11 d12 d13 d14 d15; refine (HPF.out _).mono ?_; rintro e w2 ⟨rfl, hg2⟩; have G2 := Lib.hid (gb_trans G1.out hg2); clear hg2; obtain ⟨d0, d1, d2, d3, d4, d5, d6, d7, d8, d9, d10, d11, d12, d13, d14, d15⟩ := CB.out _ G2.out
      try go_wp2_with fail
      refine hK.out _ _ (⟨d0, d1, d2, d3, d4, d5, d6, d7, d8, d9, d10, d11, d12, d13, d14, d15⟩) (fun hHeld => ?_)
      clear hK K
      try simp only [List.getElem_toArray, List.getElem_cons_succ, List.getElem_cons_zero, Act.put, List.setIfInBounds_toArray, List.set_cons_zero, List.set_cons_succ]
      refine wpAnyH_take (i := 9) (v := ?_) rfl (by kernel_rfl) (by kernel_rfl) (by kernel_rfl) (fun _ _ _ h => h) (Or.inl ⟨by rfl, ?_⟩) (by assumption) ?_
      rotate_left
      · intro wq hSw; (try dsimp only at hSw); go_simp; (try with_reducible rfl)
      simp only [List.getElem_toArray, List.getElem_cons_succ, List.getElem_cons_zero, Act.put, List.setIfInBounds_toArray, List.set_cons_zero, List.set_cons_succ]
      refine wpAnyH_take (i := 10) (v := ?_) rfl (by kernel_rfl) (by kernel_rfl) (by kernel_rfl) (fun _ _ _ h => h) (Or.inl ⟨by rfl, ?_⟩) (by assumption) ?_
      rotate_left
      · intro wq hSw; (try dsimp only at hSw); go_simp; (try with_reducible rfl)
      simp only [List.getElem_toArray, List.getElem_cons_succ, List.getElem_cons_zero, Act.put, List.setIfInBounds_toArray, List.set_cons_zero, List.set_cons_succ]
      refine wpAnyH_take (i := 11) (v := ?_) rfl (by kernel_rfl) (by kernel_rfl) (by kernel_rfl) (fun _ _ _ h => h) (Or.inl ⟨by rfl, ?_⟩) (by assumption) ?_
      rotate_left
      · intro wq hSw; (try dsimp only at hSw); go_simp; (try with_reducible rfl)
      simp only [List.getElem_toArray, List.getElem_cons_succ, List.getElem_cons_zero, Act.put, List.setIfInBounds_toArray, List.set_cons_zero, List.set_cons_succ]
      refine wpAnyH_take (i := 12) (v := undef) rfl (by kernel_rfl) (by kernel_rfl) (by kernel_rfl) (fun _ _ _ h => h) (Or.inr ⟨by rfl, rfl⟩) (by assumption) ?_
      simp only [List.getElem_toArray, List.getElem_cons_succ, List.getElem_cons_zero, Act.put, List.setIfInBounds_toArray, List.set_cons_zero, List.set_cons_succ]
      refine wpAnyH_take (i := 13) (v := undef) rfl (by kernel_rfl) (by kernel_rfl) (by kernel_rfl) (fun _ _ _ h => h) (Or.inr ⟨by rfl, rfl⟩) (by assumption) ?_
      simp only [List.getElem_toArray, List.getElem_cons_succ, List.getElem_cons_zero, Act.put, List.setIfInBounds_toArray, List.set_cons_zero, List.set_cons_succ]
      refine wpAnyH_take (i := 14) (v := undef) rfl (by kernel_rfl) (by kernel_rfl) (by kernel_rfl) (fun _ _ _ h => h) (Or.inr ⟨by rfl, rfl⟩) (by assumption) ?_
      simp only [List.getElem_toArray, List.getElem_cons_succ, List.getElem_cons_zero, Act.put, List.setIfInBounds_toArray, List.set_cons_zero, List.set_cons_succ]
      refine wpAnyH_take (i := 15) (v := undef) rfl (by kernel_rfl) (by kernel_rfl) (by kernel_rfl) (fun _ _ _ h => h) (Or.inr ⟨by rfl, rfl⟩) (by assumption) ?_
      simp only [List.getElem_toArray, List.getElem_cons_succ, List.getElem_cons_zero, Act.put, List.setIfInBounds_toArray, List.set_cons_zero, List.set_cons_succ]
      refine wpAnyH_take (i := 16) (v := undef) rfl (by kernel_rfl) (by kernel_rfl) (by kernel_rfl) (fun _ _ _ h => h) (Or.inr ⟨by rfl, rfl⟩) (by assumption) ?_
      simp only [List.getElem_toArray, List.getElem_cons_succ, List.getElem_cons_zero, Act.put, List.setIfInBounds_toArray, List.set_cons_zero, List.set_cons_succ]
      refine wpAnyH_take (i := 17) (v := undef) rfl (by kernel_rfl) (by kernel_rfl) (by kernel_rfl) (fun _ _ _ h => h) (Or.inr ⟨by rfl, rfl⟩) (by assumption) ?_
      simp only [List.getElem_toArray, List.getElem_cons_succ, List.getElem_cons_zero, Act.put, List.setIfInBounds_toArray, List.set_cons_zero, List.set_cons_succ]
      refine wpAnyH_take (i := 18) (v := undef) rfl (by kernel_rfl) (by kernel_rfl) (by kernel_rfl) (fun _ _ _ h => h) (Or.inr ⟨by rfl, rfl⟩) (by assumption) ?_
      simp only [List.getElem_toArray, List.getElem_cons_succ, List.getElem_cons_zero, Act.put, List.setIfInBounds_toArray, List.set_cons_zero, List.set_cons_succ]
      refine wpAnyH_take (i := 19) (v := undef) rfl (by kernel_rfl) (by kernel_rfl) (by kernel_rfl) (fun _ _ _ h => h) (Or.inr ⟨by rfl, rfl⟩) (by assumption) ?_
      simp only [List.getElem_toArray, List.getElem_cons_succ, List.getElem_cons_zero, Act.put, List.setIfInBounds_toArray, List.set_cons_zero, List.set_cons_succ]
      refine wpAnyH_take (i := 20) (v := undef) rfl (by kernel_rfl) (by kernel_rfl) (by kernel_rfl) (fun _ _ _ h => h) (Or.inr ⟨by rfl, rfl⟩) (by assumption) ?_
      simp only [List.getElem_toArray, List.getElem_cons_succ, List.getElem_cons_zero, Act.put, List.setIfInBounds_toArray, List.set_cons_zero, List.set_cons_succ]
      refine wpAnyH_take (i := 21) (v := undef) rfl (by kernel_rfl) (by kernel_rfl) (by kernel_rfl) (fun _ _ _ h => h) (Or.inr ⟨by rfl, rfl⟩) (by assumption) ?_
      simp only [List.getElem_toArray, List.getElem_cons_succ, List.getElem_cons_zero, Act.put, List.setIfInBounds_toArray, List.set_cons_zero, List.set_cons_succ]
      refine wpAnyH_take (i := 22) (v := undef) rfl (by kernel_rfl) (by kernel_rfl) (by kernel_rfl) (fun _ _ _ h => h) (Or.inr ⟨by rfl, rfl⟩) (by assumption) ?_
      simp only [List.getElem_toArray, List.getElem_cons_succ, List.getElem_cons_zero, Act.put, List.setIfInBounds_toArray, List.set_cons_zero, List.set_cons_succ]
      refine wpAnyH_take (i := 23) (v := ?_) rfl (by kernel_rfl) (by kernel_rfl) (by kernel_rfl) (fun _ _ _ h => h) (Or.inl ⟨by rfl, ?_⟩) (by assumption) ?_
      rotate_left
      · intro wq hSw; (try dsimp only at hSw); go_simp; (try with_reducible rfl)
      simp only [List.getElem_toArray, List.getElem_cons_succ, List.getElem_cons_zero, Act.put, List.setIfInBounds_toArray, List.set_cons_zero, List.set_cons_succ]
      refine wpAnyH_done (by kernel_rfl) ?_ _
      go_wp2_with fail
      have GG := Lib.hid (gb_trans GE.out G2.out)
      have GZ := Lib.hid (G2.out.size)
      refine (HCP.out _ GG.out).mono ?_
      rintro e w3 ⟨z, rfl, o3, b3⟩
      have BB := Lib.hid ((gb_below_none GG.out (Nat.le_refl _)).trans (b3.mono GG.out.size))
      have O3 := Lib.hid o3
      have K3 := Lib.hid ((K2.out.grown G2.out (by simp)).below b3 (by have h3 := SZ.out; have h4 := GZ.out; omega))
      have BZ := Lib.hid b3.size
      clear o3 b3
      have kr : Blk w3 (w.heap.size + 1 + 1) 38 #[.int .i64 0, .int .i64 0, .slice none 0 0, .slice none 0 0, .slice none 0 0, .slice none 0 0, .slice none 0 0, .slice none 0 0, .slice none 0 0, .slice none 0 0, .int .i64 0] := K3.out
      have KR4 := Lib.hid kr
      have y0 : w3.cell? ⟨w.heap.size + 1 + 1, 0, none⟩ = some (.int .i64 0) := kr.cell 0
      have x0 := kr.frozen 0
      have y1 : w3.cell? ⟨w.heap.size + 1 + 1, 1, none⟩ = some (.int .i64 0) := kr.cell 1
      have x1 := kr.frozen 1
      have y2 : w3.cell? ⟨w.heap.size + 1 + 1, 2, none⟩ = some (.slice none 0 0) := kr.cell 2
      have x2 := kr.frozen 2
      have y3 : w3.cell? ⟨w.heap.size + 1 + 1, 3, none⟩ = some (.slice none 0 0) := kr.cell 3
      have x3 := kr.frozen 3
      have y4 : w3.cell? ⟨w.heap.size + 1 + 1, 4, none⟩ = some (.slice none 0 0) := kr.cell 4
      have x4 := kr.frozen 4
      have y5 : w3.cell? ⟨w.heap.size + 1 + 1, 5, none⟩ = some (.slice none 0 0) := kr.cell 5
      have x5 := kr.frozen 5
      have y6 : w3.cell? ⟨w.heap.size + 1 + 1, 6, none⟩ = some (.slice none 0 0) := kr.cell 6
      have x6 := kr.frozen 6
      have y7 : w3.cell? ⟨w.heap.size + 1 + 1, 7, none⟩ = some (.slice none 0 0) := kr.cell 7
      have x7 := kr.frozen 7
      have y8 : w3.cell? ⟨w.heap.size + 1 + 1, 8, none⟩ = some (.slice none 0 0) := kr.cell 8
      have x8 := kr.frozen 8
      have y9 : w3.cell? ⟨w.heap.size + 1 + 1, 9, none⟩ = some (.slice none 0 0) := kr.cell 9
      have x9 := kr.frozen 9
      have y10 : w3.cell? ⟨w.heap.size + 1 + 1, 10, none⟩ = some (.int .i64 0) := kr.cell 10
      have x10 := kr.frozen 10
      clear kr
      go_wp2_with fail
      have kf : Blk (((((((((((w3.setCell ⟨w.heap.size + 1 + 1, 0, none⟩ (.int .i64 N.W)).setCell ⟨w.heap.size + 1 + 1, 1, none⟩ (.int .i64 N.H)).setCell ⟨w.heap.size + 1 + 1, 2, none⟩ (.slice z.br.A N.br.length z.br.c)).setCell ⟨w.heap.size + 1 + 1, 3, none⟩ (.slice z.ta.A N.ta.length z.ta.c)).setCell ⟨w.heap.size + 1 + 1, 4, none⟩ (.slice z.tb.A N.tb.length z.tb.c)).setCell ⟨w.heap.size + 1 + 1, 5, none⟩ (.slice z.bu.A N.bu.length z.bu.c)).setCell ⟨w.heap.size + 1 + 1, 6, none⟩ (.slice z.ow.A N.ow.length z.ow.c)).setCell ⟨w.heap.size + 1 + 1, 7, none⟩ (.slice z.tu.A N.tu.length z.tu.c)).setCell ⟨w.heap.size + 1 + 1, 8, none⟩ (.slice z.so.A N.so.length z.so.c)).setCell ⟨w.heap.size + 1 + 1, 9, none⟩ (.slice z.ar.A N.ar.length z.ar.c)).setCell ⟨w.heap.size + 1 + 1, 10, none⟩ (.int .i64 N.ti)) (w.heap.size + 1 + 1) 38 #[.int .i64 N.W, .int .i64 N.H, .slice z.br.A N.br.length z.br.c, .slice z.ta.A N.ta.length z.ta.c, .slice z.tb.A N.tb.length z.tb.c, .slice z.bu.A N.bu.length z.bu.c, .slice z.ow.A N.ow.length z.ow.c, .slice z.tu.A N.tu.length z.tu.c, .slice z.so.A N.so.length z.so.c, .slice z.ar.A N.ar.length z.ar.c, .int .i64 N.ti] := by
        have hz := (((((((((((KR4.out.set_ 0 (.int .i64 N.W)).set_ 1 (.int .i64 N.H)).set_ 2 (.slice z.br.A N.br.length z.br.c)).set_ 3 (.slice z.ta.A N.ta.length z.ta.c)).set_ 4 (.slice z.tb.A N.tb.length z.tb.c)).set_ 5 (.slice z.bu.A N.bu.length z.bu.c)).set_ 6 (.slice z.ow.A N.ow.length z.ow.c)).set_ 7 (.slice z.tu.A N.tu.length z.tu.c)).set_ 8 (.slice z.so.A N.so.length z.so.c)).set_ 9 (.slice z.ar.A N.ar.length z.ar.c)).set_ 10 (.int .i64 N.ti))
        simpa using hz
      have qz : Chg (w.heap.size + 1 + 1) (w.heap.size + 1 + 1 + 1) w3 (((((((((((w3.setCell ⟨w.heap.size + 1 + 1, 0, none⟩ (.int .i64 N.W)).setCell ⟨w.heap.size + 1 + 1, 1, none⟩ (.int .i64 N.H)).setCell ⟨w.heap.size + 1 + 1, 2, none⟩ (.slice z.br.A N.br.length z.br.c)).setCell ⟨w.heap.size + 1 + 1, 3, none⟩ (.slice z.ta.A N.ta.length z.ta.c)).setCell ⟨w.heap.size + 1 + 1, 4, none⟩ (.slice z.tb.A N.tb.length z.tb.c)).setCell ⟨w.heap.size + 1 + 1, 5, none⟩ (.slice z.bu.A N.bu.length z.bu.c)).setCell ⟨w.heap.size + 1 + 1, 6, none⟩ (.slice z.ow.A N.ow.length z.ow.c)).setCell ⟨w.heap.size + 1 + 1, 7, none⟩ (.slice z.tu.A N.tu.length z.tu.c)).setCell ⟨w.heap.size + 1 + 1, 8, none⟩ (.slice z.so.A N.so.length z.so.c)).setCell ⟨w.heap.size + 1 + 1, 9, none⟩ (.slice z.ar.A N.ar.length z.ar.c)).setCell ⟨w.heap.size + 1 + 1, 10, none⟩ (.int .i64 N.ti)) := ((((((((((st_in w3 (w.heap.size + 1 + 1) 0 (.int .i64 N.W)).sx 1 (.int .i64 N.H)).sx 2 (.slice z.br.A N.br.length z.br.c)).sx 3 (.slice z.ta.A N.ta.length z.ta.c)).sx 4 (.slice z.tb.A N.tb.length z.tb.c)).sx 5 (.slice z.bu.A N.bu.length z.bu.c)).sx 6 (.slice z.ow.A N.ow.length z.ow.c)).sx 7 (.slice z.tu.A N.tu.length z.tu.c)).sx 8 (.slice z.so.A N.so.length z.so.c)).sx 9 (.slice z.ar.A N.ar.length z.ar.c)).sx 10 (.int .i64 N.ti)
      generalize (((((((((((w3.setCell ⟨w.heap.size + 1 + 1, 0, none⟩ (.int .i64 N.W)).setCell ⟨w.heap.size + 1 + 1, 1, none⟩ (.int .i64 N.H)).setCell ⟨w.heap.size + 1 + 1, 2, none⟩ (.slice z.br.A N.br.length z.br.c)).setCell ⟨w.heap.size + 1 + 1, 3, none⟩ (.slice z.ta.A N.ta.length z.ta.c)).setCell ⟨w.heap.size + 1 + 1, 4, none⟩ (.slice z.tb.A N.tb.length z.tb.c)).setCell ⟨w.heap.size + 1 + 1, 5, none⟩ (.slice z.bu.A N.bu.length z.bu.c)).setCell ⟨w.heap.size + 1 + 1, 6, none⟩ (.slice z.ow.A N.ow.length z.ow.c)).setCell ⟨w.heap.size + 1 + 1, 7, none⟩ (.slice z.tu.A N.tu.length z.tu.c)).setCell ⟨w.heap.size + 1 + 1, 8, none⟩ (.slice z.so.A N.so.length z.so.c)).setCell ⟨w.heap.size + 1 + 1, 9, none⟩ (.slice z.ar.A N.ar.length z.ar.c)).setCell ⟨w.heap.size + 1 + 1, 10, none⟩ (.int .i64 N.ti)) = wz at *
      have r0 := kf.cell 0
      have r1 := kf.cell 1
      have r2 := kf.cell 2
      have r3 := kf.cell 3
      have r4 := kf.cell 4
      have r5 := kf.cell 5
      have r6 := kf.cell 6
      have r7 := kf.cell 7
      have r8 := kf.cell 8
      have r9 := kf.cell 9
      have r10 := kf.cell 10
      simp only [List.getElem?_toArray, List.getElem?_cons_zero, List.getElem?_cons_succ] at r0 r1 r2 r3 r4 r5 r6 r7 r8 r9 r10
      have GZ2 := GZ.out
      have BZ2 := BZ.out
      rw [HNO.out, sendG_no HNO.out]
      have hnet : NetOwn wz _ w3.heap.size z N := (O3.out).heap (fun k h1 h2 => qz.block k h2 (by have h3 := SZ.out; omega))
      refine bodyPost_ret (v := .tuple #[.agg #[.int .i64 N.W, .int .i64 N.H, .slice z.br.A N.br.length z.br.c, .slice z.ta.A N.ta.length z.ta.c, .slice z.tb.A N.tb.length z.tb.c, .slice z.bu.A N.bu.length z.bu.c, .slice z.ow.A N.ow.length z.ow.c, .slice z.tu.A N.tu.length z.tu.c, .slice z.so.A N.so.length z.so.c, .slice z.ar.A N.ar.length z.ar.c, .int .i64 N.ti], .bool false]) (by simp [results, Try.results17, go_sem, r0, r1, r2, r3, r4, r5, r6, r7, r8, r9, r10]) rfl ⟨z, rfl, (hnet.less (by have h3 := SZ.out; omega)).upto qz.size, (BB.out).trans (qz.below (.inl (by omega)) (by have h3 := SZ.out; omega))⟩
    | true =>
      have HPT := Lib.hid (show ∀ w', Calls Try.prog 51 #[.agg #[.int .i64 N.W, .int .i64 N.H], .agg #[.int .i64 p.id, .int .i64 p.fr, .int .i64 p.to, .int .i64 p.cl, .int .i64 p.ln]] w' (RetB true w') from fun w' => by have := HPK.out w'; rwa [hpk] at this)
      obtain ⟨hf0, hfl, hsrc⟩ := src_there hok hpk
      obtain ⟨f, hf⟩ : ∃ f : Nat, p.fr = (f : Int) := ⟨p.fr.toNat, by omega⟩
      have hft : p.fr.toNat = f := by omega
      rw [hft] at hfl hsrc
      have hX := Lib.hid (show sendOk N p = decide (((srcN N p).length : Int) + p.ln ≤ 60) by rw [sendOk, hok, hpk]; rfl)
      have hln := (pktOk_iff.1 hpk).2.2.2.2.2
      have hso := netOk_so hok hsrc
      obtain ⟨m, hm⟩ : ∃ m, (srcN N p).length = m := ⟨_, rfl⟩
      have HM := Lib.hid hm
      rw [hm] at hso
      obtain ⟨sb, so, D', A', c', hA', hsb, hD', hcell, hcc, _⟩ := HIN.out.so.at f hfl
      obtain rfl : srcN N p = D' := by rw [hsrc] at hD'; exact Option.some.inj hD'
      rw [hm] at hcell
      have HFF := Lib.hid hf
      have HLN := Lib.hid hln
      have f0 : (0 : Int) ≤ (f : Int) := by omega
      have f1 : (f : Int) < (N.so.length : Int) := by omega
      have hcl : ∀ wr, w0.grownBy wr none → wr.cell? ⟨sb, so + f, none⟩ = some (.slice A' m c') := fun wr hg => by
        have h1 : wr.cell? ⟨sb, so + f, none⟩ = w.cell? ⟨sb, so + f, none⟩ := World.cell?_of_block ((gb_trans GE.out hg).block sb hsb (by simp))
        rw [h1]; exact hcell
      have HCL := Lib.hid hcl
      have hc0 := hcl w0 (gb_refl _ _)
      have HNT2 := Lib.hid (show ∀ w', w.grownBy w' none → Calls Try.prog 50 #[.agg #[.int .i64 N.W, .int .i64 N.H, .slice y.br.A N.br.length y.br.c, .slice y.ta.A N.ta.length y.ta.c, .slice y.tb.A N.tb.length y.tb.c, .slice y.bu.A N.bu.length y.bu.c, .slice y.ow.A N.ow.length y.ow.c, .slice y.tu.A N.tu.length y.tu.c, .slice (some ⟨sb, so, none⟩) N.so.length y.so.c, .slice y.ar.A N.ar.length y.ar.c, .int .i64 N.ti]] w' (RetB true w') from fun w' g => by have := HNT.out w' g; rwa [hA'] at this)
      have HCP2 := Lib.hid (show ∀ w', w.grownBy w' none → Calls Try.prog 52 #[.agg #[.int .i64 N.W, .int .i64 N.H, .slice y.br.A N.br.length y.br.c, .slice y.ta.A N.ta.length y.ta.c, .slice y.tb.A N.tb.length y.tb.c, .slice y.bu.A N.bu.length y.bu.c, .slice y.ow.A N.ow.length y.ow.c, .slice y.tu.A N.tu.length y.tu.c, .slice (some ⟨sb, so, none⟩) N.so.length y.so.c, .slice y.ar.A N.ar.length y.ar.c, .int .i64 N.ti]] w' (NewNet N w') from fun w' g => by have := HCP.out w' g; rwa [hA'] at this)
      have HSD2 := Lib.hid (show ∀ w', w.grownBy w' none → Calls Try.prog 53 #[.agg #[.int .i64 N.W, .int .i64 N.H, .slice y.br.A N.br.length y.br.c, .slice y.ta.A N.ta.length y.ta.c, .slice y.tb.A N.tb.length y.tb.c, .slice y.bu.A N.bu.length y.bu.c, .slice y.ow.A N.ow.length y.ow.c, .slice y.tu.A N.tu.length y.tu.c, .slice (some ⟨sb, so, none⟩) N.so.length y.so.c, .slice y.ar.A N.ar.length y.ar.c, .int .i64 N.ti], .agg #[.int .i64 p.id, .int .i64 (f : Int), .int .i64 p.to, .int .i64 p.cl, .int .i64 p.ln]] w' (NewNet (sendTo N p) w') from fun w' g => by have := HSD.out w' g hok hpk (by omega); rwa [hA', hf] at this)
      have HPT2 := Lib.hid (show ∀ w', Calls Try.prog 51 #[.agg #[.int .i64 N.W, .int .i64 N.H], .agg #[.int .i64 p.id, .int .i64 (f : Int), .int .i64 p.to, .int .i64 p.cl, .int .i64 p.ln]] w' (RetB true w') from fun w' => by have := HPT.out w'; rwa [hf] at this)
      have CB2 := Lib.hid (show ∀ wr, w0.grownBy wr none → wr.cell? ⟨w.heap.size, 0, none⟩ = some (.int .i64 N.W) ∧ wr.cell? ⟨w.heap.size, 1, none⟩ = some (.int .i64 N.H) ∧ wr.cell? ⟨w.heap.size, 2, none⟩ = some (.slice y.br.A N.br.length y.br.c) ∧ wr.cell? ⟨w.heap.size, 3, none⟩ = some (.slice y.ta.A N.ta.length y.ta.c) ∧ wr.cell? ⟨w.heap.size, 4, none⟩ = some (.slice y.tb.A N.tb.length y.tb.c) ∧ wr.cell? ⟨w.heap.size, 5, none⟩ = some (.slice y.bu.A N.bu.length y.bu.c) ∧ wr.cell? ⟨w.heap.size, 6, none⟩ = some (.slice y.ow.A N.ow.length y.ow.c) ∧ wr.cell? ⟨w.heap.size, 7, none⟩ = some (.slice y.tu.A N.tu.length y.tu.c) ∧ wr.cell? ⟨w.heap.size, 8, none⟩ = some (.slice (some ⟨sb, so, none⟩) N.so.length y.so.c) ∧ wr.cell? ⟨w.heap.size, 9, none⟩ = some (.slice y.ar.A N.ar.length y.ar.c) ∧ wr.cell? ⟨w.heap.size, 10, none⟩ = some (.int .i64 N.ti) ∧ wr.cell? ⟨w.heap.size + 1, 0, none⟩ = some (.int .i64 p.id) ∧ wr.cell? ⟨w.heap.size + 1, 1, none⟩ = some (.int .i64 (f : Int)) ∧ wr.cell? ⟨w.heap.size + 1, 2, none⟩ = some (.int .i64 p.to) ∧ wr.cell? ⟨w.heap.size + 1, 3, none⟩ = some (.int .i64 p.cl) ∧ wr.cell? ⟨w.heap.size + 1, 4, none⟩ = some (.int .i64 p.ln) from fun wr hg => by
        have := CB.out wr hg
        rw [hA', hf] at this
        exact this)
      clear a0 a1 a2 a3 a4 a5 a6 a7 a8 a9 a10 p0 p1 p2 p3 p4
      obtain ⟨a0, a1, a2, a3, a4, a5, a6, a7, a8, a9, a10, p0, p1, p2, p3, p4⟩ := CB2.out w0 (gb_refl _ _)
      have hwp : IntKind.i64.wrap ((m : Int) + p.ln) = (m : Int) + p.ln := IntWalk.i64_in _ (by omega)
      clear hok hpk hf0 hfl hsrc hf hft hln hso hA' hsb hD' hcell hcc hm hcl
      by_cases hgt : (m : Int) + p.ln > 60
      · have HNO := Lib.hid (show sendOk N p = false by rw [hX.out]; exact decide_eq_false (by rw [HM.out]; omega))
        refine wp_region_held_drew (S := (fun w' => w'.cell? ⟨w.heap.size, 0, none⟩ = some (.int .i64 N.W) ∧ w'.cell? ⟨w.heap.size, 1, none⟩ = some (.int .i64 N.H) ∧ w'.cell? ⟨w.heap.size, 2, none⟩ = some (.slice y.br.A N.br.length y.br.c) ∧ w'.cell? ⟨w.heap.size, 3, none⟩ = some (.slice y.ta.A N.ta.length y.ta.c) ∧ w'.cell? ⟨w.heap.size, 4, none⟩ = some (.slice y.tb.A N.tb.length y.tb.c) ∧ w'.cell? ⟨w.heap.size, 5, none⟩ = some (.slice y.bu.A N.bu.length y.bu.c) ∧ w'.cell? ⟨w.heap.size, 6, none⟩ = some (.slice y.ow.A N.ow.length y.ow.c) ∧ w'.cell? ⟨w.heap.size, 7, none⟩ = some (.slice y.tu.A N.tu.length y.tu.c) ∧ w'.cell? ⟨w.heap.size, 8, none⟩ = some (.slice (some ⟨sb, so, none⟩) N.so.length y.so.c) ∧ w'.cell? ⟨w.heap.size, 9, none⟩ = some (.slice y.ar.A N.ar.length y.ar.c) ∧ w'.cell? ⟨w.heap.size, 10, none⟩ = some (.int .i64 N.ti) ∧ w'.cell? ⟨w.heap.size + 1, 0, none⟩ = some (.int .i64 p.id) ∧ w'.cell? ⟨w.heap.size + 1, 1, none⟩ = some (.int .i64 (f : Int)) ∧ w'.cell? ⟨w.heap.size + 1, 2, none⟩ = some (.int .i64 p.to) ∧ w'.cell? ⟨w.heap.size + 1, 3, none⟩ = some (.int .i64 p.cl) ∧ w'.cell? ⟨w.heap.size + 1, 4, none⟩ = some (.int .i64 p.ln) ∧ w'.cell? ⟨sb, so + f, none⟩ = some (.slice A' m c'))) (by kernel_rfl) (⟨a0, a1, a2, a3, a4, a5, a6, a7, a8, a9, a10, p0, p1, p2, p3, p4, hc0⟩) (fun hHeld => ?_)
        refine wpAnyH_take (i := 0) (v := ?_) rfl (by kernel_rfl) (by kernel_rfl) (by kernel_rfl) (fun _ _ _ h => h) (Or.inl ⟨by rfl, ?_⟩) (by assumption) ?_
        rotate_left
        · intro wq hSw; (try dsimp only at hSw); go_simp; (try with_reducible rfl)
        simp only [List.getElem_toArray, List.getElem_cons_zero, Act.put, List.setIfInBounds_toArray, List.set_cons_zero, List.set_cons_succ]
        refine wpAnyH_ready (rs := [1]) (by kernel_rfl) (by simp) ?_
        refine AllReadyH.cons rfl (fun K hK => ?_) AllReadyH.nil
        go_simp
        refine (HNT2.out _ (gb_drew GE.out)).mono ?_; rintro e w1 ⟨rfl, hg1⟩; have G1 := Lib.hid (gb_drF hg1); clear hg1; obtain ⟨d0, d1, d2, d3, d4, d5, d6, d7, d8, d9, d10, d11, d12, d13, d14, d15⟩ := CB2.out _ G1.out; have dh := HCL.out _ G1.out
        try go_wp2_with fail
        refine hK.out _ _ (⟨d0, d1, d2, d3, d4, d5, d6, d7, d8, d9, d10, d11, d12, d13, d14, d15, dh⟩) (fun hHeld => ?_)
        clear hK K
        try simp only [List.getElem_toArray, List.getElem_cons_succ, List.getElem_cons_zero, Act.put, List.setIfInBounds_toArray, List.set_cons_zero, List.set_cons_succ]
        refine wpAnyH_take (i := 2) (v := ?_) rfl (by kernel_rfl) (by kernel_rfl) (by kernel_rfl) (fun _ _ _ h => h) (Or.inl ⟨by rfl, ?_⟩) (by assumption) ?_
        rotate_left
        · intro wq hSw; (try dsimp only at hSw); go_simp; (try with_reducible rfl)
        simp only [List.getElem_toArray, List.getElem_cons_succ, List.getElem_cons_zero, Act.put, List.setIfInBounds_toArray, List.set_cons_zero, List.set_cons_succ]
        refine wpAnyH_take (i := 3) (v := ?_) rfl (by kernel_rfl) (by kernel_rfl) (by kernel_rfl) (fun _ _ _ h => h) (Or.inl ⟨by rfl, ?_⟩) (by assumption) ?_
        rotate_left
        · intro wq hSw; (try dsimp only at hSw); go_simp; (try with_reducible rfl)
        simp only [List.getElem_toArray, List.getElem_cons_succ, List.getElem_cons_zero, Act.put, List.setIfInBounds_toArray, List.set_cons_zero, List.set_cons_succ]
        refine wpAnyH_take (i := 4) (v := ?_) rfl (by kernel_rfl) (by kernel_rfl) (by kernel_rfl) (fun _ _ _ h => h) (Or.inl ⟨by rfl, ?_⟩) (by assumption) ?_
        rotate_left
        · intro wq hSw; (try dsimp only at hSw); go_simp; (try with_reducible rfl)
        simp only [List.getElem_toArray, List.getElem_cons_succ, List.getElem_cons_zero, Act.put, List.setIfInBounds_toArray, List.set_cons_zero, List.set_cons_succ]
        refine wpAnyH_take (i := 5) (v := ?_) rfl (by kernel_rfl) (by kernel_rfl) (by kernel_rfl) (fun _ _ _ h => h) (Or.inl ⟨by rfl, ?_⟩) (by assumption) ?_
        rotate_left
        · intro wq hSw; (try dsimp only at hSw); go_simp; (try with_reducible rfl)
        simp only [List.getElem_toArray, List.getElem_cons_succ, List.getElem_cons_zero, Act.put, List.setIfInBounds_toArray, List.set_cons_zero, List.set_cons_succ]
        refine wpAnyH_take (i := 6) (v := ?_) rfl (by kernel_rfl) (by kernel_rfl) (by kernel_rfl) (fun _ _ _ h => h) (Or.inl ⟨by rfl, ?_⟩) (by assumption) ?_
        rotate_left
        · intro wq hSw; (try dsimp only at hSw); go_simp; (try with_reducible rfl)
        simp only [List.getElem_toArray, List.getElem_cons_succ, List.getElem_cons_zero, Act.put, List.setIfInBounds_toArray, List.set_cons_zero, List.set_cons_succ]
        refine wpAnyH_take (i := 7) (v := ?_) rfl (by kernel_rfl) (by kernel_rfl) (by kernel_rfl) (fun _ _ _ h => h) (Or.inl ⟨by rfl, ?_⟩) (by assumption) ?_
        rotate_left
        · intro wq hSw; (try dsimp only at hSw); go_simp; (try with_reducible rfl)
        simp only [List.getElem_toArray, List.getElem_cons_succ, List.getElem_cons_zero, Act.put, List.setIfInBounds_toArray, List.set_cons_zero, List.set_cons_succ]
        refine wpAnyH_ready (rs := [8]) (by kernel_rfl) (by simp) ?_
        refine AllReadyH.cons rfl (fun K hK => ?_) AllReadyH.nil
        go_simp
        clear dh; clear d0 d1 d2 d3 d4 d5 d6 d7 d8 d9 d10 d11 d12 d13 d14 d15; refine (HPT2.out _).mono ?_; rintro e w2 ⟨rfl, hg2⟩; have G2 := Lib.hid (gb_trans G1.out hg2); clear hg2; obtain ⟨d0, d1, d2, d3, d4, d5, d6, d7, d8, d9, d10, d11, d12, d13, d14, d15⟩ := CB2.out _ G2.out; have dh := HCL.out _ G2.out
        try go_wp2_with fail
        refine hK.out _ _ (⟨d0, d1, d2, d3, d4, d5, d6, d7, d8, d9, d10, d11, d12, d13, d14, d15, dh⟩) (fun hHeld => ?_)
        clear hK K
        try simp only [List.getElem_toArray, List.getElem_cons_succ, List.getElem_cons_zero, Act.put, List.setIfInBounds_toArray, List.set_cons_zero, List.set_cons_succ]
        refine wpAnyH_take (i := 9) (v := ?_) rfl (by kernel_rfl) (by kernel_rfl) (by kernel_rfl) (fun _ _ _ h => h) (Or.inl ⟨by rfl, ?_⟩) (by assumption) ?_
        rotate_left
        · intro wq hSw; (try dsimp only at hSw); go_simp; (try with_reducible rfl)
        simp only [List.getElem_toArray, List.getElem_cons_succ, List.getElem_cons_zero, Act.put, List.setIfInBounds_toArray, List.set_cons_zero, List.set_cons_succ]
        refine wpAnyH_take (i := 10) (v := ?_) rfl (by kernel_rfl) (by kernel_rfl) (by kernel_rfl) (fun _ _ _ h => h) (Or.inl ⟨by rfl, ?_⟩) (by assumption) ?_
        rotate_left
        · intro wq hSw; (try dsimp only at hSw); go_simp; (try with_reducible rfl)
        simp only [List.getElem_toArray, List.getElem_cons_succ, List.getElem_cons_zero, Act.put, List.setIfInBounds_toArray, List.set_cons_zero, List.set_cons_succ]
        refine wpAnyH_take (i := 11) (v := ?_) rfl (by kernel_rfl) (by kernel_rfl) (by kernel_rfl) (fun _ _ _ h => h) (Or.inl ⟨by rfl, ?_⟩) (by assumption) ?_
        rotate_left
        · intro wq hSw; (try dsimp only at hSw); go_simp; (try with_reducible rfl)
        simp only [List.getElem_toArray, List.getElem_cons_succ, List.getElem_cons_zero, Act.put, List.setIfInBounds_toArray, List.set_cons_zero, List.set_cons_succ]
        refine wpAnyH_take (i := 12) (v := ?_) rfl (by kernel_rfl) (by kernel_rfl) (by kernel_rfl) (fun _ _ _ h => h) (Or.inl ⟨by rfl, ?_⟩) (by assumption) ?_
        rotate_left
        · intro wq hSw; (try dsimp only at hSw); go_simp; (try with_reducible rfl)
        simp only [List.getElem_toArray, List.getElem_cons_succ, List.getElem_cons_zero, Act.put, List.setIfInBounds_toArray, List.set_cons_zero, List.set_cons_succ]
        refine wpAnyH_take (i := 13) (v := ?_) rfl (by kernel_rfl) (by kernel_rfl) (by kernel_rfl) (fun _ _ _ h => h) (Or.inl ⟨by rfl, ?_⟩) (by assumption) ?_
        rotate_left
        · intro wq hSw; (try dsimp only at hSw); go_simp; (try with_reducible rfl)
        simp only [List.getElem_toArray, List.getElem_cons_succ, List.getElem_cons_zero, Act.put, List.setIfInBounds_toArray, List.set_cons_zero, List.set_cons_succ]
        refine wpAnyH_take (i := 14) (v := ?_) rfl (by kernel_rfl) (by kernel_rfl) (by kernel_rfl) (fun _ _ _ h => h) (Or.inl ⟨by rfl, ?_⟩) (by assumption) ?_
        rotate_left
        · intro wq hSw; (try dsimp only at hSw); go_simp; (try with_reducible rfl)
        simp only [List.getElem_toArray, List.getElem_cons_succ, List.getElem_cons_zero, Act.put, List.setIfInBounds_toArray, List.set_cons_zero, List.set_cons_succ]
        refine wpAnyH_take (i := 15) (v := ?_) rfl (by kernel_rfl) (by kernel_rfl) (by kernel_rfl) (fun _ _ _ h => h) (Or.inl ⟨by rfl, ?_⟩) (by assumption) ?_
        rotate_left
        · intro wq hSw; (try dsimp only at hSw); go_simp; (try with_reducible rfl)
        simp only [List.getElem_toArray, List.getElem_cons_succ, List.getElem_cons_zero, Act.put, List.setIfInBounds_toArray, List.set_cons_zero, List.set_cons_succ]
        refine wpAnyH_take (i := 16) (v := ?_) rfl (by kernel_rfl) (by kernel_rfl) (by kernel_rfl) (fun _ _ _ h => h) (Or.inl ⟨by rfl, ?_⟩) (by assumption) ?_
        rotate_left
        · intro wq hSw; (try dsimp only at hSw); go_simp; (try with_reducible rfl)
        simp only [List.getElem_toArray, List.getElem_cons_succ, List.getElem_cons_zero, Act.put, List.setIfInBounds_toArray, List.set_cons_zero, List.set_cons_succ]
        refine wpAnyH_take (i := 17) (v := ?_) rfl (by kernel_rfl) (by kernel_rfl) (by kernel_rfl) (fun _ _ _ h => h) (Or.inl ⟨by rfl, ?_⟩) (by assumption) ?_
        rotate_left
        · intro wq hSw; (try dsimp only at hSw); go_simp; (try with_reducible rfl)
        simp only [List.getElem_toArray, List.getElem_cons_succ, List.getElem_cons_zero, Act.put, List.setIfInBounds_toArray, List.set_cons_zero, List.set_cons_succ]
        refine wpAnyH_take (i := 18) (v := ?_) rfl (by kernel_rfl) (by kernel_rfl) (by kernel_rfl) (fun _ _ _ h => h) (Or.inl ⟨by rfl, ?_⟩) (by assumption) ?_
        rotate_left
        · intro wq hSw; (try dsimp only at hSw); go_simp; (try with_reducible rfl)
        simp only [List.getElem_toArray, List.getElem_cons_succ, List.getElem_cons_zero, Act.put, List.setIfInBounds_toArray, List.set_cons_zero, List.set_cons_succ]
        refine wpAnyH_take (i := 19) (v := ?_) rfl (by kernel_rfl) (by kernel_rfl) (by kernel_rfl) (fun _ _ _ h => h) (Or.inl ⟨by rfl, ?_⟩) (by assumption) ?_
        rotate_left
        · intro wq hSw; (try dsimp only at hSw); go_simp; (try with_reducible rfl)
        simp only [List.getElem_toArray, List.getElem_cons_succ, List.getElem_cons_zero, Act.put, List.setIfInBounds_toArray, List.set_cons_zero, List.set_cons_succ]
        refine wpAnyH_take (i := 20) (v := ?_) rfl (by kernel_rfl) (by kernel_rfl) (by kernel_rfl) (fun _ _ _ h => h) (Or.inl ⟨by rfl, ?_⟩) (by assumption) ?_
        rotate_left
        · intro wq hSw; (try dsimp only at hSw); go_simp; (try with_reducible rfl)
        simp only [List.getElem_toArray, List.getElem_cons_succ, List.getElem_cons_zero, Act.put, List.setIfInBounds_toArray, List.set_cons_zero, List.set_cons_succ]
        refine wpAnyH_take (i := 21) (v := ?_) rfl (by kernel_rfl) (by kernel_rfl) (by kernel_rfl) (fun _ _ _ h => h) (Or.inl ⟨by rfl, ?_⟩) (by assumption) ?_
        rotate_left
        · intro wq hSw; (try dsimp only at hSw); go_simp; (try with_reducible rfl)
        simp only [List.getElem_toArray, List.getElem_cons_succ, List.getElem_cons_zero, Act.put, List.setIfInBounds_toArray, List.set_cons_zero, List.set_cons_succ]
        refine wpAnyH_take (i := 22) (v := ?_) rfl (by kernel_rfl) (by kernel_rfl) (by kernel_rfl) (fun _ _ _ h => h) (Or.inl ⟨by rfl, ?_⟩) (by assumption) ?_
        rotate_left
        · intro wq hSw; (try dsimp only at hSw); go_simp; (try with_reducible rfl)
        simp only [List.getElem_toArray, List.getElem_cons_succ, List.getElem_cons_zero, Act.put, List.setIfInBounds_toArray, List.set_cons_zero, List.set_cons_succ]
        refine wpAnyH_take (i := 23) (v := ?_) rfl (by kernel_rfl) (by kernel_rfl) (by kernel_rfl) (fun _ _ _ h => h) (Or.inl ⟨by rfl, ?_⟩) (by assumption) ?_
        rotate_left
        · intro wq hSw; (try dsimp only at hSw); go_simp; (try with_reducible rfl)
        simp only [List.getElem_toArray, List.getElem_cons_succ, List.getElem_cons_zero, Act.put, List.setIfInBounds_toArray, List.set_cons_zero, List.set_cons_succ]
        refine wpAnyH_done (by kernel_rfl) ?_ _
        go_wp2_with fail
        have GG := Lib.hid (gb_trans GE.out G2.out)
        have GZ := Lib.hid (G2.out.size)
        refine (HCP2.out _ GG.out).mono ?_
        rintro e w3 ⟨z, rfl, o3, b3⟩
        have BB := Lib.hid ((gb_below_none GG.out (Nat.le_refl _)).trans (b3.mono GG.out.size))
        have O3 := Lib.hid o3
        have K3 := Lib.hid ((K2.out.grown G2.out (by simp)).below b3 (by have h3 := SZ.out; have h4 := GZ.out; omega))
        have BZ := Lib.hid b3.size
        clear o3 b3
        have kr : Blk w3 (w.heap.size + 1 + 1) 38 #[.int .i64 0, .int .i64 0, .slice none 0 0, .slice none 0 0, .slice none 0 0, .slice none 0 0, .slice none 0 0, .slice none 0 0, .slice none 0 0, .slice none 0 0, .int .i64 0] := K3.out
        have KR4 := Lib.hid kr
        have y0 : w3.cell? ⟨w.heap.size + 1 + 1, 0, none⟩ = some (.int .i64 0) := kr.cell 0
        have x0 := kr.frozen 0
        have y1 : w3.cell? ⟨w.heap.size + 1 + 1, 1, none⟩ = some (.int .i64 0) := kr.cell 1
        have x1 := kr.frozen 1
        have y2 : w3.cell? ⟨w.heap.size + 1 + 1, 2, none⟩ = some (.slice none 0 0) := kr.cell 2
        have x2 := kr.frozen 2
        have y3 : w3.cell? ⟨w.heap.size + 1 + 1, 3, none⟩ = some (.slice none 0 0) := kr.cell 3
        have x3 := kr.frozen 3
        have y4 : w3.cell? ⟨w.heap.size + 1 + 1, 4, none⟩ = some (.slice none 0 0) := kr.cell 4
        have x4 := kr.frozen 4
        have y5 : w3.cell? ⟨w.heap.size + 1 + 1, 5, none⟩ = some (.slice none 0 0) := kr.cell 5
        have x5 := kr.frozen 5
        have y6 : w3.cell? ⟨w.heap.size + 1 + 1, 6, none⟩ = some (.slice none 0 0) := kr.cell 6
        have x6 := kr.frozen 6
        have y7 : w3.cell? ⟨w.heap.size + 1 + 1, 7, none⟩ = some (.slice none 0 0) := kr.cell 7
        have x7 := kr.frozen 7
        have y8 : w3.cell? ⟨w.heap.size + 1 + 1, 8, none⟩ = some (.slice none 0 0) := kr.cell 8
        have x8 := kr.frozen 8
        have y9 : w3.cell? ⟨w.heap.size + 1 + 1, 9, none⟩ = some (.slice none 0 0) := kr.cell 9
        have x9 := kr.frozen 9
        have y10 : w3.cell? ⟨w.heap.size + 1 + 1, 10, none⟩ = some (.int .i64 0) := kr.cell 10
        have x10 := kr.frozen 10
        clear kr
        go_wp2_with fail
        have kf : Blk (((((((((((w3.setCell ⟨w.heap.size + 1 + 1, 0, none⟩ (.int .i64 N.W)).setCell ⟨w.heap.size + 1 + 1, 1, none⟩ (.int .i64 N.H)).setCell ⟨w.heap.size + 1 + 1, 2, none⟩ (.slice z.br.A N.br.length z.br.c)).setCell ⟨w.heap.size + 1 + 1, 3, none⟩ (.slice z.ta.A N.ta.length z.ta.c)).setCell ⟨w.heap.size + 1 + 1, 4, none⟩ (.slice z.tb.A N.tb.length z.tb.c)).setCell ⟨w.heap.size + 1 + 1, 5, none⟩ (.slice z.bu.A N.bu.length z.bu.c)).setCell ⟨w.heap.size + 1 + 1, 6, none⟩ (.slice z.ow.A N.ow.length z.ow.c)).setCell ⟨w.heap.size + 1 + 1, 7, none⟩ (.slice z.tu.A N.tu.length z.tu.c)).setCell ⟨w.heap.size + 1 + 1, 8, none⟩ (.slice z.so.A N.so.length z.so.c)).setCell ⟨w.heap.size + 1 + 1, 9, none⟩ (.slice z.ar.A N.ar.length z.ar.c)).setCell ⟨w.heap.size + 1 + 1, 10, none⟩ (.int .i64 N.ti)) (w.heap.size + 1 + 1) 38 #[.int .i64 N.W, .int .i64 N.H, .slice z.br.A N.br.length z.br.c, .slice z.ta.A N.ta.length z.ta.c, .slice z.tb.A N.tb.length z.tb.c, .slice z.bu.A N.bu.length z.bu.c, .slice z.ow.A N.ow.length z.ow.c, .slice z.tu.A N.tu.length z.tu.c, .slice z.so.A N.so.length z.so.c, .slice z.ar.A N.ar.length z.ar.c, .int .i64 N.ti] := by
          have hz := (((((((((((KR4.out.set_ 0 (.int .i64 N.W)).set_ 1 (.int .i64 N.H)).set_ 2 (.slice z.br.A N.br.length z.br.c)).set_ 3 (.slice z.ta.A N.ta.length z.ta.c)).set_ 4 (.slice z.tb.A N.tb.length z.tb.c)).set_ 5 (.slice z.bu.A N.bu.length z.bu.c)).set_ 6 (.slice z.ow.A N.ow.length z.ow.c)).set_ 7 (.slice z.tu.A N.tu.length z.tu.c)).set_ 8 (.slice z.so.A N.so.length z.so.c)).set_ 9 (.slice z.ar.A N.ar.length z.ar.c)).set_ 10 (.int .i64 N.ti))
          simpa using hz
        have qz : Chg (w.heap.size + 1 + 1) (w.heap.size + 1 + 1 + 1) w3 (((((((((((w3.setCell ⟨w.heap.size + 1 + 1, 0, none⟩ (.int .i64 N.W)).setCell ⟨w.heap.size + 1 + 1, 1, none⟩ (.int .i64 N.H)).setCell ⟨w.heap.size + 1 + 1, 2, none⟩ (.slice z.br.A N.br.length z.br.c)).setCell ⟨w.heap.size + 1 + 1, 3, none⟩ (.slice z.ta.A N.ta.length z.ta.c)).setCell ⟨w.heap.size + 1 + 1, 4, none⟩ (.slice z.tb.A N.tb.length z.tb.c)).setCell ⟨w.heap.size + 1 + 1, 5, none⟩ (.slice z.bu.A N.bu.length z.bu.c)).setCell ⟨w.heap.size + 1 + 1, 6, none⟩ (.slice z.ow.A N.ow.length z.ow.c)).setCell ⟨w.heap.size + 1 + 1, 7, none⟩ (.slice z.tu.A N.tu.length z.tu.c)).setCell ⟨w.heap.size + 1 + 1, 8, none⟩ (.slice z.so.A N.so.length z.so.c)).setCell ⟨w.heap.size + 1 + 1, 9, none⟩ (.slice z.ar.A N.ar.length z.ar.c)).setCell ⟨w.heap.size + 1 + 1, 10, none⟩ (.int .i64 N.ti)) := ((((((((((st_in w3 (w.heap.size + 1 + 1) 0 (.int .i64 N.W)).sx 1 (.int .i64 N.H)).sx 2 (.slice z.br.A N.br.length z.br.c)).sx 3 (.slice z.ta.A N.ta.length z.ta.c)).sx 4 (.slice z.tb.A N.tb.length z.tb.c)).sx 5 (.slice z.bu.A N.bu.length z.bu.c)).sx 6 (.slice z.ow.A N.ow.length z.ow.c)).sx 7 (.slice z.tu.A N.tu.length z.tu.c)).sx 8 (.slice z.so.A N.so.length z.so.c)).sx 9 (.slice z.ar.A N.ar.length z.ar.c)).sx 10 (.int .i64 N.ti)
        generalize (((((((((((w3.setCell ⟨w.heap.size + 1 + 1, 0, none⟩ (.int .i64 N.W)).setCell ⟨w.heap.size + 1 + 1, 1, none⟩ (.int .i64 N.H)).setCell ⟨w.heap.size + 1 + 1, 2, none⟩ (.slice z.br.A N.br.length z.br.c)).setCell ⟨w.heap.size + 1 + 1, 3, none⟩ (.slice z.ta.A N.ta.length z.ta.c)).setCell ⟨w.heap.size + 1 + 1, 4, none⟩ (.slice z.tb.A N.tb.length z.tb.c)).setCell ⟨w.heap.size + 1 + 1, 5, none⟩ (.slice z.bu.A N.bu.length z.bu.c)).setCell ⟨w.heap.size + 1 + 1, 6, none⟩ (.slice z.ow.A N.ow.length z.ow.c)).setCell ⟨w.heap.size + 1 + 1, 7, none⟩ (.slice z.tu.A N.tu.length z.tu.c)).setCell ⟨w.heap.size + 1 + 1, 8, none⟩ (.slice z.so.A N.so.length z.so.c)).setCell ⟨w.heap.size + 1 + 1, 9, none⟩ (.slice z.ar.A N.ar.length z.ar.c)).setCell ⟨w.heap.size + 1 + 1, 10, none⟩ (.int .i64 N.ti)) = wz at *
        have r0 := kf.cell 0
        have r1 := kf.cell 1
        have r2 := kf.cell 2
        have r3 := kf.cell 3
        have r4 := kf.cell 4
        have r5 := kf.cell 5
        have r6 := kf.cell 6
        have r7 := kf.cell 7
        have r8 := kf.cell 8
        have r9 := kf.cell 9
        have r10 := kf.cell 10
        simp only [List.getElem?_toArray, List.getElem?_cons_zero, List.getElem?_cons_succ] at r0 r1 r2 r3 r4 r5 r6 r7 r8 r9 r10
        have GZ2 := GZ.out
        have BZ2 := BZ.out
        rw [HNO.out, sendG_no HNO.out]
        have hnet : NetOwn wz _ w3.heap.size z N := (O3.out).heap (fun k h1 h2 => qz.block k h2 (by have h3 := SZ.out; omega))
        refine bodyPost_ret (v := .tuple #[.agg #[.int .i64 N.W, .int .i64 N.H, .slice z.br.A N.br.length z.br.c, .slice z.ta.A N.ta.length z.ta.c, .slice z.tb.A N.tb.length z.tb.c, .slice z.bu.A N.bu.length z.bu.c, .slice z.ow.A N.ow.length z.ow.c, .slice z.tu.A N.tu.length z.tu.c, .slice z.so.A N.so.length z.so.c, .slice z.ar.A N.ar.length z.ar.c, .int .i64 N.ti], .bool false]) (by simp [results, Try.results17, go_sem, r0, r1, r2, r3, r4, r5, r6, r7, r8, r9, r10]) rfl ⟨z, rfl, (hnet.less (by have h3 := SZ.out; omega)).upto qz.size, (BB.out).trans (qz.below (.inl (by omega)) (by have h3 := SZ.out; omega))⟩
      · have HYE := Lib.hid (show sendOk N p = true by rw [hX.out]; exact decide_eq_true (by rw [HM.out]; omega))
        refine wp_region_held_drew (S := (fun w' => w'.cell? ⟨w.heap.size, 0, none⟩ = some (.int .i64 N.W) ∧ w'.cell? ⟨w.heap.size, 1, none⟩ = some (.int .i64 N.H) ∧ w'.cell? ⟨w.heap.size, 2, none⟩ = some (.slice y.br.A N.br.length y.br.c) ∧ w'.cell? ⟨w.heap.size, 3, none⟩ = some (.slice y.ta.A N.ta.length y.ta.c) ∧ w'.cell? ⟨w.heap.size, 4, none⟩ = some (.slice y.tb.A N.tb.length y.tb.c) ∧ w'.cell? ⟨w.heap.size, 5, none⟩ = some (.slice y.bu.A N.bu.length y.bu.c) ∧ w'.cell? ⟨w.heap.size, 6, none⟩ = some (.slice y.ow.A N.ow.length y.ow.c) ∧ w'.cell? ⟨w.heap.size, 7, none⟩ = some (.slice y.tu.A N.tu.length y.tu.c) ∧ w'.cell? ⟨w.heap.size, 8, none⟩ = some (.slice (some ⟨sb, so, none⟩) N.so.length y.so.c) ∧ w'.cell? ⟨w.heap.size, 9, none⟩ = some (.slice y.ar.A N.ar.length y.ar.c) ∧ w'.cell? ⟨w.heap.size, 10, none⟩ = some (.int .i64 N.ti) ∧ w'.cell? ⟨w.heap.size + 1, 0, none⟩ = some (.int .i64 p.id) ∧ w'.cell? ⟨w.heap.size + 1, 1, none⟩ = some (.int .i64 (f : Int)) ∧ w'.cell? ⟨w.heap.size + 1, 2, none⟩ = some (.int .i64 p.to) ∧ w'.cell? ⟨w.heap.size + 1, 3, none⟩ = some (.int .i64 p.cl) ∧ w'.cell? ⟨w.heap.size + 1, 4, none⟩ = some (.int .i64 p.ln) ∧ w'.cell? ⟨sb, so + f, none⟩ = some (.slice A' m c'))) (by kernel_rfl) (⟨a0, a1, a2, a3, a4, a5, a6, a7, a8, a9, a10, p0, p1, p2, p3, p4, hc0⟩) (fun hHeld => ?_)
        refine wpAnyH_take (i := 0) (v := ?_) rfl (by kernel_rfl) (by kernel_rfl) (by kernel_rfl) (fun _ _ _ h => h) (Or.inl ⟨by rfl, ?_⟩) (by assumption) ?_
        rotate_left
        · intro wq hSw; (try dsimp only at hSw); go_simp; (try with_reducible rfl)
        simp only [List.getElem_toArray, List.getElem_cons_zero, Act.put, List.setIfInBounds_toArray, List.set_cons_zero, List.set_cons_succ]
        refine wpAnyH_ready (rs := [1]) (by kernel_rfl) (by simp) ?_
        refine AllReadyH.cons rfl (fun K hK => ?_) AllReadyH.nil
        go_simp
        refine (HNT2.out _ (gb_drew GE.out)).mono ?_; rintro e w1 ⟨rfl, hg1⟩; have G1 := Lib.hid (gb_drF hg1); clear hg1; obtain ⟨d0, d1, d2, d3, d4, d5, d6, d7, d8, d9, d10, d11, d12, d13, d14, d15⟩ := CB2.out _ G1.out; have dh := HCL.out _ G1.out
        try go_wp2_with fail
        refine hK.out _ _ (⟨d0, d1, d2, d3, d4, d5, d6, d7, d8, d9, d10, d11, d12, d13, d14, d15, dh⟩) (fun hHeld => ?_)
        clear hK K
        try simp only [List.getElem_toArray, List.getElem_cons_succ, List.getElem_cons_zero, Act.put, List.setIfInBounds_toArray, List.set_cons_zero, List.set_cons_succ]
        refine wpAnyH_take (i := 2) (v := ?_) rfl (by kernel_rfl) (by kernel_rfl) (by kernel_rfl) (fun _ _ _ h => h) (Or.inl ⟨by rfl, ?_⟩) (by assumption) ?_
        rotate_left
        · intro wq hSw; (try dsimp only at hSw); go_simp; (try with_reducible rfl)
        simp only [List.getElem_toArray, List.getElem_cons_succ, List.getElem_cons_zero, Act.put, List.setIfInBounds_toArray, List.set_cons_zero, List.set_cons_succ]
        refine wpAnyH_take (i := 3) (v := ?_) rfl (by kernel_rfl) (by kernel_rfl) (by kernel_rfl) (fun _ _ _ h => h) (Or.inl ⟨by rfl, ?_⟩) (by assumption) ?_
        rotate_left
        · intro wq hSw; (try dsimp only at hSw); go_simp; (try with_reducible rfl)
        simp only [List.getElem_toArray, List.getElem_cons_succ, List.getElem_cons_zero, Act.put, List.setIfInBounds_toArray, List.set_cons_zero, List.set_cons_succ]
        refine wpAnyH_take (i := 4) (v := ?_) rfl (by kernel_rfl) (by kernel_rfl) (by kernel_rfl) (fun _ _ _ h => h) (Or.inl ⟨by rfl, ?_⟩) (by assumption) ?_
        rotate_left
        · intro wq hSw; (try dsimp only at hSw); go_simp; (try with_reducible rfl)
        simp only [List.getElem_toArray, List.getElem_cons_succ, List.getElem_cons_zero, Act.put, List.setIfInBounds_toArray, List.set_cons_zero, List.set_cons_succ]
        refine wpAnyH_take (i := 5) (v := ?_) rfl (by kernel_rfl) (by kernel_rfl) (by kernel_rfl) (fun _ _ _ h => h) (Or.inl ⟨by rfl, ?_⟩) (by assumption) ?_
        rotate_left
        · intro wq hSw; (try dsimp only at hSw); go_simp; (try with_reducible rfl)
        simp only [List.getElem_toArray, List.getElem_cons_succ, List.getElem_cons_zero, Act.put, List.setIfInBounds_toArray, List.set_cons_zero, List.set_cons_succ]
        refine wpAnyH_take (i := 6) (v := ?_) rfl (by kernel_rfl) (by kernel_rfl) (by kernel_rfl) (fun _ _ _ h => h) (Or.inl ⟨by rfl, ?_⟩) (by assumption) ?_
        rotate_left
        · intro wq hSw; (try dsimp only at hSw); go_simp; (try with_reducible rfl)
        simp only [List.getElem_toArray, List.getElem_cons_succ, List.getElem_cons_zero, Act.put, List.setIfInBounds_toArray, List.set_cons_zero, List.set_cons_succ]
        refine wpAnyH_take (i := 7) (v := ?_) rfl (by kernel_rfl) (by kernel_rfl) (by kernel_rfl) (fun _ _ _ h => h) (Or.inl ⟨by rfl, ?_⟩) (by assumption) ?_
        rotate_left
        · intro wq hSw; (try dsimp only at hSw); go_simp; (try with_reducible rfl)
        simp only [List.getElem_toArray, List.getElem_cons_succ, List.getElem_cons_zero, Act.put, List.setIfInBounds_toArray, List.set_cons_zero, List.set_cons_succ]
        refine wpAnyH_ready (rs := [8]) (by kernel_rfl) (by simp) ?_
        refine AllReadyH.cons rfl (fun K hK => ?_) AllReadyH.nil
        go_simp
        clear dh; clear d0 d1 d2 d3 d4 d5 d6 d7 d8 d9 d10 d11 d12 d13 d14 d15; refine (HPT2.out _).mono ?_; rintro e w2 ⟨rfl, hg2⟩; have G2 := Lib.hid (gb_trans G1.out hg2); clear hg2; obtain ⟨d0, d1, d2, d3, d4, d5, d6, d7, d8, d9, d10, d11, d12, d13, d14, d15⟩ := CB2.out _ G2.out; have dh := HCL.out _ G2.out
        try go_wp2_with fail
        refine hK.out _ _ (⟨d0, d1, d2, d3, d4, d5, d6, d7, d8, d9, d10, d11, d12, d13, d14, d15, dh⟩) (fun hHeld => ?_)
        clear hK K
        try simp only [List.getElem_toArray, List.getElem_cons_succ, List.getElem_cons_zero, Act.put, List.setIfInBounds_toArray, List.set_cons_zero, List.set_cons_succ]
        refine wpAnyH_take (i := 9) (v := ?_) rfl (by kernel_rfl) (by kernel_rfl) (by kernel_rfl) (fun _ _ _ h => h) (Or.inl ⟨by rfl, ?_⟩) (by assumption) ?_
        rotate_left
        · intro wq hSw; (try dsimp only at hSw); go_simp; (try with_reducible rfl)
        simp only [List.getElem_toArray, List.getElem_cons_succ, List.getElem_cons_zero, Act.put, List.setIfInBounds_toArray, List.set_cons_zero, List.set_cons_succ]
        refine wpAnyH_take (i := 10) (v := ?_) rfl (by kernel_rfl) (by kernel_rfl) (by kernel_rfl) (fun _ _ _ h => h) (Or.inl ⟨by rfl, ?_⟩) (by assumption) ?_
        rotate_left
        · intro wq hSw; (try dsimp only at hSw); go_simp; (try with_reducible rfl)
        simp only [List.getElem_toArray, List.getElem_cons_succ, List.getElem_cons_zero, Act.put, List.setIfInBounds_toArray, List.set_cons_zero, List.set_cons_succ]
        refine wpAnyH_take (i := 11) (v := ?_) rfl (by kernel_rfl) (by kernel_rfl) (by kernel_rfl) (fun _ _ _ h => h) (Or.inl ⟨by rfl, ?_⟩) (by assumption) ?_
        rotate_left
        · intro wq hSw; (try dsimp only at hSw); go_simp; (try with_reducible rfl)
        simp only [List.getElem_toArray, List.getElem_cons_succ, List.getElem_cons_zero, Act.put, List.setIfInBounds_toArray, List.set_cons_zero, List.set_cons_succ]
        refine wpAnyH_take (i := 12) (v := ?_) rfl (by kernel_rfl) (by kernel_rfl) (by kernel_rfl) (fun _ _ _ h => h) (Or.inl ⟨by rfl, ?_⟩) (by assumption) ?_
        rotate_left
        · intro wq hSw; (try dsimp only at hSw); go_simp; (try with_reducible rfl)
        simp only [List.getElem_toArray, List.getElem_cons_succ, List.getElem_cons_zero, Act.put, List.setIfInBounds_toArray, List.set_cons_zero, List.set_cons_succ]
        refine wpAnyH_take (i := 13) (v := ?_) rfl (by kernel_rfl) (by kernel_rfl) (by kernel_rfl) (fun _ _ _ h => h) (Or.inl ⟨by rfl, ?_⟩) (by assumption) ?_
        rotate_left
        · intro wq hSw; (try dsimp only at hSw); go_simp; (try with_reducible rfl)
        simp only [List.getElem_toArray, List.getElem_cons_succ, List.getElem_cons_zero, Act.put, List.setIfInBounds_toArray, List.set_cons_zero, List.set_cons_succ]
        refine wpAnyH_take (i := 14) (v := ?_) rfl (by kernel_rfl) (by kernel_rfl) (by kernel_rfl) (fun _ _ _ h => h) (Or.inl ⟨by rfl, ?_⟩) (by assumption) ?_
        rotate_left
        · intro wq hSw; (try dsimp only at hSw); go_simp; (try with_reducible rfl)
        simp only [List.getElem_toArray, List.getElem_cons_succ, List.getElem_cons_zero, Act.put, List.setIfInBounds_toArray, List.set_cons_zero, List.set_cons_succ]
        refine wpAnyH_take (i := 15) (v := ?_) rfl (by kernel_rfl) (by kernel_rfl) (by kernel_rfl) (fun _ _ _ h => h) (Or.inl ⟨by rfl, ?_⟩) (by assumption) ?_
        rotate_left
        · intro wq hSw; (try dsimp only at hSw); go_simp; (try with_reducible rfl)
        simp only [List.getElem_toArray, List.getElem_cons_succ, List.getElem_cons_zero, Act.put, List.setIfInBounds_toArray, List.set_cons_zero, List.set_cons_succ]
        refine wpAnyH_take (i := 16) (v := ?_) rfl (by kernel_rfl) (by kernel_rfl) (by kernel_rfl) (fun _ _ _ h => h) (Or.inl ⟨by rfl, ?_⟩) (by assumption) ?_
        rotate_left
        · intro wq hSw; (try dsimp only at hSw); go_simp; (try with_reducible rfl)
        simp only [List.getElem_toArray, List.getElem_cons_succ, List.getElem_cons_zero, Act.put, List.setIfInBounds_toArray, List.set_cons_zero, List.set_cons_succ]
        refine wpAnyH_take (i := 17) (v := ?_) rfl (by kernel_rfl) (by kernel_rfl) (by kernel_rfl) (fun _ _ _ h => h) (Or.inl ⟨by rfl, ?_⟩) (by assumption) ?_
        rotate_left
        · intro wq hSw; (try dsimp only at hSw); go_simp; (try with_reducible rfl)
        simp only [List.getElem_toArray, List.getElem_cons_succ, List.getElem_cons_zero, Act.put, List.setIfInBounds_toArray, List.set_cons_zero, List.set_cons_succ]
        refine wpAnyH_take (i := 18) (v := ?_) rfl (by kernel_rfl) (by kernel_rfl) (by kernel_rfl) (fun _ _ _ h => h) (Or.inl ⟨by rfl, ?_⟩) (by assumption) ?_
        rotate_left
        · intro wq hSw; (try dsimp only at hSw); go_simp; (try with_reducible rfl)
        simp only [List.getElem_toArray, List.getElem_cons_succ, List.getElem_cons_zero, Act.put, List.setIfInBounds_toArray, List.set_cons_zero, List.set_cons_succ]
        refine wpAnyH_take (i := 19) (v := ?_) rfl (by kernel_rfl) (by kernel_rfl) (by kernel_rfl) (fun _ _ _ h => h) (Or.inl ⟨by rfl, ?_⟩) (by assumption) ?_
        rotate_left
        · intro wq hSw; (try dsimp only at hSw); go_simp; (try with_reducible rfl)
        simp only [List.getElem_toArray, List.getElem_cons_succ, List.getElem_cons_zero, Act.put, List.setIfInBounds_toArray, List.set_cons_zero, List.set_cons_succ]
        refine wpAnyH_take (i := 20) (v := ?_) rfl (by kernel_rfl) (by kernel_rfl) (by kernel_rfl) (fun _ _ _ h => h) (Or.inl ⟨by rfl, ?_⟩) (by assumption) ?_
        rotate_left
        · intro wq hSw; (try dsimp only at hSw); go_simp; (try with_reducible rfl)
        simp only [List.getElem_toArray, List.getElem_cons_succ, List.getElem_cons_zero, Act.put, List.setIfInBounds_toArray, List.set_cons_zero, List.set_cons_succ]
        refine wpAnyH_take (i := 21) (v := ?_) rfl (by kernel_rfl) (by kernel_rfl) (by kernel_rfl) (fun _ _ _ h => h) (Or.inl ⟨by rfl, ?_⟩) (by assumption) ?_
        rotate_left
        · intro wq hSw; (try dsimp only at hSw); go_simp; (try with_reducible rfl)
        simp only [List.getElem_toArray, List.getElem_cons_succ, List.getElem_cons_zero, Act.put, List.setIfInBounds_toArray, List.set_cons_zero, List.set_cons_succ]
        refine wpAnyH_take (i := 22) (v := ?_) rfl (by kernel_rfl) (by kernel_rfl) (by kernel_rfl) (fun _ _ _ h => h) (Or.inl ⟨by rfl, ?_⟩) (by assumption) ?_
        rotate_left
        · intro wq hSw; (try dsimp only at hSw); go_simp; (try with_reducible rfl)
        simp only [List.getElem_toArray, List.getElem_cons_succ, List.getElem_cons_zero, Act.put, List.setIfInBounds_toArray, List.set_cons_zero, List.set_cons_succ]
        refine wpAnyH_take (i := 23) (v := ?_) rfl (by kernel_rfl) (by kernel_rfl) (by kernel_rfl) (fun _ _ _ h => h) (Or.inl ⟨by rfl, ?_⟩) (by assumption) ?_
        rotate_left
        · intro wq hSw; (try dsimp only at hSw); go_simp; (try with_reducible rfl)
        simp only [List.getElem_toArray, List.getElem_cons_succ, List.getElem_cons_zero, Act.put, List.setIfInBounds_toArray, List.set_cons_zero, List.set_cons_succ]
        refine wpAnyH_done (by kernel_rfl) ?_ _
        go_wp2_with fail
        have GG := Lib.hid (gb_trans GE.out G2.out)
        have GZ := Lib.hid (G2.out.size)
        refine (HSD2.out _ GG.out).mono ?_
        rintro e w3 ⟨z, rfl, o3, b3⟩
        have BB := Lib.hid ((gb_below_none GG.out (Nat.le_refl _)).trans (b3.mono GG.out.size))
        have O3 := Lib.hid o3
        have K3 := Lib.hid ((K2.out.grown G2.out (by simp)).below b3 (by have h3 := SZ.out; have h4 := GZ.out; omega))
        have BZ := Lib.hid b3.size
        clear o3 b3
        have kr : Blk w3 (w.heap.size + 1 + 1) 38 #[.int .i64 0, .int .i64 0, .slice none 0 0, .slice none 0 0, .slice none 0 0, .slice none 0 0, .slice none 0 0, .slice none 0 0, .slice none 0 0, .slice none 0 0, .int .i64 0] := K3.out
        have KR4 := Lib.hid kr
        have y0 : w3.cell? ⟨w.heap.size + 1 + 1, 0, none⟩ = some (.int .i64 0) := kr.cell 0
        have x0 := kr.frozen 0
        have y1 : w3.cell? ⟨w.heap.size + 1 + 1, 1, none⟩ = some (.int .i64 0) := kr.cell 1
        have x1 := kr.frozen 1
        have y2 : w3.cell? ⟨w.heap.size + 1 + 1, 2, none⟩ = some (.slice none 0 0) := kr.cell 2
        have x2 := kr.frozen 2
        have y3 : w3.cell? ⟨w.heap.size + 1 + 1, 3, none⟩ = some (.slice none 0 0) := kr.cell 3
        have x3 := kr.frozen 3
        have y4 : w3.cell? ⟨w.heap.size + 1 + 1, 4, none⟩ = some (.slice none 0 0) := kr.cell 4
        have x4 := kr.frozen 4
        have y5 : w3.cell? ⟨w.heap.size + 1 + 1, 5, none⟩ = some (.slice none 0 0) := kr.cell 5
        have x5 := kr.frozen 5
        have y6 : w3.cell? ⟨w.heap.size + 1 + 1, 6, none⟩ = some (.slice none 0 0) := kr.cell 6
        have x6 := kr.frozen 6
        have y7 : w3.cell? ⟨w.heap.size + 1 + 1, 7, none⟩ = some (.slice none 0 0) := kr.cell 7
        have x7 := kr.frozen 7
        have y8 : w3.cell? ⟨w.heap.size + 1 + 1, 8, none⟩ = some (.slice none 0 0) := kr.cell 8
        have x8 := kr.frozen 8
        have y9 : w3.cell? ⟨w.heap.size + 1 + 1, 9, none⟩ = some (.slice none 0 0) := kr.cell 9
        have x9 := kr.frozen 9
        have y10 : w3.cell? ⟨w.heap.size + 1 + 1, 10, none⟩ = some (.int .i64 0) := kr.cell 10
        have x10 := kr.frozen 10
        clear kr
        go_wp2_with fail
        have kf : Blk (((((((((((w3.setCell ⟨w.heap.size + 1 + 1, 0, none⟩ (.int .i64 (sendTo N p).W)).setCell ⟨w.heap.size + 1 + 1, 1, none⟩ (.int .i64 (sendTo N p).H)).setCell ⟨w.heap.size + 1 + 1, 2, none⟩ (.slice z.br.A (sendTo N p).br.length z.br.c)).setCell ⟨w.heap.size + 1 + 1, 3, none⟩ (.slice z.ta.A (sendTo N p).ta.length z.ta.c)).setCell ⟨w.heap.size + 1 + 1, 4, none⟩ (.slice z.tb.A (sendTo N p).tb.length z.tb.c)).setCell ⟨w.heap.size + 1 + 1, 5, none⟩ (.slice z.bu.A (sendTo N p).bu.length z.bu.c)).setCell ⟨w.heap.size + 1 + 1, 6, none⟩ (.slice z.ow.A (sendTo N p).ow.length z.ow.c)).setCell ⟨w.heap.size + 1 + 1, 7, none⟩ (.slice z.tu.A (sendTo N p).tu.length z.tu.c)).setCell ⟨w.heap.size + 1 + 1, 8, none⟩ (.slice z.so.A (sendTo N p).so.length z.so.c)).setCell ⟨w.heap.size + 1 + 1, 9, none⟩ (.slice z.ar.A (sendTo N p).ar.length z.ar.c)).setCell ⟨w.heap.size + 1 + 1, 10, none⟩ (.int .i64 (sendTo N p).ti)) (w.heap.size + 1 + 1) 38 #[.int .i64 (sendTo N p).W, .int .i64 (sendTo N p).H, .slice z.br.A (sendTo N p).br.length z.br.c, .slice z.ta.A (sendTo N p).ta.length z.ta.c, .slice z.tb.A (sendTo N p).tb.length z.tb.c, .slice z.bu.A (sendTo N p).bu.length z.bu.c, .slice z.ow.A (sendTo N p).ow.length z.ow.c, .slice z.tu.A (sendTo N p).tu.length z.tu.c, .slice z.so.A (sendTo N p).so.length z.so.c, .slice z.ar.A (sendTo N p).ar.length z.ar.c, .int .i64 (sendTo N p).ti] := by
          have hz := (((((((((((KR4.out.set_ 0 (.int .i64 (sendTo N p).W)).set_ 1 (.int .i64 (sendTo N p).H)).set_ 2 (.slice z.br.A (sendTo N p).br.length z.br.c)).set_ 3 (.slice z.ta.A (sendTo N p).ta.length z.ta.c)).set_ 4 (.slice z.tb.A (sendTo N p).tb.length z.tb.c)).set_ 5 (.slice z.bu.A (sendTo N p).bu.length z.bu.c)).set_ 6 (.slice z.ow.A (sendTo N p).ow.length z.ow.c)).set_ 7 (.slice z.tu.A (sendTo N p).tu.length z.tu.c)).set_ 8 (.slice z.so.A (sendTo N p).so.length z.so.c)).set_ 9 (.slice z.ar.A (sendTo N p).ar.length z.ar.c)).set_ 10 (.int .i64 (sendTo N p).ti))
          simpa using hz
        have qz : Chg (w.heap.size + 1 + 1) (w.heap.size + 1 + 1 + 1) w3 (((((((((((w3.setCell ⟨w.heap.size + 1 + 1, 0, none⟩ (.int .i64 (sendTo N p).W)).setCell ⟨w.heap.size + 1 + 1, 1, none⟩ (.int .i64 (sendTo N p).H)).setCell ⟨w.heap.size + 1 + 1, 2, none⟩ (.slice z.br.A (sendTo N p).br.length z.br.c)).setCell ⟨w.heap.size + 1 + 1, 3, none⟩ (.slice z.ta.A (sendTo N p).ta.length z.ta.c)).setCell ⟨w.heap.size + 1 + 1, 4, none⟩ (.slice z.tb.A (sendTo N p).tb.length z.tb.c)).setCell ⟨w.heap.size + 1 + 1, 5, none⟩ (.slice z.bu.A (sendTo N p).bu.length z.bu.c)).setCell ⟨w.heap.size + 1 + 1, 6, none⟩ (.slice z.ow.A (sendTo N p).ow.length z.ow.c)).setCell ⟨w.heap.size + 1 + 1, 7, none⟩ (.slice z.tu.A (sendTo N p).tu.length z.tu.c)).setCell ⟨w.heap.size + 1 + 1, 8, none⟩ (.slice z.so.A (sendTo N p).so.length z.so.c)).setCell ⟨w.heap.size + 1 + 1, 9, none⟩ (.slice z.ar.A (sendTo N p).ar.length z.ar.c)).setCell ⟨w.heap.size + 1 + 1, 10, none⟩ (.int .i64 (sendTo N p).ti)) := ((((((((((st_in w3 (w.heap.size + 1 + 1) 0 (.int .i64 (sendTo N p).W)).sx 1 (.int .i64 (sendTo N p).H)).sx 2 (.slice z.br.A (sendTo N p).br.length z.br.c)).sx 3 (.slice z.ta.A (sendTo N p).ta.length z.ta.c)).sx 4 (.slice z.tb.A (sendTo N p).tb.length z.tb.c)).sx 5 (.slice z.bu.A (sendTo N p).bu.length z.bu.c)).sx 6 (.slice z.ow.A (sendTo N p).ow.length z.ow.c)).sx 7 (.slice z.tu.A (sendTo N p).tu.length z.tu.c)).sx 8 (.slice z.so.A (sendTo N p).so.length z.so.c)).sx 9 (.slice z.ar.A (sendTo N p).ar.length z.ar.c)).sx 10 (.int .i64 (sendTo N p).ti)
        generalize (((((((((((w3.setCell ⟨w.heap.size + 1 + 1, 0, none⟩ (.int .i64 (sendTo N p).W)).setCell ⟨w.heap.size + 1 + 1, 1, none⟩ (.int .i64 (sendTo N p).H)).setCell ⟨w.heap.size + 1 + 1, 2, none⟩ (.slice z.br.A (sendTo N p).br.length z.br.c)).setCell ⟨w.heap.size + 1 + 1, 3, none⟩ (.slice z.ta.A (sendTo N p).ta.length z.ta.c)).setCell ⟨w.heap.size + 1 + 1, 4, none⟩ (.slice z.tb.A (sendTo N p).tb.length z.tb.c)).setCell ⟨w.heap.size + 1 + 1, 5, none⟩ (.slice z.bu.A (sendTo N p).bu.length z.bu.c)).setCell ⟨w.heap.size + 1 + 1, 6, none⟩ (.slice z.ow.A (sendTo N p).ow.length z.ow.c)).setCell ⟨w.heap.size + 1 + 1, 7, none⟩ (.slice z.tu.A (sendTo N p).tu.length z.tu.c)).setCell ⟨w.heap.size + 1 + 1, 8, none⟩ (.slice z.so.A (sendTo N p).so.length z.so.c)).setCell ⟨w.heap.size + 1 + 1, 9, none⟩ (.slice z.ar.A (sendTo N p).ar.length z.ar.c)).setCell ⟨w.heap.size + 1 + 1, 10, none⟩ (.int .i64 (sendTo N p).ti)) = wz at *
        have r0 := kf.cell 0
        have r1 := kf.cell 1
        have r2 := kf.cell 2
        have r3 := kf.cell 3
        have r4 := kf.cell 4
        have r5 := kf.cell 5
        have r6 := kf.cell 6
        have r7 := kf.cell 7
        have r8 := kf.cell 8
        have r9 := kf.cell 9
        have r10 := kf.cell 10
        simp only [List.getElem?_toArray, List.getElem?_cons_zero, List.getElem?_cons_succ] at r0 r1 r2 r3 r4 r5 r6 r7 r8 r9 r10
        have GZ2 := GZ.out
        have BZ2 := BZ.out
        rw [HYE.out, sendG_yes HYE.out]
        have hnet : NetOwn wz _ w3.heap.size z (sendTo N p) := (O3.out).heap (fun k h1 h2 => qz.block k h2 (by have h3 := SZ.out; omega))
        refine bodyPost_ret (v := .tuple #[.agg #[.int .i64 (sendTo N p).W, .int .i64 (sendTo N p).H, .slice z.br.A (sendTo N p).br.length z.br.c, .slice z.ta.A (sendTo N p).ta.length z.ta.c, .slice z.tb.A (sendTo N p).tb.length z.tb.c, .slice z.bu.A (sendTo N p).bu.length z.bu.c, .slice z.ow.A (sendTo N p).ow.length z.ow.c, .slice z.tu.A (sendTo N p).tu.length z.tu.c, .slice z.so.A (sendTo N p).so.length z.so.c, .slice z.ar.A (sendTo N p).ar.length z.ar.c, .int .i64 (sendTo N p).ti], .bool true]) (by simp [results, Try.results17, go_sem, r0, r1, r2, r3, r4, r5, r6, r7, r8, r9, r10]) rfl ⟨z, rfl, (hnet.less (by have h3 := SZ.out; omega)).upto qz.size, (BB.out).trans (qz.below (.inl (by omega)) (by have h3 := SZ.out; omega))⟩
end Go.Proofs.Ytfloekbmgjmhbaa
end

section
namespace Go.Proofs.Ytfloekbmgjmhbaa
open Go.ChangeShapes Go.WideShapes Go.ChangeAt Go.RowKit
set_option linter.unusedVariables false
section
variable {α : Type} {z bytes : Nat} {c : α → List Value} {T e : TypeId} {zv : Value}
theorem wpList_app_atR {ops : Array Oper} {rest : List Oper} {o : Oper} {a : Act} {Q : Exit → Act → World → Prop} (hL : Lay z c) (hz : 0 < z) (hT : Try.prog.underlying T = some (.slice e)) (w : World) (hgd : o.guard = none) (s x : Operand)
    (ho : o.op = .call { callee := .builtin .append, args := #[s, x], argTypes := #[T, T] })
    (i0 : TypeInfo) (hi : Try.prog.info? e = some i0) (hz0 : i0.zero = some zv) (hz1 : i0.size = z) (hz2 : i0.bytes = bytes) (hzs : zv.cells.size = z) (hby : bytes ≤ 1000)
    (base n m cc B : Nat) (A : Option Addr) (X D : List α) (v : Value) (hs : a.eval s = v) (hx : a.eval x = .slice A m cc) (hown : w.ownsRow base e z v n (recV c X)) (h : RecAt z c w B A m D) (hm : n + m ≤ 1000000000) (hb : base ≤ w.heap.size)
    (hk : ∀ v' w', w'.ownsRow base e z v' (n + m) (recV c (X ++ D)) → w.grownBy w' v.ownBlock → (∀ b, v'.ownBlock = some b → v.ownBlock = some b ∨ b = w.heap.size) → wpList Try.prog ops Q rest (a.put o.dst v') w') : wpList Try.prog ops Q (o :: rest) a w := by
  have key : ∃ v' w', (Builtin.append_ #[T, T] o.type #[v, .slice A m cc]).run Try.prog w = .ok v' w' ∧ w'.ownsRow base e z v' (n + m) (recV c (X ++ D)) ∧ w.grownBy w' v.ownBlock ∧ ∀ b, v'.ownBlock = some b → v.ownBlock = some b ∨ b = w.heap.size := by
    have hl := h.1
    rcases Nat.eq_zero_or_pos m with h0 | h0
    · subst h0
      obtain rfl : D = [] := List.eq_nil_of_length_eq_zero hl
      obtain ⟨A', c', rfl, _⟩ := own_form hown
      exact ⟨_, _, run_app_nothingR hT w o.type A' n c' (own_cap hown).1 _ i0 hi hz1 (src_rec hL hz hT h cc), by rw [List.append_nil]; exact hown, gb_refl _ _, fun b hb => .inl hb⟩
    · obtain ⟨b, off, rfl, _⟩ := h.2 h0
      obtain ⟨v', w', h1, h2, h3, _, h5⟩ := run_append_own_at (P := Try.prog) w base T o.type e i0 zv z bytes hT hi hz0 hz1 hz2 hzs hz v n (recV c X) hown ⟨b, off, none⟩ m cc (recV c D)
        (by rw [recV_length hL, hl]) (rec_news hL hz h) (recV_one hL D) (by unfold maxLen; omega) (by
          have h4 : (n + m) * bytes ≤ 1000000000 * 1000 := Nat.mul_le_mul hm hby
          omega) hb
      refine ⟨v', w', h1, by rw [recV_append]; exact h2, h3, fun q hq => ?_⟩
      rcases h5 with h5 | h5
      · exact .inl (by rw [← h5]; exact hq)
      · right
        rw [h5] at hq
        exact (Option.some.inj hq).symm
  refine wpList_plain hgd fun K hK => ?_
  obtain ⟨v', w', hr, h2, h3, h4⟩ := key
  unfold Oper.wp execOp
  simp only [ho, resolve, invoke, builtin, Sem.run_bind, Sem.run_pure, Result.andThen_ok, List.map_toArray, List.map_cons, List.map_nil, hs, hx, hr]
  exact hK _ _ (hk v' w' h2 h3 h4)
end
end Go.Proofs.Ytfloekbmgjmhbaa
end

section
namespace Go.Proofs.Ytfloekbmgjmhbaa
open Go.ChangeShapes Go.WideShapes Go.ChangeAt Go.RowKit
set_option linter.unusedVariables false
set_option maxRecDepth 20000

/-- Blocks below base, and blocks that hold neither flits nor lists of flits, stay as they are. -/
structure KeptN (base : Nat) (w w' : World) : Prop where
  b : Below base w w'
  s : w.heap.size ≤ w'.heap.size
  k : ∀ g t cs, t ≠ 120 → t ≠ 91 → Blk w g t cs → Blk w' g t cs
theorem keptN_gb {w w' : World} (base : Nat) (hb : base ≤ w.heap.size) (h : w.grownBy w' none) : KeptN base w w' := ⟨gb_below_none h hb, h.size, fun g t cs _ _ hk => hk.grown h (by simp)⟩
theorem KeptN.trans {base : Nat} {a b c : World} (h : KeptN base a b) (k : KeptN base b c) : KeptN base a c := ⟨h.b.trans k.b, Nat.le_trans h.s k.s, fun g t cs h1 h2 hk => k.k g t cs h1 h2 (h.k g t cs h1 h2 hk)⟩
section
variable (y : Na) (N : Nt) (base E g f c : Nat) (vb vs va : List Value) (A : Option Addr) (X D : List Flt) (w : World)
set_option maxHeartbeats 1600000 in
theorem implEnter_yes (hr : NetRows w base E y N vb vs va) (hA : y.so.A = some ⟨g, 0, none⟩) (hX : N.so[f]? = some X) (hx1 : X.length + D.length ≤ 60) (h : RecAt 5 fltC w w.heap.size A D.length D) (hb : base ≤ w.heap.size) :
    Calls Try.prog 81 #[.pointer (some ⟨g, f, none⟩), .slice A D.length c] w fun e w' => e = .returned (.bool true) ∧ (∃ vs', NetRows w' base w'.heap.size y {N with so := N.so.set f (X ++ D)} vb vs' va) ∧ KeptN base w w' := by
  obtain ⟨j0, fi, fz0, fz1, fz2⟩ := info_parts info_flt
  have hfl := (List.getElem?_eq_some_iff.1 hX).1
  have hlsf : f < vs.length := by rw [hr.ls]; exact hfl
  obtain ⟨u, hu⟩ : ∃ u, vs[f]? = some u := ⟨_, List.getElem?_eq_getElem hlsf⟩
  have hou := hr.so.fam.row f u X hu hX
  obtain ⟨Au, cu, rfl, _⟩ := own_form hou
  have hhd := hr.so.hd
  rw [hA] at hhd
  have hel := hhd.cellAt f (by rw [Nat.mul_one]; exact hfl)
  rw [hu] at hel
  have nty : (Value.slice Au X.length cu).ownBlock ≠ some g := fun e => own_typesG hou hhd (by decide) e rfl
  have HOU := Lib.hid hou
  have HIN := Lib.hid h
  have HD := Lib.hid hhd
  have HR := Lib.hid hr
  have HU := Lib.hid hu
  have HAA := Lib.hid hA
  have NTY := Lib.hid nty
  have HFL := Lib.hid hfl
  obtain ⟨n, hn⟩ : ∃ n, X.length = n := ⟨_, rfl⟩
  obtain ⟨m, hm⟩ : ∃ m, D.length = m := ⟨_, rfl⟩
  have HN := Lib.hid hn
  have HM := Lib.hid hm
  rw [hn] at hel hx1 HOU NTY HU
  rw [hm] at hx1 HIN
  rw [hm]
  have e1 : IntKind.i64.wrap ((n : Int) + (m : Int)) = ((n + m : Nat) : Int) := by rw [IntWalk.i64_in _ (by omega)]; omega
  have e2 : ¬ ((n + m : Nat) : Int) > 60 := by omega
  clear hr hA hX h hfl hlsf hu hou hhd nty hn hm
  go_enter Try.func81, Try.ntmps81
  go_wp2_with (at_builtin; refine wpList_app_atR fltL (by decide) Try.underlying91 _ rfl _ _ rfl j0 fi fz0 fz1 fz2 rfl (by decide) base n m c _ _ X D (.slice Au n cu) rfl rfl HOU.out HIN.out (by omega) hb ?_; intro v1 w1 hown1 hgrow1 hat1; obtain ⟨B1, d1, rfl, _⟩ := own_form hown1; have hh1 := row_keptR HD.out hgrow1 (fun j e1 e2 => by cases e2; exact NTY.out e1); have cc := hh1.cellAt f (by rw [Nat.mul_one]; exact HFL.out); have ff := hh1.frozenAt f; rw [HU.out] at cc; have O1 := Lib.hid hown1; have G1 := Lib.hid hgrow1; have A1 := Lib.hid hat1; have H1 := Lib.hid hh1; clear hown1 hgrow1 hat1 hh1)
  go_ret
  have o1 : w1.ownsRow base 120 5 (.slice B1 (n + m) d1) (X ++ D).length (recV fltC (X ++ D)) := by rw [List.length_append, HN.out, HM.out]; exact O1.out
  obtain ⟨p1, p2⟩ := HR.out.putSo HU.out HAA.out G1.out o1 (fun k hk => (A1.out k hk).elim .inl (fun e => .inr (by omega)))
  refine ⟨rfl, ⟨_, p1⟩, ⟨((Below.refl base w).grown G1.out hb (fun j e => (HOU.out.lt j e).1)).grown p2 (Nat.le_trans hb G1.out.size) (fun j e => by cases e; exact (HD.out.lt _ rfl).1), Nat.le_trans G1.out.size p2.size, fun q t cs h1 h2 hk => ?_⟩⟩
  refine (hk.grown G1.out (fun e => own_ne HOU.out hk (Ne.symm h1) e.symm)).grown p2 (fun e => ?_)
  injection e with e
  subst e
  exact own_ne HD.out hk (Ne.symm h2) rfl
set_option maxHeartbeats 1600000 in
theorem implEnter_no (hr : NetRows w base E y N vb vs va) (hA : y.so.A = some ⟨g, 0, none⟩) (hX : N.so[f]? = some X) (hx0 : X.length ≤ 60) (hx1 : D.length ≤ 60) (hx2 : ¬ X.length + D.length ≤ 60) :
    Calls Try.prog 81 #[.pointer (some ⟨g, f, none⟩), .slice A D.length c] w fun e w' => e = .returned (.bool false) ∧ w' = w := by
  have hfl := (List.getElem?_eq_some_iff.1 hX).1
  have hlsf : f < vs.length := by rw [hr.ls]; exact hfl
  obtain ⟨u, hu⟩ : ∃ u, vs[f]? = some u := ⟨_, List.getElem?_eq_getElem hlsf⟩
  have hou := hr.so.fam.row f u X hu hX
  obtain ⟨Au, cu, rfl, _⟩ := own_form hou
  have hhd := hr.so.hd
  rw [hA] at hhd
  have hel := hhd.cellAt f (by rw [Nat.mul_one]; exact hfl)
  rw [hu] at hel
  obtain ⟨n, hn⟩ : ∃ n, X.length = n := ⟨_, rfl⟩
  obtain ⟨m, hm⟩ : ∃ m, D.length = m := ⟨_, rfl⟩
  rw [hn] at hel hx0 hx2
  rw [hm] at hx1 hx2
  rw [hm]
  have e1 : IntKind.i64.wrap ((n : Int) + (m : Int)) = ((n + m : Nat) : Int) := by rw [IntWalk.i64_in _ (by omega)]; omega
  have e2 : ((n + m : Nat) : Int) > 60 := by omega
  clear hr hA hX hfl hlsf hu hou hhd hn hm
  go_enter Try.func81, Try.ntmps81
  go_wp2_with fail
  go_ret
  exact ⟨rfl, rfl⟩
end
end Go.Proofs.Ytfloekbmgjmhbaa
end

section
namespace Go.Proofs.Ytfloekbmgjmhbaa
open Go.ChangeShapes Go.WideShapes Go.ChangeAt Go.RowKit
set_option linter.unusedVariables false

theorem boxi_blk {w w1 : World} {T : TypeId} {cs : Array Value} (h : (w.alloc (.cells cs T)).grownBy w1 none) : Blk w1 w.heap.size T cs := (Blk.new w T cs).grown h (by simp)
theorem boxi_gb {w w1 : World} {o : Obj} (h : (w.alloc o).grownBy w1 none) : w.grownBy w1 none := gb_trans (gb_alloc (gb_refl _ _) _) h

theorem implGridOk (W H : Int) (w : World) :
    Calls Try.prog 77 #[.agg #[.int .i64 W, .int .i64 H]] w (RetB (okG W H) w) := by
  by_cases h1 : W ≥ 1 <;> by_cases h2 : W ≤ 4 <;> by_cases h3 : H ≥ 1 <;> by_cases h4 : H ≤ 4
  all_goals first | (exfalso; omega) | skip
  all_goals
    go_enter Try.func77, Try.ntmps77
    go_wp2_with fail
    go_ret
    exact ⟨ret_bool (by simp [okG] <;> omega), gb_alloc (gb_refl _ _) _⟩

theorem implNodeCount (W H : Int) (w : World) :
    Calls Try.prog 37 #[.agg #[.int .i64 W, .int .i64 H]] w (RetI (countG W H) none w) := by
  cases hok : okG W H with
  | true =>
    obtain ⟨hW, hH⟩ := okG_cases hok
    have hm : wrap64 (W * H) = countG W H := by
      simp only [countG, hok, if_true]
      rcases hW with rfl | rfl | rfl | rfl <;> rcases hH with rfl | rfl | rfl | rfl <;> exact IntWalk.wrap64_in _ (by omega)
    have Hm := Lib.hid hm
    clear hW hH hm
    go_enter Try.func37, Try.ntmps37
    go_wp2_with fail
    refine (implGridOk W H _).mono ?_
    rintro e w1 ⟨rfl, hg⟩
    have hb := boxi_blk hg
    have c0 : w1.cell? ⟨w.heap.size, 0, none⟩ = some (.int .i64 W) := hb.cell 0
    have c1 : w1.cell? ⟨w.heap.size, 1, none⟩ = some (.int .i64 H) := hb.cell 1
    have Hg := Lib.hid hg
    clear hg hb
    rw [hok]
    go_wp2_with fail
    go_ret
    exact ⟨ret_int64 (by rw [← Hm.out]), boxi_gb Hg.out⟩
  | false =>
    go_enter Try.func37, Try.ntmps37
    go_wp2_with fail
    refine (implGridOk W H _).mono ?_
    rintro e w1 ⟨rfl, hg⟩
    rw [hok]
    go_wp2_with fail
    go_ret
    exact ⟨ret_int64 (by simp [countG, hok]), boxi_gb hg⟩

theorem implHasNode (W H n : Int) (w : World) :
    Calls Try.prog 110 #[.agg #[.int .i64 W, .int .i64 H], .int .i64 n] w (RetB (hasG W H n) w) := by
  obtain ⟨k, hk⟩ : ∃ k, countG W H = k := ⟨_, rfl⟩
  by_cases h0 : n ≥ 0
  · by_cases h1 : n < k
    all_goals
      go_enter Try.func110, Try.ntmps110
      go_wp2_with fail
      refine (implNodeCount W H _).mono ?_
      rintro e w1 ⟨rfl, hg⟩
      rw [hk]
      go_wp2_with fail
      go_ret
      exact ⟨ret_bool (by simp [hasG, hk]; omega), boxi_gb hg⟩
  · go_enter Try.func110, Try.ntmps110
    go_wp2_with fail
    go_ret
    exact ⟨ret_bool (by simp [hasG, hk]; omega), gb_alloc (gb_refl _ _) _⟩
end Go.Proofs.Ytfloekbmgjmhbaa
end

section
namespace Go.Proofs.Ytfloekbmgjmhbaa
open Go.ChangeShapes Go.WideShapes Go.ChangeAt Go.RowKit
set_option linter.unusedVariables false
set_option maxRecDepth 20000

theorem implIsClass (c : Int) (b : Bool) (hb : decide (0 ≤ c ∧ c ≤ 1) = b) (w : World) :
    Calls Try.prog 111 #[.int .i64 c] w fun e w' => e = .returned (.bool b) ∧ w = w' := by
  have HB := Lib.hid hb
  clear hb
  by_cases h0 : c = 0
  · have HN := Lib.hid (show true = b by rw [← HB.out]; exact (decide_eq_true (by omega)).symm)
    subst h0
    go_enter Try.func111, Try.ntmps111
    go_wp2_with fail
    go_ret
    exact ⟨ret_bool HN.out, rfl⟩
  · have HN := Lib.hid (show (c == 1) = b by rw [← HB.out]; exact Bool.eq_iff_iff.2 (by simp; omega))
    have q0 : (c == 0) = false := by simpa using h0
    go_enter Try.func111, Try.ntmps111
    go_wp2_with fail
    go_ret
    exact ⟨ret_bool (by first | exact HN.out | (rw [← HN.out]; simp)), rfl⟩
theorem hasNV (W H n : Int) (b : Bool) (h : hasG W H n = b) (w : World) :
    Calls Try.prog 110 #[.agg #[.int .i64 W, .int .i64 H], .int .i64 n] w (RetB b w) := h ▸ implHasNode W H n w
theorem pk_bad {W H : Int} {p : Pkt} {b : Bool} (hb : pktOk W H p = b) (h : ¬ ((1 ≤ p.id ∧ p.id ≤ 9999) ∧ hasG W H p.fr = true ∧ hasG W H p.to = true ∧ p.fr ≠ p.to ∧ (0 ≤ p.cl ∧ p.cl ≤ 1) ∧ (1 ≤ p.ln ∧ p.ln ≤ 5))) : false = b := by
  subst hb
  cases hk : pktOk W H p with
  | false => rfl
  | true => exact absurd (pktOk_iff.1 hk) h

set_option maxHeartbeats 1600000 in
theorem implPacketOkV (W H : Int) (p : Pkt) (b : Bool) (hb : pktOk W H p = b) (w : World) :
    Calls Try.prog 109 #[.agg #[.int .i64 W, .int .i64 H], pktX p] w (RetB b w) := by
  have X0 := Lib.hid (pkAt_start (W := W) (H := H) (p := p) (w := w))
  unfold pktX
  have HHS := Lib.hid (fun (n : Int) (b : Bool) (h : hasG W H n = b) w => hasNV W H n b h w)
  have HBAD := Lib.hid (pk_bad hb)
  have HB := Lib.hid hb
  clear hb
  obtain ⟨a0, a1, a2, a3, a4, a5, a6⟩ := X0.out.cells
  cases hb2 : hasG W H p.fr with
  | false =>
    have C1 := Lib.hid (HHS.out p.fr false hb2)
    have R := Lib.hid (HBAD.out (by rw [hb2]; simp))
    clear hb2
    go_enter Try.func109, Try.ntmps109
    go_wp2_with fail
    refine (C1.out _).mono ?_
    rintro e w2 ⟨rfl, g2⟩
    have X2 := Lib.hid (X0.out.gb g2)
    clear g2 a0 a1 a2 a3 a4 a5 a6
    go_wp2_with fail
    go_ret
    exact ⟨ret_bool R.out, X2.out.gb0⟩
  | true =>
    have C1 := Lib.hid (HHS.out p.fr true hb2)
    cases hb3 : hasG W H p.to with
    | false =>
      have C2 := Lib.hid (HHS.out p.to false hb3)
      have R := Lib.hid (HBAD.out (by rw [hb3]; simp))
      clear hb2 hb3
      go_enter Try.func109, Try.ntmps109
      go_wp2_with fail
      refine (C1.out _).mono ?_
      rintro e w2 ⟨rfl, g2⟩
      have X2 := Lib.hid (X0.out.gb g2)
      clear g2 a0 a1 a2 a3 a4 a5 a6
      obtain ⟨a0, a1, a2, a3, a4, a5, a6⟩ := X2.out.cells
      go_wp2_with fail
      refine (C2.out _).mono ?_
      rintro e w3 ⟨rfl, g3⟩
      have X3 := Lib.hid (X2.out.gb g3)
      clear g3 a0 a1 a2 a3 a4 a5 a6
      go_wp2_with fail
      go_ret
      exact ⟨ret_bool R.out, X3.out.gb0⟩
    | true =>
      have C2 := Lib.hid (HHS.out p.to true hb3)
      by_cases hb4 : p.fr = p.to
      · have R := Lib.hid (HBAD.out (fun h => h.2.2.2.1 hb4))
        have q4 : (p.fr == p.to) = true := by simp [hb4]
        clear hb2 hb3 hb4
        go_enter Try.func109, Try.ntmps109
        go_wp2_with fail
        refine (C1.out _).mono ?_
        rintro e w2 ⟨rfl, g2⟩
        have X2 := Lib.hid (X0.out.gb g2)
        clear g2 a0 a1 a2 a3 a4 a5 a6
        obtain ⟨a0, a1, a2, a3, a4, a5, a6⟩ := X2.out.cells
        go_wp2_with fail
        refine (C2.out _).mono ?_
        rintro e w3 ⟨rfl, g3⟩
        have X3 := Lib.hid (X2.out.gb g3)
        clear g3 a0 a1 a2 a3 a4 a5 a6
        obtain ⟨a0, a1, a2, a3, a4, a5, a6⟩ := X3.out.cells
        go_wp2_with fail
        go_ret
        exact ⟨ret_bool R.out, X3.out.gb0⟩
      · have q4 : (p.fr == p.to) = false := by simpa using hb4
        obtain ⟨bc, hbc⟩ : ∃ bc, decide (0 ≤ p.cl ∧ p.cl ≤ 1) = bc := ⟨_, rfl⟩
        have C3 := Lib.hid (implIsClass p.cl bc hbc)
        have R := Lib.hid (show (decide (1 ≤ p.id) && (decide (p.id ≤ 9999) && (bc && (decide (1 ≤ p.ln) && decide (p.ln ≤ 5))))) = b by
          rw [← HB.out, pktOk, hb2, hb3, ← hbc, decide_eq_true hb4]
          exact Bool.eq_iff_iff.2 (by simp; omega))
        clear hb2 hb3 hb4 hbc
        by_cases i1 : p.id ≥ 1 <;> by_cases i2 : p.id ≤ 9999 <;> cases bc <;> by_cases i3 : p.ln ≥ 1 <;> by_cases i4 : p.ln ≤ 5
        all_goals first | (exfalso; omega) | skip
        all_goals
          have R2 := Lib.hid (show b = _ from by have h := R.out; simp [i1, i2, i3, i4] at h; exact h)
          clear R
          go_enter Try.func109, Try.ntmps109
          go_wp2_with fail
          refine (C1.out _).mono ?_
          rintro e w2 ⟨rfl, g2⟩
          have X2 := Lib.hid (X0.out.gb g2)
          clear g2 a0 a1 a2 a3 a4 a5 a6
          obtain ⟨a0, a1, a2, a3, a4, a5, a6⟩ := X2.out.cells
          go_wp2_with fail
          refine (C2.out _).mono ?_
          rintro e w3 ⟨rfl, g3⟩
          have X3 := Lib.hid (X2.out.gb g3)
          clear g3 a0 a1 a2 a3 a4 a5 a6
          obtain ⟨a0, a1, a2, a3, a4, a5, a6⟩ := X3.out.cells
          go_wp2_with fail
          try
            refine (C3.out _).mono ?_
            rintro e w4 ⟨rfl, rfl⟩
            go_wp2_with fail
          go_ret
          exact ⟨ret_bool (by rw [R2.out]; first | done | (simp; done) | (simp; omega)), X3.out.gb0⟩
theorem implPacketOk (W H : Int) (p : Pkt) (w : World) :
    Calls Try.prog 109 #[.agg #[.int .i64 W, .int .i64 H], pktX p] w (RetB (pktOk W H p) w) := implPacketOkV W H p _ rfl w

set_option maxHeartbeats 1600000 in
theorem implFlitsOf (W H : Int) (p : Pkt) (w : World) :
    Calls Try.prog 80 #[.agg #[.int .i64 W, .int .i64 H], pktX p] w (NewF (flitsG W H p) w) := by
  obtain ⟨i0, hi, hz0, hz1, hz2⟩ := info_parts info_flt
  have X0 := Lib.hid (pkAt_start (W := W) (H := H) (p := p) (w := w))
  unfold pktX
  obtain ⟨a0, a1, a2, a3, a4, a5, a6⟩ := X0.out.cells
  cases hok : pktOk W H p with
  | false =>
    have HP := Lib.hid (fun w => implPacketOkV W H p false hok w)
    rw [flitsG_no hok]
    clear hok
    go_enter Try.func80, Try.ntmps80
    go_wp2_with fail
    refine (HP.out _).mono ?_
    rintro e w1 ⟨rfl, g1⟩
    have X1 := Lib.hid (X0.out.gb g1)
    clear g1 a0 a1 a2 a3 a4 a5 a6
    go_wp2_with fail
    go_ret
    exact ⟨_, rfl, World.ownsRow_nil _ _ _ _, gb_below_none X1.out.gb0 (Nat.le_refl _)⟩
  | true =>
    have HP := Lib.hid (fun w => implPacketOkV W H p true hok w)
    rw [flitsG_yes hok]
    have hln := (pktOk_iff.1 hok).2.2.2.2.2
    obtain ⟨m, hm⟩ : ∃ m : Nat, p.ln.toNat = m := ⟨_, rfl⟩
    have hmi : p.ln = (m : Int) := by omega
    have hm5 : m ≤ 5 := by omega
    have hm1 : 1 ≤ m := by omega
    have HFA := Lib.hid (fun k => show flitAt p k = ⟨p.id, p.to, p.cl, decide (k = 0), decide ((k : Int) = (m : Int) - 1)⟩ by rw [flitAt, hmi])
    rw [hm]
    have HMI := Lib.hid hmi
    rw [hmi] at a6
    clear hok hln hm hmi
    go_enter Try.func80, Try.ntmps80
    go_wp2_with fail
    refine (HP.out _).mono ?_
    rintro e w1 ⟨rfl, g1⟩
    have X1 := Lib.hid (X0.out.gb g1)
    clear g1 a0 a1 a2 a3 a4 a5 a6
    obtain ⟨a0, a1, a2, a3, a4, a5, a6⟩ := X1.out.cells
    rw [HMI.out] at a6
    go_wp2_with (at_make; refine wpList_make_full _ rfl _ _ 91 rfl w.heap.size 120 i0 (fltX flt0) 5 Try.underlying91 hi hz0 hz1 .i64 .i64 _ _ m rfl rfl (by omega) (by omega) (by rw [hz2]; omega) (by unfold maxLen; omega) X1.out.gb0.size ?_; intro w2 hown2 hgrow2)
    have ho2 : w2.ownsRow w.heap.size 120 5 (.slice (some ⟨w1.heap.size, 0, none⟩) m m) m (recV fltC (fillF (flitsTo p m) m 0)) := by rw [fillF_zero, ← madeFlts m]; exact hown2
    have HO2 := Lib.hid ho2
    have X2 := Lib.hid (X1.out.gb hgrow2)
    have HF := Lib.hid (fun (k : Nat) (h : k < m) => show (fillF (flitsTo p m) m k).set k ⟨p.id, p.to, p.cl, decide (k = 0), decide ((k : Int) = (m : Int) - 1)⟩ = fillF (flitsTo p m) m (k + 1) by rw [← HFA.out]; exact fillF_next _ _ _ _ (flitsTo_at h))
    have HA := Lib.hid (show fillF (flitsTo p m) m m = flitsTo p m from fillF_all _ _ (flitsTo_length p m))
    obtain ⟨g, hgg⟩ : ∃ g, w1.heap.size = g := ⟨_, rfl⟩
    have hg2 : w.heap.size + 2 ≤ g := by have := X1.out.p.lt; omega
    rw [hgg] at HO2 ⊢
    have e1 : IntKind.i64.wrap ((m : Int) - 1) = (m : Int) - 1 := IntWalk.i64_in _ (by omega)
    clear hown2 hgrow2 ho2 a0 a1 a2 a3 a4 a5 a6 hgg HP
    go_loopw [6, 16] (fun _ i wr => ∃ k : Nat, k ≤ m ∧ i = .int .i64 (k : Int) ∧ wr.ownsRow w.heap.size 120 5 (.slice (some ⟨g, 0, none⟩) m m) m (recV fltC (fillF (flitsTo p m) m k)) ∧ Blk wr (w.heap.size + 1) 44 #[.int .i64 p.id, .int .i64 p.fr, .int .i64 p.to, .int .i64 p.cl, .int .i64 p.ln] ∧ Below w.heap.size w wr) (fun _ i _ => m - (intOf i).toNat)
    case atStart => exact ⟨0, Nat.zero_le _, rfl, HO2.out, X2.out.p, gb_below_none X2.out.gb0 (Nat.le_refl _)⟩
    case round =>
      obtain ⟨k, hk, rfl, hown, hp, hbel⟩ := hrel
      have HB := Lib.hid hbel
      have HO := Lib.hid hown
      have HP := Lib.hid hp
      by_cases hlt : k < m
      · have b2 : wr.cell? ⟨w.heap.size + 1, 0, none⟩ = some (.int .i64 p.id) := hp.cell 0
        have b4 : wr.cell? ⟨w.heap.size + 1, 2, none⟩ = some (.int .i64 p.to) := hp.cell 2
        have b5 : wr.cell? ⟨w.heap.size + 1, 3, none⟩ = some (.int .i64 p.cl) := hp.cell 3
        have b6 : wr.cell? ⟨w.heap.size + 1, 4, none⟩ = some (.int .i64 (m : Int)) := by rw [← HMI.out]; exact hp.cell 4
        have k0 : (0 : Int) ≤ (k : Int) := by omega
        have k1 : (k : Int) < (m : Int) := by omega
        obtain ⟨t1, ht1⟩ : ∃ t, decide (k = 0) = t := ⟨_, rfl⟩
        obtain ⟨t2, ht2⟩ : ∃ t, decide ((k : Int) = (m : Int) - 1) = t := ⟨_, rfl⟩
        have u1 : ((k : Int) == 0) = t1 := by rw [← ht1]; by_cases h : k = 0 <;> simp [h]
        have u2 : ((k : Int) == (m : Int) - 1) = t2 := by rw [← ht2]; by_cases h : (k : Int) = (m : Int) - 1 <;> simp [h]
        have HFk := Lib.hid (show (fillF (flitsTo p m) m k).set k ⟨p.id, p.to, p.cl, t1, t2⟩ = fillF (flitsTo p m) m (k + 1) by rw [← ht1, ← ht2]; exact HF.out k hlt)
        have hsz5 : (#[.int .i64 p.id, .int .i64 p.to, .int .i64 p.cl, .bool t1, .bool t2] : Array Value).size = 5 := rfl
        have HTH := Lib.hid (show wr.there g (k * 5) (#[.int .i64 p.id, .int .i64 p.to, .int .i64 p.cl, .bool t1, .bool t2] : Array Value).size by rw [hsz5]; exact there_ownF HO.out hlt)
        clear hown hbel hp hsz5 ht1 ht2
        go_wp2_with (refine wpList_store_mid rfl 120 (.tmp 35) (.tmp 34) rfl g (k * 5) #[.int .i64 p.id, .int .i64 p.to, .int .i64 p.cl, .bool t1, .bool t2] ?_ ?_ ?_ ?_ ?_ ?_; rfl; rfl; exact HTH.out; (rw [hi]; simp [hz1]); (simp [Value.oneCell']))
        have X5 := Lib.hid (stored_ownF HO.out k ⟨p.id, p.to, p.cl, t1, t2⟩)
        have O5 := Lib.hid (show (wr.setCells g (k * 5) [.int .i64 p.id, .int .i64 p.to, .int .i64 p.cl, .bool t1, .bool t2]).ownsRow w.heap.size 120 5 (.slice (some ⟨g, 0, none⟩) m m) m (recV fltC (fillF (flitsTo p m) m (k + 1))) by rw [← HFk.out]; exact X5.out.1)
        have P5 := Lib.hid (HP.out.grown X5.out.2 (by simp; omega))
        have B5 := Lib.hid (HB.out.grown X5.out.2 HB.out.size (fun j e => by cases e; omega))
        go_roundw
        case rel => exact ⟨k + 1, by omega, by go_num, O5.out, P5.out, B5.out⟩
        case measure => simp [intOf]; omega
      · obtain rfl : k = m := by omega
        have k1 : ¬ (k : Int) < (k : Int) := by omega
        clear hown hbel hp
        go_wp2_with fail
        go_ret
        have h3 := HO.out
        rw [HA.out] at h3
        exact ⟨_, rfl, by rw [flitsTo_length]; exact h3, HB.out⟩
end Go.Proofs.Ytfloekbmgjmhbaa
end

section
namespace Go.Proofs.Ytfloekbmgjmhbaa
open Go.ChangeShapes Go.WideShapes Go.ChangeAt Go.RowKit
set_option linter.unusedVariables false
set_option maxRecDepth 20000

set_option maxHeartbeats 3200000 in
theorem implSend (y : Na) (N : Nt) (p : Pkt) (g0 base E : Nat) (w : World) (hbx : Blk w g0 38 #[.int .i64 N.W, .int .i64 N.H, .slice y.br.A N.br.length y.br.c, .slice y.ta.A N.ta.length y.ta.c, .slice y.tb.A N.tb.length y.tb.c, .slice y.bu.A N.bu.length y.bu.c, .slice y.ow.A N.ow.length y.ow.c, .slice y.tu.A N.tu.length y.tu.c, .slice y.so.A N.so.length y.so.c, .slice y.ar.A N.ar.length y.ar.c, .int .i64 N.ti]) (hr : NetOwn w base E y N) (hok : netOk N = true) (hbs : base ≤ w.heap.size) (hEs : E ≤ w.heap.size) :
    Calls Try.prog 39 #[.pointer (some ⟨g0, 0, none⟩), .agg #[.int .i64 p.id, .int .i64 p.fr, .int .i64 p.to, .int .i64 p.cl, .int .i64 p.ln]] w fun e w' => e = .returned (.bool (sendOk N p)) ∧ NetOwn w' base w'.heap.size y (sendG N p) ∧ KeptN base w w' := by
  obtain ⟨D, hD⟩ : ∃ D, flitsG N.W N.H p = D := ⟨_, rfl⟩
  have HFO := Lib.hid (fun w' => by have h := implFlitsOf N.W N.H p w'; rw [hD] at h; exact h)
  have k0 := hbx.alloc (.cells #[.int .i64 p.id, .int .i64 p.fr, .int .i64 p.to, .int .i64 p.cl, .int .i64 p.ln] 44)
  have k1 := Blk.new w 44 #[.int .i64 p.id, .int .i64 p.fr, .int .i64 p.to, .int .i64 p.cl, .int .i64 p.ln]
  have ge := gb_alloc (gb_refl w none) (.cells #[.int .i64 p.id, .int .i64 p.fr, .int .i64 p.to, .int .i64 p.cl, .int .i64 p.ln] 44)
  have hsz : (w.alloc (.cells #[.int .i64 p.id, .int .i64 p.fr, .int .i64 p.to, .int .i64 p.cl, .int .i64 p.ln] 44)).heap.size = w.heap.size + 1 := by rw [alloc_size]
  have hlt := hbx.lt
  go_enter Try.func39, Try.ntmps39
  go_wp2_with fail
  generalize w.alloc (.cells #[.int .i64 p.id, .int .i64 p.fr, .int .i64 p.to, .int .i64 p.cl, .int .i64 p.ln] 44) = w0 at *
  have KB : Hid (Blk w0 g0 38 #[.int .i64 N.W, .int .i64 N.H, .slice y.br.A N.br.length y.br.c, .slice y.ta.A N.ta.length y.ta.c, .slice y.tb.A N.tb.length y.tb.c, .slice y.bu.A N.bu.length y.bu.c, .slice y.ow.A N.ow.length y.ow.c, .slice y.tu.A N.tu.length y.tu.c, .slice y.so.A N.so.length y.so.c, .slice y.ar.A N.ar.length y.ar.c, .int .i64 N.ti]) := Lib.hid k0
  have KP : Hid (Blk w0 w.heap.size 44 #[.int .i64 p.id, .int .i64 p.fr, .int .i64 p.to, .int .i64 p.cl, .int .i64 p.ln]) := Lib.hid k1
  have GE := Lib.hid ge
  have SZ := Lib.hid hsz
  have HR := Lib.hid (hr.gb ge)
  have HDD := Lib.hid hD
  have CB := Lib.hid (show ∀ wr, w0.grownBy wr none → wr.cell? ⟨g0, 0, none⟩ = some (.int .i64 N.W) ∧ wr.cell? ⟨g0, 1, none⟩ = some (.int .i64 N.H) ∧ wr.cell? ⟨g0, 8, none⟩ = some (.slice y.so.A N.so.length y.so.c) ∧ wr.cell? ⟨w.heap.size, 0, none⟩ = some (.int .i64 p.id) ∧ wr.cell? ⟨w.heap.size, 1, none⟩ = some (.int .i64 p.fr) ∧ wr.cell? ⟨w.heap.size, 2, none⟩ = some (.int .i64 p.to) ∧ wr.cell? ⟨w.heap.size, 3, none⟩ = some (.int .i64 p.cl) ∧ wr.cell? ⟨w.heap.size, 4, none⟩ = some (.int .i64 p.ln) from fun wr hg => by
    have ga := KB.out.grown hg (by simp)
    have gb := KP.out.grown hg (by simp)
    exact ⟨ga.cell 0, ga.cell 1, ga.cell 8, gb.cell 0, gb.cell 1, gb.cell 2, gb.cell 3, gb.cell 4⟩)
  clear k0 k1 ge hsz hr hbx
  obtain ⟨a0, a1, a8, p0, p1, p2, p3, p4⟩ := CB.out w0 (gb_refl _ _)
  refine wp_region_held_drew (S := (fun w' => w'.cell? ⟨g0, 0, none⟩ = some (.int .i64 N.W) ∧ w'.cell? ⟨g0, 1, none⟩ = some (.int .i64 N.H) ∧ w'.cell? ⟨g0, 8, none⟩ = some (.slice y.so.A N.so.length y.so.c) ∧ w'.cell? ⟨w.heap.size, 0, none⟩ = some (.int .i64 p.id) ∧ w'.cell? ⟨w.heap.size, 1, none⟩ = some (.int .i64 p.fr) ∧ w'.cell? ⟨w.heap.size, 2, none⟩ = some (.int .i64 p.to) ∧ w'.cell? ⟨w.heap.size, 3, none⟩ = some (.int .i64 p.cl) ∧ w'.cell? ⟨w.heap.size, 4, none⟩ = some (.int .i64 p.ln))) (by kernel_rfl) (⟨a0, a1, a8, p0, p1, p2, p3, p4⟩) (fun hHeld => ?_)
  refine wpAnyH_take (i := 0) (v := ?_) rfl (by kernel_rfl) (by kernel_rfl) (by kernel_rfl) (fun _ _ _ h => h) (Or.inl ⟨by rfl, ?_⟩) (by assumption) ?_
  rotate_left
  · intro wq hSw; (try dsimp only at hSw); go_simp; (try with_reducible rfl)
  simp only [List.getElem_toArray, List.getElem_cons_zero, Act.put, List.setIfInBounds_toArray, List.set_cons_zero, List.set_cons_succ]
  refine wpAnyH_take (i := 1) (v := ?_) rfl (by kernel_rfl) (by kernel_rfl) (by kernel_rfl) (fun _ _ _ h => h) (Or.inl ⟨by rfl, ?_⟩) (by assumption) ?_
  rotate_left
  · intro wq hSw; (try dsimp only at hSw); go_simp; (try with_reducible rfl)
  simp only [List.getElem_toArray, List.getElem_cons_succ, List.getElem_cons_zero, Act.put, List.setIfInBounds_toArray, List.set_cons_zero, List.set_cons_succ]
  refine wpAnyH_take (i := 2) (v := ?_) rfl (by kernel_rfl) (by kernel_rfl) (by kernel_rfl) (fun _ _ _ h => h) (Or.inl ⟨by rfl, ?_⟩) (by assumption) ?_
  rotate_left
  · intro wq hSw; (try dsimp only at hSw); go_simp; (try with_reducible rfl)
  simp only [List.getElem_toArray, List.getElem_cons_succ, List.getElem_cons_zero, Act.put, List.setIfInBounds_toArray, List.set_cons_zero, List.set_cons_succ]
  refine wpAnyH_take (i := 3) (v := ?_) rfl (by kernel_rfl) (by kernel_rfl) (by kernel_rfl) (fun _ _ _ h => h) (Or.inl ⟨by rfl, ?_⟩) (by assumption) ?_
  rotate_left
  · intro wq hSw; (try dsimp only at hSw); go_simp; (try with_reducible rfl)
  simp only [List.getElem_toArray, List.getElem_cons_succ, List.getElem_cons_zero, Act.put, List.setIfInBounds_toArray, List.set_cons_zero, List.set_cons_succ]
  refine wpAnyH_take (i := 4) (v := ?_) rfl (by kernel_rfl) (by kernel_rfl) (by kernel_rfl) (fun _ _ _ h => h) (Or.inl ⟨by rfl, ?_⟩) (by assumption) ?_
  rotate_left
  · intro wq hSw; (try dsimp only at hSw); go_simp; (try with_reducible rfl)
  simp only [List.getElem_toArray, List.getElem_cons_succ, List.getElem_cons_zero, Act.put, List.setIfInBounds_toArray, List.set_cons_zero, List.set_cons_succ]
  refine wpAnyH_take (i := 5) (v := ?_) rfl (by kernel_rfl) (by kernel_rfl) (by kernel_rfl) (fun _ _ _ h => h) (Or.inl ⟨by rfl, ?_⟩) (by assumption) ?_
  rotate_left
  · intro wq hSw; (try dsimp only at hSw); go_simp; (try with_reducible rfl)
  simp only [List.getElem_toArray, List.getElem_cons_succ, List.getElem_cons_zero, Act.put, List.setIfInBounds_toArray, List.set_cons_zero, List.set_cons_succ]
  refine wpAnyH_ready (rs := [6]) (by kernel_rfl) (by simp) ?_
  refine AllReadyH.cons rfl (fun K hK => ?_) AllReadyH.nil
  go_simp
  refine (HFO.out _).mono ?_; rintro e w1 ⟨v, rfl, o1, b1⟩; obtain ⟨A1, c1, rfl, _⟩ := own_form o1; have G1 := Lib.hid (gb_drF (gb_of_below b1 none)); have RD := Lib.hid (recAt_own fltL (by decide) o1 (Nat.le_refl _)); clear o1 b1; obtain ⟨d0, d1, d8, q0, q1, q2, q3, q4⟩ := CB.out _ G1.out
  try go_wp2_with fail
  refine hK.out _ _ (⟨d0, d1, d8, q0, q1, q2, q3, q4⟩) (fun hHeld => ?_)
  clear hK K
  try simp only [List.getElem_toArray, List.getElem_cons_succ, List.getElem_cons_zero, Act.put, List.setIfInBounds_toArray, List.set_cons_zero, List.set_cons_succ]
  refine wpAnyH_take (i := 7) (v := ?_) rfl (by kernel_rfl) (by kernel_rfl) (by kernel_rfl) (fun _ _ _ h => h) (Or.inl ⟨by rfl, ?_⟩) (by assumption) ?_
  rotate_left
  · intro wq hSw; (try dsimp only at hSw); go_simp; (try with_reducible rfl)
  simp only [List.getElem_toArray, List.getElem_cons_succ, List.getElem_cons_zero, Act.put, List.setIfInBounds_toArray, List.set_cons_zero, List.set_cons_succ]
  refine wpAnyH_done (by kernel_rfl) ?_ _
  go_wp2_with fail
  have HR1 := Lib.hid (HR.out.gb G1.out)
  have S1 := Lib.hid G1.out.size
  have HBW := Lib.hid (show base ≤ w1.heap.size by have h1 := S1.out; have h2 := SZ.out; omega)
  clear a0 a1 a8 p0 p1 p2 p3 p4
  cases hpk : pktOk N.W N.H p with
  | false =>
    have HNO := Lib.hid (show sendOk N p = false by rw [sendOk, hok, hpk]; rfl)
    obtain rfl : D = [] := by rw [← hD]; exact flitsG_no hpk
    clear d0 d1 d8 q0 q1 q2 q3 q4
    clear hD hpk hok
    refine wp_region_held_drew (S := (fun _ => True)) (by kernel_rfl) (trivial) (fun hHeld => ?_)
    refine wpAnyH_take (i := 0) (v := ?_) rfl (by kernel_rfl) (by kernel_rfl) (by kernel_rfl) (fun _ _ _ h => h) (Or.inl ⟨by rfl, ?_⟩) (by assumption) ?_
    rotate_left
    · intro wq hSw; (try dsimp only at hSw); go_simp; (try with_reducible rfl)
    simp only [List.getElem_toArray, List.getElem_cons_zero, Act.put, List.setIfInBounds_toArray, List.set_cons_zero, List.set_cons_succ]
    refine wpAnyH_take (i := 1) (v := ?_) rfl (by kernel_rfl) (by kernel_rfl) (by kernel_rfl) (fun _ _ _ h => h) (Or.inl ⟨by rfl, ?_⟩) (by assumption) ?_
    rotate_left
    · intro wq hSw; (try dsimp only at hSw); go_simp; (try with_reducible rfl)
    simp only [List.getElem_toArray, List.getElem_cons_succ, List.getElem_cons_zero, Act.put, List.setIfInBounds_toArray, List.set_cons_zero, List.set_cons_succ]
    refine wpAnyH_take (i := 2) (v := ?_) rfl (by kernel_rfl) (by kernel_rfl) (by kernel_rfl) (fun _ _ _ h => h) (Or.inl ⟨by rfl, ?_⟩) (by assumption) ?_
    rotate_left
    · intro wq hSw; (try dsimp only at hSw); go_simp; (try with_reducible rfl)
    simp only [List.getElem_toArray, List.getElem_cons_succ, List.getElem_cons_zero, Act.put, List.setIfInBounds_toArray, List.set_cons_zero, List.set_cons_succ]
    refine wpAnyH_take (i := 3) (v := ?_) rfl (by kernel_rfl) (by kernel_rfl) (by kernel_rfl) (fun _ _ _ h => h) (Or.inl ⟨by rfl, ?_⟩) (by assumption) ?_
    rotate_left
    · intro wq hSw; (try dsimp only at hSw); go_simp; (try with_reducible rfl)
    simp only [List.getElem_toArray, List.getElem_cons_succ, List.getElem_cons_zero, Act.put, List.setIfInBounds_toArray, List.set_cons_zero, List.set_cons_succ]
    refine wpAnyH_take (i := 4) (v := undef) rfl (by kernel_rfl) (by kernel_rfl) (by kernel_rfl) (fun _ _ _ h => h) (Or.inr ⟨by rfl, rfl⟩) (by assumption) ?_
    simp only [List.getElem_toArray, List.getElem_cons_succ, List.getElem_cons_zero, Act.put, List.setIfInBounds_toArray, List.set_cons_zero, List.set_cons_succ]
    refine wpAnyH_take (i := 5) (v := undef) rfl (by kernel_rfl) (by kernel_rfl) (by kernel_rfl) (fun _ _ _ h => h) (Or.inr ⟨by rfl, rfl⟩) (by assumption) ?_
    simp only [List.getElem_toArray, List.getElem_cons_succ, List.getElem_cons_zero, Act.put, List.setIfInBounds_toArray, List.set_cons_zero, List.set_cons_succ]
    refine wpAnyH_take (i := 6) (v := undef) rfl (by kernel_rfl) (by kernel_rfl) (by kernel_rfl) (fun _ _ _ h => h) (Or.inr ⟨by rfl, rfl⟩) (by assumption) ?_
    simp only [List.getElem_toArray, List.getElem_cons_succ, List.getElem_cons_zero, Act.put, List.setIfInBounds_toArray, List.set_cons_zero, List.set_cons_succ]
    refine wpAnyH_take (i := 7) (v := undef) rfl (by kernel_rfl) (by kernel_rfl) (by kernel_rfl) (fun _ _ _ h => h) (Or.inr ⟨by rfl, rfl⟩) (by assumption) ?_
    simp only [List.getElem_toArray, List.getElem_cons_succ, List.getElem_cons_zero, Act.put, List.setIfInBounds_toArray, List.set_cons_zero, List.set_cons_succ]
    refine wpAnyH_take (i := 8) (v := undef) rfl (by kernel_rfl) (by kernel_rfl) (by kernel_rfl) (fun _ _ _ h => h) (Or.inr ⟨by rfl, rfl⟩) (by assumption) ?_
    simp only [List.getElem_toArray, List.getElem_cons_succ, List.getElem_cons_zero, Act.put, List.setIfInBounds_toArray, List.set_cons_zero, List.set_cons_succ]
    refine wpAnyH_take (i := 9) (v := undef) rfl (by kernel_rfl) (by kernel_rfl) (by kernel_rfl) (fun _ _ _ h => h) (Or.inr ⟨by rfl, rfl⟩) (by assumption) ?_
    simp only [List.getElem_toArray, List.getElem_cons_succ, List.getElem_cons_zero, Act.put, List.setIfInBounds_toArray, List.set_cons_zero, List.set_cons_succ]
    refine wpAnyH_take (i := 10) (v := undef) rfl (by kernel_rfl) (by kernel_rfl) (by kernel_rfl) (fun _ _ _ h => h) (Or.inr ⟨by rfl, rfl⟩) (by assumption) ?_
    simp only [List.getElem_toArray, List.getElem_cons_succ, List.getElem_cons_zero, Act.put, List.setIfInBounds_toArray, List.set_cons_zero, List.set_cons_succ]
    refine wpAnyH_take (i := 11) (v := undef) rfl (by kernel_rfl) (by kernel_rfl) (by kernel_rfl) (fun _ _ _ h => h) (Or.inr ⟨by rfl, rfl⟩) (by assumption) ?_
    simp only [List.getElem_toArray, List.getElem_cons_succ, List.getElem_cons_zero, Act.put, List.setIfInBounds_toArray, List.set_cons_zero, List.set_cons_succ]
    refine wpAnyH_take (i := 12) (v := undef) rfl (by kernel_rfl) (by kernel_rfl) (by kernel_rfl) (fun _ _ _ h => h) (Or.inr ⟨by rfl, rfl⟩) (by assumption) ?_
    simp only [List.getElem_toArray, List.getElem_cons_succ, List.getElem_cons_zero, Act.put, List.setIfInBounds_toArray, List.set_cons_zero, List.set_cons_succ]
    refine wpAnyH_take (i := 13) (v := ?_) rfl (by kernel_rfl) (by kernel_rfl) (by kernel_rfl) (fun _ _ _ h => h) (Or.inl ⟨by rfl, ?_⟩) (by assumption) ?_
    rotate_left
    · intro wq hSw; (try dsimp only at hSw); go_simp; (try with_reducible rfl)
    simp only [List.getElem_toArray, List.getElem_cons_succ, List.getElem_cons_zero, Act.put, List.setIfInBounds_toArray, List.set_cons_zero, List.set_cons_succ]
    refine wpAnyH_take (i := 14) (v := ?_) rfl (by kernel_rfl) (by kernel_rfl) (by kernel_rfl) (fun _ _ _ h => h) (Or.inl ⟨by rfl, ?_⟩) (by assumption) ?_
    rotate_left
    · intro wq hSw; (try dsimp only at hSw); go_simp; (try with_reducible rfl)
    simp only [List.getElem_toArray, List.getElem_cons_succ, List.getElem_cons_zero, Act.put, List.setIfInBounds_toArray, List.set_cons_zero, List.set_cons_succ]
    refine wpAnyH_done (by kernel_rfl) ?_ _
    go_wp2_with fail
    go_ret
    rw [HNO.out, sendG_no HNO.out]
    exact ⟨rfl, (HR1.out.gb (gb_drew (gb_refl _ none))).upto (by rw [drew_heap]; have h1 := S1.out; have h2 := SZ.out; omega), (keptN_gb base hbs (gb_drew (gb_trans GE.out G1.out)))⟩
  | true =>
    obtain ⟨hf0, hfl, hsrc⟩ := src_there hok hpk
    obtain ⟨f, hf⟩ : ∃ f : Nat, p.fr = (f : Int) := ⟨p.fr.toNat, by omega⟩
    have hft : p.fr.toNat = f := by omega
    rw [hft] at hfl hsrc
    have hX := Lib.hid (show sendOk N p = decide (((srcN N p).length : Int) + p.ln ≤ 60) by rw [sendOk, hok, hpk]; rfl)
    have hln := (pktOk_iff.1 hpk).2.2.2.2.2
    have hDl : (D.length : Int) = p.ln := by rw [← hD]; exact flitsG_length hpk
    have hso := netOk_so hok hsrc
    obtain ⟨vb, vs, va, hrw⟩ := HR1.out
    obtain ⟨A0, c0, hsl, hA0⟩ := own_form hrw.so.hd
    obtain ⟨hb, hhb⟩ := hA0 (by omega)
    have hzA : y.so.A = some ⟨hb, 0, none⟩ := by injection hsl with h1 h2 h3; rw [h1, hhb]
    rw [hzA] at d8
    rw [hf] at q1
    have f0 : (0 : Int) ≤ (f : Int) := by omega
    have f1 : (f : Int) < (N.so.length : Int) := by omega
    have hl0 : (0 : Int) < (D.length : Int) := by omega
    have HST := Lib.hid (show sendTo N p = {N with so := N.so.set f (srcN N p ++ D)} by rw [sendTo, hD, hft])
    have CS := Lib.hid (show ∀ wr, KeptN base w1 wr → wr.cell? ⟨g0, 8, none⟩ = some (.slice (some ⟨hb, 0, none⟩) N.so.length y.so.c) ∧ wr.cell? ⟨w.heap.size, 1, none⟩ = some (.int .i64 (f : Int)) from fun wr hk => by
      have ga := hk.k _ _ _ (by decide) (by decide) (KB.out.grown G1.out (by simp))
      have gb := hk.k _ _ _ (by decide) (by decide) (KP.out.grown G1.out (by simp))
      have c8 := ga.cell 8
      have c1 := gb.cell 1
      simp only [List.getElem?_toArray, List.getElem?_cons_zero, List.getElem?_cons_succ] at c8 c1
      rw [hzA] at c8
      rw [hf] at c1
      exact ⟨c8, c1⟩)
    obtain ⟨m, hm⟩ : ∃ m, D.length = m := ⟨_, rfl⟩
    have hm0 : 0 < m := by omega
    have hm1 : (0 : Int) < (m : Int) := by omega
    rw [hm]
    have s8 := d8
    have s1 := q1
    clear d0 d1 d8 q0 q1 q2 q3 q4
    by_cases hfit : (srcN N p).length + D.length ≤ 60
    · have HYE := Lib.hid (show sendOk N p = true by rw [hX.out]; exact decide_eq_true (by omega))
      have hE := implEnter_yes y N base E hb f c1 vb vs va A1 (srcN N p) D w1.drew (hrw.gb (gb_drew (gb_refl _ none))) hzA hsrc hfit (RD.out.more (Nat.le_refl _)) (by rw [drew_heap]; have h1 := S1.out; have h2 := SZ.out; omega)
      rw [hm] at hE
      have HE := Lib.hid hE
      clear hE hok hpk hf0 hfl hsrc hf hft hln hDl hso hrw hsl hA0 hhb hzA hfit hD hm hl0
      refine wp_region_held_drew (S := (fun w' => w'.cell? ⟨g0, 8, none⟩ = some (.slice (some ⟨hb, 0, none⟩) N.so.length y.so.c) ∧ w'.cell? ⟨w.heap.size, 1, none⟩ = some (.int .i64 (f : Int)))) (by kernel_rfl) (⟨s8, s1⟩) (fun hHeld => ?_)
      refine wpAnyH_take (i := 0) (v := ?_) rfl (by kernel_rfl) (by kernel_rfl) (by kernel_rfl) (fun _ _ _ h => h) (Or.inl ⟨by rfl, ?_⟩) (by assumption) ?_
      rotate_left
      · intro wq hSw; (try dsimp only at hSw); go_simp; (try with_reducible rfl)
      simp only [List.getElem_toArray, List.getElem_cons_zero, Act.put, List.setIfInBounds_toArray, List.set_cons_zero, List.set_cons_succ]
      refine wpAnyH_take (i := 1) (v := ?_) rfl (by kernel_rfl) (by kernel_rfl) (by kernel_rfl) (fun _ _ _ h => h) (Or.inl ⟨by rfl, ?_⟩) (by assumption) ?_
      rotate_left
      · intro wq hSw; (try dsimp only at hSw); go_simp; (try with_reducible rfl)
      simp only [List.getElem_toArray, List.getElem_cons_succ, List.getElem_cons_zero, Act.put, List.setIfInBounds_toArray, List.set_cons_zero, List.set_cons_succ]
      refine wpAnyH_take (i := 2) (v := ?_) rfl (by kernel_rfl) (by kernel_rfl) (by kernel_rfl) (fun _ _ _ h => h) (Or.inl ⟨by rfl, ?_⟩) (by assumption) ?_
      rotate_left
      · intro wq hSw; (try dsimp only at hSw); go_simp; (try with_reducible rfl)
      simp only [List.getElem_toArray, List.getElem_cons_succ, List.getElem_cons_zero, Act.put, List.setIfInBounds_toArray, List.set_cons_zero, List.set_cons_succ]
      refine wpAnyH_take (i := 3) (v := ?_) rfl (by kernel_rfl) (by kernel_rfl) (by kernel_rfl) (fun _ _ _ h => h) (Or.inl ⟨by rfl, ?_⟩) (by assumption) ?_
      rotate_left
      · intro wq hSw; (try dsimp only at hSw); go_simp; (try with_reducible rfl)
      simp only [List.getElem_toArray, List.getElem_cons_succ, List.getElem_cons_zero, Act.put, List.setIfInBounds_toArray, List.set_cons_zero, List.set_cons_succ]
      refine wpAnyH_take (i := 4) (v := ?_) rfl (by kernel_rfl) (by kernel_rfl) (by kernel_rfl) (fun _ _ _ h => h) (Or.inl ⟨by rfl, ?_⟩) (by assumption) ?_
      rotate_left
      · intro wq hSw; (try dsimp only at hSw); go_simp; (try with_reducible rfl)
      simp only [List.getElem_toArray, List.getElem_cons_succ, List.getElem_cons_zero, Act.put, List.setIfInBounds_toArray, List.set_cons_zero, List.set_cons_succ]
      refine wpAnyH_take (i := 5) (v := ?_) rfl (by kernel_rfl) (by kernel_rfl) (by kernel_rfl) (fun _ _ _ h => h) (Or.inl ⟨by rfl, ?_⟩) (by assumption) ?_
      rotate_left
      · intro wq hSw; (try dsimp only at hSw); go_simp; (try with_reducible rfl)
      simp only [List.getElem_toArray, List.getElem_cons_succ, List.getElem_cons_zero, Act.put, List.setIfInBounds_toArray, List.set_cons_zero, List.set_cons_succ]
      refine wpAnyH_take (i := 6) (v := ?_) rfl (by kernel_rfl) (by kernel_rfl) (by kernel_rfl) (fun _ _ _ h => h) (Or.inl ⟨by rfl, ?_⟩) (by assumption) ?_
      rotate_left
      · intro wq hSw; (try dsimp only at hSw); go_simp; (try with_reducible rfl)
      simp only [List.getElem_toArray, List.getElem_cons_succ, List.getElem_cons_zero, Act.put, List.setIfInBounds_toArray, List.set_cons_zero, List.set_cons_succ]
      refine wpAnyH_take (i := 7) (v := ?_) rfl (by kernel_rfl) (by kernel_rfl) (by kernel_rfl) (fun _ _ _ h => h) (Or.inl ⟨by rfl, ?_⟩) (by assumption) ?_
      rotate_left
      · intro wq hSw; (try dsimp only at hSw); go_simp; (try with_reducible rfl)
      simp only [List.getElem_toArray, List.getElem_cons_succ, List.getElem_cons_zero, Act.put, List.setIfInBounds_toArray, List.set_cons_zero, List.set_cons_succ]
      refine wpAnyH_take (i := 8) (v := ?_) rfl (by kernel_rfl) (by kernel_rfl) (by kernel_rfl) (fun _ _ _ h => h) (Or.inl ⟨by rfl, ?_⟩) (by assumption) ?_
      rotate_left
      · intro wq hSw; (try dsimp only at hSw); go_simp; (try with_reducible rfl)
      simp only [List.getElem_toArray, List.getElem_cons_succ, List.getElem_cons_zero, Act.put, List.setIfInBounds_toArray, List.set_cons_zero, List.set_cons_succ]
      refine wpAnyH_take (i := 9) (v := ?_) rfl (by kernel_rfl) (by kernel_rfl) (by kernel_rfl) (fun _ _ _ h => h) (Or.inl ⟨by rfl, ?_⟩) (by assumption) ?_
      rotate_left
      · intro wq hSw; (try dsimp only at hSw); go_simp; (try with_reducible rfl)
      simp only [List.getElem_toArray, List.getElem_cons_succ, List.getElem_cons_zero, Act.put, List.setIfInBounds_toArray, List.set_cons_zero, List.set_cons_succ]
      refine wpAnyH_take (i := 10) (v := ?_) rfl (by kernel_rfl) (by kernel_rfl) (by kernel_rfl) (fun _ _ _ h => h) (Or.inl ⟨by rfl, ?_⟩) (by assumption) ?_
      rotate_left
      · intro wq hSw; (try dsimp only at hSw); go_simp; (try with_reducible rfl)
      simp only [List.getElem_toArray, List.getElem_cons_succ, List.getElem_cons_zero, Act.put, List.setIfInBounds_toArray, List.set_cons_zero, List.set_cons_succ]
      refine wpAnyH_take (i := 11) (v := ?_) rfl (by kernel_rfl) (by kernel_rfl) (by kernel_rfl) (fun _ _ _ h => h) (Or.inl ⟨by rfl, ?_⟩) (by assumption) ?_
      rotate_left
      · intro wq hSw; (try dsimp only at hSw); go_simp; (try with_reducible rfl)
      simp only [List.getElem_toArray, List.getElem_cons_succ, List.getElem_cons_zero, Act.put, List.setIfInBounds_toArray, List.set_cons_zero, List.set_cons_succ]
      refine wpAnyH_ready (rs := [12]) (by kernel_rfl) (by simp) ?_
      refine AllReadyH.cons rfl (fun K hK => ?_) AllReadyH.nil
      go_simp
      refine HE.out.mono ?_; rintro e w2 ⟨rfl, hv, hk⟩; have HV := Lib.hid hv; have HK := Lib.hid ((keptN_gb base HBW.out (gb_drew (gb_refl _ none))).trans hk); clear hv hk; obtain ⟨z8, z1⟩ := CS.out _ HK.out
      try go_wp2_with fail
      refine hK.out _ _ (⟨z8, z1⟩) (fun hHeld => ?_)
      clear hK K
      try simp only [List.getElem_toArray, List.getElem_cons_succ, List.getElem_cons_zero, Act.put, List.setIfInBounds_toArray, List.set_cons_zero, List.set_cons_succ]
      refine wpAnyH_take (i := 13) (v := ?_) rfl (by kernel_rfl) (by kernel_rfl) (by kernel_rfl) (fun _ _ _ h => h) (Or.inl ⟨by rfl, ?_⟩) (by assumption) ?_
      rotate_left
      · intro wq hSw; (try dsimp only at hSw); go_simp; (try with_reducible rfl)
      simp only [List.getElem_toArray, List.getElem_cons_succ, List.getElem_cons_zero, Act.put, List.setIfInBounds_toArray, List.set_cons_zero, List.set_cons_succ]
      refine wpAnyH_take (i := 14) (v := ?_) rfl (by kernel_rfl) (by kernel_rfl) (by kernel_rfl) (fun _ _ _ h => h) (Or.inl ⟨by rfl, ?_⟩) (by assumption) ?_
      rotate_left
      · intro wq hSw; (try dsimp only at hSw); go_simp; (try with_reducible rfl)
      simp only [List.getElem_toArray, List.getElem_cons_succ, List.getElem_cons_zero, Act.put, List.setIfInBounds_toArray, List.set_cons_zero, List.set_cons_succ]
      refine wpAnyH_done (by kernel_rfl) ?_ _
      go_wp2_with fail
      go_ret
      rw [HYE.out, sendG_yes HYE.out, HST.out]
      obtain ⟨vs', hv'⟩ := HV.out
      exact ⟨rfl, ⟨_, _, _, hv'⟩, (keptN_gb base hbs (gb_trans GE.out G1.out)).trans HK.out⟩
    · have HNO := Lib.hid (show sendOk N p = false by rw [hX.out]; exact decide_eq_false (by omega))
      have hE := implEnter_no y N base E hb f c1 vb vs va A1 (srcN N p) D w1.drew (hrw.gb (gb_drew (gb_refl _ none))) hzA hsrc hso (by omega) hfit
      rw [hm] at hE
      have HE := Lib.hid hE
      clear hE hok hpk hf0 hfl hsrc hf hft hln hDl hso hrw hsl hA0 hhb hzA hfit hD hm hl0
      refine wp_region_held_drew (S := (fun w' => w'.cell? ⟨g0, 8, none⟩ = some (.slice (some ⟨hb, 0, none⟩) N.so.length y.so.c) ∧ w'.cell? ⟨w.heap.size, 1, none⟩ = some (.int .i64 (f : Int)))) (by kernel_rfl) (⟨s8, s1⟩) (fun hHeld => ?_)
      refine wpAnyH_take (i := 0) (v := ?_) rfl (by kernel_rfl) (by kernel_rfl) (by kernel_rfl) (fun _ _ _ h => h) (Or.inl ⟨by rfl, ?_⟩) (by assumption) ?_
      rotate_left
      · intro wq hSw; (try dsimp only at hSw); go_simp; (try with_reducible rfl)
      simp only [List.getElem_toArray, List.getElem_cons_zero, Act.put, List.setIfInBounds_toArray, List.set_cons_zero, List.set_cons_succ]
      refine wpAnyH_take (i := 1) (v := ?_) rfl (by kernel_rfl) (by kernel_rfl) (by kernel_rfl) (fun _ _ _ h => h) (Or.inl ⟨by rfl, ?_⟩) (by assumption) ?_
      rotate_left
      · intro wq hSw; (try dsimp only at hSw); go_simp; (try with_reducible rfl)
      simp only [List.getElem_toArray, List.getElem_cons_succ, List.getElem_cons_zero, Act.put, List.setIfInBounds_toArray, List.set_cons_zero, List.set_cons_succ]
      refine wpAnyH_take (i := 2) (v := ?_) rfl (by kernel_rfl) (by kernel_rfl) (by kernel_rfl) (fun _ _ _ h => h) (Or.inl ⟨by rfl, ?_⟩) (by assumption) ?_
      rotate_left
      · intro wq hSw; (try dsimp only at hSw); go_simp; (try with_reducible rfl)
      simp only [List.getElem_toArray, List.getElem_cons_succ, List.getElem_cons_zero, Act.put, List.setIfInBounds_toArray, List.set_cons_zero, List.set_cons_succ]
      refine wpAnyH_take (i := 3) (v := ?_) rfl (by kernel_rfl) (by kernel_rfl) (by kernel_rfl) (fun _ _ _ h => h) (Or.inl ⟨by rfl, ?_⟩) (by assumption) ?_
      rotate_left
      · intro wq hSw; (try dsimp only at hSw); go_simp; (try with_reducible rfl)
      simp only [List.getElem_toArray, List.getElem_cons_succ, List.getElem_cons_zero, Act.put, List.setIfInBounds_toArray, List.set_cons_zero, List.set_cons_succ]
      refine wpAnyH_take (i := 4) (v := ?_) rfl (by kernel_rfl) (by kernel_rfl) (by kernel_rfl) (fun _ _ _ h => h) (Or.inl ⟨by rfl, ?_⟩) (by assumption) ?_
      rotate_left
      · intro wq hSw; (try dsimp only at hSw); go_simp; (try with_reducible rfl)
      simp only [List.getElem_toArray, List.getElem_cons_succ, List.getElem_cons_zero, Act.put, List.setIfInBounds_toArray, List.set_cons_zero, List.set_cons_succ]
      refine wpAnyH_take (i := 5) (v := ?_) rfl (by kernel_rfl) (by kernel_rfl) (by kernel_rfl) (fun _ _ _ h => h) (Or.inl ⟨by rfl, ?_⟩) (by assumption) ?_
      rotate_left
      · intro wq hSw; (try dsimp only at hSw); go_simp; (try with_reducible rfl)
      simp only [List.getElem_toArray, List.getElem_cons_succ, List.getElem_cons_zero, Act.put, List.setIfInBounds_toArray, List.set_cons_zero, List.set_cons_succ]
      refine wpAnyH_take (i := 6) (v := ?_) rfl (by kernel_rfl) (by kernel_rfl) (by kernel_rfl) (fun _ _ _ h => h) (Or.inl ⟨by rfl, ?_⟩) (by assumption) ?_
      rotate_left
      · intro wq hSw; (try dsimp only at hSw); go_simp; (try with_reducible rfl)
      simp only [List.getElem_toArray, List.getElem_cons_succ, List.getElem_cons_zero, Act.put, List.setIfInBounds_toArray, List.set_cons_zero, List.set_cons_succ]
      refine wpAnyH_take (i := 7) (v := ?_) rfl (by kernel_rfl) (by kernel_rfl) (by kernel_rfl) (fun _ _ _ h => h) (Or.inl ⟨by rfl, ?_⟩) (by assumption) ?_
      rotate_left
      · intro wq hSw; (try dsimp only at hSw); go_simp; (try with_reducible rfl)
      simp only [List.getElem_toArray, List.getElem_cons_succ, List.getElem_cons_zero, Act.put, List.setIfInBounds_toArray, List.set_cons_zero, List.set_cons_succ]
      refine wpAnyH_take (i := 8) (v := ?_) rfl (by kernel_rfl) (by kernel_rfl) (by kernel_rfl) (fun _ _ _ h => h) (Or.inl ⟨by rfl, ?_⟩) (by assumption) ?_
      rotate_left
      · intro wq hSw; (try dsimp only at hSw); go_simp; (try with_reducible rfl)
      simp only [List.getElem_toArray, List.getElem_cons_succ, List.getElem_cons_zero, Act.put, List.setIfInBounds_toArray, List.set_cons_zero, List.set_cons_succ]
      refine wpAnyH_take (i := 9) (v := ?_) rfl (by kernel_rfl) (by kernel_rfl) (by kernel_rfl) (fun _ _ _ h => h) (Or.inl ⟨by rfl, ?_⟩) (by assumption) ?_
      rotate_left
      · intro wq hSw; (try dsimp only at hSw); go_simp; (try with_reducible rfl)
      simp only [List.getElem_toArray, List.getElem_cons_succ, List.getElem_cons_zero, Act.put, List.setIfInBounds_toArray, List.set_cons_zero, List.set_cons_succ]
      refine wpAnyH_take (i := 10) (v := ?_) rfl (by kernel_rfl) (by kernel_rfl) (by kernel_rfl) (fun _ _ _ h => h) (Or.inl ⟨by rfl, ?_⟩) (by assumption) ?_
      rotate_left
      · intro wq hSw; (try dsimp only at hSw); go_simp; (try with_reducible rfl)
      simp only [List.getElem_toArray, List.getElem_cons_succ, List.getElem_cons_zero, Act.put, List.setIfInBounds_toArray, List.set_cons_zero, List.set_cons_succ]
      refine wpAnyH_take (i := 11) (v := ?_) rfl (by kernel_rfl) (by kernel_rfl) (by kernel_rfl) (fun _ _ _ h => h) (Or.inl ⟨by rfl, ?_⟩) (by assumption) ?_
      rotate_left
      · intro wq hSw; (try dsimp only at hSw); go_simp; (try with_reducible rfl)
      simp only [List.getElem_toArray, List.getElem_cons_succ, List.getElem_cons_zero, Act.put, List.setIfInBounds_toArray, List.set_cons_zero, List.set_cons_succ]
      refine wpAnyH_ready (rs := [12]) (by kernel_rfl) (by simp) ?_
      refine AllReadyH.cons rfl (fun K hK => ?_) AllReadyH.nil
      go_simp
      refine HE.out.mono ?_; rintro e w2 ⟨rfl, rfl⟩
      try go_wp2_with fail
      refine hK.out _ _ (⟨s8, s1⟩) (fun hHeld => ?_)
      clear hK K
      try simp only [List.getElem_toArray, List.getElem_cons_succ, List.getElem_cons_zero, Act.put, List.setIfInBounds_toArray, List.set_cons_zero, List.set_cons_succ]
      refine wpAnyH_take (i := 13) (v := ?_) rfl (by kernel_rfl) (by kernel_rfl) (by kernel_rfl) (fun _ _ _ h => h) (Or.inl ⟨by rfl, ?_⟩) (by assumption) ?_
      rotate_left
      · intro wq hSw; (try dsimp only at hSw); go_simp; (try with_reducible rfl)
      simp only [List.getElem_toArray, List.getElem_cons_succ, List.getElem_cons_zero, Act.put, List.setIfInBounds_toArray, List.set_cons_zero, List.set_cons_succ]
      refine wpAnyH_take (i := 14) (v := ?_) rfl (by kernel_rfl) (by kernel_rfl) (by kernel_rfl) (fun _ _ _ h => h) (Or.inl ⟨by rfl, ?_⟩) (by assumption) ?_
      rotate_left
      · intro wq hSw; (try dsimp only at hSw); go_simp; (try with_reducible rfl)
      simp only [List.getElem_toArray, List.getElem_cons_succ, List.getElem_cons_zero, Act.put, List.setIfInBounds_toArray, List.set_cons_zero, List.set_cons_succ]
      refine wpAnyH_done (by kernel_rfl) ?_ _
      go_wp2_with fail
      go_ret
      rw [HNO.out, sendG_no HNO.out]
      exact ⟨rfl, (HR1.out.gb (gb_drew (gb_refl _ none))).upto (by rw [drew_heap]; have h1 := S1.out; have h2 := SZ.out; omega), (keptN_gb base hbs (gb_drew (gb_trans GE.out G1.out)))⟩
end Go.Proofs.Ytfloekbmgjmhbaa
end

section
namespace Go.Proofs.Ytfloekbmgjmhbaa
open Go.ChangeShapes Go.WideShapes Go.ChangeAt Go.RowKit
set_option linter.unusedVariables false
set_option maxRecDepth 20000

theorem run_copy_rec {P : Program} (w : World) (dT sT ty elem : TypeId) (z g n dCap : Nat) (ad : Addr) (sCap : Nat) (cur : Array Value) (t : TypeId) (cs : List Value)
    (hu : P.underlying dT = some (.slice elem)) (hs : (P.info? elem).map (·.size) = some z) (hg : w.heap[g]? = some (.cells cur t (0, 0))) (hn : cs.length = n * z)
    (hsrc : ∀ j v, cs[j]? = some v → w.cell? (ad.add j) = some v) (hfit : cs.length ≤ cur.size) (h1 : ∀ v ∈ cs, v.oneCell' = true) :
    (Builtin.copy_ #[dT, sT] ty #[.slice (some ⟨g, 0, none⟩) n dCap, .slice (some ad) n sCap]).run P w =
      .ok (goInt n) (w.setRow g (cur.toList.take (0 + 0) ++ cs ++ cur.toList.drop (0 + 0 + cs.length)).toArray) := by
  have hl := run_loadCells_list (P := P) w ad cs hsrc
  have hst := run_storeCells_at P g 0 t cs 0 cur w hg (by simpa using hfit) h1
  cases hq : P.info? elem with
  | none => simp [hq] at hs
  | some i =>
    have hi : i.size = z := by simpa [hq] using hs
    have hm : Nat.min n n = n := Nat.min_self n
    simp only [Nat.zero_add, List.take_zero, List.nil_append] at hst ⊢
    simp [Builtin.copy_, run_underlying hu, Builtin.lenOf, Builtin.firstCells, sizeOf, typeInfo, hq, hi, hm, ← hn, hl, hst]
theorem run_copy_zero {P : Program} (w : World) (dT sT ty elem : TypeId) (z : Nat) (d a : Option Addr) (dCap sCap : Nat) (hu : P.underlying dT = some (.slice elem)) (hs : (P.info? elem).map (·.size) = some z) :
    (Builtin.copy_ #[dT, sT] ty #[.slice d 0 dCap, .slice a 0 sCap]).run P w = .ok (goInt 0) w := by
  cases hq : P.info? elem with
  | none => simp [hq] at hs
  | some i =>
    have hl : ∀ (x : Addr), (loadCells x 0).run P w = .ok #[] w := fun x => by simpa using run_loadCells_list (P := P) w x [] (by simp)
    cases d <;> cases a <;> simp [Builtin.copy_, run_underlying hu, Builtin.lenOf, Builtin.firstCells, sizeOf, typeInfo, hq, storeCells, hl]
theorem gb_setRowC {w : World} {g : Nat} (cs : Array Value) (hg : g < w.heap.size) : w.grownBy (w.setRow g cs) (some g) :=
  ⟨rfl, rfl, rfl, by simp [World.setRow], fun k hk hne => setRow_other w g k cs (fun e => hne (by rw [e]))⟩
/-- A whole slice is copied into a row of the same length. -/
theorem wpList_copy_whole {P : Program} {w : World} {ops : Array Oper} {rest : List Oper} {o : Oper} {a : Act} {Q : Exit → Act → World → Prop} (hgd : o.guard = none) (d s : Operand) (dT sT : TypeId)
    (ho : o.op = .call { callee := .builtin .copy, args := #[d, s], argTypes := #[dT, sT] }) (elem : TypeId) (hu : P.underlying dT = some (.slice elem)) (z : Nat) (hsz : (P.info? elem).map (·.size) = some z)
    (base g n sCap : Nat) (sp : Option Addr) (hd : a.eval d = .slice (some ⟨g, 0, none⟩) n n) (hs : a.eval s = .slice sp n sCap) (xs cs : List Value)
    (hown : w.ownsRow base elem z (.slice (some ⟨g, 0, none⟩) n n) n xs) (hcs : cs.length = n * z) (hsrc : 0 < n → ∃ ad, sp = some ad ∧ ∀ j v, cs[j]? = some v → w.cell? (ad.add j) = some v) (h1 : ∀ v ∈ cs, v.oneCell' = true)
    (h : ∀ w', w'.ownsRow base elem z (.slice (some ⟨g, 0, none⟩) n n) n cs → w.grownBy w' (some g) → wpList P ops Q rest (a.put o.dst (goInt n)) w') :
    wpList P ops Q (o :: rest) a w := by
  rcases Nat.eq_zero_or_pos n with h0 | h0
  · subst h0
    have e1 : cs = [] := List.eq_nil_of_length_eq_zero (by simpa using hcs)
    have e2 : xs = [] := List.eq_nil_of_length_eq_zero (by simpa using hown.1)
    subst e1 e2
    refine wpList_plain hgd fun K hK => ?_
    have hrun := run_copy_zero (P := P) w dT sT o.type elem z (some ⟨g, 0, none⟩) sp 0 sCap hu hsz
    unfold Oper.wp
    simp [execOp, ho, resolve, invoke, builtin, hd, hs, hrun, Result.andThen]
    exact hK _ _ (h w hown ⟨rfl, rfl, rfl, Nat.le_refl _, fun _ _ _ => rfl⟩)
  · obtain ⟨ad, rfl, hsr⟩ := hsrc h0
    obtain ⟨hx, hv | ⟨g', cap, cur, hv, hb, hg, hnc, hm, hsc, ht⟩⟩ := hown
    · exact absurd hv.1 (by simp)
    · obtain ⟨rfl, rfl⟩ : g = g' ∧ n = cap := by injection hv with a1 a2 a3; injection a1 with a4; injection a4 with a5; exact ⟨a5, a3⟩
      have hlt : g < w.heap.size := (Array.getElem?_eq_some_iff.1 hg).1
      refine wpList_plain hgd fun K hK => ?_
      have hrun := run_copy_rec (P := P) w dT sT o.type elem z g n n ad sCap cur elem cs hu hsz hg hcs hsr (by omega) h1
      have e3 : cur.toList.take (0 + 0) ++ cs ++ cur.toList.drop (0 + 0 + cs.length) = cs := by
        rw [List.drop_eq_nil_of_le (by rw [Array.length_toList]; omega)]; simp
      rw [e3] at hrun
      unfold Oper.wp
      simp [execOp, ho, resolve, invoke, builtin, hd, hs, hrun, Result.andThen]
      exact hK _ _ (h _ ⟨hcs, .inr ⟨g, n, cs.toArray, rfl, hb, setRow_heap w g cur _ elem _ hg, hnc, hm, by simpa using hcs, by simp [← hcs]⟩⟩ (gb_setRowC _ hlt))

theorem implCopyI (A : Option Addr) (n cap : Nat) (L : List Int) (w : World) (h : IntAt w w.heap.size A n L) (hn : n ≤ 1000000000) :
    Calls Try.prog 78 #[.slice A n cap] w (NewI L w) := by
  obtain ⟨i0, hi, hz0, hz1, hz2⟩ := info_parts info_int
  have hsz : (Try.prog.info? 3).map (·.size) = some 1 := by rw [hi]; simp [hz1]
  have hl := h.1
  have HI := Lib.hid h
  have HL := Lib.hid (show (intsV L).length = n * 1 by rw [Nat.mul_one, ← hl]; simp [intsV])
  have HONE := Lib.hid (intsV_one L)
  have HLN := Lib.hid hl
  clear h hl
  go_enter Try.func78, Try.ntmps78
  go_wp2_with (first
    | (at_make; refine wpList_make_full _ rfl _ _ 26 rfl w.heap.size 3 i0 (.int .i64 0) 1 Try.underlying26 hi hz0 hz1 .i64 .i64 _ _ n rfl rfl (by omega) (by omega) (by rw [hz2]; omega) (by unfold maxLen; omega) (Nat.le_refl _) ?_; intro w0 hown0 hgrow0; have O0 := Lib.hid hown0; have G0 := Lib.hid hgrow0; clear hown0 hgrow0)
    | (refine wpList_copy_whole rfl (.tmp 7) (.tmp 8) 26 26 rfl 3 Try.underlying26 1 hsz w.heap.size w.heap.size n cap A rfl rfl _ (intsV L) O0.out HL.out (fun h0 => by
        obtain ⟨b, off, e, _⟩ := HI.out.2 h0
        subst e
        exact ⟨_, rfl, intAt_news (HI.out.none (Nat.le_refl _) G0.out)⟩) HONE.out ?_; intro w2 hown2 hgrow2; have O2 := Lib.hid hown2; have G2 := Lib.hid hgrow2; clear hown2 hgrow2))
  go_ret
  refine ⟨_, rfl, ?_, ?_⟩
  · rw [HLN.out]; exact O2.out
  · exact (gb_below_none G0.out (Nat.le_refl _)).grown G2.out G0.out.size (fun j hj => by cases hj; exact Nat.le_refl _)
theorem implCopyF (A : Option Addr) (n cap : Nat) (D : List Flt) (w : World) (h : RecAt 5 fltC w w.heap.size A n D) (hn : n ≤ 1000000000) :
    Calls Try.prog 108 #[.slice A n cap] w (fun e w' => ∃ v, e = .returned v ∧ w'.ownsRow w.heap.size 120 5 v D.length (recV fltC D) ∧ Below w.heap.size w w') := by
  obtain ⟨i0, hi, hz0, hz1, hz2⟩ := info_parts info_flt
  have hsz : (Try.prog.info? 120).map (·.size) = some 5 := by rw [hi]; simp [hz1]
  have hl := h.1
  have HI := Lib.hid h
  have HL := Lib.hid (show (recV fltC D).length = n * 5 by rw [recV_length fltL, hl])
  have HONE := Lib.hid (recV_one fltL D)
  have HLN := Lib.hid hl
  clear h hl
  go_enter Try.func108, Try.ntmps108
  go_wp2_with (first
    | (at_make; refine wpList_make_full _ rfl _ _ 91 rfl w.heap.size 120 i0 (fltX flt0) 5 Try.underlying91 hi hz0 hz1 .i64 .i64 _ _ n rfl rfl (by omega) (by omega) (by rw [hz2]; omega) (by unfold maxLen; omega) (Nat.le_refl _) ?_; intro w0 hown0 hgrow0; have O0 := Lib.hid hown0; have G0 := Lib.hid hgrow0; clear hown0 hgrow0)
    | (refine wpList_copy_whole rfl (.tmp 7) (.tmp 8) 91 91 rfl 120 Try.underlying91 5 hsz w.heap.size w.heap.size n cap A rfl rfl _ (recV fltC D) O0.out HL.out (fun h0 => by
        obtain ⟨b, off, e, _⟩ := HI.out.2 h0
        subst e
        exact ⟨_, rfl, recAt_news fltL (by decide) (HI.out.none (Nat.le_refl _) G0.out)⟩) HONE.out ?_; intro w2 hown2 hgrow2; have O2 := Lib.hid hown2; have G2 := Lib.hid hgrow2; clear hown2 hgrow2))
  go_ret
  refine ⟨_, rfl, ?_, ?_⟩
  · rw [HLN.out]; exact O2.out
  · exact (gb_below_none G0.out (Nat.le_refl _)).grown G2.out G0.out.size (fun j hj => by cases hj; exact Nat.le_refl _)
set_option maxHeartbeats 3200000 in
theorem implCopies (A : Option Addr) (n cap : Nat) (DD : List (List Flt)) (w : World) (h : RecsAt 5 fltC w w.heap.size A n DD) (hn : n ≤ 1000000000) (hs : sumL DD ≤ 1000000000) :
    Calls Try.prog 79 #[.slice A n cap] w (NewLL DD w) := by
  obtain ⟨i0, hi, hz0, hz1, hz2⟩ := info_parts info_fss
  have hl := h.1
  have HI := Lib.hid h
  have HCF := Lib.hid (fun A n cap D w h hn => implCopyF A n cap D w h hn)
  clear h
  go_enter Try.func79, Try.ntmps79
  go_wp2_with (at_make; refine wpList_make_full _ rfl _ _ 36 rfl w.heap.size 91 i0 (.slice none 0 0) 1 Try.underlying36 hi hz0 hz1 .i64 .i64 _ _ n rfl rfl (by omega) (by omega) (by rw [hz2]; omega) (by unfold maxLen; omega) (Nat.le_refl _) ?_; intro w0 hown0 hgrow0; rw [made_nils] at hown0; have HO := Lib.hid hown0; have HB := Lib.hid (gb_below_none hgrow0 (Nat.le_refl _)); clear hown0 hgrow0)
  go_loopw [11] (fun i wr => ∃ (k : Nat) (vs : List Value), k ≤ n ∧ i = .int .i64 (k : Int) ∧ vs.length = k ∧ wr.ownsRow w.heap.size 91 1 (.slice (some ⟨w.heap.size, 0, none⟩) n n) n (vs ++ List.replicate (n - vs.length) (.slice none 0 0)) ∧ Fam 120 5 fltC wr w.heap.size vs (DD.take k) ∧ Below w.heap.size w wr) (fun i _ => n - (intOf i).toNat)
  case atStart => exact ⟨0, [], Nat.zero_le _, rfl, rfl, by simpa using HO.out, by rw [List.take_zero]; exact Fam.nil _ _, HB.out⟩
  case round =>
    obtain ⟨k, vs, hk, rfl, hvl, ho, hf, hbel⟩ := hrel
    have HO1 := Lib.hid ho
    have HF1 := Lib.hid hf
    have HB1 := Lib.hid hbel
    by_cases hlt : k < n
    · obtain ⟨b, off, D, A', c', rfl, hb, hD, hc, _, hr⟩ := (HI.out.below hbel).at k hlt
      have hat := sumL_at hD
      have hsz := hbel.size
      have HT := Lib.hid (HCF.out A' D.length c' D wr (hr.more hsz) (by omega))
      have k0 : (0 : Int) ≤ (k : Int) := by omega
      have k1 : (k : Int) < (n : Int) := by omega
      have HDD := Lib.hid (show DD.take (k + 1) = DD.take k ++ [D] by
        have hkD := (List.getElem?_eq_some_iff.1 hD).1
        have e : DD[k] = D := (List.getElem?_eq_some_iff.1 hD).2
        rw [List.take_succ_eq_append_getElem hkD, e])
      have HVL := Lib.hid hvl
      have HS := Lib.hid hsz
      clear ho hf hbel hD hat hr hvl
      go_wp2_with fail
      refine HT.out.mono ?_
      rintro e w4 ⟨v4, rfl, o4, b4⟩
      obtain ⟨A4, c4, rfl, _⟩ := own_form o4
      have hb4 := gb_of_below b4 none
      have hoh := own_none HO1.out hb4
      have HF4 := Lib.hid (HF1.out.gb hb4)
      have HR4 := Lib.hid (own_less o4 HS.out)
      have HA4 := Lib.hid (show ∀ (i : Nat) u, vs[i]? = some u → Apart u (.slice A4 D.length c4) from fun i u hu j h1 h2 => by
        have h3 := (HF1.out.lt hu h1).2
        have h4 := (o4.lt j h2).1
        omega)
      have HB4 := Lib.hid (HB1.out.trans (b4.mono HS.out))
      have hcell := hoh.cellAt k (by omega)
      have hlen : k < (vs ++ List.replicate (n - vs.length) (Value.slice none 0 0)).length := by have := HVL.out; simp; omega
      obtain ⟨x, hx⟩ : ∃ x, (vs ++ List.replicate (n - vs.length) (Value.slice none 0 0))[k]? = some x := ⟨_, List.getElem?_eq_getElem hlen⟩
      rw [hx] at hcell
      have hfz := hoh.frozenAt k
      obtain ⟨o5, g5⟩ := hoh.stored k (.slice A4 D.length c4)
      have hset := set_rep vs (Value.slice none 0 0) (.slice A4 D.length c4) n (by have := HVL.out; omega)
      rw [HVL.out] at hset
      have HRW := Lib.hid hoh
      rw [HVL.out, hset] at o5
      have HO5 := Lib.hid o5
      have HF5 := Lib.hid ((HF4.out.kept g5 (fun i v j hv hj e => by
        have hi := (List.getElem?_eq_some_iff.1 hv).1
        obtain ⟨u, hu, hou⟩ := HF4.out.get (i := i) (by rw [← HF4.out.len]; exact hi)
        rw [hv] at hu
        obtain rfl := Option.some.inj hu
        exact own_typesG HRW.out hou (by decide) (k := j) (by rw [← e]; rfl) hj)).snoc (row_keptR HR4.out g5 (fun j e1 e2 => own_typesG HRW.out HR4.out (by decide) (k := j) (by rw [← e1]; rfl) e2)) HA4.out)
      have HB5 := Lib.hid (HB4.out.grown g5 HB4.out.size (fun j e => by cases e; exact Nat.le_refl _))
      clear hb4 hoh hlen hx o4 b4 o5 g5 hset hc
      go_wp2_with fail
      go_roundw
      case rel => exact ⟨k + 1, vs ++ [.slice A4 D.length c4], by omega, by go_num, by rw [List.length_append, HVL.out]; rfl, HO5.out, by rw [HDD.out]; exact HF5.out, HB5.out⟩
      case measure => simp [intOf]; omega
    · have hkn : k = n := by omega
      have HKN := Lib.hid hkn
      have HVL := Lib.hid hvl
      clear ho hf hbel hkn hvl
      go_wp2_with fail
      go_ret
      refine ⟨_, vs, rfl, ⟨?_, ?_⟩, HB1.out⟩
      · have h9 := HO1.out
        rw [HVL.out, HKN.out, Nat.sub_self] at h9
        rw [hl]
        simpa using h9
      · have h9 := HF1.out
        rw [HKN.out, ← hl, List.take_length] at h9
        exact h9
end Go.Proofs.Ytfloekbmgjmhbaa
end

section
namespace Go.Proofs.Ytfloekbmgjmhbaa
open Go.ChangeShapes Go.WideShapes Go.ChangeAt Go.RowKit
set_option linter.unusedVariables false
set_option maxRecDepth 20000

/-- Eight parts, one behind the other, are a network of the call's own. -/
theorem net_of_eight {wz : World} {y : Na} {N : Nt} {vb vs va : List Value} {s0 s1 s2 s3 s4 s5 s6 s7 : Nat}
    (o0 : wz.ownsRow s0 3 1 (.slice y.br.A N.br.length y.br.c) N.br.length (intsV N.br)) (o1 : wz.ownsRow s1 3 1 (.slice y.ta.A N.ta.length y.ta.c) N.ta.length (intsV N.ta))
    (o2 : wz.ownsRow s2 3 1 (.slice y.tb.A N.tb.length y.tb.c) N.tb.length (intsV N.tb)) (o3 : Fams 91 120 5 fltC wz s3 (.slice y.bu.A N.bu.length y.bu.c) vb N.bu)
    (o4 : wz.ownsRow s4 3 1 (.slice y.ow.A N.ow.length y.ow.c) N.ow.length (intsV N.ow)) (o5 : wz.ownsRow s5 3 1 (.slice y.tu.A N.tu.length y.tu.c) N.tu.length (intsV N.tu))
    (o6 : Fams 91 120 5 fltC wz s6 (.slice y.so.A N.so.length y.so.c) vs N.so) (o7 : Fams 91 120 5 fltC wz s7 (.slice y.ar.A N.ar.length y.ar.c) va N.ar)
    (u0 : ∀ k, (.slice y.br.A N.br.length y.br.c : Value).ownBlock = some k → k < s1) (u1 : ∀ k, (.slice y.ta.A N.ta.length y.ta.c : Value).ownBlock = some k → k < s2) (u2 : ∀ k, (.slice y.tb.A N.tb.length y.tb.c : Value).ownBlock = some k → k < s3)
    (u3 : ∀ v, (v = .slice y.bu.A N.bu.length y.bu.c ∨ v ∈ vb) → ∀ k, v.ownBlock = some k → k < s4) (u4 : ∀ k, (.slice y.ow.A N.ow.length y.ow.c : Value).ownBlock = some k → k < s5) (u5 : ∀ k, (.slice y.tu.A N.tu.length y.tu.c : Value).ownBlock = some k → k < s6)
    (u6 : ∀ v, (v = .slice y.so.A N.so.length y.so.c ∨ v ∈ vs) → ∀ k, v.ownBlock = some k → k < s7)
    (q1 : s0 ≤ s1) (q2 : s1 ≤ s2) (q3 : s2 ≤ s3) (q4 : s3 ≤ s4) (q5 : s4 ≤ s5) (q6 : s5 ≤ s6) (q7 : s6 ≤ s7) : NetOwn wz s0 wz.heap.size y N := by
  have one : ∀ {x v : Value} {m m' : Nat}, (∀ k, x.ownBlock = some k → k < m) → m ≤ m' → v ∈ [x] → ∀ k, v.ownBlock = some k → k < m' := fun h hm hv k hk => by
    rw [List.mem_singleton.1 hv] at hk
    exact Nat.lt_of_lt_of_le (h k hk) hm
  have I1 := (fam_int o0).app (fam_int o1) q1 (fun v hv => one u0 (Nat.le_refl _) hv)
  have I2 := I1.app (fam_int o2) (by omega) (fun v hv => by
    rcases List.mem_append.1 hv with hv | hv
    · exact one u0 q2 hv
    · exact one u1 (Nat.le_refl _) hv)
  have I3 := I2.app (fam_int o4) (by omega) (fun v hv => by
    rcases List.mem_append.1 hv with hv | hv
    · rcases List.mem_append.1 hv with hv | hv
      · exact one u0 (by omega) hv
      · exact one u1 (by omega) hv
    · exact one u2 (by omega) hv)
  have I4 := I3.app (fam_int o5) (by omega) (fun v hv => by
    rcases List.mem_append.1 hv with hv | hv
    · rcases List.mem_append.1 hv with hv | hv
      · rcases List.mem_append.1 hv with hv | hv
        · exact one u0 (by omega) hv
        · exact one u1 (by omega) hv
      · exact one u2 (by omega) hv
    · exact one u4 (by omega) hv)
  have H1 := (fam_hd o3.hd o3.fam.len).app (fam_hd o6.hd o6.fam.len) (by omega) (fun v hv => one (u3 _ (.inl rfl)) (by omega) hv)
  have H2 := H1.app (fam_hd o7.hd o7.fam.len) (by omega) (fun v hv => by
    rcases List.mem_append.1 hv with hv | hv
    · exact one (u3 _ (.inl rfl)) (by omega) hv
    · exact one (u6 _ (.inl rfl)) (by omega) hv)
  have F1 := o6.fam.app o7.fam q7 (fun v hv => u6 v (.inr hv))
  have F2 := o3.fam.app F1 (by omega) (fun v hv k hk => by have := u3 v (.inr hv) k hk; omega)
  exact ⟨vb, vs, va, netRows_mk (fam_eq I4 rfl rfl) (fam_eq (H2.less (by omega)) rfl rfl) (F2.less (by omega)) o3.fam.len o6.fam.len o7.fam.len⟩
/-- The clone's two boxes, and nothing else but new blocks written. -/
structure CnI (w : World) (cs : Array Value) (wr : World) : Prop where
  b : Blk wr w.heap.size 38 cs
  k : Blk wr (w.heap.size + 1) 38 #[.int .i64 0, .int .i64 0, .slice none 0 0, .slice none 0 0, .slice none 0 0, .slice none 0 0, .slice none 0 0, .slice none 0 0, .slice none 0 0, .slice none 0 0, .int .i64 0]
  l : Below w.heap.size w wr
  s : w.heap.size + 2 ≤ wr.heap.size
section
variable {w wr w' : World} {cs : Array Value}
theorem CnI.bl (h : CnI w cs wr) (hb : Below wr.heap.size wr w') : CnI w cs w' :=
  ⟨h.b.grown (gb_of_below hb none) (by simp), h.k.grown (gb_of_below hb none) (by simp), h.l.trans (hb.mono h.l.size), Nat.le_trans h.s hb.size⟩
theorem CnI.st (h : CnI w cs wr) (i : Nat) (v : Value) : CnI w (cs.setIfInBounds i v) (wr.setCell ⟨w.heap.size, i, none⟩ v) :=
  ⟨h.b.set_ i v, h.k.chg (st_in wr w.heap.size i v) (.inr (.inl (by omega))), h.l.setCell (Nat.le_refl _) v, Nat.le_trans h.s (st_in wr w.heap.size i v).size⟩
theorem CnI.in {y : Na} {N : Nt} (h : CnI w cs wr) (hi : NetIn w w.heap.size y N) : NetIn wr wr.heap.size y N := (hi.below h.l).more h.l.size
theorem cn_start {y : Na} {N : Nt} : CnI w #[.int .i64 N.W, .int .i64 N.H, .slice y.br.A N.br.length y.br.c, .slice y.ta.A N.ta.length y.ta.c, .slice y.tb.A N.tb.length y.tb.c, .slice y.bu.A N.bu.length y.bu.c, .slice y.ow.A N.ow.length y.ow.c, .slice y.tu.A N.tu.length y.tu.c, .slice y.so.A N.so.length y.so.c, .slice y.ar.A N.ar.length y.ar.c, .int .i64 N.ti] ((w.alloc (.cells #[.int .i64 N.W, .int .i64 N.H, .slice y.br.A N.br.length y.br.c, .slice y.ta.A N.ta.length y.ta.c, .slice y.tb.A N.tb.length y.tb.c, .slice y.bu.A N.bu.length y.bu.c, .slice y.ow.A N.ow.length y.ow.c, .slice y.tu.A N.tu.length y.tu.c, .slice y.so.A N.so.length y.so.c, .slice y.ar.A N.ar.length y.ar.c, .int .i64 N.ti] 38)).alloc (.cells #[.int .i64 0, .int .i64 0, .slice none 0 0, .slice none 0 0, .slice none 0 0, .slice none 0 0, .slice none 0 0, .slice none 0 0, .slice none 0 0, .slice none 0 0, .int .i64 0] 38)) := by
  have h1 := Blk.new (w.alloc (.cells #[.int .i64 N.W, .int .i64 N.H, .slice y.br.A N.br.length y.br.c, .slice y.ta.A N.ta.length y.ta.c, .slice y.tb.A N.tb.length y.tb.c, .slice y.bu.A N.bu.length y.bu.c, .slice y.ow.A N.ow.length y.ow.c, .slice y.tu.A N.tu.length y.tu.c, .slice y.so.A N.so.length y.so.c, .slice y.ar.A N.ar.length y.ar.c, .int .i64 N.ti] 38)) 38 #[.int .i64 0, .int .i64 0, .slice none 0 0, .slice none 0 0, .slice none 0 0, .slice none 0 0, .slice none 0 0, .slice none 0 0, .slice none 0 0, .slice none 0 0, .int .i64 0]
  rw [alloc_size] at h1
  exact ⟨(Blk.new w _ _).alloc _, h1, ((Below.refl w.heap.size w).alloc (Nat.le_refl _) _).alloc (by rw [alloc_size]; omega) _, by rw [alloc_size, alloc_size]; omega⟩
end
set_option maxHeartbeats 6400000 in
theorem implClone (y : Na) (N : Nt) (w : World) (h : NetIn w w.heap.size y N) (hn : NetSm N) :
    Calls Try.prog 38 #[.agg #[.int .i64 N.W, .int .i64 N.H, .slice y.br.A N.br.length y.br.c, .slice y.ta.A N.ta.length y.ta.c, .slice y.tb.A N.tb.length y.tb.c, .slice y.bu.A N.bu.length y.bu.c, .slice y.ow.A N.ow.length y.ow.c, .slice y.tu.A N.tu.length y.tu.c, .slice y.so.A N.so.length y.so.c, .slice y.ar.A N.ar.length y.ar.c, .int .i64 N.ti]] w (NewNet N w) := by
  have HI := Lib.hid h
  have HSM := Lib.hid hn
  have S0 := Lib.hid (cn_start (w := w) (y := y) (N := N))
  have HCI := Lib.hid (fun A n cap L w h hn => implCopyI A n cap L w h hn)
  have HCL := Lib.hid (fun A n cap DD w h hn hs => implCopies A n cap DD w h hn hs)
  clear h hn
  go_enter Try.func38, Try.ntmps38
  go_wp2_with fail
  refine (HCI.out _ _ _ N.br _ (S0.out.in HI.out).br HSM.out.br).mono ?_
  rintro e w0 ⟨v, rfl, o, b⟩
  obtain ⟨B0, d0, rfl, _⟩ := own_form o
  have F0 := Lib.hid (fix_row o)
  have U0 := Lib.hid (fun k hk => (o.lt k hk))
  have Z0 := Lib.hid b.size
  have T0 := Lib.hid (S0.out.bl b)
  clear o b
  have S1 := Lib.hid (show CnI w #[.int .i64 N.W, .int .i64 N.H, .slice B0 N.br.length d0, .slice y.ta.A N.ta.length y.ta.c, .slice y.tb.A N.tb.length y.tb.c, .slice y.bu.A N.bu.length y.bu.c, .slice y.ow.A N.ow.length y.ow.c, .slice y.tu.A N.tu.length y.tu.c, .slice y.so.A N.so.length y.so.c, .slice y.ar.A N.ar.length y.ar.c, .int .i64 N.ti] (w0.setCell ⟨w.heap.size, 2, none⟩ (.slice B0 N.br.length d0)) from by have h := T0.out.st 2 (.slice B0 N.br.length d0); simpa using h)
  have a : w0.cell? ⟨w.heap.size, 2, none⟩ = some (.slice y.br.A N.br.length y.br.c) := T0.out.b.cell 2
  have x := T0.out.b.frozen 2
  have a2 : w0.cell? ⟨w.heap.size, 3, none⟩ = some (.slice y.ta.A N.ta.length y.ta.c) := T0.out.b.cell 3
  go_wp2_with fail
  clear a x a2
  refine (HCI.out _ _ _ N.ta _ (S1.out.in HI.out).ta HSM.out.ta).mono ?_
  rintro e w1 ⟨v, rfl, o, b⟩
  obtain ⟨B1, d1, rfl, _⟩ := own_form o
  have F1 := Lib.hid (fix_row o)
  have U1 := Lib.hid (fun k hk => (o.lt k hk))
  have Z1 := Lib.hid b.size
  have D1 := Lib.hid ((st_in w0 w.heap.size 2 (.slice B0 N.br.length d0)).bl b)
  have T1 := Lib.hid (S1.out.bl b)
  clear o b
  have S2 := Lib.hid (show CnI w #[.int .i64 N.W, .int .i64 N.H, .slice B0 N.br.length d0, .slice B1 N.ta.length d1, .slice y.tb.A N.tb.length y.tb.c, .slice y.bu.A N.bu.length y.bu.c, .slice y.ow.A N.ow.length y.ow.c, .slice y.tu.A N.tu.length y.tu.c, .slice y.so.A N.so.length y.so.c, .slice y.ar.A N.ar.length y.ar.c, .int .i64 N.ti] (w1.setCell ⟨w.heap.size, 3, none⟩ (.slice B1 N.ta.length d1)) from by have h := T1.out.st 3 (.slice B1 N.ta.length d1); simpa using h)
  have a : w1.cell? ⟨w.heap.size, 3, none⟩ = some (.slice y.ta.A N.ta.length y.ta.c) := T1.out.b.cell 3
  have x := T1.out.b.frozen 3
  have a2 : w1.cell? ⟨w.heap.size, 4, none⟩ = some (.slice y.tb.A N.tb.length y.tb.c) := T1.out.b.cell 4
  go_wp2_with fail
  clear a x a2
  refine (HCI.out _ _ _ N.tb _ (S2.out.in HI.out).tb HSM.out.tb).mono ?_
  rintro e w2 ⟨v, rfl, o, b⟩
  obtain ⟨B2, d2, rfl, _⟩ := own_form o
  have F2 := Lib.hid (fix_row o)
  have U2 := Lib.hid (fun k hk => (o.lt k hk))
  have Z2 := Lib.hid b.size
  have D2 := Lib.hid ((st_in w1 w.heap.size 3 (.slice B1 N.ta.length d1)).bl b)
  have T2 := Lib.hid (S2.out.bl b)
  clear o b
  have S3 := Lib.hid (show CnI w #[.int .i64 N.W, .int .i64 N.H, .slice B0 N.br.length d0, .slice B1 N.ta.length d1, .slice B2 N.tb.length d2, .slice y.bu.A N.bu.length y.bu.c, .slice y.ow.A N.ow.length y.ow.c, .slice y.tu.A N.tu.length y.tu.c, .slice y.so.A N.so.length y.so.c, .slice y.ar.A N.ar.length y.ar.c, .int .i64 N.ti] (w2.setCell ⟨w.heap.size, 4, none⟩ (.slice B2 N.tb.length d2)) from by have h := T2.out.st 4 (.slice B2 N.tb.length d2); simpa using h)
  have a : w2.cell? ⟨w.heap.size, 4, none⟩ = some (.slice y.tb.A N.tb.length y.tb.c) := T2.out.b.cell 4
  have x := T2.out.b.frozen 4
  have a2 : w2.cell? ⟨w.heap.size, 5, none⟩ = some (.slice y.bu.A N.bu.length y.bu.c) := T2.out.b.cell 5
  go_wp2_with fail
  clear a x a2
  refine (HCL.out _ _ _ N.bu _ (S3.out.in HI.out).bu HSM.out.bu HSM.out.sbu).mono ?_
  rintro e w3 ⟨v, v3, rfl, o, b⟩
  obtain ⟨B3, d3, rfl, _⟩ := own_form o.hd
  have F3 := Lib.hid (fix_fams o)
  have U3 := Lib.hid (show ∀ v, (v = .slice B3 N.bu.length d3 ∨ v ∈ v3) → ∀ k, v.ownBlock = some k → k < w3.heap.size from fun v hv k hk => by
    rcases hv with rfl | hv
    · exact (o.hd.lt k hk).2
    · exact fam_ub o.fam v hv k hk)
  have Z3 := Lib.hid b.size
  have D3 := Lib.hid ((st_in w2 w.heap.size 4 (.slice B2 N.tb.length d2)).bl b)
  have T3 := Lib.hid (S3.out.bl b)
  clear o b
  have S4 := Lib.hid (show CnI w #[.int .i64 N.W, .int .i64 N.H, .slice B0 N.br.length d0, .slice B1 N.ta.length d1, .slice B2 N.tb.length d2, .slice B3 N.bu.length d3, .slice y.ow.A N.ow.length y.ow.c, .slice y.tu.A N.tu.length y.tu.c, .slice y.so.A N.so.length y.so.c, .slice y.ar.A N.ar.length y.ar.c, .int .i64 N.ti] (w3.setCell ⟨w.heap.size, 5, none⟩ (.slice B3 N.bu.length d3)) from by have h := T3.out.st 5 (.slice B3 N.bu.length d3); simpa using h)
  have a : w3.cell? ⟨w.heap.size, 5, none⟩ = some (.slice y.bu.A N.bu.length y.bu.c) := T3.out.b.cell 5
  have x := T3.out.b.frozen 5
  have a2 : w3.cell? ⟨w.heap.size, 6, none⟩ = some (.slice y.ow.A N.ow.length y.ow.c) := T3.out.b.cell 6
  go_wp2_with fail
  clear a x a2
  refine (HCI.out _ _ _ N.ow _ (S4.out.in HI.out).ow HSM.out.ow).mono ?_
  rintro e w4 ⟨v, rfl, o, b⟩
  obtain ⟨B4, d4, rfl, _⟩ := own_form o
  have F4 := Lib.hid (fix_row o)
  have U4 := Lib.hid (fun k hk => (o.lt k hk))
  have Z4 := Lib.hid b.size
  have D4 := Lib.hid ((st_in w3 w.heap.size 5 (.slice B3 N.bu.length d3)).bl b)
  have T4 := Lib.hid (S4.out.bl b)
  clear o b
  have S5 := Lib.hid (show CnI w #[.int .i64 N.W, .int .i64 N.H, .slice B0 N.br.length d0, .slice B1 N.ta.length d1, .slice B2 N.tb.length d2, .slice B3 N.bu.length d3, .slice B4 N.ow.length d4, .slice y.tu.A N.tu.length y.tu.c, .slice y.so.A N.so.length y.so.c, .slice y.ar.A N.ar.length y.ar.c, .int .i64 N.ti] (w4.setCell ⟨w.heap.size, 6, none⟩ (.slice B4 N.ow.length d4)) from by have h := T4.out.st 6 (.slice B4 N.ow.length d4); simpa using h)
  have a : w4.cell? ⟨w.heap.size, 6, none⟩ = some (.slice y.ow.A N.ow.length y.ow.c) := T4.out.b.cell 6
  have x := T4.out.b.frozen 6
  have a2 : w4.cell? ⟨w.heap.size, 7, none⟩ = some (.slice y.tu.A N.tu.length y.tu.c) := T4.out.b.cell 7
  go_wp2_with fail
  clear a x a2
  refine (HCI.out _ _ _ N.tu _ (S5.out.in HI.out).tu HSM.out.tu).mono ?_
  rintro e w5 ⟨v, rfl, o, b⟩
  obtain ⟨B5, d5, rfl, _⟩ := own_form o
  have F5 := Lib.hid (fix_row o)
  have U5 := Lib.hid (fun k hk => (o.lt k hk))
  have Z5 := Lib.hid b.size
  have D5 := Lib.hid ((st_in w4 w.heap.size 6 (.slice B4 N.ow.length d4)).bl b)
  have T5 := Lib.hid (S5.out.bl b)
  clear o b
  have S6 := Lib.hid (show CnI w #[.int .i64 N.W, .int .i64 N.H, .slice B0 N.br.length d0, .slice B1 N.ta.length d1, .slice B2 N.tb.length d2, .slice B3 N.bu.length d3, .slice B4 N.ow.length d4, .slice B5 N.tu.length d5, .slice y.so.A N.so.length y.so.c, .slice y.ar.A N.ar.length y.ar.c, .int .i64 N.ti] (w5.setCell ⟨w.heap.size, 7, none⟩ (.slice B5 N.tu.length d5)) from by have h := T5.out.st 7 (.slice B5 N.tu.length d5); simpa using h)
  have a : w5.cell? ⟨w.heap.size, 7, none⟩ = some (.slice y.tu.A N.tu.length y.tu.c) := T5.out.b.cell 7
  have x := T5.out.b.frozen 7
  have a2 : w5.cell? ⟨w.heap.size, 8, none⟩ = some (.slice y.so.A N.so.length y.so.c) := T5.out.b.cell 8
  go_wp2_with fail
  clear a x a2
  refine (HCL.out _ _ _ N.so _ (S6.out.in HI.out).so HSM.out.so HSM.out.sso).mono ?_
  rintro e w6 ⟨v, v6, rfl, o, b⟩
  obtain ⟨B6, d6, rfl, _⟩ := own_form o.hd
  have F6 := Lib.hid (fix_fams o)
  have U6 := Lib.hid (show ∀ v, (v = .slice B6 N.so.length d6 ∨ v ∈ v6) → ∀ k, v.ownBlock = some k → k < w6.heap.size from fun v hv k hk => by
    rcases hv with rfl | hv
    · exact (o.hd.lt k hk).2
    · exact fam_ub o.fam v hv k hk)
  have Z6 := Lib.hid b.size
  have D6 := Lib.hid ((st_in w5 w.heap.size 7 (.slice B5 N.tu.length d5)).bl b)
  have T6 := Lib.hid (S6.out.bl b)
  clear o b
  have S7 := Lib.hid (show CnI w #[.int .i64 N.W, .int .i64 N.H, .slice B0 N.br.length d0, .slice B1 N.ta.length d1, .slice B2 N.tb.length d2, .slice B3 N.bu.length d3, .slice B4 N.ow.length d4, .slice B5 N.tu.length d5, .slice B6 N.so.length d6, .slice y.ar.A N.ar.length y.ar.c, .int .i64 N.ti] (w6.setCell ⟨w.heap.size, 8, none⟩ (.slice B6 N.so.length d6)) from by have h := T6.out.st 8 (.slice B6 N.so.length d6); simpa using h)
  have a : w6.cell? ⟨w.heap.size, 8, none⟩ = some (.slice y.so.A N.so.length y.so.c) := T6.out.b.cell 8
  have x := T6.out.b.frozen 8
  have a2 : w6.cell? ⟨w.heap.size, 9, none⟩ = some (.slice y.ar.A N.ar.length y.ar.c) := T6.out.b.cell 9
  go_wp2_with fail
  clear a x a2
  refine (HCL.out _ _ _ N.ar _ (S7.out.in HI.out).ar HSM.out.ar HSM.out.sar).mono ?_
  rintro e w7 ⟨v, v7, rfl, o, b⟩
  obtain ⟨B7, d7, rfl, _⟩ := own_form o.hd
  have F7 := Lib.hid (fix_fams o)
  have U7 := Lib.hid (show ∀ v, (v = .slice B7 N.ar.length d7 ∨ v ∈ v7) → ∀ k, v.ownBlock = some k → k < w7.heap.size from fun v hv k hk => by
    rcases hv with rfl | hv
    · exact (o.hd.lt k hk).2
    · exact fam_ub o.fam v hv k hk)
  have Z7 := Lib.hid b.size
  have D7 := Lib.hid ((st_in w6 w.heap.size 8 (.slice B6 N.so.length d6)).bl b)
  have T7 := Lib.hid (S7.out.bl b)
  clear o b
  have S8 := Lib.hid (show CnI w #[.int .i64 N.W, .int .i64 N.H, .slice B0 N.br.length d0, .slice B1 N.ta.length d1, .slice B2 N.tb.length d2, .slice B3 N.bu.length d3, .slice B4 N.ow.length d4, .slice B5 N.tu.length d5, .slice B6 N.so.length d6, .slice B7 N.ar.length d7, .int .i64 N.ti] (w7.setCell ⟨w.heap.size, 9, none⟩ (.slice B7 N.ar.length d7)) from by have h := T7.out.st 9 (.slice B7 N.ar.length d7); simpa using h)
  have z0 : w7.cell? ⟨w.heap.size, 0, none⟩ = some (.int .i64 N.W) := T7.out.b.cell 0
  have z1 : w7.cell? ⟨w.heap.size, 1, none⟩ = some (.int .i64 N.H) := T7.out.b.cell 1
  have z2 : w7.cell? ⟨w.heap.size, 2, none⟩ = some (.slice B0 N.br.length d0) := T7.out.b.cell 2
  have z3 : w7.cell? ⟨w.heap.size, 3, none⟩ = some (.slice B1 N.ta.length d1) := T7.out.b.cell 3
  have z4 : w7.cell? ⟨w.heap.size, 4, none⟩ = some (.slice B2 N.tb.length d2) := T7.out.b.cell 4
  have z5 : w7.cell? ⟨w.heap.size, 5, none⟩ = some (.slice B3 N.bu.length d3) := T7.out.b.cell 5
  have z6 : w7.cell? ⟨w.heap.size, 6, none⟩ = some (.slice B4 N.ow.length d4) := T7.out.b.cell 6
  have z7 : w7.cell? ⟨w.heap.size, 7, none⟩ = some (.slice B5 N.tu.length d5) := T7.out.b.cell 7
  have z8 : w7.cell? ⟨w.heap.size, 8, none⟩ = some (.slice B6 N.so.length d6) := T7.out.b.cell 8
  have z9 : w7.cell? ⟨w.heap.size, 9, none⟩ = some (.slice y.ar.A N.ar.length y.ar.c) := T7.out.b.cell 9
  have z10 : w7.cell? ⟨w.heap.size, 10, none⟩ = some (.int .i64 N.ti) := T7.out.b.cell 10
  have x := T7.out.b.frozen 9
  have y0 : w7.cell? ⟨w.heap.size + 1, 0, none⟩ = some (.int .i64 0) := T7.out.k.cell 0
  have x0 := T7.out.k.frozen 0
  have y1 : w7.cell? ⟨w.heap.size + 1, 1, none⟩ = some (.int .i64 0) := T7.out.k.cell 1
  have x1 := T7.out.k.frozen 1
  have y2 : w7.cell? ⟨w.heap.size + 1, 2, none⟩ = some (.slice none 0 0) := T7.out.k.cell 2
  have x2 := T7.out.k.frozen 2
  have y3 : w7.cell? ⟨w.heap.size + 1, 3, none⟩ = some (.slice none 0 0) := T7.out.k.cell 3
  have x3 := T7.out.k.frozen 3
  have y4 : w7.cell? ⟨w.heap.size + 1, 4, none⟩ = some (.slice none 0 0) := T7.out.k.cell 4
  have x4 := T7.out.k.frozen 4
  have y5 : w7.cell? ⟨w.heap.size + 1, 5, none⟩ = some (.slice none 0 0) := T7.out.k.cell 5
  have x5 := T7.out.k.frozen 5
  have y6 : w7.cell? ⟨w.heap.size + 1, 6, none⟩ = some (.slice none 0 0) := T7.out.k.cell 6
  have x6 := T7.out.k.frozen 6
  have y7 : w7.cell? ⟨w.heap.size + 1, 7, none⟩ = some (.slice none 0 0) := T7.out.k.cell 7
  have x7 := T7.out.k.frozen 7
  have y8 : w7.cell? ⟨w.heap.size + 1, 8, none⟩ = some (.slice none 0 0) := T7.out.k.cell 8
  have x8 := T7.out.k.frozen 8
  have y9 : w7.cell? ⟨w.heap.size + 1, 9, none⟩ = some (.slice none 0 0) := T7.out.k.cell 9
  have x9 := T7.out.k.frozen 9
  have y10 : w7.cell? ⟨w.heap.size + 1, 10, none⟩ = some (.int .i64 0) := T7.out.k.cell 10
  have x10 := T7.out.k.frozen 10
  go_wp2_with fail
  have kf : Blk ((((((((((((w7.setCell ⟨w.heap.size, 9, none⟩ (.slice B7 N.ar.length d7)).setCell ⟨w.heap.size + 1, 0, none⟩ (.int .i64 N.W)).setCell ⟨w.heap.size + 1, 1, none⟩ (.int .i64 N.H)).setCell ⟨w.heap.size + 1, 2, none⟩ (.slice B0 N.br.length d0)).setCell ⟨w.heap.size + 1, 3, none⟩ (.slice B1 N.ta.length d1)).setCell ⟨w.heap.size + 1, 4, none⟩ (.slice B2 N.tb.length d2)).setCell ⟨w.heap.size + 1, 5, none⟩ (.slice B3 N.bu.length d3)).setCell ⟨w.heap.size + 1, 6, none⟩ (.slice B4 N.ow.length d4)).setCell ⟨w.heap.size + 1, 7, none⟩ (.slice B5 N.tu.length d5)).setCell ⟨w.heap.size + 1, 8, none⟩ (.slice B6 N.so.length d6)).setCell ⟨w.heap.size + 1, 9, none⟩ (.slice B7 N.ar.length d7)).setCell ⟨w.heap.size + 1, 10, none⟩ (.int .i64 N.ti)) (w.heap.size + 1) 38 #[.int .i64 N.W, .int .i64 N.H, .slice B0 N.br.length d0, .slice B1 N.ta.length d1, .slice B2 N.tb.length d2, .slice B3 N.bu.length d3, .slice B4 N.ow.length d4, .slice B5 N.tu.length d5, .slice B6 N.so.length d6, .slice B7 N.ar.length d7, .int .i64 N.ti] := by
    have hz := (((((((((((S8.out.k.set_ 0 (.int .i64 N.W)).set_ 1 (.int .i64 N.H)).set_ 2 (.slice B0 N.br.length d0)).set_ 3 (.slice B1 N.ta.length d1)).set_ 4 (.slice B2 N.tb.length d2)).set_ 5 (.slice B3 N.bu.length d3)).set_ 6 (.slice B4 N.ow.length d4)).set_ 7 (.slice B5 N.tu.length d5)).set_ 8 (.slice B6 N.so.length d6)).set_ 9 (.slice B7 N.ar.length d7)).set_ 10 (.int .i64 N.ti))
    simpa using hz
  have qz : Chg (w.heap.size + 1) (w.heap.size + 1 + 1) (w7.setCell ⟨w.heap.size, 9, none⟩ (.slice B7 N.ar.length d7)) ((((((((((((w7.setCell ⟨w.heap.size, 9, none⟩ (.slice B7 N.ar.length d7)).setCell ⟨w.heap.size + 1, 0, none⟩ (.int .i64 N.W)).setCell ⟨w.heap.size + 1, 1, none⟩ (.int .i64 N.H)).setCell ⟨w.heap.size + 1, 2, none⟩ (.slice B0 N.br.length d0)).setCell ⟨w.heap.size + 1, 3, none⟩ (.slice B1 N.ta.length d1)).setCell ⟨w.heap.size + 1, 4, none⟩ (.slice B2 N.tb.length d2)).setCell ⟨w.heap.size + 1, 5, none⟩ (.slice B3 N.bu.length d3)).setCell ⟨w.heap.size + 1, 6, none⟩ (.slice B4 N.ow.length d4)).setCell ⟨w.heap.size + 1, 7, none⟩ (.slice B5 N.tu.length d5)).setCell ⟨w.heap.size + 1, 8, none⟩ (.slice B6 N.so.length d6)).setCell ⟨w.heap.size + 1, 9, none⟩ (.slice B7 N.ar.length d7)).setCell ⟨w.heap.size + 1, 10, none⟩ (.int .i64 N.ti)) := (((((((((((st_in (w7.setCell ⟨w.heap.size, 9, none⟩ (.slice B7 N.ar.length d7)) (w.heap.size + 1) 0 (.int .i64 N.W)).sx 1 (.int .i64 N.H)).sx 2 (.slice B0 N.br.length d0)).sx 3 (.slice B1 N.ta.length d1)).sx 4 (.slice B2 N.tb.length d2)).sx 5 (.slice B3 N.bu.length d3)).sx 6 (.slice B4 N.ow.length d4)).sx 7 (.slice B5 N.tu.length d5)).sx 8 (.slice B6 N.so.length d6)).sx 9 (.slice B7 N.ar.length d7)).sx 10 (.int .i64 N.ti))
  generalize ((((((((((((w7.setCell ⟨w.heap.size, 9, none⟩ (.slice B7 N.ar.length d7)).setCell ⟨w.heap.size + 1, 0, none⟩ (.int .i64 N.W)).setCell ⟨w.heap.size + 1, 1, none⟩ (.int .i64 N.H)).setCell ⟨w.heap.size + 1, 2, none⟩ (.slice B0 N.br.length d0)).setCell ⟨w.heap.size + 1, 3, none⟩ (.slice B1 N.ta.length d1)).setCell ⟨w.heap.size + 1, 4, none⟩ (.slice B2 N.tb.length d2)).setCell ⟨w.heap.size + 1, 5, none⟩ (.slice B3 N.bu.length d3)).setCell ⟨w.heap.size + 1, 6, none⟩ (.slice B4 N.ow.length d4)).setCell ⟨w.heap.size + 1, 7, none⟩ (.slice B5 N.tu.length d5)).setCell ⟨w.heap.size + 1, 8, none⟩ (.slice B6 N.so.length d6)).setCell ⟨w.heap.size + 1, 9, none⟩ (.slice B7 N.ar.length d7)).setCell ⟨w.heap.size + 1, 10, none⟩ (.int .i64 N.ti)) = wz at *
  have r0 := kf.cell 0
  have r1 := kf.cell 1
  have r2 := kf.cell 2
  have r3 := kf.cell 3
  have r4 := kf.cell 4
  have r5 := kf.cell 5
  have r6 := kf.cell 6
  have r7 := kf.cell 7
  have r8 := kf.cell 8
  have r9 := kf.cell 9
  have r10 := kf.cell 10
  simp only [List.getElem?_toArray, List.getElem?_cons_zero, List.getElem?_cons_succ] at r0 r1 r2 r3 r4 r5 r6 r7 r8 r9 r10
  have E7 : Chg w.heap.size (w.heap.size + 2) w7 wz := ((st_in w7 w.heap.size 9 (.slice B7 N.ar.length d7)).mono (Nat.le_refl _) (by omega)).trans (qz.mono (by omega) (by omega))
  have E6 : Chg w.heap.size (w.heap.size + 2) w6 wz := (D7.out.mono (Nat.le_refl _) (by omega)).trans E7
  have E5 : Chg w.heap.size (w.heap.size + 2) w5 wz := (D6.out.mono (Nat.le_refl _) (by omega)).trans E6
  have E4 : Chg w.heap.size (w.heap.size + 2) w4 wz := (D5.out.mono (Nat.le_refl _) (by omega)).trans E5
  have E3 : Chg w.heap.size (w.heap.size + 2) w3 wz := (D4.out.mono (Nat.le_refl _) (by omega)).trans E4
  have E2 : Chg w.heap.size (w.heap.size + 2) w2 wz := (D3.out.mono (Nat.le_refl _) (by omega)).trans E3
  have E1 : Chg w.heap.size (w.heap.size + 2) w1 wz := (D2.out.mono (Nat.le_refl _) (by omega)).trans E2
  have E0 : Chg w.heap.size (w.heap.size + 2) w0 wz := (D1.out.mono (Nat.le_refl _) (by omega)).trans E1
  have P0 := (F0.out.chg E0 (.inr (.inl (by have h1 := S0.out.s; exact h1)))).here
  have P1 := (F1.out.chg E1 (.inr (.inl (by have h1 := S1.out.s; exact h1)))).here
  have P2 := (F2.out.chg E2 (.inr (.inl (by have h1 := S2.out.s; exact h1)))).here
  have P3 := (F3.out.chg E3 (.inr (.inl (by have h1 := S3.out.s; exact h1)))).here
  have P4 := (F4.out.chg E4 (.inr (.inl (by have h1 := S4.out.s; exact h1)))).here
  have P5 := (F5.out.chg E5 (.inr (.inl (by have h1 := S5.out.s; exact h1)))).here
  have P6 := (F6.out.chg E6 (.inr (.inl (by have h1 := S6.out.s; exact h1)))).here
  have P7 := (F7.out.chg E7 (.inr (.inl (by have h1 := S7.out.s; exact h1)))).here
  have hnet : NetOwn wz _ wz.heap.size ⟨⟨B0, d0⟩, ⟨B1, d1⟩, ⟨B2, d2⟩, ⟨B3, d3⟩, ⟨B4, d4⟩, ⟨B5, d5⟩, ⟨B6, d6⟩, ⟨B7, d7⟩⟩ N := net_of_eight P0 P1 P2 P3 P4 P5 P6 P7
    (fun k hk => Nat.lt_of_lt_of_le (U0.out k hk).2 (st_in w0 w.heap.size 2 (.slice B0 N.br.length d0)).size)
    (fun k hk => Nat.lt_of_lt_of_le (U1.out k hk).2 (st_in w1 w.heap.size 3 (.slice B1 N.ta.length d1)).size)
    (fun k hk => Nat.lt_of_lt_of_le (U2.out k hk).2 (st_in w2 w.heap.size 4 (.slice B2 N.tb.length d2)).size)
    (fun v hv k hk => Nat.lt_of_lt_of_le (U3.out v hv k hk) (st_in w3 w.heap.size 5 (.slice B3 N.bu.length d3)).size)
    (fun k hk => Nat.lt_of_lt_of_le (U4.out k hk).2 (st_in w4 w.heap.size 6 (.slice B4 N.ow.length d4)).size)
    (fun k hk => Nat.lt_of_lt_of_le (U5.out k hk).2 (st_in w5 w.heap.size 7 (.slice B5 N.tu.length d5)).size)
    (fun v hv k hk => Nat.lt_of_lt_of_le (U6.out v hv k hk) (st_in w6 w.heap.size 8 (.slice B6 N.so.length d6)).size)
    (Nat.le_trans Z0.out (st_in w0 w.heap.size 2 (.slice B0 N.br.length d0)).size)
    (Nat.le_trans Z1.out (st_in w1 w.heap.size 3 (.slice B1 N.ta.length d1)).size)
    (Nat.le_trans Z2.out (st_in w2 w.heap.size 4 (.slice B2 N.tb.length d2)).size)
    (Nat.le_trans Z3.out (st_in w3 w.heap.size 5 (.slice B3 N.bu.length d3)).size)
    (Nat.le_trans Z4.out (st_in w4 w.heap.size 6 (.slice B4 N.ow.length d4)).size)
    (Nat.le_trans Z5.out (st_in w5 w.heap.size 7 (.slice B5 N.tu.length d5)).size)
    (Nat.le_trans Z6.out (st_in w6 w.heap.size 8 (.slice B6 N.so.length d6)).size)
  have hbl : Below w.heap.size w wz := S8.out.l.trans (qz.below (.inl (by omega)) (by have h1 := S8.out.s; omega))
  refine bodyPost_ret (v := .agg #[.int .i64 N.W, .int .i64 N.H, .slice B0 N.br.length d0, .slice B1 N.ta.length d1, .slice B2 N.tb.length d2, .slice B3 N.bu.length d3, .slice B4 N.ow.length d4, .slice B5 N.tu.length d5, .slice B6 N.so.length d6, .slice B7 N.ar.length d7, .int .i64 N.ti]) (by simp [results, Try.results38, go_sem, r0, r1, r2, r3, r4, r5, r6, r7, r8, r9, r10]) rfl ⟨_, rfl, hnet.less (by have h1 := S0.out.s; omega), hbl⟩
end Go.Proofs.Ytfloekbmgjmhbaa
end

section
namespace Go.Proofs.Ytfloekbmgjmhbaa
open Go.ChangeShapes Go.WideShapes Go.ChangeAt Go.RowKit
set_option linter.unusedVariables false
set_option maxRecDepth 20000

def withL (lo hi : Int) (L : List Int) : Bool := L.all fun x => decide (lo ≤ x ∧ x ≤ hi)
theorem withL_no {lo hi : Int} {L : List Int} {k : Nat} {x : Int} (h : L[k]? = some x) (hf : ¬ (lo ≤ x ∧ x ≤ hi)) : withL lo hi L = false := by
  cases ha : withL lo hi L with
  | false => rfl
  | true =>
    rw [withL, List.all_eq_true] at ha
    exact absurd (of_decide_eq_true (ha x (List.mem_of_getElem? h))) hf
theorem withL_yes {lo hi : Int} {L : List Int} (h : ∀ (k : Nat) x, L[k]? = some x → lo ≤ x ∧ x ≤ hi) : withL lo hi L = true := by
  rw [withL, List.all_eq_true]
  intro x hx
  obtain ⟨k, hk, e⟩ := List.getElem_of_mem hx
  exact decide_eq_true (h k x (by rw [List.getElem?_eq_getElem hk, e]))
theorem withL_one (lo hi x : Int) : withL lo hi [x] = decide (lo ≤ x ∧ x ≤ hi) := by simp [withL]
set_option maxHeartbeats 1600000 in
theorem implWithinV (lo hi : Int) (A : Option Addr) (n cap : Nat) (L : List Int) (r : Bool) (hr : withL lo hi L = r) (w : World) (h : IntAt w w.heap.size A n L) (hn : n ≤ 1000000000) :
    Calls Try.prog 43 #[.int .i64 lo, .int .i64 hi, .slice A n cap] w (RetB r w) := by
  have HI := Lib.hid h
  have hl := h.1
  have HNO := Lib.hid (fun k x => withL_no (lo := lo) (hi := hi) (L := L) (k := k) (x := x))
  have HYES := Lib.hid (withL_yes (lo := lo) (hi := hi) (L := L))
  rw [hr] at HNO HYES
  clear h hr
  go_enter Try.func43, Try.ntmps43
  go_wp2_with fail
  go_loopw [11] (fun i wr => ∃ k : Nat, i = .int .i64 (k : Int) ∧ k ≤ n ∧ (∀ (j : Nat) x, j < k → L[j]? = some x → lo ≤ x ∧ x ≤ hi) ∧ w.grownBy wr none) (fun i _ => n - (intOf i).toNat)
  case atStart => exact ⟨0, rfl, Nat.zero_le _, fun j x hj => by omega, gb_refl _ _⟩
  case round =>
    obtain ⟨k, rfl, hk, hs, hg⟩ := hrel
    have HS := Lib.hid hs
    have HG := Lib.hid hg
    by_cases hlt : k < n
    · have hkL : k < L.length := by omega
      obtain ⟨x, hx⟩ : ∃ x, L[k]? = some x := ⟨_, List.getElem?_eq_getElem hkL⟩
      obtain ⟨b, off, rfl, _, c0⟩ := (HI.out.none (Nat.le_refl _) hg).at k hlt
      rw [List.getD_eq_getElem?_getD, hx, Option.getD_some] at c0
      have HX := Lib.hid hx
      have k0 : (0 : Int) ≤ (k : Int) := by omega
      have k1 : (k : Int) < (n : Int) := by omega
      clear hs hg hx
      by_cases h1 : x < lo
      · have HR := Lib.hid (HNO.out k x HX.out (by omega))
        go_wp2_with fail
        go_ret
        exact ⟨ret_bool HR.out.symm, HG.out⟩
      · by_cases h2 : x > hi
        · have HR := Lib.hid (HNO.out k x HX.out (by omega))
          go_wp2_with fail
          go_ret
          exact ⟨ret_bool HR.out.symm, HG.out⟩
        · have HIN := Lib.hid (show lo ≤ x ∧ x ≤ hi by omega)
          go_wp2_with fail
          go_roundw
          case rel => exact ⟨k + 1, by go_num, by omega, fun j z hj hz => by
            rcases Nat.lt_or_ge j k with h1 | h1
            · exact HS.out j z h1 hz
            · obtain rfl : j = k := by omega
              rw [HX.out] at hz
              cases hz
              exact HIN.out, HG.out⟩
          case measure => simp [intOf]; omega
    · have k1 : ¬ (k : Int) < (n : Int) := by omega
      have HR := Lib.hid (HYES.out (fun j x hx => HS.out j x (by have := (List.getElem?_eq_some_iff.1 hx).1; omega) hx))
      clear hs hg
      go_wp2_with fail
      go_ret
      exact ⟨ret_bool HR.out.symm, HG.out⟩
/-- One number. -/
theorem int_new (w : World) (x : Int) : IntAt (w.alloc (.cells #[.int .i64 x] 3)) (w.alloc (.cells #[.int .i64 x] 3)).heap.size (some ⟨w.heap.size, 0, none⟩) 1 [x] :=
  ⟨rfl, fun _ => ⟨w.heap.size, 0, rfl, by rw [alloc_size]; omega, fun k z hk => by
    cases k with
    | zero => cases hk; exact (Blk.new w 3 #[.int .i64 x]).cell 0
    | succ k => simp at hk⟩⟩
theorem implWithin1 (lo hi x : Int) (r : Bool) (hr : decide (lo ≤ x ∧ x ≤ hi) = r) (w : World) :
    Calls Try.prog 43 #[.int .i64 lo, .int .i64 hi, .slice (some ⟨w.heap.size, 0, none⟩) 1 1] (w.alloc (.cells #[.int .i64 x] 3)) (fun e w' => e = .returned (.bool r) ∧ w.grownBy w' none) :=
  (implWithinV lo hi _ 1 1 [x] r ((withL_one lo hi x).trans hr) _ (int_new w x) (by omega)).mono fun e w' ⟨h1, h2⟩ => ⟨h1, gb_trans (gb_alloc (gb_refl _ _) _) h2⟩
theorem implIsClassN (c : Int) (b : Bool) (hb : decide (0 ≤ c ∧ c ≤ 1) = b) (w : World) :
    Calls Try.prog 111 #[.int .i64 c] w fun e w' => e = .returned (.bool b) ∧ w = w' := by
  have HB := Lib.hid hb
  clear hb
  by_cases h0 : c = 0
  · have HN := Lib.hid (show true = b by rw [← HB.out]; exact (decide_eq_true (by omega)).symm)
    subst h0
    go_enter Try.func111, Try.ntmps111
    go_wp2_with fail
    go_ret
    exact ⟨ret_bool HN.out, rfl⟩
  · have HN := Lib.hid (show (c == 1) = b by rw [← HB.out]; exact Bool.eq_iff_iff.2 (by simp; omega))
    have q0 : (c == 0) = false := by simpa using h0
    go_enter Try.func111, Try.ntmps111
    go_wp2_with fail
    go_ret
    exact ⟨ret_bool (by first | exact HN.out | (rw [← HN.out]; simp)), rfl⟩

end Go.Proofs.Ytfloekbmgjmhbaa
end

section
namespace Go.Proofs.Ytfloekbmgjmhbaa
open Go.ChangeShapes Go.WideShapes Go.ChangeAt Go.RowKit
set_option linter.unusedVariables false
set_option maxRecDepth 20000

def sizesI (N : Nt) : Bool := decide (((N.bu.length : Nat) : Int) = 10 * countG N.W N.H ∧ ((N.ow.length : Nat) : Int) = 10 * countG N.W N.H ∧ ((N.tu.length : Nat) : Int) = 5 * countG N.W N.H ∧ ((N.so.length : Nat) : Int) = countG N.W N.H ∧ ((N.ar.length : Nat) : Int) = countG N.W N.H)
def bufJ (W H : Int) (i : Nat) (D : List Flt) : Bool := decide (D.length ≤ 3) && (lstOk W H D && D.all fun x => decide (x.cl = ((i % 2 : Nat) : Int)))
def bufsI (N : Nt) : Bool := (List.range N.bu.length).all fun i => bufJ N.W N.H i (N.bu.getD i [])
def srcsI (N : Nt) : Bool := N.so.all (srcOk N.W N.H)
theorem netOk_iff {N : Nt} : netOk N = true ↔ clsOk N.W N.H N.br N.ta N.tb = true ∧ sizesI N = true ∧ bufsI N = true ∧ srcsI N = true ∧ withL (-1) 4 N.ow = true ∧ withL 0 9 N.tu = true ∧ withL 0 1000000 [N.ti] = true := by
  constructor
  · intro h
    rw [netOk, Bool.and_eq_true, Bool.and_eq_true, Bool.and_eq_true, Bool.and_eq_true] at h
    obtain ⟨h1, h2, h3, h4, h5⟩ := h
    have h2' := of_decide_eq_true h2
    rw [List.all_eq_true] at h3 h4
    have key : ∀ i, i < N.bu.length → decide ((N.bu.getD i []).length ≤ 3) = true ∧ lstOk N.W N.H (N.bu.getD i []) = true ∧ decide (-1 ≤ N.ow.getD i 0 ∧ N.ow.getD i 0 ≤ 4) = true ∧ ((N.bu.getD i []).all fun x => decide (x.cl = ((i % 2 : Nat) : Int))) = true := fun i hi => by
      have h6 := h3 i (List.mem_range.2 hi)
      rw [bufOk, Bool.and_eq_true, Bool.and_eq_true, Bool.and_eq_true] at h6
      exact h6
    refine ⟨h1, decide_eq_true ⟨h2'.1, h2'.2.1, h2'.2.2.1, h2'.2.2.2.1, h2'.2.2.2.2.1⟩, ?_, h5, withL_yes (fun k x hx => ?_), withL_yes (fun k x hx => ?_), ?_⟩
    · rw [bufsI, List.all_eq_true]
      intro i hi
      obtain ⟨k1, k2, _, k4⟩ := key i (List.mem_range.1 hi)
      rw [bufJ, k1, k2, k4]
      rfl
    · have hk := (List.getElem?_eq_some_iff.1 hx).1
      have k3 := (key k (by omega)).2.2.1
      rw [List.getD_eq_getElem?_getD (l := N.ow), hx] at k3
      exact of_decide_eq_true k3
    · exact of_decide_eq_true (h4 x (List.mem_of_getElem? hx))
    · rw [withL_one]
      exact decide_eq_true h2'.2.2.2.2.2
  · rintro ⟨h1, h2, h3, h4, h5, h6, h7⟩
    have h2' := of_decide_eq_true h2
    rw [bufsI, List.all_eq_true] at h3
    rw [srcsI, List.all_eq_true] at h4
    rw [withL, List.all_eq_true] at h5 h6
    rw [withL_one] at h7
    refine nk_yes h1 (decide_eq_true ⟨h2'.1, h2'.2.1, h2'.2.2.1, h2'.2.2.2.1, h2'.2.2.2.2, of_decide_eq_true h7⟩) (fun i hi => ?_) (fun i t ht => h6 t (List.mem_of_getElem? ht)) (fun i D hD => h4 D (List.mem_of_getElem? hD))
    have h8 := h3 i (List.mem_range.2 hi)
    rw [bufJ, Bool.and_eq_true, Bool.and_eq_true] at h8
    have ho : N.ow.getD i 0 ∈ N.ow := by
      have hi2 : i < N.ow.length := by omega
      rw [List.getD_eq_getElem?_getD, List.getElem?_eq_getElem hi2]
      exact List.getElem_mem hi2
    rw [bufOk, h8.1, h8.2.1, h8.2.2, h5 _ ho]
    rfl
theorem netOk_no {N : Nt} (h : ¬ (clsOk N.W N.H N.br N.ta N.tb = true ∧ sizesI N = true ∧ bufsI N = true ∧ srcsI N = true ∧ withL (-1) 4 N.ow = true ∧ withL 0 9 N.tu = true ∧ withL 0 1000000 [N.ti] = true)) : false = netOk N := by
  cases hk : netOk N with
  | false => rfl
  | true => exact absurd (netOk_iff.1 hk) h
theorem bufsI_no {N : Nt} {i : Nat} (hi : i < N.bu.length) (h : bufJ N.W N.H i (N.bu.getD i []) = false) : bufsI N = false := by
  cases ha : bufsI N with
  | false => rfl
  | true =>
    rw [bufsI, List.all_eq_true] at ha
    rw [ha i (List.mem_range.2 hi)] at h
    cases h
theorem bufsI_yes {N : Nt} (h : ∀ i, i < N.bu.length → bufJ N.W N.H i (N.bu.getD i []) = true) : bufsI N = true := by
  rw [bufsI, List.all_eq_true]
  exact fun i hi => h i (List.mem_range.1 hi)
theorem bufJ_no1 {W H : Int} {i : Nat} {D : List Flt} (h : ¬ D.length ≤ 3) : bufJ W H i D = false := by rw [bufJ, decide_eq_false h]; rfl
theorem bufJ_no2 {W H : Int} {i : Nat} {D : List Flt} (h : lstOk W H D = false) : bufJ W H i D = false := by rw [bufJ, h, Bool.false_and, Bool.and_false]
theorem bufJ_no3 {W H : Int} {i q : Nat} {D : List Flt} {x : Flt} (hx : D[q]? = some x) (h : x.cl ≠ ((i % 2 : Nat) : Int)) : bufJ W H i D = false := by
  have h1 : (D.all fun x => decide (x.cl = ((i % 2 : Nat) : Int))) = false := by
    cases ha : D.all fun x => decide (x.cl = ((i % 2 : Nat) : Int)) with
    | false => rfl
    | true =>
      rw [List.all_eq_true] at ha
      exact absurd (of_decide_eq_true (ha x (List.mem_of_getElem? hx))) h
  rw [bufJ, h1, Bool.and_false, Bool.and_false]
theorem bufJ_yes {W H : Int} {i : Nat} {D : List Flt} (h1 : D.length ≤ 3) (h2 : lstOk W H D = true) (h4 : ∀ (q : Nat) x, D[q]? = some x → x.cl = ((i % 2 : Nat) : Int)) : bufJ W H i D = true := by
  have g4 : (D.all fun x => decide (x.cl = ((i % 2 : Nat) : Int))) = true := by
    rw [List.all_eq_true]
    intro x hx
    obtain ⟨q, hq, e⟩ := List.getElem_of_mem hx
    exact decide_eq_true (h4 q x (List.getElem?_eq_some_iff.2 ⟨hq, e⟩))
  rw [bufJ, decide_eq_true h1, h2, g4]
  rfl
theorem srcsI_no {N : Nt} {i : Nat} {D : List Flt} (hD : N.so[i]? = some D) (h : srcOk N.W N.H D = false) : srcsI N = false := by
  cases ha : srcsI N with
  | false => rfl
  | true =>
    rw [srcsI, List.all_eq_true] at ha
    rw [ha D (List.mem_of_getElem? hD)] at h
    cases h
theorem srcsI_yes {N : Nt} (h : ∀ (i : Nat) D, N.so[i]? = some D → srcOk N.W N.H D = true) : srcsI N = true := by
  rw [srcsI, List.all_eq_true]
  intro D hD
  obtain ⟨i, hi, e⟩ := List.getElem_of_mem hD
  exact h i D (List.getElem?_eq_some_iff.2 ⟨hi, e⟩)
theorem tmod_twoI (x : Nat) : Int.tmod (x : Int) 2 = ((x % 2 : Nat) : Int) := by
  rw [Int.tmod_eq_emod_of_nonneg (by omega)]; rfl
theorem sizesI_no {N : Nt} {k : Nat} (hk : countG N.W N.H = (k : Int)) (h : ¬ (N.bu.length = 10 * k ∧ N.ow.length = 10 * k ∧ N.tu.length = 5 * k ∧ N.so.length = k ∧ N.ar.length = k)) : sizesI N = false :=
  decide_eq_false (fun e => h (by rw [hk] at e; omega))
theorem sizesI_yes {N : Nt} {k : Nat} (hk : countG N.W N.H = (k : Int)) (h : N.bu.length = 10 * k ∧ N.ow.length = 10 * k ∧ N.tu.length = 5 * k ∧ N.so.length = k ∧ N.ar.length = k) : sizesI N = true :=
  decide_eq_true (by rw [hk]; omega)
end Go.Proofs.Ytfloekbmgjmhbaa
end

section
namespace Go.Proofs.Ytfloekbmgjmhbaa
open Go.ChangeShapes Go.WideShapes Go.ChangeAt Go.RowKit
set_option linter.unusedVariables false
set_option maxRecDepth 20000

/-- Each flit of a list goes to a node of the grid in a class that there is. -/
theorem implLeadsV (y : Na) (N : Nt) (A : Option Addr) (n cap : Nat) (D : List Flt) (r : Bool) (hr : lstOk N.W N.H D = r) (w : World) (h : RecAt 5 fltC w w.heap.size A n D) (hn : n ≤ 1000000000) :
    Calls Try.prog 82 #[.agg #[.int .i64 N.W, .int .i64 N.H, .slice y.br.A N.br.length y.br.c, .slice y.ta.A N.ta.length y.ta.c, .slice y.tb.A N.tb.length y.tb.c, .slice y.bu.A N.bu.length y.bu.c, .slice y.ow.A N.ow.length y.ow.c, .slice y.tu.A N.tu.length y.tu.c, .slice y.so.A N.so.length y.so.c, .slice y.ar.A N.ar.length y.ar.c, .int .i64 N.ti], .slice A n cap] w (RetB r w) := by
  have HI := Lib.hid h
  have hl := h.1
  have HYES := Lib.hid (lstOk_yes (W := N.W) (H := N.H) (D := D))
  have HNO := Lib.hid (fun k x hx hf => lstOk_no (W := N.W) (H := N.H) (D := D) (k := k) (x := x) hx hf)
  rw [hr] at HYES HNO
  have X0 := Lib.hid (nkAt_start (w := w) (y := y) (N := N))
  have HHN := Lib.hid (fun (n : Int) (b : Bool) (hb : hasG N.W N.H n = b) w => show Calls Try.prog 110 #[.agg #[.int .i64 N.W, .int .i64 N.H], .int .i64 n] w (RetB b w) from hb ▸ implHasNode N.W N.H n w)
  have HIC := Lib.hid (fun (c : Int) (b : Bool) (hb : decide (0 ≤ c ∧ c ≤ 1) = b) w => implIsClassN c b hb w)
  clear h hr
  go_enter Try.func82, Try.ntmps82
  go_wp2_with fail
  go_loopw [9] (fun i wr => ∃ k : Nat, i = .int .i64 (k : Int) ∧ k ≤ n ∧ (∀ (j : Nat) x, j < k → D[j]? = some x → fltOk N.W N.H x = true) ∧ NkAt w y N wr) (fun i _ => n - (intOf i).toNat)
  case atStart => exact ⟨0, rfl, Nat.zero_le _, fun j x hj => by omega, X0.out⟩
  case round =>
    obtain ⟨k, rfl, hk, hall, hx0⟩ := hrel
    have HALL := Lib.hid hall
    have XR := Lib.hid hx0
    by_cases hlt : k < n
    · obtain ⟨b, o, x, rfl, _, hx, hc⟩ := (HI.out.none (Nat.le_refl _) hx0.g).at k hlt
      obtain ⟨a0, a1, a2, a3, a4⟩ := flt_five hc
      have k0 : (0 : Int) ≤ (k : Int) := by omega
      have k1 : (k : Int) < (n : Int) := by omega
      have HX := Lib.hid hx
      have hxb := hx0.gb (gb_alloc (gb_refl wr none) (.cells #[.int .i64 x.pk, .int .i64 x.to, .int .i64 x.cl, .bool x.hd, .bool x.tl] 120))
      have g0 : (wr.alloc (.cells #[.int .i64 x.pk, .int .i64 x.to, .int .i64 x.cl, .bool x.hd, .bool x.tl] 120)).cell? ⟨w.heap.size, 0, none⟩ = some (.int .i64 N.W) := hxb.b.cell 0
      have g1 : (wr.alloc (.cells #[.int .i64 x.pk, .int .i64 x.to, .int .i64 x.cl, .bool x.hd, .bool x.tl] 120)).cell? ⟨w.heap.size, 1, none⟩ = some (.int .i64 N.H) := hxb.b.cell 1
      have XB := Lib.hid hxb
      have KB := Lib.hid (Blk.new wr 120 #[.int .i64 x.pk, .int .i64 x.to, .int .i64 x.cl, .bool x.hd, .bool x.tl])
      obtain ⟨pk, to, cl, hd, tl⟩ := x
      dsimp only at a0 a1 a2 a3 a4 g0 g1 XB KB
      clear hx hc hall hx0 hxb
      cases hh : hasG N.W N.H to with
      | false =>
        have C1 := Lib.hid (HHN.out to false hh)
        have HR := Lib.hid (HNO.out k _ HX.out (show fltOk N.W N.H ⟨pk, to, cl, hd, tl⟩ = false by rw [fltOk, hh]; rfl))
        clear hh
        go_wp2_with fail
        refine (C1.out _).mono ?_
        rintro e w4 ⟨rfl, g4⟩
        have X4 := Lib.hid (XB.out.gb g4)
        clear g4 g0 g1 a0 a1 a2 a3 a4
        go_wp2_with fail
        go_ret
        exact ⟨ret_bool HR.out.symm, X4.out.g⟩
      | true =>
        have C1 := Lib.hid (HHN.out to true hh)
        cases hcb : decide (0 ≤ cl ∧ cl ≤ 1) with
        | false =>
          have C2 := Lib.hid (HIC.out cl false hcb)
          have HR := Lib.hid (HNO.out k _ HX.out (show fltOk N.W N.H ⟨pk, to, cl, hd, tl⟩ = false by rw [fltOk, hh, hcb]; rfl))
          clear hh hcb
          go_wp2_with fail
          refine (C1.out _).mono ?_
          rintro e w4 ⟨rfl, g4⟩
          have X4 := Lib.hid (XB.out.gb g4)
          have f2 : w4.cell? ⟨wr.heap.size, 2, none⟩ = some (.int .i64 cl) := (KB.out.grown g4 (by simp)).cell 2
          clear g4 g0 g1 a0 a1 a2 a3 a4
          go_wp2_with fail
          refine (C2.out _).mono ?_
          rintro e w5 ⟨rfl, rfl⟩
          go_wp2_with fail
          go_ret
          exact ⟨ret_bool HR.out.symm, X4.out.g⟩
        | true =>
          have C2 := Lib.hid (HIC.out cl true hcb)
          have HF := Lib.hid (show fltOk N.W N.H ⟨pk, to, cl, hd, tl⟩ = true by rw [fltOk, hh, hcb]; rfl)
          clear hh hcb
          go_wp2_with fail
          refine (C1.out _).mono ?_
          rintro e w4 ⟨rfl, g4⟩
          have X4 := Lib.hid (XB.out.gb g4)
          have f2 : w4.cell? ⟨wr.heap.size, 2, none⟩ = some (.int .i64 cl) := (KB.out.grown g4 (by simp)).cell 2
          clear g4 g0 g1 a0 a1 a2 a3 a4
          go_wp2_with fail
          refine (C2.out _).mono ?_
          rintro e w5 ⟨rfl, rfl⟩
          clear f2
          go_wp2_with fail
          go_roundw
          case rel => exact ⟨k + 1, by go_num, by omega, fun j z hj hz => by
            rcases Nat.lt_or_ge j k with h1 | h1
            · exact HALL.out j z h1 hz
            · obtain rfl : j = k := by omega
              rw [HX.out] at hz
              cases hz
              exact HF.out, X4.out⟩
          case measure => simp [intOf]; omega
    · have k1 : ¬ (k : Int) < (n : Int) := by omega
      have HR := Lib.hid (HYES.out (fun j x hx => HALL.out j x (by have := (List.getElem?_eq_some_iff.1 hx).1; omega) hx))
      clear hall hx0
      go_wp2_with fail
      go_ret
      exact ⟨ret_bool HR.out.symm, XR.out.g⟩
/-- The lists have as many elements as the mesh has nodes, ports and classes. -/
theorem implSizesV (y : Na) (N : Nt) (r : Bool) (hr : sizesI N = r) (w : World) :
    Calls Try.prog 40 #[.agg #[.int .i64 N.W, .int .i64 N.H, .slice y.br.A N.br.length y.br.c, .slice y.ta.A N.ta.length y.ta.c, .slice y.tb.A N.tb.length y.tb.c, .slice y.bu.A N.bu.length y.bu.c, .slice y.ow.A N.ow.length y.ow.c, .slice y.tu.A N.tu.length y.tu.c, .slice y.so.A N.so.length y.so.c, .slice y.ar.A N.ar.length y.ar.c, .int .i64 N.ti]] w (RetB r w) := by
  obtain ⟨kk, hkk⟩ : ∃ kk : Nat, countG N.W N.H = (kk : Int) := ⟨(countG N.W N.H).toNat, by have := (countG_le N.W N.H).1; omega⟩
  have hk16 : kk ≤ 16 := by have := (countG_le N.W N.H).2; omega
  have HNC : Hid (∀ w, Calls Try.prog 37 #[.agg #[.int .i64 N.W, .int .i64 N.H]] w (RetI (kk : Int) none w)) := Lib.hid (fun w => by have h := implNodeCount N.W N.H w; rw [hkk] at h; exact h)
  have HSN := Lib.hid (sizesI_no hkk)
  have HSY := Lib.hid (sizesI_yes hkk)
  rw [hr] at HSN HSY
  obtain ⟨b10, hb10⟩ : ∃ b, 10 * kk = b := ⟨_, rfl⟩
  obtain ⟨b5, hb5⟩ : ∃ b, 5 * kk = b := ⟨_, rfl⟩
  rw [hb10, hb5] at HSN HSY
  have e10 : wrap64 (10 * (kk : Int)) = (b10 : Int) := by rw [IntWalk.wrap64_in _ (by omega)]; omega
  have e5 : wrap64 (5 * (kk : Int)) = (b5 : Int) := by rw [IntWalk.wrap64_in _ (by omega)]; omega
  have e10b : IntKind.i64.wrap (10 * (kk : Int)) = (b10 : Int) := by rw [IntWalk.i64_in _ (by omega)]; omega
  have e5b : IntKind.i64.wrap (5 * (kk : Int)) = (b5 : Int) := by rw [IntWalk.i64_in _ (by omega)]; omega
  have X0 := Lib.hid (nkAt_start (w := w) (y := y) (N := N))
  clear hkk hr hb10 hb5
  go_enter Try.func40, Try.ntmps40
  go_wp2_with fail
  refine (HNC.out _).mono ?_
  rintro e w1 ⟨rfl, g1⟩
  have X1 := Lib.hid (X0.out.gb g1)
  have a5 : w1.cell? ⟨w.heap.size, 5, none⟩ = some (.slice y.bu.A N.bu.length y.bu.c) := X1.out.b.cell 5
  have a6 : w1.cell? ⟨w.heap.size, 6, none⟩ = some (.slice y.ow.A N.ow.length y.ow.c) := X1.out.b.cell 6
  have a7 : w1.cell? ⟨w.heap.size, 7, none⟩ = some (.slice y.tu.A N.tu.length y.tu.c) := X1.out.b.cell 7
  have a8 : w1.cell? ⟨w.heap.size, 8, none⟩ = some (.slice y.so.A N.so.length y.so.c) := X1.out.b.cell 8
  have a9 : w1.cell? ⟨w.heap.size, 9, none⟩ = some (.slice y.ar.A N.ar.length y.ar.c) := X1.out.b.cell 9
  clear g1
  by_cases hbu : N.bu.length = b10
  rotate_left
  · have HE := Lib.hid (show false = r from (HSN.out (fun e => hbu (by omega))).symm)
    have pbu : ((N.bu.length : Int) == (b10 : Int)) = false := by simp; omega
    have qbu : ¬ (N.bu.length : Int) = (b10 : Int) := by omega
    clear hbu
    go_wp2_with fail
    go_ret
    exact ⟨ret_bool HE.out, X1.out.g⟩
  have pbu : ((N.bu.length : Int) == (b10 : Int)) = true := by simp; omega
  have qbu : (N.bu.length : Int) = (b10 : Int) := by omega
  have Hbu := Lib.hid hbu
  clear hbu
  by_cases how : N.ow.length = b10
  rotate_left
  · have HE := Lib.hid (show false = r from (HSN.out (fun e => how (by omega))).symm)
    have pow : ((N.ow.length : Int) == (b10 : Int)) = false := by simp; omega
    have qow : ¬ (N.ow.length : Int) = (b10 : Int) := by omega
    clear how
    go_wp2_with fail
    go_ret
    exact ⟨ret_bool HE.out, X1.out.g⟩
  have pow : ((N.ow.length : Int) == (b10 : Int)) = true := by simp; omega
  have qow : (N.ow.length : Int) = (b10 : Int) := by omega
  have How := Lib.hid how
  clear how
  by_cases htu : N.tu.length = b5
  rotate_left
  · have HE := Lib.hid (show false = r from (HSN.out (fun e => htu (by omega))).symm)
    have ptu : ((N.tu.length : Int) == (b5 : Int)) = false := by simp; omega
    have qtu : ¬ (N.tu.length : Int) = (b5 : Int) := by omega
    clear htu
    go_wp2_with fail
    go_ret
    exact ⟨ret_bool HE.out, X1.out.g⟩
  have ptu : ((N.tu.length : Int) == (b5 : Int)) = true := by simp; omega
  have qtu : (N.tu.length : Int) = (b5 : Int) := by omega
  have Htu := Lib.hid htu
  clear htu
  by_cases hso : N.so.length = kk
  rotate_left
  · have HE := Lib.hid (show false = r from (HSN.out (fun e => hso (by omega))).symm)
    have pso : ((N.so.length : Int) == (kk : Int)) = false := by simp; omega
    have qso : ¬ (N.so.length : Int) = (kk : Int) := by omega
    clear hso
    go_wp2_with fail
    go_ret
    exact ⟨ret_bool HE.out, X1.out.g⟩
  have pso : ((N.so.length : Int) == (kk : Int)) = true := by simp; omega
  have qso : (N.so.length : Int) = (kk : Int) := by omega
  have Hso := Lib.hid hso
  clear hso
  by_cases har : N.ar.length = kk
  rotate_left
  · have HE := Lib.hid (show false = r from (HSN.out (fun e => har (by omega))).symm)
    have par : ((N.ar.length : Int) == (kk : Int)) = false := by simp; omega
    have qar : ¬ (N.ar.length : Int) = (kk : Int) := by omega
    clear har
    go_wp2_with fail
    go_ret
    exact ⟨ret_bool HE.out, X1.out.g⟩
  have par : ((N.ar.length : Int) == (kk : Int)) = true := by simp; omega
  have qar : (N.ar.length : Int) = (kk : Int) := by omega
  have Har := Lib.hid har
  clear har
  have HE := Lib.hid (show true = r from (HSY.out ⟨Hbu.out, How.out, Htu.out, Hso.out, Har.out⟩).symm)
  go_wp2_with fail
  go_ret
  exact ⟨ret_bool HE.out, X1.out.g⟩
set_option maxHeartbeats 1600000 in
/-- No buffer holds too many flits or one that does not belong there. -/
theorem implBufsV (y : Na) (N : Nt) (r : Bool) (hr : bufsI N = r) (w : World) (h : NetIn w w.heap.size y N) (hn : NetSm N) :
    Calls Try.prog 41 #[.agg #[.int .i64 N.W, .int .i64 N.H, .slice y.br.A N.br.length y.br.c, .slice y.ta.A N.ta.length y.ta.c, .slice y.tb.A N.tb.length y.tb.c, .slice y.bu.A N.bu.length y.bu.c, .slice y.ow.A N.ow.length y.ow.c, .slice y.tu.A N.tu.length y.tu.c, .slice y.so.A N.so.length y.so.c, .slice y.ar.A N.ar.length y.ar.c, .int .i64 N.ti]] w (RetB r w) := by
  have HI := Lib.hid h
  have HSM := Lib.hid hn
  have HNO := Lib.hid (fun i => bufsI_no (N := N) (i := i))
  have HYES := Lib.hid (bufsI_yes (N := N))
  rw [hr] at HNO HYES
  have X0 := Lib.hid (nkAt_start (w := w) (y := y) (N := N))
  have HLD := Lib.hid (fun A n cap D r hr w h hn => implLeadsV y N A n cap D r hr w h hn)
  have h9 : N.bu.length ≤ 1000000000 := hn.bu
  clear h hr hn
  obtain ⟨⟨A0, c0⟩, ⟨A1, c1⟩, ⟨A2, c2⟩, ⟨A3, c3⟩, ⟨A4, c4⟩, ⟨A5, c5⟩, ⟨A6, c6⟩, ⟨A7, c7⟩⟩ := y
  dsimp only at HLD ⊢
  go_enter Try.func41, Try.ntmps41
  go_wp2_with fail
  go_loopw [10] (fun i wr => ∃ k : Nat, i = .int .i64 (k : Int) ∧ k ≤ N.bu.length ∧ (∀ j, j < k → bufJ N.W N.H j (N.bu.getD j []) = true) ∧ NkAt w ⟨⟨A0, c0⟩, ⟨A1, c1⟩, ⟨A2, c2⟩, ⟨A3, c3⟩, ⟨A4, c4⟩, ⟨A5, c5⟩, ⟨A6, c6⟩, ⟨A7, c7⟩⟩ N wr) (fun i _ => N.bu.length - (intOf i).toNat)
  case atStart => exact ⟨0, rfl, Nat.zero_le _, fun j hj => by omega, X0.out⟩
  case round =>
    obtain ⟨k, rfl, hk, hall, hx⟩ := hrel
    have HALL := Lib.hid hall
    have X1 := Lib.hid hx
    clear hall hx
    by_cases hlt : k < N.bu.length
    · obtain ⟨b, off, D, A', c', hA, _, hD, hcell, hcap, hrec⟩ := (X1.out.in HI.out).bu.at k hlt
      have hA' : A3 = some ⟨b, off, none⟩ := hA
      subst hA'
      have hgd : N.bu.getD k [] = D := getD_of hD
      have HJ := Lib.hid (fun (b : Bool) (hb : bufJ N.W N.H k D = b) => show bufJ N.W N.H k (N.bu.getD k []) = b by rw [hgd]; exact hb)
      have HREC := Lib.hid hrec
      have hat := sumL_at hD
      have h8 : D.length ≤ 1000000000 := by have := HSM.out.sbu; omega
      have k0 : (0 : Int) ≤ (k : Int) := by omega
      have k1 : (k : Int) < (N.bu.length : Int) := by omega
      have HKL := Lib.hid hlt
      clear hA hgd hat hD hrec hcap
      by_cases h3 : D.length ≤ 3
      rotate_left
      · have HR := Lib.hid (HNO.out k hlt (HJ.out false (bufJ_no1 h3)))
        have p3 : (D.length : Int) > 3 := by omega
        clear h3
        go_wp2_with fail
        go_ret
        exact ⟨ret_bool HR.out.symm, X1.out.g⟩
      have p3 : ¬ (D.length : Int) > 3 := by omega
      have a0 : wr.cell? ⟨w.heap.size, 0, none⟩ = some (.int .i64 N.W) := X1.out.b.cell 0
      have a1 : wr.cell? ⟨w.heap.size, 1, none⟩ = some (.int .i64 N.H) := X1.out.b.cell 1
      have a2 : wr.cell? ⟨w.heap.size, 2, none⟩ = some (.slice A0 N.br.length c0) := X1.out.b.cell 2
      have a3 : wr.cell? ⟨w.heap.size, 3, none⟩ = some (.slice A1 N.ta.length c1) := X1.out.b.cell 3
      have a4 : wr.cell? ⟨w.heap.size, 4, none⟩ = some (.slice A2 N.tb.length c2) := X1.out.b.cell 4
      have a5 : wr.cell? ⟨w.heap.size, 5, none⟩ = some (.slice (some ⟨b, off, none⟩) N.bu.length c3) := X1.out.b.cell 5
      have a6 : wr.cell? ⟨w.heap.size, 6, none⟩ = some (.slice A4 N.ow.length c4) := X1.out.b.cell 6
      have a7 : wr.cell? ⟨w.heap.size, 7, none⟩ = some (.slice A5 N.tu.length c5) := X1.out.b.cell 7
      have a8 : wr.cell? ⟨w.heap.size, 8, none⟩ = some (.slice A6 N.so.length c6) := X1.out.b.cell 8
      have a9 : wr.cell? ⟨w.heap.size, 9, none⟩ = some (.slice A7 N.ar.length c7) := X1.out.b.cell 9
      have a10 : wr.cell? ⟨w.heap.size, 10, none⟩ = some (.int .i64 N.ti) := X1.out.b.cell 10
      cases hlo : lstOk N.W N.H D with
      | false =>
        have HC := Lib.hid (HLD.out A' D.length c' D false hlo _ HREC.out h8)
        have HR := Lib.hid (HNO.out k hlt (HJ.out false (bufJ_no2 hlo)))
        clear hlo
        go_wp2_with fail
        refine HC.out.mono ?_
        rintro e w2 ⟨rfl, g2⟩
        have X2 := Lib.hid (X1.out.gb g2)
        clear g2 a0 a1 a2 a3 a4 a5 a6 a7 a8 a9 a10 hcell
        go_wp2_with fail
        go_ret
        exact ⟨ret_bool HR.out.symm, X2.out.g⟩
      | true =>
        have HC := Lib.hid (HLD.out A' D.length c' D true hlo _ HREC.out h8)
        have HN4 := Lib.hid (fun q x hx h => HNO.out k HKL.out (HJ.out false (bufJ_no3 (q := q) (x := x) hx h)))
        have HYB := Lib.hid (fun h => HJ.out true (bufJ_yes h3 hlo h))
        have em : Int.tmod (k : Int) 2 = ((k % 2 : Nat) : Int) := tmod_twoI k
        obtain ⟨md, hmd⟩ : ∃ m : Nat, k % 2 = m := ⟨_, rfl⟩
        have hmd2 : md < 2 := by omega
        rw [hmd] at em HYB HN4
        have em2 : IntKind.i64.wrap (md : Int) = (md : Int) := IntWalk.i64_in _ (by omega)
        have em3 : wrap64 (md : Int) = (md : Int) := IntWalk.wrap64_in _ (by omega)
        clear hlo hmd
        go_wp2_with fail
        refine HC.out.mono ?_
        rintro e w2 ⟨rfl, g2⟩
        have X2 := Lib.hid (X1.out.gb g2)
        have RE2 := Lib.hid (HREC.out.none (Nat.le_refl _) g2)
        have SZ2 := Lib.hid g2.size
        obtain ⟨gs, hgs⟩ : ∃ g, wr.heap.size = g := ⟨_, rfl⟩
        rw [hgs] at SZ2 RE2
        clear hgs
        clear g2 a0 a1 a2 a3 a4 a5 a6 a7 a8 a9 a10 hcell
        go_wp2_with fail
        go_loopw [26] (fun j ws => ∃ q : Nat, j = .int .i64 (q : Int) ∧ q ≤ D.length ∧ (∀ (p : Nat) x, p < q → D[p]? = some x → x.cl = (md : Int)) ∧ NkAt w ⟨⟨A0, c0⟩, ⟨A1, c1⟩, ⟨A2, c2⟩, ⟨some ⟨b, off, none⟩, c3⟩, ⟨A4, c4⟩, ⟨A5, c5⟩, ⟨A6, c6⟩, ⟨A7, c7⟩⟩ N ws ∧ gs ≤ ws.heap.size ∧ RecAt 5 fltC ws gs A' D.length D) (fun j _ => 4 - (intOf j).toNat)
        case atStart => exact ⟨0, rfl, Nat.zero_le _, fun p x hp => by omega, X2.out, SZ2.out, RE2.out⟩
        case round =>
          obtain ⟨q, rfl, hq, hqa, hx, hsw, hre⟩ := hrel
          have HSW := Lib.hid hsw
          have HQA := Lib.hid hqa
          have X5 := Lib.hid hx
          have REC5 := Lib.hid hre
          clear hqa hx hre hsw
          by_cases hql : q < D.length
          · obtain ⟨fb, fo, x, rfl, hfb, hx, hfc⟩ := REC5.out.at q hql
            obtain ⟨f0, f1, f2, f3, f4⟩ := flt_five hfc
            have q0 : (0 : Int) ≤ (q : Int) := by omega
            have q1 : (q : Int) < (D.length : Int) := by omega
            have HX := Lib.hid hx
            have hga := gb_alloc (gb_refl wr none) (.cells #[.int .i64 x.pk, .int .i64 x.to, .int .i64 x.cl, .bool x.hd, .bool x.tl] 120)
            have X6 := Lib.hid (X5.out.gb hga)
            have REC6 := Lib.hid (show RecAt 5 fltC (wr.alloc (.cells #[.int .i64 x.pk, .int .i64 x.to, .int .i64 x.cl, .bool x.hd, .bool x.tl] 120)) gs (some ⟨fb, fo, none⟩) D.length D from REC5.out.none HSW.out hga)
            obtain ⟨pk, to, cl, hd, tl⟩ := x
            dsimp only at f0 f1 f2 f3 f4 X6 REC6
            clear hx hfc hga
            by_cases hce : cl = (md : Int)
            · have HCE := Lib.hid hce
              subst hce
              have pce : ((md : Int) == (md : Int)) = true := by simp
              go_wp2_with fail
              go_roundw
              case rel => exact ⟨q + 1, by go_num, by omega, fun p z hp hz => by
                rcases Nat.lt_or_ge p q with h1 | h1
                · exact HQA.out p z h1 hz
                · obtain rfl : p = q := by omega
                  rw [HX.out] at hz
                  cases hz
                  rfl, X6.out, by rw [alloc_size]; have := HSW.out; omega, REC6.out⟩
              case measure => simp [intOf]; omega
            · have HR := Lib.hid (HN4.out q _ HX.out hce)
              have pce : (cl == (md : Int)) = false := by simpa using hce
              go_wp2_with fail
              go_ret
              exact ⟨ret_bool HR.out.symm, X6.out.g⟩
          · have q1 : ¬ (q : Int) < (D.length : Int) := by omega
            have HBO := Lib.hid (HYB.out (fun p x hx => HQA.out p x (by have := (List.getElem?_eq_some_iff.1 hx).1; omega) hx))
            go_wp2_with fail
            go_roundw
            case rel => exact ⟨k + 1, by go_num, by omega, fun j hj => by
              rcases Nat.lt_or_ge j k with h1 | h1
              · exact HALL.out j h1
              · obtain rfl : j = k := by omega
                exact HBO.out, X5.out⟩
            case measure => simp [intOf]; omega
    · have k1 : ¬ (k : Int) < (N.bu.length : Int) := by omega
      have HR := Lib.hid (HYES.out (fun i hi => HALL.out i (by omega)))
      go_wp2_with fail
      go_ret
      exact ⟨ret_bool HR.out.symm, X1.out.g⟩
/-- No source holds too many flits or one that cannot be sent. -/
theorem implSrcsV (y : Na) (N : Nt) (r : Bool) (hr : srcsI N = r) (w : World) (h : NetIn w w.heap.size y N) (hn : NetSm N) :
    Calls Try.prog 42 #[.agg #[.int .i64 N.W, .int .i64 N.H, .slice y.br.A N.br.length y.br.c, .slice y.ta.A N.ta.length y.ta.c, .slice y.tb.A N.tb.length y.tb.c, .slice y.bu.A N.bu.length y.bu.c, .slice y.ow.A N.ow.length y.ow.c, .slice y.tu.A N.tu.length y.tu.c, .slice y.so.A N.so.length y.so.c, .slice y.ar.A N.ar.length y.ar.c, .int .i64 N.ti]] w (RetB r w) := by
  have HI := Lib.hid h
  have HSM := Lib.hid hn
  have HNO := Lib.hid (fun i D => srcsI_no (N := N) (i := i) (D := D))
  have HYES := Lib.hid (srcsI_yes (N := N))
  rw [hr] at HNO HYES
  have X0 := Lib.hid (nkAt_start (w := w) (y := y) (N := N))
  have HLD := Lib.hid (fun A n cap D r hr w h hn => implLeadsV y N A n cap D r hr w h hn)
  have h9 : N.so.length ≤ 1000000000 := hn.so
  clear h hr hn
  obtain ⟨⟨A0, c0⟩, ⟨A1, c1⟩, ⟨A2, c2⟩, ⟨A3, c3⟩, ⟨A4, c4⟩, ⟨A5, c5⟩, ⟨A6, c6⟩, ⟨A7, c7⟩⟩ := y
  dsimp only at HLD ⊢
  go_enter Try.func42, Try.ntmps42
  go_wp2_with fail
  go_loopw [8] (fun i wr => ∃ k : Nat, i = .int .i64 (k : Int) ∧ k ≤ N.so.length ∧ (∀ (j : Nat) D, j < k → N.so[j]? = some D → srcOk N.W N.H D = true) ∧ NkAt w ⟨⟨A0, c0⟩, ⟨A1, c1⟩, ⟨A2, c2⟩, ⟨A3, c3⟩, ⟨A4, c4⟩, ⟨A5, c5⟩, ⟨A6, c6⟩, ⟨A7, c7⟩⟩ N wr) (fun i _ => N.so.length - (intOf i).toNat)
  case atStart => exact ⟨0, rfl, Nat.zero_le _, fun j D hj => by omega, X0.out⟩
  case round =>
    obtain ⟨k, rfl, hk, hall, hx⟩ := hrel
    have HALL := Lib.hid hall
    have X1 := Lib.hid hx
    clear hall hx
    by_cases hlt : k < N.so.length
    · obtain ⟨b, off, D, A', c', hA, _, hD, hcell, hcap, hrec⟩ := (X1.out.in HI.out).so.at k hlt
      have hA' : A6 = some ⟨b, off, none⟩ := hA
      subst hA'
      have HREC := Lib.hid hrec
      have HDD := Lib.hid hD
      have hat := sumL_at hD
      have h8 : D.length ≤ 1000000000 := by have := HSM.out.sso; omega
      have k0 : (0 : Int) ≤ (k : Int) := by omega
      have k1 : (k : Int) < (N.so.length : Int) := by omega
      clear hA hat hD hrec hcap
      by_cases h3 : D.length ≤ 60
      rotate_left
      · have HR := Lib.hid (HNO.out k D HDD.out (src_no1 h3))
        have p3 : (D.length : Int) > 60 := by omega
        clear h3
        go_wp2_with fail
        go_ret
        exact ⟨ret_bool HR.out.symm, X1.out.g⟩
      have p3 : ¬ (D.length : Int) > 60 := by omega
      have a0 : wr.cell? ⟨w.heap.size, 0, none⟩ = some (.int .i64 N.W) := X1.out.b.cell 0
      have a1 : wr.cell? ⟨w.heap.size, 1, none⟩ = some (.int .i64 N.H) := X1.out.b.cell 1
      have a2 : wr.cell? ⟨w.heap.size, 2, none⟩ = some (.slice A0 N.br.length c0) := X1.out.b.cell 2
      have a3 : wr.cell? ⟨w.heap.size, 3, none⟩ = some (.slice A1 N.ta.length c1) := X1.out.b.cell 3
      have a4 : wr.cell? ⟨w.heap.size, 4, none⟩ = some (.slice A2 N.tb.length c2) := X1.out.b.cell 4
      have a5 : wr.cell? ⟨w.heap.size, 5, none⟩ = some (.slice A3 N.bu.length c3) := X1.out.b.cell 5
      have a6 : wr.cell? ⟨w.heap.size, 6, none⟩ = some (.slice A4 N.ow.length c4) := X1.out.b.cell 6
      have a7 : wr.cell? ⟨w.heap.size, 7, none⟩ = some (.slice A5 N.tu.length c5) := X1.out.b.cell 7
      have a8 : wr.cell? ⟨w.heap.size, 8, none⟩ = some (.slice (some ⟨b, off, none⟩) N.so.length c6) := X1.out.b.cell 8
      have a9 : wr.cell? ⟨w.heap.size, 9, none⟩ = some (.slice A7 N.ar.length c7) := X1.out.b.cell 9
      have a10 : wr.cell? ⟨w.heap.size, 10, none⟩ = some (.int .i64 N.ti) := X1.out.b.cell 10
      cases hlo : lstOk N.W N.H D with
      | false =>
        have HC := Lib.hid (HLD.out A' D.length c' D false hlo _ HREC.out h8)
        have HR := Lib.hid (HNO.out k D HDD.out (src_is h3 hlo))
        clear hlo
        go_wp2_with fail
        refine HC.out.mono ?_
        rintro e w2 ⟨rfl, g2⟩
        have X2 := Lib.hid (X1.out.gb g2)
        clear g2 a0 a1 a2 a3 a4 a5 a6 a7 a8 a9 a10 hcell
        go_wp2_with fail
        go_ret
        exact ⟨ret_bool HR.out.symm, X2.out.g⟩
      | true =>
        have HC := Lib.hid (HLD.out A' D.length c' D true hlo _ HREC.out h8)
        have HS := Lib.hid (src_is h3 hlo)
        clear hlo
        go_wp2_with fail
        refine HC.out.mono ?_
        rintro e w2 ⟨rfl, g2⟩
        have X2 := Lib.hid (X1.out.gb g2)
        clear g2 a0 a1 a2 a3 a4 a5 a6 a7 a8 a9 a10 hcell
        go_wp2_with fail
        go_roundw
        case rel => exact ⟨k + 1, by go_num, by omega, fun j E hj hE => by
          rcases Nat.lt_or_ge j k with h1 | h1
          · exact HALL.out j E h1 hE
          · obtain rfl : j = k := by omega
            rw [HDD.out] at hE
            cases hE
            exact HS.out, X2.out⟩
        case measure => simp [intOf]; omega
    · have k1 : ¬ (k : Int) < (N.so.length : Int) := by omega
      have HR := Lib.hid (HYES.out (fun i D hD => HALL.out i D (by have := (List.getElem?_eq_some_iff.1 hD).1; omega) hD))
      go_wp2_with fail
      go_ret
      exact ⟨ret_bool HR.out.symm, X1.out.g⟩
end Go.Proofs.Ytfloekbmgjmhbaa
end
