/- What is proved here: what it means that a call yields a new network and a bool; the sizes of a new network; nothing of the program; the model's SendPacket, for all arguments; only new blocks are written; what it means that a call yields a new network and a number; nothing of the program; the model's SendAll, for all arguments; only new blocks are written; an append of a whole slice of records to a row of the call's own tells where the result lies; nothing of the program; the program's appending of flits to one source of a network that is the call's own, through a pointer; what the program's GridOk, NodeCount and hasNode return, for all arguments; only new blocks are written; what the program's PacketOk and FlitsOf return, for all arguments; only new blocks are written; the program's sending of one packet into a network that is the call's own and valid, through a pointer to it; the built-in copy of a whole slice into a row that was just made, and the program's copies of slices of numbers, of flits and of slices of flits; only new blocks are written. -/
import Derived.Test.YtfloekbmgjmhbaaGreatMC
import Derived.Deep.RegionHeld3
import Derived.Deep.CutRange
import Derived.Laws.CopyOwn
section
namespace Go.Proofs.YtfloekbmgjmhbaaGreat
open Go.ChangeShapes Go.WideShapes Go.ChangeAt Go.RowKit
set_option linter.unusedVariables false
set_option maxRecDepth 20000

/-- A new network and whether there is one. -/
def RetNet (N : Nt) (b : Bool) (w : World) (e : Ending) (w' : World) : Prop :=
  ∃ y : Na, e = .returned (.tuple #[.agg #[.int .i64 N.W, .int .i64 N.H, .slice y.br.A N.br.length y.br.c, .slice y.ta.A N.ta.length y.ta.c, .slice y.tb.A N.tb.length y.tb.c, .slice y.bu.A N.bu.length y.bu.c, .slice y.ow.A N.ow.length y.ow.c, .slice y.tu.A N.tu.length y.tu.c, .slice y.so.A N.so.length y.so.c, .slice y.ar.A N.ar.length y.ar.c, .int .i64 N.ti], .bool b]) ∧ NetOwn w' w.heap.size w'.heap.size y N ∧ Below w.heap.size w w'
theorem made_ints (n : Nat) : (madeCells (Value.int .i64 0).cells (n * 1)).toList = intsV (List.replicate n 0) := by
  apply List.ext_getElem?
  intro j
  by_cases hj : j < n
  · simp [madeCells, Value.cells, hj, Nat.mod_one, intsV]
  · rw [List.getElem?_eq_none (by simp [madeCells]; omega), List.getElem?_eq_none (by simp [intsV]; omega)]
theorem netNew_sm {W H : Int} {L P Q : List Int} (h1 : L.length ≤ 1048576) (h2 : P.length ≤ 1048576) (h3 : Q.length ≤ 1048576) : NetSm (netNewG W H L P Q) ∧ markSz (netNewG W H L P Q) ≤ 4000000 := by
  have hk := (countG_le W H).2
  unfold netNewG
  split
  · refine ⟨⟨?_, ?_, ?_, ?_, ?_, ?_, ?_, ?_, ?_, ?_, ?_⟩, ?_⟩
    all_goals simp [newNet, markSz, sumL_rep]
    all_goals omega
  · refine ⟨⟨?_, ?_, ?_, ?_, ?_, ?_, ?_, ?_, ?_, ?_, ?_⟩, ?_⟩
    all_goals simp [zeroNet, markSz, sumL]
end Go.Proofs.YtfloekbmgjmhbaaGreat
end

section
namespace Go.Proofs.YtfloekbmgjmhbaaGreat
open Go.ChangeShapes Go.WideShapes Go.ChangeAt Go.RowKit
set_option linter.unusedVariables false
set_option maxRecDepth 20000

set_option maxHeartbeats 6400000 in
theorem specSendPacket (y : Na) (N : Nt) (p : Pkt) (w : World) (h : NetIn w w.heap.size y N) (hn : NetSm N) :
    Calls Tryz.prog 21 #[.agg #[.int .i64 N.W, .int .i64 N.H, .slice y.br.A N.br.length y.br.c, .slice y.ta.A N.ta.length y.ta.c, .slice y.tb.A N.tb.length y.tb.c, .slice y.bu.A N.bu.length y.bu.c, .slice y.ow.A N.ow.length y.ow.c, .slice y.tu.A N.tu.length y.tu.c, .slice y.so.A N.so.length y.so.c, .slice y.ar.A N.ar.length y.ar.c, .int .i64 N.ti], .agg #[.int .i64 p.id, .int .i64 p.fr, .int .i64 p.to, .int .i64 p.cl, .int .i64 p.ln]] w (RetNet (sendG N p) (sendOk N p) w) := by
  have HNK := Lib.hid (fun w' (g : w.grownBy w' none) => specNetOk y N w' ((h.none (Nat.le_refl _) g).more g.size) hn)
  have HPK := Lib.hid (fun w' => specPacketOk N.W N.H p w')
  have HCP := Lib.hid (fun w' (g : w.grownBy w' none) => specL15Copy y N w' ((h.none (Nat.le_refl _) g).more g.size) hn)
  have HSD := Lib.hid (fun w' (g : w.grownBy w' none) => specL16Send y N p w' ((h.none (Nat.le_refl _) g).more g.size) hn)
  have HIN := Lib.hid h
  have k0 := ((Blk.new w 45 #[.int .i64 N.W, .int .i64 N.H, .slice y.br.A N.br.length y.br.c, .slice y.ta.A N.ta.length y.ta.c, .slice y.tb.A N.tb.length y.tb.c, .slice y.bu.A N.bu.length y.bu.c, .slice y.ow.A N.ow.length y.ow.c, .slice y.tu.A N.tu.length y.tu.c, .slice y.so.A N.so.length y.so.c, .slice y.ar.A N.ar.length y.ar.c, .int .i64 N.ti]).alloc (.cells #[.int .i64 p.id, .int .i64 p.fr, .int .i64 p.to, .int .i64 p.cl, .int .i64 p.ln] 65)).alloc (.cells #[.int .i64 0, .int .i64 0, .slice none 0 0, .slice none 0 0, .slice none 0 0, .slice none 0 0, .slice none 0 0, .slice none 0 0, .slice none 0 0, .slice none 0 0, .int .i64 0] 45)
  have k1 := (Blk.new (w.alloc (.cells #[.int .i64 N.W, .int .i64 N.H, .slice y.br.A N.br.length y.br.c, .slice y.ta.A N.ta.length y.ta.c, .slice y.tb.A N.tb.length y.tb.c, .slice y.bu.A N.bu.length y.bu.c, .slice y.ow.A N.ow.length y.ow.c, .slice y.tu.A N.tu.length y.tu.c, .slice y.so.A N.so.length y.so.c, .slice y.ar.A N.ar.length y.ar.c, .int .i64 N.ti] 45)) 65 #[.int .i64 p.id, .int .i64 p.fr, .int .i64 p.to, .int .i64 p.cl, .int .i64 p.ln]).alloc (.cells #[.int .i64 0, .int .i64 0, .slice none 0 0, .slice none 0 0, .slice none 0 0, .slice none 0 0, .slice none 0 0, .slice none 0 0, .slice none 0 0, .slice none 0 0, .int .i64 0] 45)
  have k2 := Blk.new ((w.alloc (.cells #[.int .i64 N.W, .int .i64 N.H, .slice y.br.A N.br.length y.br.c, .slice y.ta.A N.ta.length y.ta.c, .slice y.tb.A N.tb.length y.tb.c, .slice y.bu.A N.bu.length y.bu.c, .slice y.ow.A N.ow.length y.ow.c, .slice y.tu.A N.tu.length y.tu.c, .slice y.so.A N.so.length y.so.c, .slice y.ar.A N.ar.length y.ar.c, .int .i64 N.ti] 45)).alloc (.cells #[.int .i64 p.id, .int .i64 p.fr, .int .i64 p.to, .int .i64 p.cl, .int .i64 p.ln] 65)) 45 #[.int .i64 0, .int .i64 0, .slice none 0 0, .slice none 0 0, .slice none 0 0, .slice none 0 0, .slice none 0 0, .slice none 0 0, .slice none 0 0, .slice none 0 0, .int .i64 0]
  have ge := gb_alloc (gb_alloc (gb_alloc (gb_refl w none) (.cells #[.int .i64 N.W, .int .i64 N.H, .slice y.br.A N.br.length y.br.c, .slice y.ta.A N.ta.length y.ta.c, .slice y.tb.A N.tb.length y.tb.c, .slice y.bu.A N.bu.length y.bu.c, .slice y.ow.A N.ow.length y.ow.c, .slice y.tu.A N.tu.length y.tu.c, .slice y.so.A N.so.length y.so.c, .slice y.ar.A N.ar.length y.ar.c, .int .i64 N.ti] 45)) (.cells #[.int .i64 p.id, .int .i64 p.fr, .int .i64 p.to, .int .i64 p.cl, .int .i64 p.ln] 65)) (.cells #[.int .i64 0, .int .i64 0, .slice none 0 0, .slice none 0 0, .slice none 0 0, .slice none 0 0, .slice none 0 0, .slice none 0 0, .slice none 0 0, .slice none 0 0, .int .i64 0] 45)
  have hsz : (((w.alloc (.cells #[.int .i64 N.W, .int .i64 N.H, .slice y.br.A N.br.length y.br.c, .slice y.ta.A N.ta.length y.ta.c, .slice y.tb.A N.tb.length y.tb.c, .slice y.bu.A N.bu.length y.bu.c, .slice y.ow.A N.ow.length y.ow.c, .slice y.tu.A N.tu.length y.tu.c, .slice y.so.A N.so.length y.so.c, .slice y.ar.A N.ar.length y.ar.c, .int .i64 N.ti] 45)).alloc (.cells #[.int .i64 p.id, .int .i64 p.fr, .int .i64 p.to, .int .i64 p.cl, .int .i64 p.ln] 65)).alloc (.cells #[.int .i64 0, .int .i64 0, .slice none 0 0, .slice none 0 0, .slice none 0 0, .slice none 0 0, .slice none 0 0, .slice none 0 0, .slice none 0 0, .slice none 0 0, .int .i64 0] 45)).heap.size = w.heap.size + 3 := by simp only [alloc_size]
  simp only [alloc_size] at k1 k2
  clear h
  go_enter Tryz.func21, Tryz.ntmps21
  go_wp2_with fail
  generalize ((w.alloc (.cells #[.int .i64 N.W, .int .i64 N.H, .slice y.br.A N.br.length y.br.c, .slice y.ta.A N.ta.length y.ta.c, .slice y.tb.A N.tb.length y.tb.c, .slice y.bu.A N.bu.length y.bu.c, .slice y.ow.A N.ow.length y.ow.c, .slice y.tu.A N.tu.length y.tu.c, .slice y.so.A N.so.length y.so.c, .slice y.ar.A N.ar.length y.ar.c, .int .i64 N.ti] 45)).alloc (.cells #[.int .i64 p.id, .int .i64 p.fr, .int .i64 p.to, .int .i64 p.cl, .int .i64 p.ln] 65)).alloc (.cells #[.int .i64 0, .int .i64 0, .slice none 0 0, .slice none 0 0, .slice none 0 0, .slice none 0 0, .slice none 0 0, .slice none 0 0, .slice none 0 0, .slice none 0 0, .int .i64 0] 45) = w0 at *
  have K0 : Hid (Blk w0 w.heap.size 45 #[.int .i64 N.W, .int .i64 N.H, .slice y.br.A N.br.length y.br.c, .slice y.ta.A N.ta.length y.ta.c, .slice y.tb.A N.tb.length y.tb.c, .slice y.bu.A N.bu.length y.bu.c, .slice y.ow.A N.ow.length y.ow.c, .slice y.tu.A N.tu.length y.tu.c, .slice y.so.A N.so.length y.so.c, .slice y.ar.A N.ar.length y.ar.c, .int .i64 N.ti]) := Lib.hid k0
  have K1 : Hid (Blk w0 (w.heap.size + 1) 65 #[.int .i64 p.id, .int .i64 p.fr, .int .i64 p.to, .int .i64 p.cl, .int .i64 p.ln]) := Lib.hid k1
  have K2 : Hid (Blk w0 (w.heap.size + 1 + 1) 45 #[.int .i64 0, .int .i64 0, .slice none 0 0, .slice none 0 0, .slice none 0 0, .slice none 0 0, .slice none 0 0, .slice none 0 0, .slice none 0 0, .slice none 0 0, .int .i64 0]) := Lib.hid k2
  have GE := Lib.hid ge
  have SZ := Lib.hid hsz
  have CB := Lib.hid (show ∀ wr, w0.grownBy wr none → wr.cell? ⟨w.heap.size, 0, none⟩ = some (.int .i64 N.W) ∧ wr.cell? ⟨w.heap.size, 1, none⟩ = some (.int .i64 N.H) ∧ wr.cell? ⟨w.heap.size, 2, none⟩ = some (.slice y.br.A N.br.length y.br.c) ∧ wr.cell? ⟨w.heap.size, 3, none⟩ = some (.slice y.ta.A N.ta.length y.ta.c) ∧ wr.cell? ⟨w.heap.size, 4, none⟩ = some (.slice y.tb.A N.tb.length y.tb.c) ∧ wr.cell? ⟨w.heap.size, 5, none⟩ = some (.slice y.bu.A N.bu.length y.bu.c) ∧ wr.cell? ⟨w.heap.size, 6, none⟩ = some (.slice y.ow.A N.ow.length y.ow.c) ∧ wr.cell? ⟨w.heap.size, 7, none⟩ = some (.slice y.tu.A N.tu.length y.tu.c) ∧ wr.cell? ⟨w.heap.size, 8, none⟩ = some (.slice y.so.A N.so.length y.so.c) ∧ wr.cell? ⟨w.heap.size, 9, none⟩ = some (.slice y.ar.A N.ar.length y.ar.c) ∧ wr.cell? ⟨w.heap.size, 10, none⟩ = some (.int .i64 N.ti) ∧ wr.cell? ⟨w.heap.size + 1, 0, none⟩ = some (.int .i64 p.id) ∧ wr.cell? ⟨w.heap.size + 1, 1, none⟩ = some (.int .i64 p.fr) ∧ wr.cell? ⟨w.heap.size + 1, 2, none⟩ = some (.int .i64 p.to) ∧ wr.cell? ⟨w.heap.size + 1, 3, none⟩ = some (.int .i64 p.cl) ∧ wr.cell? ⟨w.heap.size + 1, 4, none⟩ = some (.int .i64 p.ln) from fun wr hg => by
    have ga := K0.out.grown hg (by simp)
    have gb := K1.out.grown hg (by simp)
    exact ⟨ga.cell 0, ga.cell 1, ga.cell 2, ga.cell 3, ga.cell 4, ga.cell 5, ga.cell 6, ga.cell 7, ga.cell 8, ga.cell 9, ga.cell 10, gb.cell 0, gb.cell 1, gb.cell 2, gb.cell 3, gb.cell 4⟩)
  clear k0 k1 k2 ge hsz
  obtain ⟨a0, a1, a2, a3, a4, a5, a6, a7, a8, a9, a10, p0, p1, p2, p3, p4⟩ := CB.out w0 (gb_refl _ _)
  cases hok : netOk N with
  | false =>
    have HNF := Lib.hid (show ∀ w', w.grownBy w' none → Calls Tryz.prog 20 #[.agg #[.int .i64 N.W, .int .i64 N.H, .slice y.br.A N.br.length y.br.c, .slice y.ta.A N.ta.length y.ta.c, .slice y.tb.A N.tb.length y.tb.c, .slice y.bu.A N.bu.length y.bu.c, .slice y.ow.A N.ow.length y.ow.c, .slice y.tu.A N.tu.length y.tu.c, .slice y.so.A N.so.length y.so.c, .slice y.ar.A N.ar.length y.ar.c, .int .i64 N.ti]] w' (RetB false w') from fun w' g => by have := HNK.out w' g; rwa [hok] at this)
    have HNO := Lib.hid (show sendOk N p = false by rw [sendOk, hok]; rfl)
    refine wp_region_held_drew (S := (fun w' => w'.cell? ⟨w.heap.size, 0, none⟩ = some (.int .i64 N.W) ∧ w'.cell? ⟨w.heap.size, 1, none⟩ = some (.int .i64 N.H) ∧ w'.cell? ⟨w.heap.size, 2, none⟩ = some (.slice y.br.A N.br.length y.br.c) ∧ w'.cell? ⟨w.heap.size, 3, none⟩ = some (.slice y.ta.A N.ta.length y.ta.c) ∧ w'.cell? ⟨w.heap.size, 4, none⟩ = some (.slice y.tb.A N.tb.length y.tb.c) ∧ w'.cell? ⟨w.heap.size, 5, none⟩ = some (.slice y.bu.A N.bu.length y.bu.c) ∧ w'.cell? ⟨w.heap.size, 6, none⟩ = some (.slice y.ow.A N.ow.length y.ow.c) ∧ w'.cell? ⟨w.heap.size, 7, none⟩ = some (.slice y.tu.A N.tu.length y.tu.c) ∧ w'.cell? ⟨w.heap.size, 8, none⟩ = some (.slice y.so.A N.so.length y.so.c) ∧ w'.cell? ⟨w.heap.size, 9, none⟩ = some (.slice y.ar.A N.ar.length y.ar.c) ∧ w'.cell? ⟨w.heap.size, 10, none⟩ = some (.int .i64 N.ti) ∧ w'.cell? ⟨w.heap.size + 1, 0, none⟩ = some (.int .i64 p.id) ∧ w'.cell? ⟨w.heap.size + 1, 1, none⟩ = some (.int .i64 p.fr) ∧ w'.cell? ⟨w.heap.size + 1, 2, none⟩ = some (.int .i64 p.to) ∧ w'.cell? ⟨w.heap.size + 1, 3, none⟩ = some (.int .i64 p.cl) ∧ w'.cell? ⟨w.heap.size + 1, 4, none⟩ = some (.int .i64 p.ln))) (by kernel_rfl) (⟨a0, a1, a2, a3, a4, a5, a6, a7, a8, a9, a10, p0, p1, p2, p3, p4⟩) (fun hHeld => ?_)
    refine wpAnyH_take (i := 0) (v := ?_) rfl (by kernel_rfl) (by kernel_rfl) (by kernel_rfl) (fun _ _ _ h => h) (Or.inl ⟨by rfl, ?_⟩) (by assumption) ?_
    rotate_left
    · intro wq hSw; (try dsimp only at hSw); go_simp; (try with_reducible rfl)
    simp only [List.getElem_toArray, List.getElem_cons_zero, Act.put, List.setIfInBounds_toArray, List.set_cons_zero, List.set_cons_succ]
    refine wpAnyH_ready (rs := [1]) (by kernel_rfl) (by simp) ?_
    refine AllReadyH.cons rfl (fun K hK => ?_) AllReadyH.nil
    go_simp
    refine (HNF.out _ (gb_drew GE.out)).mono ?_; rintro e w1 ⟨rfl, hg1⟩; have G1 := Lib.hid (gb_drF hg1); clear hg1; obtain ⟨d0, d1, d2, d3, d4, d5, d6, d7, d8, d9, d10, d11, d12, d13, d14, d15⟩ := CB.out _ G1.out
    try go_wp2_with fail
    refine hK.out _ _ (⟨d0, d1, d2, d3, d4, d5, d6, d7, d8, d9, d10, d11, d12, d13, d14, d15⟩) (fun hHeld => ?_)
    clear hK K
    try simp only [List.getElem_toArray, List.getElem_cons_succ, List.getElem_cons_zero, Act.put, List.setIfInBounds_toArray, List.set_cons_zero, List.set_cons_succ]
    refine wpAnyH_take (i := 2) (v := ?_) rfl (by kernel_rfl) (by kernel_rfl) (by kernel_rfl) (fun _ _ _ h => h) (Or.inl ⟨by rfl, ?_⟩) (by assumption) ?_
    rotate_left
    · intro wq hSw; (try dsimp only at hSw); go_simp; (try with_reducible rfl)
    simp only [List.getElem_toArray, List.getElem_cons_succ, List.getElem_cons_zero, Act.put, List.setIfInBounds_toArray, List.set_cons_zero, List.set_cons_succ]
    refine wpAnyH_take (i := 3) (v := ?_) rfl (by kernel_rfl) (by kernel_rfl) (by kernel_rfl) (fun _ _ _ h => h) (Or.inl ⟨by rfl, ?_⟩) (by assumption) ?_
    rotate_left
    · intro wq hSw; (try dsimp only at hSw); go_simp; (try with_reducible rfl)
    simp only [List.getElem_toArray, List.getElem_cons_succ, List.getElem_cons_zero, Act.put, List.setIfInBounds_toArray, List.set_cons_zero, List.set_cons_succ]
    refine wpAnyH_take (i := 4) (v := undef) rfl (by kernel_rfl) (by kernel_rfl) (by kernel_rfl) (fun _ _ _ h => h) (Or.inr ⟨by rfl, rfl⟩) (by assumption) ?_
    simp only [List.getElem_toArray, List.getElem_cons_succ, List.getElem_cons_zero, Act.put, List.setIfInBounds_toArray, List.set_cons_zero, List.set_cons_succ]
    refine wpAnyH_take (i := 5) (v := undef) rfl (by kernel_rfl) (by kernel_rfl) (by kernel_rfl) (fun _ _ _ h => h) (Or.inr ⟨by rfl, rfl⟩) (by assumption) ?_
    simp only [List.getElem_toArray, List.getElem_cons_succ, List.getElem_cons_zero, Act.put, List.setIfInBounds_toArray, List.set_cons_zero, List.set_cons_succ]
    refine wpAnyH_take (i := 6) (v := undef) rfl (by kernel_rfl) (by kernel_rfl) (by kernel_rfl) (fun _ _ _ h => h) (Or.inr ⟨by rfl, rfl⟩) (by assumption) ?_
    simp only [List.getElem_toArray, List.getElem_cons_succ, List.getElem_cons_zero, Act.put, List.setIfInBounds_toArray, List.set_cons_zero, List.set_cons_succ]
    refine wpAnyH_take (i := 7) (v := undef) rfl (by kernel_rfl) (by kernel_rfl) (by kernel_rfl) (fun _ _ _ h => h) (Or.inr ⟨by rfl, rfl⟩) (by assumption) ?_
    simp only [List.getElem_toArray, List.getElem_cons_succ, List.getElem_cons_zero, Act.put, List.setIfInBounds_toArray, List.set_cons_zero, List.set_cons_succ]
    refine wpAnyH_take (i := 8) (v := undef) rfl (by kernel_rfl) (by kernel_rfl) (by kernel_rfl) (fun _ _ _ h => h) (Or.inr ⟨by rfl, rfl⟩) (by assumption) ?_
    simp only [List.getElem_toArray, List.getElem_cons_succ, List.getElem_cons_zero, Act.put, List.setIfInBounds_toArray, List.set_cons_zero, List.set_cons_succ]
    refine wpAnyH_take (i := 9) (v := undef) rfl (by kernel_rfl) (by kernel_rfl) (by kernel_rfl) (fun _ _ _ h => h) (Or.inr ⟨by rfl, rfl⟩) (by assumption) ?_
    simp only [List.getElem_toArray, List.getElem_cons_succ, List.getElem_cons_zero, Act.put, List.setIfInBounds_toArray, List.set_cons_zero, List.set_cons_succ]
    refine wpAnyH_take (i := 10) (v := ?_) rfl (by kernel_rfl) (by kernel_rfl) (by kernel_rfl) (fun _ _ _ h => h) (Or.inl ⟨by rfl, ?_⟩) (by assumption) ?_
    rotate_left
    · intro wq hSw; (try dsimp only at hSw); go_simp; (try with_reducible rfl)
    simp only [List.getElem_toArray, List.getElem_cons_succ, List.getElem_cons_zero, Act.put, List.setIfInBounds_toArray, List.set_cons_zero, List.set_cons_succ]
    refine wpAnyH_take (i := 11) (v := ?_) rfl (by kernel_rfl) (by kernel_rfl) (by kernel_rfl) (fun _ _ _ h => h) (Or.inl ⟨by rfl, ?_⟩) (by assumption) ?_
    rotate_left
    · intro wq hSw; (try dsimp only at hSw); go_simp; (try with_reducible rfl)
    simp only [List.getElem_toArray, List.getElem_cons_succ, List.getElem_cons_zero, Act.put, List.setIfInBounds_toArray, List.set_cons_zero, List.set_cons_succ]
    refine wpAnyH_take (i := 12) (v := undef) rfl (by kernel_rfl) (by kernel_rfl) (by kernel_rfl) (fun _ _ _ h => h) (Or.inr ⟨by rfl, rfl⟩) (by assumption) ?_
    simp only [List.getElem_toArray, List.getElem_cons_succ, List.getElem_cons_zero, Act.put, List.setIfInBounds_toArray, List.set_cons_zero, List.set_cons_succ]
    refine wpAnyH_take (i := 13) (v := undef) rfl (by kernel_rfl) (by kernel_rfl) (by kernel_rfl) (fun _ _ _ h => h) (Or.inr ⟨by rfl, rfl⟩) (by assumption) ?_
    simp only [List.getElem_toArray, List.getElem_cons_succ, List.getElem_cons_zero, Act.put, List.setIfInBounds_toArray, List.set_cons_zero, List.set_cons_succ]
    refine wpAnyH_take (i := 14) (v := undef) rfl (by kernel_rfl) (by kernel_rfl) (by kernel_rfl) (fun _ _ _ h => h) (Or.inr ⟨by rfl, rfl⟩) (by assumption) ?_
    simp only [List.getElem_toArray, List.getElem_cons_succ, List.getElem_cons_zero, Act.put, List.setIfInBounds_toArray, List.set_cons_zero, List.set_cons_succ]
    refine wpAnyH_take (i := 15) (v := undef) rfl (by kernel_rfl) (by kernel_rfl) (by kernel_rfl) (fun _ _ _ h => h) (Or.inr ⟨by rfl, rfl⟩) (by assumption) ?_
    simp only [List.getElem_toArray, List.getElem_cons_succ, List.getElem_cons_zero, Act.put, List.setIfInBounds_toArray, List.set_cons_zero, List.set_cons_succ]
    refine wpAnyH_take (i := 16) (v := undef) rfl (by kernel_rfl) (by kernel_rfl) (by kernel_rfl) (fun _ _ _ h => h) (Or.inr ⟨by rfl, rfl⟩) (by assumption) ?_
    simp only [List.getElem_toArray, List.getElem_cons_succ, List.getElem_cons_zero, Act.put, List.setIfInBounds_toArray, List.set_cons_zero, List.set_cons_succ]
    refine wpAnyH_take (i := 17) (v := undef) rfl (by kernel_rfl) (by kernel_rfl) (by kernel_rfl) (fun _ _ _ h => h) (Or.inr ⟨by rfl, rfl⟩) (by assumption) ?_
    simp only [List.getElem_toArray, List.getElem_cons_succ, List.getElem_cons_zero, Act.put, List.setIfInBounds_toArray, List.set_cons_zero, List.set_cons_succ]
    refine wpAnyH_take (i := 18) (v := undef) rfl (by kernel_rfl) (by kernel_rfl) (by kernel_rfl) (fun _ _ _ h => h) (Or.inr ⟨by rfl, rfl⟩) (by assumption) ?_
    simp only [List.getElem_toArray, List.getElem_cons_succ, List.getElem_cons_zero, Act.put, List.setIfInBounds_toArray, List.set_cons_zero, List.set_cons_succ]
    refine wpAnyH_take (i := 19) (v := undef) rfl (by kernel_rfl) (by kernel_rfl) (by kernel_rfl) (fun _ _ _ h => h) (Or.inr ⟨by rfl, rfl⟩) (by assumption) ?_
    simp only [List.getElem_toArray, List.getElem_cons_succ, List.getElem_cons_zero, Act.put, List.setIfInBounds_toArray, List.set_cons_zero, List.set_cons_succ]
    refine wpAnyH_take (i := 20) (v := undef) rfl (by kernel_rfl) (by kernel_rfl) (by kernel_rfl) (fun _ _ _ h => h) (Or.inr ⟨by rfl, rfl⟩) (by assumption) ?_
    simp only [List.getElem_toArray, List.getElem_cons_succ, List.getElem_cons_zero, Act.put, List.setIfInBounds_toArray, List.set_cons_zero, List.set_cons_succ]
    refine wpAnyH_take (i := 21) (v := undef) rfl (by kernel_rfl) (by kernel_rfl) (by kernel_rfl) (fun _ _ _ h => h) (Or.inr ⟨by rfl, rfl⟩) (by assumption) ?_
    simp only [List.getElem_toArray, List.getElem_cons_succ, List.getElem_cons_zero, Act.put, List.setIfInBounds_toArray, List.set_cons_zero, List.set_cons_succ]
    refine wpAnyH_take (i := 22) (v := undef) rfl (by kernel_rfl) (by kernel_rfl) (by kernel_rfl) (fun _ _ _ h => h) (Or.inr ⟨by rfl, rfl⟩) (by assumption) ?_
    simp only [List.getElem_toArray, List.getElem_cons_succ, List.getElem_cons_zero, Act.put, List.setIfInBounds_toArray, List.set_cons_zero, List.set_cons_succ]
    refine wpAnyH_take (i := 23) (v := ?_) rfl (by kernel_rfl) (by kernel_rfl) (by kernel_rfl) (fun _ _ _ h => h) (Or.inl ⟨by rfl, ?_⟩) (by assumption) ?_
    rotate_left
    · intro wq hSw; (try dsimp only at hSw); go_simp; (try with_reducible rfl)
    simp only [List.getElem_toArray, List.getElem_cons_succ, List.getElem_cons_zero, Act.put, List.setIfInBounds_toArray, List.set_cons_zero, List.set_cons_succ]
    refine wpAnyH_done (by kernel_rfl) ?_ _
    go_wp2_with fail
    have GG := Lib.hid (gb_trans GE.out G1.out)
    have GZ := Lib.hid (G1.out.size)
    refine (HCP.out _ GG.out).mono ?_
    rintro e w3 ⟨z, rfl, o3, b3⟩
    have BB := Lib.hid ((gb_below_none GG.out (Nat.le_refl _)).trans (b3.mono GG.out.size))
    have O3 := Lib.hid o3
    have K3 := Lib.hid ((K2.out.grown G1.out (by simp)).below b3 (by have h3 := SZ.out; have h4 := GZ.out; omega))
    have BZ := Lib.hid b3.size
    clear o3 b3
    have kr : Blk w3 (w.heap.size + 1 + 1) 45 #[.int .i64 0, .int .i64 0, .slice none 0 0, .slice none 0 0, .slice none 0 0, .slice none 0 0, .slice none 0 0, .slice none 0 0, .slice none 0 0, .slice none 0 0, .int .i64 0] := K3.out
    have KR4 := Lib.hid kr
    have y0 : w3.cell? ⟨w.heap.size + 1 + 1, 0, none⟩ = some (.int .i64 0) := kr.cell 0
    have x0 := kr.frozen 0
    have y1 : w3.cell? ⟨w.heap.size + 1 + 1, 1, none⟩ = some (.int .i64 0) := kr.cell 1
    have x1 := kr.frozen 1
    have y2 : w3.cell? ⟨w.heap.size + 1 + 1, 2, none⟩ = some (.slice none 0 0) := kr.cell 2
    have x2 := kr.frozen 2
    have y3 : w3.cell? ⟨w.heap.size + 1 + 1, 3, none⟩ = some (.slice none 0 0) := kr.cell 3
    have x3 := kr.frozen 3
    have y4 : w3.cell? ⟨w.heap.size + 1 + 1, 4, none⟩ = some (.slice none 0 0) := kr.cell 4
    have x4 := kr.frozen 4
    have y5 : w3.cell? ⟨w.heap.size + 1 + 1, 5, none⟩ = some (.slice none 0 0) := kr.cell 5
    have x5 := kr.frozen 5
    have y6 : w3.cell? ⟨w.heap.size + 1 + 1, 6, none⟩ = some (.slice none 0 0) := kr.cell 6
    have x6 := kr.frozen 6
    have y7 : w3.cell? ⟨w.heap.size + 1 + 1, 7, none⟩ = some (.slice none 0 0) := kr.cell 7
    have x7 := kr.frozen 7
    have y8 : w3.cell? ⟨w.heap.size + 1 + 1, 8, none⟩ = some (.slice none 0 0) := kr.cell 8
    have x8 := kr.frozen 8
    have y9 : w3.cell? ⟨w.heap.size + 1 + 1, 9, none⟩ = some (.slice none 0 0) := kr.cell 9
    have x9 := kr.frozen 9
    have y10 : w3.cell? ⟨w.heap.size + 1 + 1, 10, none⟩ = some (.int .i64 0) := kr.cell 10
    have x10 := kr.frozen 10
    clear kr
    go_wp2_with fail
    have kf : Blk (((((((((((w3.setCell ⟨w.heap.size + 1 + 1, 0, none⟩ (.int .i64 N.W)).setCell ⟨w.heap.size + 1 + 1, 1, none⟩ (.int .i64 N.H)).setCell ⟨w.heap.size + 1 + 1, 2, none⟩ (.slice z.br.A N.br.length z.br.c)).setCell ⟨w.heap.size + 1 + 1, 3, none⟩ (.slice z.ta.A N.ta.length z.ta.c)).setCell ⟨w.heap.size + 1 + 1, 4, none⟩ (.slice z.tb.A N.tb.length z.tb.c)).setCell ⟨w.heap.size + 1 + 1, 5, none⟩ (.slice z.bu.A N.bu.length z.bu.c)).setCell ⟨w.heap.size + 1 + 1, 6, none⟩ (.slice z.ow.A N.ow.length z.ow.c)).setCell ⟨w.heap.size + 1 + 1, 7, none⟩ (.slice z.tu.A N.tu.length z.tu.c)).setCell ⟨w.heap.size + 1 + 1, 8, none⟩ (.slice z.so.A N.so.length z.so.c)).setCell ⟨w.heap.size + 1 + 1, 9, none⟩ (.slice z.ar.A N.ar.length z.ar.c)).setCell ⟨w.heap.size + 1 + 1, 10, none⟩ (.int .i64 N.ti)) (w.heap.size + 1 + 1) 45 #[.int .i64 N.W, .int .i64 N.H, .slice z.br.A N.br.length z.br.c, .slice z.ta.A N.ta.length z.ta.c, .slice z.tb.A N.tb.length z.tb.c, .slice z.bu.A N.bu.length z.bu.c, .slice z.ow.A N.ow.length z.ow.c, .slice z.tu.A N.tu.length z.tu.c, .slice z.so.A N.so.length z.so.c, .slice z.ar.A N.ar.length z.ar.c, .int .i64 N.ti] := by
      have hz := (((((((((((KR4.out.set_ 0 (.int .i64 N.W)).set_ 1 (.int .i64 N.H)).set_ 2 (.slice z.br.A N.br.length z.br.c)).set_ 3 (.slice z.ta.A N.ta.length z.ta.c)).set_ 4 (.slice z.tb.A N.tb.length z.tb.c)).set_ 5 (.slice z.bu.A N.bu.length z.bu.c)).set_ 6 (.slice z.ow.A N.ow.length z.ow.c)).set_ 7 (.slice z.tu.A N.tu.length z.tu.c)).set_ 8 (.slice z.so.A N.so.length z.so.c)).set_ 9 (.slice z.ar.A N.ar.length z.ar.c)).set_ 10 (.int .i64 N.ti))
      simpa using hz
    have qz : Chg (w.heap.size + 1 + 1) (w.heap.size + 1 + 1 + 1) w3 (((((((((((w3.setCell ⟨w.heap.size + 1 + 1, 0, none⟩ (.int .i64 N.W)).setCell ⟨w.heap.size + 1 + 1, 1, none⟩ (.int .i64 N.H)).setCell ⟨w.heap.size + 1 + 1, 2, none⟩ (.slice z.br.A N.br.length z.br.c)).setCell ⟨w.heap.size + 1 + 1, 3, none⟩ (.slice z.ta.A N.ta.length z.ta.c)).setCell ⟨w.heap.size + 1 + 1, 4, none⟩ (.slice z.tb.A N.tb.length z.tb.c)).setCell ⟨w.heap.size + 1 + 1, 5, none⟩ (.slice z.bu.A N.bu.length z.bu.c)).setCell ⟨w.heap.size + 1 + 1, 6, none⟩ (.slice z.ow.A N.ow.length z.ow.c)).setCell ⟨w.heap.size + 1 + 1, 7, none⟩ (.slice z.tu.A N.tu.length z.tu.c)).setCell ⟨w.heap.size + 1 + 1, 8, none⟩ (.slice z.so.A N.so.length z.so.c)).setCell ⟨w.heap.size + 1 + 1, 9, none⟩ (.slice z.ar.A N.ar.length z.ar.c)).setCell ⟨w.heap.size + 1 + 1, 10, none⟩ (.int .i64 N.ti)) := ((((((((((st_in w3 (w.heap.size + 1 + 1) 0 (.int .i64 N.W)).sx 1 (.int .i64 N.H)).sx 2 (.slice z.br.A N.br.length z.br.c)).sx 3 (.slice z.ta.A N.ta.length z.ta.c)).sx 4 (.slice z.tb.A N.tb.length z.tb.c)).sx 5 (.slice z.bu.A N.bu.length z.bu.c)).sx 6 (.slice z.ow.A N.ow.length z.ow.c)).sx 7 (.slice z.tu.A N.tu.length z.tu.c)).sx 8 (.slice z.so.A N.so.length z.so.c)).sx 9 (.slice z.ar.A N.ar.length z.ar.c)).sx 10 (.int .i64 N.ti)
    generalize (((((((((((w3.setCell ⟨w.heap.size + 1 + 1, 0, none⟩ (.int .i64 N.W)).setCell ⟨w.heap.size + 1 + 1, 1, none⟩ (.int .i64 N.H)).setCell ⟨w.heap.size + 1 + 1, 2, none⟩ (.slice z.br.A N.br.length z.br.c)).setCell ⟨w.heap.size + 1 + 1, 3, none⟩ (.slice z.ta.A N.ta.length z.ta.c)).setCell ⟨w.heap.size + 1 + 1, 4, none⟩ (.slice z.tb.A N.tb.length z.tb.c)).setCell ⟨w.heap.size + 1 + 1, 5, none⟩ (.slice z.bu.A N.bu.length z.bu.c)).setCell ⟨w.heap.size + 1 + 1, 6, none⟩ (.slice z.ow.A N.ow.length z.ow.c)).setCell ⟨w.heap.size + 1 + 1, 7, none⟩ (.slice z.tu.A N.tu.length z.tu.c)).setCell ⟨w.heap.size + 1 + 1, 8, none⟩ (.slice z.so.A N.so.length z.so.c)).setCell ⟨w.heap.size + 1 + 1, 9, none⟩ (.slice z.ar.A N.ar.length z.ar.c)).setCell ⟨w.heap.size + 1 + 1, 10, none⟩ (.int .i64 N.ti)) = wz at *
    have r0 := kf.cell 0
    have r1 := kf.cell 1
    have r2 := kf.cell 2
    have r3 := kf.cell 3
    have r4 := kf.cell 4
    have r5 := kf.cell 5
    have r6 := kf.cell 6
    have r7 := kf.cell 7
    have r8 := kf.cell 8
    have r9 := kf.cell 9
    have r10 := kf.cell 10
    simp only [List.getElem?_toArray, List.getElem?_cons_zero, List.getElem?_cons_succ] at r0 r1 r2 r3 r4 r5 r6 r7 r8 r9 r10
    have GZ2 := GZ.out
    have BZ2 := BZ.out
    rw [HNO.out, sendG_no HNO.out]
    have hnet : NetOwn wz _ w3.heap.size z N := (O3.out).heap (fun k h1 h2 => qz.block k h2 (by have h3 := SZ.out; omega))
    refine bodyPost_ret (v := .tuple #[.agg #[.int .i64 N.W, .int .i64 N.H, .slice z.br.A N.br.length z.br.c, .slice z.ta.A N.ta.length z.ta.c, .slice z.tb.A N.tb.length z.tb.c, .slice z.bu.A N.bu.length z.bu.c, .slice z.ow.A N.ow.length z.ow.c, .slice z.tu.A N.tu.length z.tu.c, .slice z.so.A N.so.length z.so.c, .slice z.ar.A N.ar.length z.ar.c, .int .i64 N.ti], .bool false]) (by simp [results, Tryz.results21, go_sem, r0, r1, r2, r3, r4, r5, r6, r7, r8, r9, r10]) rfl ⟨z, rfl, (hnet.less (by have h3 := SZ.out; omega)).upto qz.size, (BB.out).trans (qz.below (.inl (by omega)) (by have h3 := SZ.out; omega))⟩
  | true =>
    have HNT := Lib.hid (show ∀ w', w.grownBy w' none → Calls Tryz.prog 20 #[.agg #[.int .i64 N.W, .int .i64 N.H, .slice y.br.A N.br.length y.br.c, .slice y.ta.A N.ta.length y.ta.c, .slice y.tb.A N.tb.length y.tb.c, .slice y.bu.A N.bu.length y.bu.c, .slice y.ow.A N.ow.length y.ow.c, .slice y.tu.A N.tu.length y.tu.c, .slice y.so.A N.so.length y.so.c, .slice y.ar.A N.ar.length y.ar.c, .int .i64 N.ti]] w' (RetB true w') from fun w' g => by have := HNK.out w' g; rwa [hok] at this)
    have HOK := Lib.hid hok
    cases hpk : pktOk N.W N.H p with
    | false =>
      have HPF := Lib.hid (show ∀ w', Calls Tryz.prog 53 #[.agg #[.int .i64 N.W, .int .i64 N.H], .agg #[.int .i64 p.id, .int .i64 p.fr, .int .i64 p.to, .int .i64 p.cl, .int .i64 p.ln]] w' (RetB false w') from fun w' => by have := HPK.out w'; rwa [hpk] at this)
      have HNO := Lib.hid (show sendOk N p = false by rw [sendOk, hok, hpk]; rfl)
      refine wp_region_held_drew (S := (fun w' => w'.cell? ⟨w.heap.size, 0, none⟩ = some (.int .i64 N.W) ∧ w'.cell? ⟨w.heap.size, 1, none⟩ = some (.int .i64 N.H) ∧ w'.cell? ⟨w.heap.size, 2, none⟩ = some (.slice y.br.A N.br.length y.br.c) ∧ w'.cell? ⟨w.heap.size, 3, none⟩ = some (.slice y.ta.A N.ta.length y.ta.c) ∧ w'.cell? ⟨w.heap.size, 4, none⟩ = some (.slice y.tb.A N.tb.length y.tb.c) ∧ w'.cell? ⟨w.heap.size, 5, none⟩ = some (.slice y.bu.A N.bu.length y.bu.c) ∧ w'.cell? ⟨w.heap.size, 6, none⟩ = some (.slice y.ow.A N.ow.length y.ow.c) ∧ w'.cell? ⟨w.heap.size, 7, none⟩ = some (.slice y.tu.A N.tu.length y.tu.c) ∧ w'.cell? ⟨w.heap.size, 8, none⟩ = some (.slice y.so.A N.so.length y.so.c) ∧ w'.cell? ⟨w.heap.size, 9, none⟩ = some (.slice y.ar.A N.ar.length y.ar.c) ∧ w'.cell? ⟨w.heap.size, 10, none⟩ = some (.int .i64 N.ti) ∧ w'.cell? ⟨w.heap.size + 1, 0, none⟩ = some (.int .i64 p.id) ∧ w'.cell? ⟨w.heap.size + 1, 1, none⟩ = some (.int .i64 p.fr) ∧ w'.cell? ⟨w.heap.size + 1, 2, none⟩ = some (.int .i64 p.to) ∧ w'.cell? ⟨w.heap.size + 1, 3, none⟩ = some (.int .i64 p.cl) ∧ w'.cell? ⟨w.heap.size + 1, 4, none⟩ = some (.int .i64 p.ln))) (by kernel_rfl) (⟨a0, a1, a2, a3, a4, a5, a6, a7, a8, a9, a10, p0, p1, p2, p3, p4⟩) (fun hHeld => ?_)
      refine wpAnyH_take (i := 0) (v := ?_) rfl (by kernel_rfl) (by kernel_rfl) (by kernel_rfl) (fun _ _ _ h => h) (Or.inl ⟨by rfl, ?_⟩) (by assumption) ?_
      rotate_left
      · intro wq hSw; (try dsimp only at hSw); go_simp; (try with_reducible rfl)
      simp only [List.getElem_toArray, List.getElem_cons_zero, Act.put, List.setIfInBounds_toArray, List.set_cons_zero, List.set_cons_succ]
      refine wpAnyH_ready (rs := [1]) (by kernel_rfl) (by simp) ?_
      refine AllReadyH.cons rfl (fun K hK => ?_) AllReadyH.nil
      go_simp
      refine (HNT.out _ (gb_drew GE.out)).mono ?_; rintro e w1 ⟨rfl, hg1⟩; have G1 := Lib.hid (gb_drF hg1); clear hg1; obtain ⟨d0, d1, d2, d3, d4, d5, d6, d7, d8, d9, d10, d11, d12, d13, d14, d15⟩ := CB.out _ G1.out
      try go_wp2_with fail
      refine hK.out _ _ (⟨d0, d1, d2, d3, d4, d5, d6, d7, d8, d9, d10, d11, d12, d13, d14, d15⟩) (fun hHeld => ?_)
      clear hK K
      try simp only [List.getElem_toArray, List.getElem_cons_succ, List.getElem_cons_zero, Act.put, List.setIfInBounds_toArray, List.set_cons_zero, List.set_cons_succ]
      refine wpAnyH_take (i := 2) (v := ?_) rfl (by kernel_rfl) (by kernel_rfl) (by kernel_rfl) (fun _ _ _ h => h) (Or.inl ⟨by rfl, ?_⟩) (by assumption) ?_
      rotate_left
      · intro wq hSw; (try dsimp only at hSw); go_simp; (try with_reducible rfl)
      simp only [List.getElem_toArray, List.getElem_cons_succ, List.getElem_cons_zero, Act.put, List.setIfInBounds_toArray, List.set_cons_zero, List.set_cons_succ]
      refine wpAnyH_take (i := 3) (v := ?_) rfl (by kernel_rfl) (by kernel_rfl) (by kernel_rfl) (fun _ _ _ h => h) (Or.inl ⟨by rfl, ?_⟩) (by assumption) ?_
      rotate_left
      · intro wq hSw; (try dsimp only at hSw); go_simp; (try with_reducible rfl)
      simp only [List.getElem_toArray, List.getElem_cons_succ, List.getElem_cons_zero, Act.put, List.setIfInBounds_toArray, List.set_cons_zero, List.set_cons_succ]
      refine wpAnyH_take (i := 4) (v := ?_) rfl (by kernel_rfl) (by kernel_rfl) (by kernel_rfl) (fun _ _ _ h => h) (Or.inl ⟨by rfl, ?_⟩) (by assumption) ?_
      rotate_left
      · intro wq hSw; (try dsimp only at hSw); go_simp; (try with_reducible rfl)
      simp only [List.getElem_toArray, List.getElem_cons_succ, List.getElem_cons_zero, Act.put, List.setIfInBounds_toArray, List.set_cons_zero, List.set_cons_succ]
      refine wpAnyH_take (i := 5) (v := ?_) rfl (by kernel_rfl) (by kernel_rfl) (by kernel_rfl) (fun _ _ _ h => h) (Or.inl ⟨by rfl, ?_⟩) (by assumption) ?_
      rotate_left
      · intro wq hSw; (try dsimp only at hSw); go_simp; (try with_reducible rfl)
      simp only [List.getElem_toArray, List.getElem_cons_succ, List.getElem_cons_zero, Act.put, List.setIfInBounds_toArray, List.set_cons_zero, List.set_cons_succ]
      refine wpAnyH_take (i := 6) (v := ?_) rfl (by kernel_rfl) (by kernel_rfl) (by kernel_rfl) (fun _ _ _ h => h) (Or.inl ⟨by rfl, ?_⟩) (by assumption) ?_
      rotate_left
      · intro wq hSw; (try dsimp only at hSw); go_simp; (try with_reducible rfl)
      simp only [List.getElem_toArray, List.getElem_cons_succ, List.getElem_cons_zero, Act.put, List.setIfInBounds_toArray, List.set_cons_zero, List.set_cons_succ]
      refine wpAnyH_take (i := 7) (v := ?_) rfl (by kernel_rfl) (by kernel_rfl) (by kernel_rfl) (fun _ _ _ h => h) (Or.inl ⟨by rfl, ?_⟩) (by assumption) ?_
      rotate_left
      · intro wq hSw; (try dsimp only at hSw); go_simp; (try with_reducible rfl)
      simp only [List.getElem_toArray, List.getElem_cons_succ, List.getElem_cons_zero, Act.put, List.setIfInBounds_toArray, List.set_cons_zero, List.set_cons_succ]
      refine wpAnyH_ready (rs := [8]) (by kernel_rfl) (by simp) ?_
      refine AllReadyH.cons rfl (fun K hK => ?_) AllReadyH.nil
      go_simp
      clear d0 d1 d2 d3 d4 d5 d6 d7 d8 d9 d10 d11 d12 d13 d14 d15; refine (HPF.out _).mono ?_; rintro e w2 ⟨rfl, hg2⟩; have G2 := Lib.hid (gb_trans G1.out hg2); clear hg2; obtain ⟨d0, d1, d2, d3, d4, d5, d6, d7, d8, d9, d10, d11, d12, d13, d14, d15⟩ := CB.out _ G2.out
      try go_wp2_with fail
      refine hK.out _ _ (⟨d0, d1, d2, d3, d4, d5, d6, d7, d8, d9, d10, d11, d12, d13, d14, d15⟩) (fun hHeld => ?_)
      clear hK K
      try simp only [List.getElem_toArray, List.getElem_cons_succ, List.getElem_cons_zero, Act.put, List.setIfInBounds_toArray, List.set_cons_zero, List.set_cons_succ]
      refine wpAnyH_take (i := 9) (v := ?_) rfl (by kernel_rfl) (by kernel_rfl) (by kernel_rfl) (fun _ _ _ h => h) (Or.inl ⟨by rfl, ?_⟩) (by assumption) ?_
      rotate_left
      · intro wq hSw; (try dsimp only at hSw); go_simp; (try with_reducible rfl)
      simp only [List.getElem_toArray, List.getElem_cons_succ, List.getElem_cons_zero, Act.put, List.setIfInBounds_toArray, List.set_cons_zero, List.set_cons_succ]
      refine wpAnyH_take (i := 10) (v := ?_) rfl (by kernel_rfl) (by kernel_rfl) (by kernel_rfl) (fun _ _ _ h => h) (Or.inl ⟨by rfl, ?_⟩) (by assumption) ?_
      rotate_left
      · intro wq hSw; (try dsimp only at hSw); go_simp; (try with_reducible rfl)
      simp only [List.getElem_toArray, List.getElem_cons_succ, List.getElem_cons_zero, Act.put, List.setIfInBounds_toArray, List.set_cons_zero, List.set_cons_succ]
      refine wpAnyH_take (i := 11) (v := ?_) rfl (by kernel_rfl) (by kernel_rfl) (by kernel_rfl) (fun _ _ _ h => h) (Or.inl ⟨by rfl, ?_⟩) (by assumption) ?_
      rotate_left
      · intro wq hSw; (try dsimp only at hSw); go_simp; (try with_reducible rfl)
      simp only [List.getElem_toArray, List.getElem_cons_succ, List.getElem_cons_zero, Act.put, List.setIfInBounds_toArray, List.set_cons_zero, List.set_cons_succ]
      refine wpAnyH_take (i := 12) (v := undef) rfl (by kernel_rfl) (by kernel_rfl) (by kernel_rfl) (fun _ _ _ h => h) (Or.inr ⟨by rfl, rfl⟩) (by assumption) ?_
      simp only [List.getElem_toArray, List.getElem_cons_succ, List.getElem_cons_zero, Act.put, List.setIfInBounds_toArray, List.set_cons_zero, List.set_cons_succ]
      refine wpAnyH_take (i := 13) (v := undef) rfl (by kernel_rfl) (by kernel_rfl) (by kernel_rfl) (fun _ _ _ h => h) (Or.inr ⟨by rfl, rfl⟩) (by assumption) ?_
      simp only [List.getElem_toArray, List.getElem_cons_succ, List.getElem_cons_zero, Act.put, List.setIfInBounds_toArray, List.set_cons_zero, List.set_cons_succ]
      refine wpAnyH_take (i := 14) (v := undef) rfl (by kernel_rfl) (by kernel_rfl) (by kernel_rfl) (fun _ _ _ h => h) (Or.inr ⟨by rfl, rfl⟩) (by assumption) ?_
      simp only [List.getElem_toArray, List.getElem_cons_succ, List.getElem_cons_zero, Act.put, List.setIfInBounds_toArray, List.set_cons_zero, List.set_cons_succ]
      refine wpAnyH_take (i := 15) (v := undef) rfl (by kernel_rfl) (by kernel_rfl) (by kernel_rfl) (fun _ _ _ h => h) (Or.inr ⟨by rfl, rfl⟩) (by assumption) ?_
      simp only [List.getElem_toArray, List.getElem_cons_succ, List.getElem_cons_zero, Act.put, List.setIfInBounds_toArray, List.set_cons_zero, List.set_cons_succ]
      refine wpAnyH_take (i := 16) (v := undef) rfl (by kernel_rfl) (by kernel_rfl) (by kernel_rfl) (fun _ _ _ h => h) (Or.inr ⟨by rfl, rfl⟩) (by assumption) ?_
      simp only [List.getElem_toArray, List.getElem_cons_succ, List.getElem_cons_zero, Act.put, List.setIfInBounds_toArray, List.set_cons_zero, List.set_cons_succ]
      refine wpAnyH_take (i := 17) (v := undef) rfl (by kernel_rfl) (by kernel_rfl) (by kernel_rfl) (fun _ _ _ h => h) (Or.inr ⟨by rfl, rfl⟩) (by assumption) ?_
      simp only [List.getElem_toArray, List.getElem_cons_succ, List.getElem_cons_zero, Act.put, List.setIfInBounds_toArray, List.set_cons_zero, List.set_cons_succ]
      refine wpAnyH_take (i := 18) (v := undef) rfl (by kernel_rfl) (by kernel_rfl) (by kernel_rfl) (fun _ _ _ h => h) (Or.inr ⟨by rfl, rfl⟩) (by assumption) ?_
      simp only [List.getElem_toArray, List.getElem_cons_succ, List.getElem_cons_zero, Act.put, List.setIfInBounds_toArray, List.set_cons_zero, List.set_cons_succ]
      refine wpAnyH_take (i := 19) (v := undef) rfl (by kernel_rfl) (by kernel_rfl) (by kernel_rfl) (fun _ _ _ h => h) (Or.inr ⟨by rfl, rfl⟩) (by assumption) ?_
      simp only [List.getElem_toArray, List.getElem_cons_succ, List.getElem_cons_zero, Act.put, List.setIfInBounds_toArray, List.set_cons_zero, List.set_cons_succ]
      refine wpAnyH_take (i := 20) (v := undef) rfl (by kernel_rfl) (by kernel_rfl) (by kernel_rfl) (fun _ _ _ h => h) (Or.inr ⟨by rfl, rfl⟩) (by assumption) ?_
      simp only [List.getElem_toArray, List.getElem_cons_succ, List.getElem_cons_zero, Act.put, List.setIfInBounds_toArray, List.set_cons_zero, List.set_cons_succ]
      refine wpAnyH_take (i := 21) (v := undef) rfl (by kernel_rfl) (by kernel_rfl) (by kernel_rfl) (fun _ _ _ h => h) (Or.inr ⟨by rfl, rfl⟩) (by assumption) ?_
      simp only [List.getElem_toArray, List.getElem_cons_succ, List.getElem_cons_zero, Act.put, List.setIfInBounds_toArray, List.set_cons_zero, List.set_cons_succ]
      refine wpAnyH_take (i := 22) (v := undef) rfl (by kernel_rfl) (by kernel_rfl) (by kernel_rfl) (fun _ _ _ h => h) (Or.inr ⟨by rfl, rfl⟩) (by assumption) ?_
      simp only [List.getElem_toArray, List.getElem_cons_succ, List.getElem_cons_zero, Act.put, List.setIfInBounds_toArray, List.set_cons_zero, List.set_cons_succ]
      refine wpAnyH_take (i := 23) (v := ?_) rfl (by kernel_rfl) (by kernel_rfl) (by kernel_rfl) (fun _ _ _ h => h) (Or.inl ⟨by rfl, ?_⟩) (by assumption) ?_
      rotate_left
      · intro wq hSw; (try dsimp only at hSw); go_simp; (try with_reducible rfl)
      simp only [List.getElem_toArray, List.getElem_cons_succ, List.getElem_cons_zero, Act.put, List.setIfInBounds_toArray, List.set_cons_zero, List.set_cons_succ]
      refine wpAnyH_done (by kernel_rfl) ?_ _
      go_wp2_with fail
      have GG := Lib.hid (gb_trans GE.out G2.out)
      have GZ := Lib.hid (G2.out.size)
      refine (HCP.out _ GG.out).mono ?_
      rintro e w3 ⟨z, rfl, o3, b3⟩
      have BB := Lib.hid ((gb_below_none GG.out (Nat.le_refl _)).trans (b3.mono GG.out.size))
      have O3 := Lib.hid o3
      have K3 := Lib.hid ((K2.out.grown G2.out (by simp)).below b3 (by have h3 := SZ.out; have h4 := GZ.out; omega))
      have BZ := Lib.hid b3.size
      clear o3 b3
      have kr : Blk w3 (w.heap.size + 1 + 1) 45 #[.int .i64 0, .int .i64 0, .slice none 0 0, .slice none 0 0, .slice none 0 0, .slice none 0 0, .slice none 0 0, .slice none 0 0, .slice none 0 0, .slice none 0 0, .int .i64 0] := K3.out
      have KR4 := Lib.hid kr
      have y0 : w3.cell? ⟨w.heap.size + 1 + 1, 0, none⟩ = some (.int .i64 0) := kr.cell 0
      have x0 := kr.frozen 0
      have y1 : w3.cell? ⟨w.heap.size + 1 + 1, 1, none⟩ = some (.int .i64 0) := kr.cell 1
      have x1 := kr.frozen 1
      have y2 : w3.cell? ⟨w.heap.size + 1 + 1, 2, none⟩ = some (.slice none 0 0) := kr.cell 2
      have x2 := kr.frozen 2
      have y3 : w3.cell? ⟨w.heap.size + 1 + 1, 3, none⟩ = some (.slice none 0 0) := kr.cell 3
      have x3 := kr.frozen 3
      have y4 : w3.cell? ⟨w.heap.size + 1 + 1, 4, none⟩ = some (.slice none 0 0) := kr.cell 4
      have x4 := kr.frozen 4
      have y5 : w3.cell? ⟨w.heap.size + 1 + 1, 5, none⟩ = some (.slice none 0 0) := kr.cell 5
      have x5 := kr.frozen 5
      have y6 : w3.cell? ⟨w.heap.size + 1 + 1, 6, none⟩ = some (.slice none 0 0) := kr.cell 6
      have x6 := kr.frozen 6
      have y7 : w3.cell? ⟨w.heap.size + 1 + 1, 7, none⟩ = some (.slice none 0 0) := kr.cell 7
      have x7 := kr.frozen 7
      have y8 : w3.cell? ⟨w.heap.size + 1 + 1, 8, none⟩ = some (.slice none 0 0) := kr.cell 8
      have x8 := kr.frozen 8
      have y9 : w3.cell? ⟨w.heap.size + 1 + 1, 9, none⟩ = some (.slice none 0 0) := kr.cell 9
      have x9 := kr.frozen 9
      have y10 : w3.cell? ⟨w.heap.size + 1 + 1, 10, none⟩ = some (.int .i64 0) := kr.cell 10
      have x10 := kr.frozen 10
      clear kr
      go_wp2_with fail
      have kf : Blk (((((((((((w3.setCell ⟨w.heap.size + 1 + 1, 0, none⟩ (.int .i64 N.W)).setCell ⟨w.heap.size + 1 + 1, 1, none⟩ (.int .i64 N.H)).setCell ⟨w.heap.size + 1 + 1, 2, none⟩ (.slice z.br.A N.br.length z.br.c)).setCell ⟨w.heap.size + 1 + 1, 3, none⟩ (.slice z.ta.A N.ta.length z.ta.c)).setCell ⟨w.heap.size + 1 + 1, 4, none⟩ (.slice z.tb.A N.tb.length z.tb.c)).setCell ⟨w.heap.size + 1 + 1, 5, none⟩ (.slice z.bu.A N.bu.length z.bu.c)).setCell ⟨w.heap.size + 1 + 1, 6, none⟩ (.slice z.ow.A N.ow.length z.ow.c)).setCell ⟨w.heap.size + 1 + 1, 7, none⟩ (.slice z.tu.A N.tu.length z.tu.c)).setCell ⟨w.heap.size + 1 + 1, 8, none⟩ (.slice z.so.A N.so.length z.so.c)).setCell ⟨w.heap.size + 1 + 1, 9, none⟩ (.slice z.ar.A N.ar.length z.ar.c)).setCell ⟨w.heap.size + 1 + 1, 10, none⟩ (.int .i64 N.ti)) (w.heap.size + 1 + 1) 45 #[.int .i64 N.W, .int .i64 N.H, .slice z.br.A N.br.length z.br.c, .slice z.ta.A N.ta.length z.ta.c, .slice z.tb.A N.tb.length z.tb.c, .slice z.bu.A N.bu.length z.bu.c, .slice z.ow.A N.ow.length z.ow.c, .slice z.tu.A N.tu.length z.tu.c, .slice z.so.A N.so.length z.so.c, .slice z.ar.A N.ar.length z.ar.c, .int .i64 N.ti] := by
        have hz := (((((((((((KR4.out.set_ 0 (.int .i64 N.W)).set_ 1 (.int .i64 N.H)).set_ 2 (.slice z.br.A N.br.length z.br.c)).set_ 3 (.slice z.ta.A N.ta.length z.ta.c)).set_ 4 (.slice z.tb.A N.tb.length z.tb.c)).set_ 5 (.slice z.bu.A N.bu.length z.bu.c)).set_ 6 (.slice z.ow.A N.ow.length z.ow.c)).set_ 7 (.slice z.tu.A N.tu.length z.tu.c)).set_ 8 (.slice z.so.A N.so.length z.so.c)).set_ 9 (.slice z.ar.A N.ar.length z.ar.c)).set_ 10 (.int .i64 N.ti))
        simpa using hz
      have qz : Chg (w.heap.size + 1 + 1) (w.heap.size + 1 + 1 + 1) w3 (((((((((((w3.setCell ⟨w.heap.size + 1 + 1, 0, none⟩ (.int .i64 N.W)).setCell ⟨w.heap.size + 1 + 1, 1, none⟩ (.int .i64 N.H)).setCell ⟨w.heap.size + 1 + 1, 2, none⟩ (.slice z.br.A N.br.length z.br.c)).setCell ⟨w.heap.size + 1 + 1, 3, none⟩ (.slice z.ta.A N.ta.length z.ta.c)).setCell ⟨w.heap.size + 1 + 1, 4, none⟩ (.slice z.tb.A N.tb.length z.tb.c)).setCell ⟨w.heap.size + 1 + 1, 5, none⟩ (.slice z.bu.A N.bu.length z.bu.c)).setCell ⟨w.heap.size + 1 + 1, 6, none⟩ (.slice z.ow.A N.ow.length z.ow.c)).setCell ⟨w.heap.size + 1 + 1, 7, none⟩ (.slice z.tu.A N.tu.length z.tu.c)).setCell ⟨w.heap.size + 1 + 1, 8, none⟩ (.slice z.so.A N.so.length z.so.c)).setCell ⟨w.heap.size + 1 + 1, 9, none⟩ (.slice z.ar.A N.ar.length z.ar.c)).setCell ⟨w.heap.size + 1 + 1, 10, none⟩ (.int .i64 N.ti)) := ((((((((((st_in w3 (w.heap.size + 1 + 1) 0 (.int .i64 N.W)).sx 1 (.int .i64 N.H)).sx 2 (.slice z.br.A N.br.length z.br.c)).sx 3 (.slice z.ta.A N.ta.length z.ta.c)).sx 4 (.slice z.tb.A N.tb.length z.tb.c)).sx 5 (.slice z.bu.A N.bu.length z.bu.c)).sx 6 (.slice z.ow.A N.ow.length z.ow.c)).sx 7 (.slice z.tu.A N.tu.length z.tu.c)).sx 8 (.slice z.so.A N.so.length z.so.c)).sx 9 (.slice z.ar.A N.ar.length z.ar.c)).sx 10 (.int .i64 N.ti)
      generalize (((((((((((w3.setCell ⟨w.heap.size + 1 + 1, 0, none⟩ (.int .i64 N.W)).setCell ⟨w.heap.size + 1 + 1, 1, none⟩ (.int .i64 N.H)).setCell ⟨w.heap.size + 1 + 1, 2, none⟩ (.slice z.br.A N.br.length z.br.c)).setCell ⟨w.heap.size + 1 + 1, 3, none⟩ (.slice z.ta.A N.ta.length z.ta.c)).setCell ⟨w.heap.size + 1 + 1, 4, none⟩ (.slice z.tb.A N.tb.length z.tb.c)).setCell ⟨w.heap.size + 1 + 1, 5, none⟩ (.slice z.bu.A N.bu.length z.bu.c)).setCell ⟨w.heap.size + 1 + 1, 6, none⟩ (.slice z.ow.A N.ow.length z.ow.c)).setCell ⟨w.heap.size + 1 + 1, 7, none⟩ (.slice z.tu.A N.tu.length z.tu.c)).setCell ⟨w.heap.size + 1 + 1, 8, none⟩ (.slice z.so.A N.so.length z.so.c)).setCell ⟨w.heap.size + 1 + 1, 9, none⟩ (.slice z.ar.A N.ar.length z.ar.c)).setCell ⟨w.heap.size + 1 + 1, 10, none⟩ (.int .i64 N.ti)) = wz at *
      have r0 := kf.cell 0
      have r1 := kf.cell 1
      have r2 := kf.cell 2
      have r3 := kf.cell 3
      have r4 := kf.cell 4
      have r5 := kf.cell 5
      have r6 := kf.cell 6
      have r7 := kf.cell 7
      have r8 := kf.cell 8
      have r9 := kf.cell 9
      have r10 := kf.cell 10
      simp only [List.getElem?_toArray, List.getElem?_cons_zero, List.getElem?_cons_succ] at r0 r1 r2 r3 r4 r5 r6 r7 r8 r9 r10
      have GZ2 := GZ.out
      have BZ2 := BZ.out
      rw [HNO.out, sendG_no HNO.out]
      have hnet : NetOwn wz _ w3.heap.size z N := (O3.out).heap (fun k h1 h2 => qz.block k h2 (by have h3 := SZ.out; omega))
      refine bodyPost_ret (v := .tuple #[.agg #[.int .i64 N.W, .int .i64 N.H, .slice z.br.A N.br.length z.br.c, .slice z.ta.A N.ta.length z.ta.c, .slice z.tb.A N.tb.length z.tb.c, .slice z.bu.A N.bu.length z.bu.c, .slice z.ow.A N.ow.length z.ow.c, .slice z.tu.A N.tu.length z.tu.c, .slice z.so.A N.so.length z.so.c, .slice z.ar.A N.ar.length z.ar.c, .int .i64 N.ti], .bool false]) (by simp [results, Tryz.results21, go_sem, r0, r1, r2, r3, r4, r5, r6, r7, r8, r9, r10]) rfl ⟨z, rfl, (hnet.less (by have h3 := SZ.out; omega)).upto qz.size, (BB.out).trans (qz.below (.inl (by omega)) (by have h3 := SZ.out; omega))⟩
    | true =>
      have HPT := Lib.hid (show ∀ w', Calls Tryz.prog 53 #[.agg #[.int .i64 N.W, .int .i64 N.H], .agg #[.int .i64 p.id, .int .i64 p.fr, .int .i64 p.to, .int .i64 p.cl, .int .i64 p.ln]] w' (RetB true w') from fun w' => by have := HPK.out w'; rwa [hpk] at this)
      obtain ⟨hf0, hfl, hsrc⟩ := src_there hok hpk
      obtain ⟨f, hf⟩ : ∃ f : Nat, p.fr = (f : Int) := ⟨p.fr.toNat, by omega⟩
      have hft : p.fr.toNat = f := by omega
      rw [hft] at hfl hsrc
      have hX := Lib.hid (show sendOk N p = decide (((srcN N p).length : Int) + p.ln ≤ 60) by rw [sendOk, hok, hpk]; rfl)
      have hln := (pktOk_iff.1 hpk).2.2.2.2.2
      have hso := netOk_so hok hsrc
      obtain ⟨m, hm⟩ : ∃ m, (srcN N p).length = m := ⟨_, rfl⟩
      have HM := Lib.hid hm
      rw [hm] at hso
      obtain ⟨sb, so, D', A', c', hA', hsb, hD', hcell, hcc, _⟩ := HIN.out.so.at f hfl
      obtain rfl : srcN N p = D' := by rw [hsrc] at hD'; exact Option.some.inj hD'
      rw [hm] at hcell
      have HFF := Lib.hid hf
      have HLN := Lib.hid hln
      have f0 : (0 : Int) ≤ (f : Int) := by omega
      have f1 : (f : Int) < (N.so.length : Int) := by omega
      have hcl : ∀ wr, w0.grownBy wr none → wr.cell? ⟨sb, so + f, none⟩ = some (.slice A' m c') := fun wr hg => by
        have h1 : wr.cell? ⟨sb, so + f, none⟩ = w.cell? ⟨sb, so + f, none⟩ := World.cell?_of_block ((gb_trans GE.out hg).block sb hsb (by simp))
        rw [h1]; exact hcell
      have HCL := Lib.hid hcl
      have hc0 := hcl w0 (gb_refl _ _)
      have HNT2 := Lib.hid (show ∀ w', w.grownBy w' none → Calls Tryz.prog 20 #[.agg #[.int .i64 N.W, .int .i64 N.H, .slice y.br.A N.br.length y.br.c, .slice y.ta.A N.ta.length y.ta.c, .slice y.tb.A N.tb.length y.tb.c, .slice y.bu.A N.bu.length y.bu.c, .slice y.ow.A N.ow.length y.ow.c, .slice y.tu.A N.tu.length y.tu.c, .slice (some ⟨sb, so, none⟩) N.so.length y.so.c, .slice y.ar.A N.ar.length y.ar.c, .int .i64 N.ti]] w' (RetB true w') from fun w' g => by have := HNT.out w' g; rwa [hA'] at this)
      have HCP2 := Lib.hid (show ∀ w', w.grownBy w' none → Calls Tryz.prog 19 #[.agg #[.int .i64 N.W, .int .i64 N.H, .slice y.br.A N.br.length y.br.c, .slice y.ta.A N.ta.length y.ta.c, .slice y.tb.A N.tb.length y.tb.c, .slice y.bu.A N.bu.length y.bu.c, .slice y.ow.A N.ow.length y.ow.c, .slice y.tu.A N.tu.length y.tu.c, .slice (some ⟨sb, so, none⟩) N.so.length y.so.c, .slice y.ar.A N.ar.length y.ar.c, .int .i64 N.ti]] w' (NewNet N w') from fun w' g => by have := HCP.out w' g; rwa [hA'] at this)
      have HSD2 := Lib.hid (show ∀ w', w.grownBy w' none → Calls Tryz.prog 54 #[.agg #[.int .i64 N.W, .int .i64 N.H, .slice y.br.A N.br.length y.br.c, .slice y.ta.A N.ta.length y.ta.c, .slice y.tb.A N.tb.length y.tb.c, .slice y.bu.A N.bu.length y.bu.c, .slice y.ow.A N.ow.length y.ow.c, .slice y.tu.A N.tu.length y.tu.c, .slice (some ⟨sb, so, none⟩) N.so.length y.so.c, .slice y.ar.A N.ar.length y.ar.c, .int .i64 N.ti], .agg #[.int .i64 p.id, .int .i64 (f : Int), .int .i64 p.to, .int .i64 p.cl, .int .i64 p.ln]] w' (NewNet (sendTo N p) w') from fun w' g => by have := HSD.out w' g hok hpk (by omega); rwa [hA', hf] at this)
      have HPT2 := Lib.hid (show ∀ w', Calls Tryz.prog 53 #[.agg #[.int .i64 N.W, .int .i64 N.H], .agg #[.int .i64 p.id, .int .i64 (f : Int), .int .i64 p.to, .int .i64 p.cl, .int .i64 p.ln]] w' (RetB true w') from fun w' => by have := HPT.out w'; rwa [hf] at this)
      have CB2 := Lib.hid (show ∀ wr, w0.grownBy wr none → wr.cell? ⟨w.heap.size, 0, none⟩ = some (.int .i64 N.W) ∧ wr.cell? ⟨w.heap.size, 1, none⟩ = some (.int .i64 N.H) ∧ wr.cell? ⟨w.heap.size, 2, none⟩ = some (.slice y.br.A N.br.length y.br.c) ∧ wr.cell? ⟨w.heap.size, 3, none⟩ = some (.slice y.ta.A N.ta.length y.ta.c) ∧ wr.cell? ⟨w.heap.size, 4, none⟩ = some (.slice y.tb.A N.tb.length y.tb.c) ∧ wr.cell? ⟨w.heap.size, 5, none⟩ = some (.slice y.bu.A N.bu.length y.bu.c) ∧ wr.cell? ⟨w.heap.size, 6, none⟩ = some (.slice y.ow.A N.ow.length y.ow.c) ∧ wr.cell? ⟨w.heap.size, 7, none⟩ = some (.slice y.tu.A N.tu.length y.tu.c) ∧ wr.cell? ⟨w.heap.size, 8, none⟩ = some (.slice (some ⟨sb, so, none⟩) N.so.length y.so.c) ∧ wr.cell? ⟨w.heap.size, 9, none⟩ = some (.slice y.ar.A N.ar.length y.ar.c) ∧ wr.cell? ⟨w.heap.size, 10, none⟩ = some (.int .i64 N.ti) ∧ wr.cell? ⟨w.heap.size + 1, 0, none⟩ = some (.int .i64 p.id) ∧ wr.cell? ⟨w.heap.size + 1, 1, none⟩ = some (.int .i64 (f : Int)) ∧ wr.cell? ⟨w.heap.size + 1, 2, none⟩ = some (.int .i64 p.to) ∧ wr.cell? ⟨w.heap.size + 1, 3, none⟩ = some (.int .i64 p.cl) ∧ wr.cell? ⟨w.heap.size + 1, 4, none⟩ = some (.int .i64 p.ln) from fun wr hg => by
        have := CB.out wr hg
        rw [hA', hf] at this
        exact this)
      clear a0 a1 a2 a3 a4 a5 a6 a7 a8 a9 a10 p0 p1 p2 p3 p4
      obtain ⟨a0, a1, a2, a3, a4, a5, a6, a7, a8, a9, a10, p0, p1, p2, p3, p4⟩ := CB2.out w0 (gb_refl _ _)
      have hwp : IntKind.i64.wrap ((m : Int) + p.ln) = (m : Int) + p.ln := IntWalk.i64_in _ (by omega)
      clear hok hpk hf0 hfl hsrc hf hft hln hso hA' hsb hD' hcell hcc hm hcl
      by_cases hgt : (m : Int) + p.ln > 60
      · have HNO := Lib.hid (show sendOk N p = false by rw [hX.out]; exact decide_eq_false (by rw [HM.out]; omega))
        refine wp_region_held_drew (S := (fun w' => w'.cell? ⟨w.heap.size, 0, none⟩ = some (.int .i64 N.W) ∧ w'.cell? ⟨w.heap.size, 1, none⟩ = some (.int .i64 N.H) ∧ w'.cell? ⟨w.heap.size, 2, none⟩ = some (.slice y.br.A N.br.length y.br.c) ∧ w'.cell? ⟨w.heap.size, 3, none⟩ = some (.slice y.ta.A N.ta.length y.ta.c) ∧ w'.cell? ⟨w.heap.size, 4, none⟩ = some (.slice y.tb.A N.tb.length y.tb.c) ∧ w'.cell? ⟨w.heap.size, 5, none⟩ = some (.slice y.bu.A N.bu.length y.bu.c) ∧ w'.cell? ⟨w.heap.size, 6, none⟩ = some (.slice y.ow.A N.ow.length y.ow.c) ∧ w'.cell? ⟨w.heap.size, 7, none⟩ = some (.slice y.tu.A N.tu.length y.tu.c) ∧ w'.cell? ⟨w.heap.size, 8, none⟩ = some (.slice (some ⟨sb, so, none⟩) N.so.length y.so.c) ∧ w'.cell? ⟨w.heap.size, 9, none⟩ = some (.slice y.ar.A N.ar.length y.ar.c) ∧ w'.cell? ⟨w.heap.size, 10, none⟩ = some (.int .i64 N.ti) ∧ w'.cell? ⟨w.heap.size + 1, 0, none⟩ = some (.int .i64 p.id) ∧ w'.cell? ⟨w.heap.size + 1, 1, none⟩ = some (.int .i64 (f : Int)) ∧ w'.cell? ⟨w.heap.size + 1, 2, none⟩ = some (.int .i64 p.to) ∧ w'.cell? ⟨w.heap.size + 1, 3, none⟩ = some (.int .i64 p.cl) ∧ w'.cell? ⟨w.heap.size + 1, 4, none⟩ = some (.int .i64 p.ln) ∧ w'.cell? ⟨sb, so + f, none⟩ = some (.slice A' m c'))) (by kernel_rfl) (⟨a0, a1, a2, a3, a4, a5, a6, a7, a8, a9, a10, p0, p1, p2, p3, p4, hc0⟩) (fun hHeld => ?_)
        refine wpAnyH_take (i := 0) (v := ?_) rfl (by kernel_rfl) (by kernel_rfl) (by kernel_rfl) (fun _ _ _ h => h) (Or.inl ⟨by rfl, ?_⟩) (by assumption) ?_
        rotate_left
        · intro wq hSw; (try dsimp only at hSw); go_simp; (try with_reducible rfl)
        simp only [List.getElem_toArray, List.getElem_cons_zero, Act.put, List.setIfInBounds_toArray, List.set_cons_zero, List.set_cons_succ]
        refine wpAnyH_ready (rs := [1]) (by kernel_rfl) (by simp) ?_
        refine AllReadyH.cons rfl (fun K hK => ?_) AllReadyH.nil
        go_simp
        refine (HNT2.out _ (gb_drew GE.out)).mono ?_; rintro e w1 ⟨rfl, hg1⟩; have G1 := Lib.hid (gb_drF hg1); clear hg1; obtain ⟨d0, d1, d2, d3, d4, d5, d6, d7, d8, d9, d10, d11, d12, d13, d14, d15⟩ := CB2.out _ G1.out; have dh := HCL.out _ G1.out
        try go_wp2_with fail
        refine hK.out _ _ (⟨d0, d1, d2, d3, d4, d5, d6, d7, d8, d9, d10, d11, d12, d13, d14, d15, dh⟩) (fun hHeld => ?_)
        clear hK K
        try simp only [List.getElem_toArray, List.getElem_cons_succ, List.getElem_cons_zero, Act.put, List.setIfInBounds_toArray, List.set_cons_zero, List.set_cons_succ]
        refine wpAnyH_take (i := 2) (v := ?_) rfl (by kernel_rfl) (by kernel_rfl) (by kernel_rfl) (fun _ _ _ h => h) (Or.inl ⟨by rfl, ?_⟩) (by assumption) ?_
        rotate_left
        · intro wq hSw; (try dsimp only at hSw); go_simp; (try with_reducible rfl)
        simp only [List.getElem_toArray, List.getElem_cons_succ, List.getElem_cons_zero, Act.put, List.setIfInBounds_toArray, List.set_cons_zero, List.set_cons_succ]
        refine wpAnyH_take (i := 3) (v := ?_) rfl (by kernel_rfl) (by kernel_rfl) (by kernel_rfl) (fun _ _ _ h => h) (Or.inl ⟨by rfl, ?_⟩) (by assumption) ?_
        rotate_left
        · intro wq hSw; (try dsimp only at hSw); go_simp; (try with_reducible rfl)
        simp only [List.getElem_toArray, List.getElem_cons_succ, List.getElem_cons_zero, Act.put, List.setIfInBounds_toArray, List.set_cons_zero, List.set_cons_succ]
        refine wpAnyH_take (i := 4) (v := ?_) rfl (by kernel_rfl) (by kernel_rfl) (by kernel_rfl) (fun _ _ _ h => h) (Or.inl ⟨by rfl, ?_⟩) (by assumption) ?_
        rotate_left
        · intro wq hSw; (try dsimp only at hSw); go_simp; (try with_reducible rfl)
        simp only [List.getElem_toArray, List.getElem_cons_succ, List.getElem_cons_zero, Act.put, List.setIfInBounds_toArray, List.set_cons_zero, List.set_cons_succ]
        refine wpAnyH_take (i := 5) (v := ?_) rfl (by kernel_rfl) (by kernel_rfl) (by kernel_rfl) (fun _ _ _ h => h) (Or.inl ⟨by rfl, ?_⟩) (by assumption) ?_
        rotate_left
        · intro wq hSw; (try dsimp only at hSw); go_simp; (try with_reducible rfl)
        simp only [List.getElem_toArray, List.getElem_cons_succ, List.getElem_cons_zero, Act.put, List.setIfInBounds_toArray, List.set_cons_zero, List.set_cons_succ]
        refine wpAnyH_take (i := 6) (v := ?_) rfl (by kernel_rfl) (by kernel_rfl) (by kernel_rfl) (fun _ _ _ h => h) (Or.inl ⟨by rfl, ?_⟩) (by assumption) ?_
        rotate_left
        · intro wq hSw; (try dsimp only at hSw); go_simp; (try with_reducible rfl)
        simp only [List.getElem_toArray, List.getElem_cons_succ, List.getElem_cons_zero, Act.put, List.setIfInBounds_toArray, List.set_cons_zero, List.set_cons_succ]
        refine wpAnyH_take (i := 7) (v := ?_) rfl (by kernel_rfl) (by kernel_rfl) (by kernel_rfl) (fun _ _ _ h => h) (Or.inl ⟨by rfl, ?_⟩) (by assumption) ?_
        rotate_left
        · intro wq hSw; (try dsimp only at hSw); go_simp; (try with_reducible rfl)
        simp only [List.getElem_toArray, List.getElem_cons_succ, List.getElem_cons_zero, Act.put, List.setIfInBounds_toArray, List.set_cons_zero, List.set_cons_succ]
        refine wpAnyH_ready (rs := [8]) (by kernel_rfl) (by simp) ?_
        refine AllReadyH.cons rfl (fun K hK => ?_) AllReadyH.nil
        go_simp
        clear dh; clear d0 d1 d2 d3 d4 d5 d6 d7 d8 d9 d10 d11 d12 d13 d14 d15; refine (HPT2.out _).mono ?_; rintro e w2 ⟨rfl, hg2⟩; have G2 := Lib.hid (gb_trans G1.out hg2); clear hg2; obtain ⟨d0, d1, d2, d3, d4, d5, d6, d7, d8, d9, d10, d11, d12, d13, d14, d15⟩ := CB2.out _ G2.out; have dh := HCL.out _ G2.out
        try go_wp2_with fail
        refine hK.out _ _ (⟨d0, d1, d2, d3, d4, d5, d6, d7, d8, d9, d10, d11, d12, d13, d14, d15, dh⟩) (fun hHeld => ?_)
        clear hK K
        try simp only [List.getElem_toArray, List.getElem_cons_succ, List.getElem_cons_zero, Act.put, List.setIfInBounds_toArray, List.set_cons_zero, List.set_cons_succ]
        refine wpAnyH_take (i := 9) (v := ?_) rfl (by kernel_rfl) (by kernel_rfl) (by kernel_rfl) (fun _ _ _ h => h) (Or.inl ⟨by rfl, ?_⟩) (by assumption) ?_
        rotate_left
        · intro wq hSw; (try dsimp only at hSw); go_simp; (try with_reducible rfl)
        simp only [List.getElem_toArray, List.getElem_cons_succ, List.getElem_cons_zero, Act.put, List.setIfInBounds_toArray, List.set_cons_zero, List.set_cons_succ]
        refine wpAnyH_take (i := 10) (v := ?_) rfl (by kernel_rfl) (by kernel_rfl) (by kernel_rfl) (fun _ _ _ h => h) (Or.inl ⟨by rfl, ?_⟩) (by assumption) ?_
        rotate_left
        · intro wq hSw; (try dsimp only at hSw); go_simp; (try with_reducible rfl)
        simp only [List.getElem_toArray, List.getElem_cons_succ, List.getElem_cons_zero, Act.put, List.setIfInBounds_toArray, List.set_cons_zero, List.set_cons_succ]
        refine wpAnyH_take (i := 11) (v := ?_) rfl (by kernel_rfl) (by kernel_rfl) (by kernel_rfl) (fun _ _ _ h => h) (Or.inl ⟨by rfl, ?_⟩) (by assumption) ?_
        rotate_left
        · intro wq hSw; (try dsimp only at hSw); go_simp; (try with_reducible rfl)
        simp only [List.getElem_toArray, List.getElem_cons_succ, List.getElem_cons_zero, Act.put, List.setIfInBounds_toArray, List.set_cons_zero, List.set_cons_succ]
        refine wpAnyH_take (i := 12) (v := ?_) rfl (by kernel_rfl) (by kernel_rfl) (by kernel_rfl) (fun _ _ _ h => h) (Or.inl ⟨by rfl, ?_⟩) (by assumption) ?_
        rotate_left
        · intro wq hSw; (try dsimp only at hSw); go_simp; (try with_reducible rfl)
        simp only [List.getElem_toArray, List.getElem_cons_succ, List.getElem_cons_zero, Act.put, List.setIfInBounds_toArray, List.set_cons_zero, List.set_cons_succ]
        refine wpAnyH_take (i := 13) (v := ?_) rfl (by kernel_rfl) (by kernel_rfl) (by kernel_rfl) (fun _ _ _ h => h) (Or.inl ⟨by rfl, ?_⟩) (by assumption) ?_
        rotate_left
        · intro wq hSw; (try dsimp only at hSw); go_simp; (try with_reducible rfl)
        simp only [List.getElem_toArray, List.getElem_cons_succ, List.getElem_cons_zero, Act.put, List.setIfInBounds_toArray, List.set_cons_zero, List.set_cons_succ]
        refine wpAnyH_take (i := 14) (v := ?_) rfl (by kernel_rfl) (by kernel_rfl) (by kernel_rfl) (fun _ _ _ h => h) (Or.inl ⟨by rfl, ?_⟩) (by assumption) ?_
        rotate_left
        · intro wq hSw; (try dsimp only at hSw); go_simp; (try with_reducible rfl)
        simp only [List.getElem_toArray, List.getElem_cons_succ, List.getElem_cons_zero, Act.put, List.setIfInBounds_toArray, List.set_cons_zero, List.set_cons_succ]
        refine wpAnyH_take (i := 15) (v := ?_) rfl (by kernel_rfl) (by kernel_rfl) (by kernel_rfl) (fun _ _ _ h => h) (Or.inl ⟨by rfl, ?_⟩) (by assumption) ?_
        rotate_left
        · intro wq hSw; (try dsimp only at hSw); go_simp; (try with_reducible rfl)
        simp only [List.getElem_toArray, List.getElem_cons_succ, List.getElem_cons_zero, Act.put, List.setIfInBounds_toArray, List.set_cons_zero, List.set_cons_succ]
        refine wpAnyH_take (i := 16) (v := ?_) rfl (by kernel_rfl) (by kernel_rfl) (by kernel_rfl) (fun _ _ _ h => h) (Or.inl ⟨by rfl, ?_⟩) (by assumption) ?_
        rotate_left
        · intro wq hSw; (try dsimp only at hSw); go_simp; (try with_reducible rfl)
        simp only [List.getElem_toArray, List.getElem_cons_succ, List.getElem_cons_zero, Act.put, List.setIfInBounds_toArray, List.set_cons_zero, List.set_cons_succ]
        refine wpAnyH_take (i := 17) (v := ?_) rfl (by kernel_rfl) (by kernel_rfl) (by kernel_rfl) (fun _ _ _ h => h) (Or.inl ⟨by rfl, ?_⟩) (by assumption) ?_
        rotate_left
        · intro wq hSw; (try dsimp only at hSw); go_simp; (try with_reducible rfl)
        simp only [List.getElem_toArray, List.getElem_cons_succ, List.getElem_cons_zero, Act.put, List.setIfInBounds_toArray, List.set_cons_zero, List.set_cons_succ]
        refine wpAnyH_take (i := 18) (v := ?_) rfl (by kernel_rfl) (by kernel_rfl) (by kernel_rfl) (fun _ _ _ h => h) (Or.inl ⟨by rfl, ?_⟩) (by assumption) ?_
        rotate_left
        · intro wq hSw; (try dsimp only at hSw); go_simp; (try with_reducible rfl)
        simp only [List.getElem_toArray, List.getElem_cons_succ, List.getElem_cons_zero, Act.put, List.setIfInBounds_toArray, List.set_cons_zero, List.set_cons_succ]
        refine wpAnyH_take (i := 19) (v := ?_) rfl (by kernel_rfl) (by kernel_rfl) (by kernel_rfl) (fun _ _ _ h => h) (Or.inl ⟨by rfl, ?_⟩) (by assumption) ?_
        rotate_left
        · intro wq hSw; (try dsimp only at hSw); go_simp; (try with_reducible rfl)
        simp only [List.getElem_toArray, List.getElem_cons_succ, List.getElem_cons_zero, Act.put, List.setIfInBounds_toArray, List.set_cons_zero, List.set_cons_succ]
        refine wpAnyH_take (i := 20) (v := ?_) rfl (by kernel_rfl) (by kernel_rfl) (by kernel_rfl) (fun _ _ _ h => h) (Or.inl ⟨by rfl, ?_⟩) (by assumption) ?_
        rotate_left
        · intro wq hSw; (try dsimp only at hSw); go_simp; (try with_reducible rfl)
        simp only [List.getElem_toArray, List.getElem_cons_succ, List.getElem_cons_zero, Act.put, List.setIfInBounds_toArray, List.set_cons_zero, List.set_cons_succ]
        refine wpAnyH_take (i := 21) (v := ?_) rfl (by kernel_rfl) (by kernel_rfl) (by kernel_rfl) (fun _ _ _ h => h) (Or.inl ⟨by rfl, ?_⟩) (by assumption) ?_
        rotate_left
        · intro wq hSw; (try dsimp only at hSw); go_simp; (try with_reducible rfl)
        simp only [List.getElem_toArray, List.getElem_cons_succ, List.getElem_cons_zero, Act.put, List.setIfInBounds_toArray, List.set_cons_zero, List.set_cons_succ]
        refine wpAnyH_take (i := 22) (v := ?_) rfl (by kernel_rfl) (by kernel_rfl) (by kernel_rfl) (fun _ _ _ h => h) (Or.inl ⟨by rfl, ?_⟩) (by assumption) ?_
        rotate_left
        · intro wq hSw; (try dsimp only at hSw); go_simp; (try with_reducible rfl)
        simp only [List.getElem_toArray, List.getElem_cons_succ, List.getElem_cons_zero, Act.put, List.setIfInBounds_toArray, List.set_cons_zero, List.set_cons_succ]
        refine wpAnyH_take (i := 23) (v := ?_) rfl (by kernel_rfl) (by kernel_rfl) (by kernel_rfl) (fun _ _ _ h => h) (Or.inl ⟨by rfl, ?_⟩) (by assumption) ?_
        rotate_left
        · intro wq hSw; (try dsimp only at hSw); go_simp; (try with_reducible rfl)
        simp only [List.getElem_toArray, List.getElem_cons_succ, List.getElem_cons_zero, Act.put, List.setIfInBounds_toArray, List.set_cons_zero, List.set_cons_succ]
        refine wpAnyH_done (by kernel_rfl) ?_ _
        go_wp2_with fail
        have GG := Lib.hid (gb_trans GE.out G2.out)
        have GZ := Lib.hid (G2.out.size)
        refine (HCP2.out _ GG.out).mono ?_
        rintro e w3 ⟨z, rfl, o3, b3⟩
        have BB := Lib.hid ((gb_below_none GG.out (Nat.le_refl _)).trans (b3.mono GG.out.size))
        have O3 := Lib.hid o3
        have K3 := Lib.hid ((K2.out.grown G2.out (by simp)).below b3 (by have h3 := SZ.out; have h4 := GZ.out; omega))
        have BZ := Lib.hid b3.size
        clear o3 b3
        have kr : Blk w3 (w.heap.size + 1 + 1) 45 #[.int .i64 0, .int .i64 0, .slice none 0 0, .slice none 0 0, .slice none 0 0, .slice none 0 0, .slice none 0 0, .slice none 0 0, .slice none 0 0, .slice none 0 0, .int .i64 0] := K3.out
        have KR4 := Lib.hid kr
        have y0 : w3.cell? ⟨w.heap.size + 1 + 1, 0, none⟩ = some (.int .i64 0) := kr.cell 0
        have x0 := kr.frozen 0
        have y1 : w3.cell? ⟨w.heap.size + 1 + 1, 1, none⟩ = some (.int .i64 0) := kr.cell 1
        have x1 := kr.frozen 1
        have y2 : w3.cell? ⟨w.heap.size + 1 + 1, 2, none⟩ = some (.slice none 0 0) := kr.cell 2
        have x2 := kr.frozen 2
        have y3 : w3.cell? ⟨w.heap.size + 1 + 1, 3, none⟩ = some (.slice none 0 0) := kr.cell 3
        have x3 := kr.frozen 3
        have y4 : w3.cell? ⟨w.heap.size + 1 + 1, 4, none⟩ = some (.slice none 0 0) := kr.cell 4
        have x4 := kr.frozen 4
        have y5 : w3.cell? ⟨w.heap.size + 1 + 1, 5, none⟩ = some (.slice none 0 0) := kr.cell 5
        have x5 := kr.frozen 5
        have y6 : w3.cell? ⟨w.heap.size + 1 + 1, 6, none⟩ = some (.slice none 0 0) := kr.cell 6
        have x6 := kr.frozen 6
        have y7 : w3.cell? ⟨w.heap.size + 1 + 1, 7, none⟩ = some (.slice none 0 0) := kr.cell 7
        have x7 := kr.frozen 7
        have y8 : w3.cell? ⟨w.heap.size + 1 + 1, 8, none⟩ = some (.slice none 0 0) := kr.cell 8
        have x8 := kr.frozen 8
        have y9 : w3.cell? ⟨w.heap.size + 1 + 1, 9, none⟩ = some (.slice none 0 0) := kr.cell 9
        have x9 := kr.frozen 9
        have y10 : w3.cell? ⟨w.heap.size + 1 + 1, 10, none⟩ = some (.int .i64 0) := kr.cell 10
        have x10 := kr.frozen 10
        clear kr
        go_wp2_with fail
        have kf : Blk (((((((((((w3.setCell ⟨w.heap.size + 1 + 1, 0, none⟩ (.int .i64 N.W)).setCell ⟨w.heap.size + 1 + 1, 1, none⟩ (.int .i64 N.H)).setCell ⟨w.heap.size + 1 + 1, 2, none⟩ (.slice z.br.A N.br.length z.br.c)).setCell ⟨w.heap.size + 1 + 1, 3, none⟩ (.slice z.ta.A N.ta.length z.ta.c)).setCell ⟨w.heap.size + 1 + 1, 4, none⟩ (.slice z.tb.A N.tb.length z.tb.c)).setCell ⟨w.heap.size + 1 + 1, 5, none⟩ (.slice z.bu.A N.bu.length z.bu.c)).setCell ⟨w.heap.size + 1 + 1, 6, none⟩ (.slice z.ow.A N.ow.length z.ow.c)).setCell ⟨w.heap.size + 1 + 1, 7, none⟩ (.slice z.tu.A N.tu.length z.tu.c)).setCell ⟨w.heap.size + 1 + 1, 8, none⟩ (.slice z.so.A N.so.length z.so.c)).setCell ⟨w.heap.size + 1 + 1, 9, none⟩ (.slice z.ar.A N.ar.length z.ar.c)).setCell ⟨w.heap.size + 1 + 1, 10, none⟩ (.int .i64 N.ti)) (w.heap.size + 1 + 1) 45 #[.int .i64 N.W, .int .i64 N.H, .slice z.br.A N.br.length z.br.c, .slice z.ta.A N.ta.length z.ta.c, .slice z.tb.A N.tb.length z.tb.c, .slice z.bu.A N.bu.length z.bu.c, .slice z.ow.A N.ow.length z.ow.c, .slice z.tu.A N.tu.length z.tu.c, .slice z.so.A N.so.length z.so.c, .slice z.ar.A N.ar.length z.ar.c, .int .i64 N.ti] := by
          have hz := (((((((((((KR4.out.set_ 0 (.int .i64 N.W)).set_ 1 (.int .i64 N.H)).set_ 2 (.slice z.br.A N.br.length z.br.c)).set_ 3 (.slice z.ta.A N.ta.length z.ta.c)).set_ 4 (.slice z.tb.A N.tb.length z.tb.c)).set_ 5 (.slice z.bu.A N.bu.length z.bu.c)).set_ 6 (.slice z.ow.A N.ow.length z.ow.c)).set_ 7 (.slice z.tu.A N.tu.length z.tu.c)).set_ 8 (.slice z.so.A N.so.length z.so.c)).set_ 9 (.slice z.ar.A N.ar.length z.ar.c)).set_ 10 (.int .i64 N.ti))
          simpa using hz
        have qz : Chg (w.heap.size + 1 + 1) (w.heap.size + 1 + 1 + 1) w3 (((((((((((w3.setCell ⟨w.heap.size + 1 + 1, 0, none⟩ (.int .i64 N.W)).setCell ⟨w.heap.size + 1 + 1, 1, none⟩ (.int .i64 N.H)).setCell ⟨w.heap.size + 1 + 1, 2, none⟩ (.slice z.br.A N.br.length z.br.c)).setCell ⟨w.heap.size + 1 + 1, 3, none⟩ (.slice z.ta.A N.ta.length z.ta.c)).setCell ⟨w.heap.size + 1 + 1, 4, none⟩ (.slice z.tb.A N.tb.length z.tb.c)).setCell ⟨w.heap.size + 1 + 1, 5, none⟩ (.slice z.bu.A N.bu.length z.bu.c)).setCell ⟨w.heap.size + 1 + 1, 6, none⟩ (.slice z.ow.A N.ow.length z.ow.c)).setCell ⟨w.heap.size + 1 + 1, 7, none⟩ (.slice z.tu.A N.tu.length z.tu.c)).setCell ⟨w.heap.size + 1 + 1, 8, none⟩ (.slice z.so.A N.so.length z.so.c)).setCell ⟨w.heap.size + 1 + 1, 9, none⟩ (.slice z.ar.A N.ar.length z.ar.c)).setCell ⟨w.heap.size + 1 + 1, 10, none⟩ (.int .i64 N.ti)) := ((((((((((st_in w3 (w.heap.size + 1 + 1) 0 (.int .i64 N.W)).sx 1 (.int .i64 N.H)).sx 2 (.slice z.br.A N.br.length z.br.c)).sx 3 (.slice z.ta.A N.ta.length z.ta.c)).sx 4 (.slice z.tb.A N.tb.length z.tb.c)).sx 5 (.slice z.bu.A N.bu.length z.bu.c)).sx 6 (.slice z.ow.A N.ow.length z.ow.c)).sx 7 (.slice z.tu.A N.tu.length z.tu.c)).sx 8 (.slice z.so.A N.so.length z.so.c)).sx 9 (.slice z.ar.A N.ar.length z.ar.c)).sx 10 (.int .i64 N.ti)
        generalize (((((((((((w3.setCell ⟨w.heap.size + 1 + 1, 0, none⟩ (.int .i64 N.W)).setCell ⟨w.heap.size + 1 + 1, 1, none⟩ (.int .i64 N.H)).setCell ⟨w.heap.size + 1 + 1, 2, none⟩ (.slice z.br.A N.br.length z.br.c)).setCell ⟨w.heap.size + 1 + 1, 3, none⟩ (.slice z.ta.A N.ta.length z.ta.c)).setCell ⟨w.heap.size + 1 + 1, 4, none⟩ (.slice z.tb.A N.tb.length z.tb.c)).setCell ⟨w.heap.size + 1 + 1, 5, none⟩ (.slice z.bu.A N.bu.length z.bu.c)).setCell ⟨w.heap.size + 1 + 1, 6, none⟩ (.slice z.ow.A N.ow.length z.ow.c)).setCell ⟨w.heap.size + 1 + 1, 7, none⟩ (.slice z.tu.A N.tu.length z.tu.c)).setCell ⟨w.heap.size + 1 + 1, 8, none⟩ (.slice z.so.A N.so.length z.so.c)).setCell ⟨w.heap.size + 1 + 1, 9, none⟩ (.slice z.ar.A N.ar.length z.ar.c)).setCell ⟨w.heap.size + 1 + 1, 10, none⟩ (.int .i64 N.ti)) = wz at *
        have r0 := kf.cell 0
        have r1 := kf.cell 1
        have r2 := kf.cell 2
        have r3 := kf.cell 3
        have r4 := kf.cell 4
        have r5 := kf.cell 5
        have r6 := kf.cell 6
        have r7 := kf.cell 7
        have r8 := kf.cell 8
        have r9 := kf.cell 9
        have r10 := kf.cell 10
        simp only [List.getElem?_toArray, List.getElem?_cons_zero, List.getElem?_cons_succ] at r0 r1 r2 r3 r4 r5 r6 r7 r8 r9 r10
        have GZ2 := GZ.out
        have BZ2 := BZ.out
        rw [HNO.out, sendG_no HNO.out]
        have hnet : NetOwn wz _ w3.heap.size z N := (O3.out).heap (fun k h1 h2 => qz.block k h2 (by have h3 := SZ.out; omega))
        refine bodyPost_ret (v := .tuple #[.agg #[.int .i64 N.W, .int .i64 N.H, .slice z.br.A N.br.length z.br.c, .slice z.ta.A N.ta.length z.ta.c, .slice z.tb.A N.tb.length z.tb.c, .slice z.bu.A N.bu.length z.bu.c, .slice z.ow.A N.ow.length z.ow.c, .slice z.tu.A N.tu.length z.tu.c, .slice z.so.A N.so.length z.so.c, .slice z.ar.A N.ar.length z.ar.c, .int .i64 N.ti], .bool false]) (by simp [results, Tryz.results21, go_sem, r0, r1, r2, r3, r4, r5, r6, r7, r8, r9, r10]) rfl ⟨z, rfl, (hnet.less (by have h3 := SZ.out; omega)).upto qz.size, (BB.out).trans (qz.below (.inl (by omega)) (by have h3 := SZ.out; omega))⟩
      · have HYE := Lib.hid (show sendOk N p = true by rw [hX.out]; exact decide_eq_true (by rw [HM.out]; omega))
        refine wp_region_held_drew (S := (fun w' => w'.cell? ⟨w.heap.size, 0, none⟩ = some (.int .i64 N.W) ∧ w'.cell? ⟨w.heap.size, 1, none⟩ = some (.int .i64 N.H) ∧ w'.cell? ⟨w.heap.size, 2, none⟩ = some (.slice y.br.A N.br.length y.br.c) ∧ w'.cell? ⟨w.heap.size, 3, none⟩ = some (.slice y.ta.A N.ta.length y.ta.c) ∧ w'.cell? ⟨w.heap.size, 4, none⟩ = some (.slice y.tb.A N.tb.length y.tb.c) ∧ w'.cell? ⟨w.heap.size, 5, none⟩ = some (.slice y.bu.A N.bu.length y.bu.c) ∧ w'.cell? ⟨w.heap.size, 6, none⟩ = some (.slice y.ow.A N.ow.length y.ow.c) ∧ w'.cell? ⟨w.heap.size, 7, none⟩ = some (.slice y.tu.A N.tu.length y.tu.c) ∧ w'.cell? ⟨w.heap.size, 8, none⟩ = some (.slice (some ⟨sb, so, none⟩) N.so.length y.so.c) ∧ w'.cell? ⟨w.heap.size, 9, none⟩ = some (.slice y.ar.A N.ar.length y.ar.c) ∧ w'.cell? ⟨w.heap.size, 10, none⟩ = some (.int .i64 N.ti) ∧ w'.cell? ⟨w.heap.size + 1, 0, none⟩ = some (.int .i64 p.id) ∧ w'.cell? ⟨w.heap.size + 1, 1, none⟩ = some (.int .i64 (f : Int)) ∧ w'.cell? ⟨w.heap.size + 1, 2, none⟩ = some (.int .i64 p.to) ∧ w'.cell? ⟨w.heap.size + 1, 3, none⟩ = some (.int .i64 p.cl) ∧ w'.cell? ⟨w.heap.size + 1, 4, none⟩ = some (.int .i64 p.ln) ∧ w'.cell? ⟨sb, so + f, none⟩ = some (.slice A' m c'))) (by kernel_rfl) (⟨a0, a1, a2, a3, a4, a5, a6, a7, a8, a9, a10, p0, p1, p2, p3, p4, hc0⟩) (fun hHeld => ?_)
        refine wpAnyH_take (i := 0) (v := ?_) rfl (by kernel_rfl) (by kernel_rfl) (by kernel_rfl) (fun _ _ _ h => h) (Or.inl ⟨by rfl, ?_⟩) (by assumption) ?_
        rotate_left
        · intro wq hSw; (try dsimp only at hSw); go_simp; (try with_reducible rfl)
        simp only [List.getElem_toArray, List.getElem_cons_zero, Act.put, List.setIfInBounds_toArray, List.set_cons_zero, List.set_cons_succ]
        refine wpAnyH_ready (rs := [1]) (by kernel_rfl) (by simp) ?_
        refine AllReadyH.cons rfl (fun K hK => ?_) AllReadyH.nil
        go_simp
        refine (HNT2.out _ (gb_drew GE.out)).mono ?_; rintro e w1 ⟨rfl, hg1⟩; have G1 := Lib.hid (gb_drF hg1); clear hg1; obtain ⟨d0, d1, d2, d3, d4, d5, d6, d7, d8, d9, d10, d11, d12, d13, d14, d15⟩ := CB2.out _ G1.out; have dh := HCL.out _ G1.out
        try go_wp2_with fail
        refine hK.out _ _ (⟨d0, d1, d2, d3, d4, d5, d6, d7, d8, d9, d10, d11, d12, d13, d14, d15, dh⟩) (fun hHeld => ?_)
        clear hK K
        try simp only [List.getElem_toArray, List.getElem_cons_succ, List.getElem_cons_zero, Act.put, List.setIfInBounds_toArray, List.set_cons_zero, List.set_cons_succ]
        refine wpAnyH_take (i := 2) (v := ?_) rfl (by kernel_rfl) (by kernel_rfl) (by kernel_rfl) (fun _ _ _ h => h) (Or.inl ⟨by rfl, ?_⟩) (by assumption) ?_
        rotate_left
        · intro wq hSw; (try dsimp only at hSw); go_simp; (try with_reducible rfl)
        simp only [List.getElem_toArray, List.getElem_cons_succ, List.getElem_cons_zero, Act.put, List.setIfInBounds_toArray, List.set_cons_zero, List.set_cons_succ]
        refine wpAnyH_take (i := 3) (v := ?_) rfl (by kernel_rfl) (by kernel_rfl) (by kernel_rfl) (fun _ _ _ h => h) (Or.inl ⟨by rfl, ?_⟩) (by assumption) ?_
        rotate_left
        · intro wq hSw; (try dsimp only at hSw); go_simp; (try with_reducible rfl)
        simp only [List.getElem_toArray, List.getElem_cons_succ, List.getElem_cons_zero, Act.put, List.setIfInBounds_toArray, List.set_cons_zero, List.set_cons_succ]
        refine wpAnyH_take (i := 4) (v := ?_) rfl (by kernel_rfl) (by kernel_rfl) (by kernel_rfl) (fun _ _ _ h => h) (Or.inl ⟨by rfl, ?_⟩) (by assumption) ?_
        rotate_left
        · intro wq hSw; (try dsimp only at hSw); go_simp; (try with_reducible rfl)
        simp only [List.getElem_toArray, List.getElem_cons_succ, List.getElem_cons_zero, Act.put, List.setIfInBounds_toArray, List.set_cons_zero, List.set_cons_succ]
        refine wpAnyH_take (i := 5) (v := ?_) rfl (by kernel_rfl) (by kernel_rfl) (by kernel_rfl) (fun _ _ _ h => h) (Or.inl ⟨by rfl, ?_⟩) (by assumption) ?_
        rotate_left
        · intro wq hSw; (try dsimp only at hSw); go_simp; (try with_reducible rfl)
        simp only [List.getElem_toArray, List.getElem_cons_succ, List.getElem_cons_zero, Act.put, List.setIfInBounds_toArray, List.set_cons_zero, List.set_cons_succ]
        refine wpAnyH_take (i := 6) (v := ?_) rfl (by kernel_rfl) (by kernel_rfl) (by kernel_rfl) (fun _ _ _ h => h) (Or.inl ⟨by rfl, ?_⟩) (by assumption) ?_
        rotate_left
        · intro wq hSw; (try dsimp only at hSw); go_simp; (try with_reducible rfl)
        simp only [List.getElem_toArray, List.getElem_cons_succ, List.getElem_cons_zero, Act.put, List.setIfInBounds_toArray, List.set_cons_zero, List.set_cons_succ]
        refine wpAnyH_take (i := 7) (v := ?_) rfl (by kernel_rfl) (by kernel_rfl) (by kernel_rfl) (fun _ _ _ h => h) (Or.inl ⟨by rfl, ?_⟩) (by assumption) ?_
        rotate_left
        · intro wq hSw; (try dsimp only at hSw); go_simp; (try with_reducible rfl)
        simp only [List.getElem_toArray, List.getElem_cons_succ, List.getElem_cons_zero, Act.put, List.setIfInBounds_toArray, List.set_cons_zero, List.set_cons_succ]
        refine wpAnyH_ready (rs := [8]) (by kernel_rfl) (by simp) ?_
        refine AllReadyH.cons rfl (fun K hK => ?_) AllReadyH.nil
        go_simp
        clear dh; clear d0 d1 d2 d3 d4 d5 d6 d7 d8 d9 d10 d11 d12 d13 d14 d15; refine (HPT2.out _).mono ?_; rintro e w2 ⟨rfl, hg2⟩; have G2 := Lib.hid (gb_trans G1.out hg2); clear hg2; obtain ⟨d0, d1, d2, d3, d4, d5, d6, d7, d8, d9, d10, d11, d12, d13, d14, d15⟩ := CB2.out _ G2.out; have dh := HCL.out _ G2.out
        try go_wp2_with fail
        refine hK.out _ _ (⟨d0, d1, d2, d3, d4, d5, d6, d7, d8, d9, d10, d11, d12, d13, d14, d15, dh⟩) (fun hHeld => ?_)
        clear hK K
        try simp only [List.getElem_toArray, List.getElem_cons_succ, List.getElem_cons_zero, Act.put, List.setIfInBounds_toArray, List.set_cons_zero, List.set_cons_succ]
        refine wpAnyH_take (i := 9) (v := ?_) rfl (by kernel_rfl) (by kernel_rfl) (by kernel_rfl) (fun _ _ _ h => h) (Or.inl ⟨by rfl, ?_⟩) (by assumption) ?_
        rotate_left
        · intro wq hSw; (try dsimp only at hSw); go_simp; (try with_reducible rfl)
        simp only [List.getElem_toArray, List.getElem_cons_succ, List.getElem_cons_zero, Act.put, List.setIfInBounds_toArray, List.set_cons_zero, List.set_cons_succ]
        refine wpAnyH_take (i := 10) (v := ?_) rfl (by kernel_rfl) (by kernel_rfl) (by kernel_rfl) (fun _ _ _ h => h) (Or.inl ⟨by rfl, ?_⟩) (by assumption) ?_
        rotate_left
        · intro wq hSw; (try dsimp only at hSw); go_simp; (try with_reducible rfl)
        simp only [List.getElem_toArray, List.getElem_cons_succ, List.getElem_cons_zero, Act.put, List.setIfInBounds_toArray, List.set_cons_zero, List.set_cons_succ]
        refine wpAnyH_take (i := 11) (v := ?_) rfl (by kernel_rfl) (by kernel_rfl) (by kernel_rfl) (fun _ _ _ h => h) (Or.inl ⟨by rfl, ?_⟩) (by assumption) ?_
        rotate_left
        · intro wq hSw; (try dsimp only at hSw); go_simp; (try with_reducible rfl)
        simp only [List.getElem_toArray, List.getElem_cons_succ, List.getElem_cons_zero, Act.put, List.setIfInBounds_toArray, List.set_cons_zero, List.set_cons_succ]
        refine wpAnyH_take (i := 12) (v := ?_) rfl (by kernel_rfl) (by kernel_rfl) (by kernel_rfl) (fun _ _ _ h => h) (Or.inl ⟨by rfl, ?_⟩) (by assumption) ?_
        rotate_left
        · intro wq hSw; (try dsimp only at hSw); go_simp; (try with_reducible rfl)
        simp only [List.getElem_toArray, List.getElem_cons_succ, List.getElem_cons_zero, Act.put, List.setIfInBounds_toArray, List.set_cons_zero, List.set_cons_succ]
        refine wpAnyH_take (i := 13) (v := ?_) rfl (by kernel_rfl) (by kernel_rfl) (by kernel_rfl) (fun _ _ _ h => h) (Or.inl ⟨by rfl, ?_⟩) (by assumption) ?_
        rotate_left
        · intro wq hSw; (try dsimp only at hSw); go_simp; (try with_reducible rfl)
        simp only [List.getElem_toArray, List.getElem_cons_succ, List.getElem_cons_zero, Act.put, List.setIfInBounds_toArray, List.set_cons_zero, List.set_cons_succ]
        refine wpAnyH_take (i := 14) (v := ?_) rfl (by kernel_rfl) (by kernel_rfl) (by kernel_rfl) (fun _ _ _ h => h) (Or.inl ⟨by rfl, ?_⟩) (by assumption) ?_
        rotate_left
        · intro wq hSw; (try dsimp only at hSw); go_simp; (try with_reducible rfl)
        simp only [List.getElem_toArray, List.getElem_cons_succ, List.getElem_cons_zero, Act.put, List.setIfInBounds_toArray, List.set_cons_zero, List.set_cons_succ]
        refine wpAnyH_take (i := 15) (v := ?_) rfl (by kernel_rfl) (by kernel_rfl) (by kernel_rfl) (fun _ _ _ h => h) (Or.inl ⟨by rfl, ?_⟩) (by assumption) ?_
        rotate_left
        · intro wq hSw; (try dsimp only at hSw); go_simp; (try with_reducible rfl)
        simp only [List.getElem_toArray, List.getElem_cons_succ, List.getElem_cons_zero, Act.put, List.setIfInBounds_toArray, List.set_cons_zero, List.set_cons_succ]
        refine wpAnyH_take (i := 16) (v := ?_) rfl (by kernel_rfl) (by kernel_rfl) (by kernel_rfl) (fun _ _ _ h => h) (Or.inl ⟨by rfl, ?_⟩) (by assumption) ?_
        rotate_left
        · intro wq hSw; (try dsimp only at hSw); go_simp; (try with_reducible rfl)
        simp only [List.getElem_toArray, List.getElem_cons_succ, List.getElem_cons_zero, Act.put, List.setIfInBounds_toArray, List.set_cons_zero, List.set_cons_succ]
        refine wpAnyH_take (i := 17) (v := ?_) rfl (by kernel_rfl) (by kernel_rfl) (by kernel_rfl) (fun _ _ _ h => h) (Or.inl ⟨by rfl, ?_⟩) (by assumption) ?_
        rotate_left
        · intro wq hSw; (try dsimp only at hSw); go_simp; (try with_reducible rfl)
        simp only [List.getElem_toArray, List.getElem_cons_succ, List.getElem_cons_zero, Act.put, List.setIfInBounds_toArray, List.set_cons_zero, List.set_cons_succ]
        refine wpAnyH_take (i := 18) (v := ?_) rfl (by kernel_rfl) (by kernel_rfl) (by kernel_rfl) (fun _ _ _ h => h) (Or.inl ⟨by rfl, ?_⟩) (by assumption) ?_
        rotate_left
        · intro wq hSw; (try dsimp only at hSw); go_simp; (try with_reducible rfl)
        simp only [List.getElem_toArray, List.getElem_cons_succ, List.getElem_cons_zero, Act.put, List.setIfInBounds_toArray, List.set_cons_zero, List.set_cons_succ]
        refine wpAnyH_take (i := 19) (v := ?_) rfl (by kernel_rfl) (by kernel_rfl) (by kernel_rfl) (fun _ _ _ h => h) (Or.inl ⟨by rfl, ?_⟩) (by assumption) ?_
        rotate_left
        · intro wq hSw; (try dsimp only at hSw); go_simp; (try with_reducible rfl)
        simp only [List.getElem_toArray, List.getElem_cons_succ, List.getElem_cons_zero, Act.put, List.setIfInBounds_toArray, List.set_cons_zero, List.set_cons_succ]
        refine wpAnyH_take (i := 20) (v := ?_) rfl (by kernel_rfl) (by kernel_rfl) (by kernel_rfl) (fun _ _ _ h => h) (Or.inl ⟨by rfl, ?_⟩) (by assumption) ?_
        rotate_left
        · intro wq hSw; (try dsimp only at hSw); go_simp; (try with_reducible rfl)
        simp only [List.getElem_toArray, List.getElem_cons_succ, List.getElem_cons_zero, Act.put, List.setIfInBounds_toArray, List.set_cons_zero, List.set_cons_succ]
        refine wpAnyH_take (i := 21) (v := ?_) rfl (by kernel_rfl) (by kernel_rfl) (by kernel_rfl) (fun _ _ _ h => h) (Or.inl ⟨by rfl, ?_⟩) (by assumption) ?_
        rotate_left
        · intro wq hSw; (try dsimp only at hSw); go_simp; (try with_reducible rfl)
        simp only [List.getElem_toArray, List.getElem_cons_succ, List.getElem_cons_zero, Act.put, List.setIfInBounds_toArray, List.set_cons_zero, List.set_cons_succ]
        refine wpAnyH_take (i := 22) (v := ?_) rfl (by kernel_rfl) (by kernel_rfl) (by kernel_rfl) (fun _ _ _ h => h) (Or.inl ⟨by rfl, ?_⟩) (by assumption) ?_
        rotate_left
        · intro wq hSw; (try dsimp only at hSw); go_simp; (try with_reducible rfl)
        simp only [List.getElem_toArray, List.getElem_cons_succ, List.getElem_cons_zero, Act.put, List.setIfInBounds_toArray, List.set_cons_zero, List.set_cons_succ]
        refine wpAnyH_take (i := 23) (v := ?_) rfl (by kernel_rfl) (by kernel_rfl) (by kernel_rfl) (fun _ _ _ h => h) (Or.inl ⟨by rfl, ?_⟩) (by assumption) ?_
        rotate_left
        · intro wq hSw; (try dsimp only at hSw); go_simp; (try with_reducible rfl)
        simp only [List.getElem_toArray, List.getElem_cons_succ, List.getElem_cons_zero, Act.put, List.setIfInBounds_toArray, List.set_cons_zero, List.set_cons_succ]
        refine wpAnyH_done (by kernel_rfl) ?_ _
        go_wp2_with fail
        have GG := Lib.hid (gb_trans GE.out G2.out)
        have GZ := Lib.hid (G2.out.size)
        refine (HSD2.out _ GG.out).mono ?_
        rintro e w3 ⟨z, rfl, o3, b3⟩
        have BB := Lib.hid ((gb_below_none GG.out (Nat.le_refl _)).trans (b3.mono GG.out.size))
        have O3 := Lib.hid o3
        have K3 := Lib.hid ((K2.out.grown G2.out (by simp)).below b3 (by have h3 := SZ.out; have h4 := GZ.out; omega))
        have BZ := Lib.hid b3.size
        clear o3 b3
        have kr : Blk w3 (w.heap.size + 1 + 1) 45 #[.int .i64 0, .int .i64 0, .slice none 0 0, .slice none 0 0, .slice none 0 0, .slice none 0 0, .slice none 0 0, .slice none 0 0, .slice none 0 0, .slice none 0 0, .int .i64 0] := K3.out
        have KR4 := Lib.hid kr
        have y0 : w3.cell? ⟨w.heap.size + 1 + 1, 0, none⟩ = some (.int .i64 0) := kr.cell 0
        have x0 := kr.frozen 0
        have y1 : w3.cell? ⟨w.heap.size + 1 + 1, 1, none⟩ = some (.int .i64 0) := kr.cell 1
        have x1 := kr.frozen 1
        have y2 : w3.cell? ⟨w.heap.size + 1 + 1, 2, none⟩ = some (.slice none 0 0) := kr.cell 2
        have x2 := kr.frozen 2
        have y3 : w3.cell? ⟨w.heap.size + 1 + 1, 3, none⟩ = some (.slice none 0 0) := kr.cell 3
        have x3 := kr.frozen 3
        have y4 : w3.cell? ⟨w.heap.size + 1 + 1, 4, none⟩ = some (.slice none 0 0) := kr.cell 4
        have x4 := kr.frozen 4
        have y5 : w3.cell? ⟨w.heap.size + 1 + 1, 5, none⟩ = some (.slice none 0 0) := kr.cell 5
        have x5 := kr.frozen 5
        have y6 : w3.cell? ⟨w.heap.size + 1 + 1, 6, none⟩ = some (.slice none 0 0) := kr.cell 6
        have x6 := kr.frozen 6
        have y7 : w3.cell? ⟨w.heap.size + 1 + 1, 7, none⟩ = some (.slice none 0 0) := kr.cell 7
        have x7 := kr.frozen 7
        have y8 : w3.cell? ⟨w.heap.size + 1 + 1, 8, none⟩ = some (.slice none 0 0) := kr.cell 8
        have x8 := kr.frozen 8
        have y9 : w3.cell? ⟨w.heap.size + 1 + 1, 9, none⟩ = some (.slice none 0 0) := kr.cell 9
        have x9 := kr.frozen 9
        have y10 : w3.cell? ⟨w.heap.size + 1 + 1, 10, none⟩ = some (.int .i64 0) := kr.cell 10
        have x10 := kr.frozen 10
        clear kr
        go_wp2_with fail
        have kf : Blk (((((((((((w3.setCell ⟨w.heap.size + 1 + 1, 0, none⟩ (.int .i64 (sendTo N p).W)).setCell ⟨w.heap.size + 1 + 1, 1, none⟩ (.int .i64 (sendTo N p).H)).setCell ⟨w.heap.size + 1 + 1, 2, none⟩ (.slice z.br.A (sendTo N p).br.length z.br.c)).setCell ⟨w.heap.size + 1 + 1, 3, none⟩ (.slice z.ta.A (sendTo N p).ta.length z.ta.c)).setCell ⟨w.heap.size + 1 + 1, 4, none⟩ (.slice z.tb.A (sendTo N p).tb.length z.tb.c)).setCell ⟨w.heap.size + 1 + 1, 5, none⟩ (.slice z.bu.A (sendTo N p).bu.length z.bu.c)).setCell ⟨w.heap.size + 1 + 1, 6, none⟩ (.slice z.ow.A (sendTo N p).ow.length z.ow.c)).setCell ⟨w.heap.size + 1 + 1, 7, none⟩ (.slice z.tu.A (sendTo N p).tu.length z.tu.c)).setCell ⟨w.heap.size + 1 + 1, 8, none⟩ (.slice z.so.A (sendTo N p).so.length z.so.c)).setCell ⟨w.heap.size + 1 + 1, 9, none⟩ (.slice z.ar.A (sendTo N p).ar.length z.ar.c)).setCell ⟨w.heap.size + 1 + 1, 10, none⟩ (.int .i64 (sendTo N p).ti)) (w.heap.size + 1 + 1) 45 #[.int .i64 (sendTo N p).W, .int .i64 (sendTo N p).H, .slice z.br.A (sendTo N p).br.length z.br.c, .slice z.ta.A (sendTo N p).ta.length z.ta.c, .slice z.tb.A (sendTo N p).tb.length z.tb.c, .slice z.bu.A (sendTo N p).bu.length z.bu.c, .slice z.ow.A (sendTo N p).ow.length z.ow.c, .slice z.tu.A (sendTo N p).tu.length z.tu.c, .slice z.so.A (sendTo N p).so.length z.so.c, .slice z.ar.A (sendTo N p).ar.length z.ar.c, .int .i64 (sendTo N p).ti] := by
          have hz := (((((((((((KR4.out.set_ 0 (.int .i64 (sendTo N p).W)).set_ 1 (.int .i64 (sendTo N p).H)).set_ 2 (.slice z.br.A (sendTo N p).br.length z.br.c)).set_ 3 (.slice z.ta.A (sendTo N p).ta.length z.ta.c)).set_ 4 (.slice z.tb.A (sendTo N p).tb.length z.tb.c)).set_ 5 (.slice z.bu.A (sendTo N p).bu.length z.bu.c)).set_ 6 (.slice z.ow.A (sendTo N p).ow.length z.ow.c)).set_ 7 (.slice z.tu.A (sendTo N p).tu.length z.tu.c)).set_ 8 (.slice z.so.A (sendTo N p).so.length z.so.c)).set_ 9 (.slice z.ar.A (sendTo N p).ar.length z.ar.c)).set_ 10 (.int .i64 (sendTo N p).ti))
          simpa using hz
        have qz : Chg (w.heap.size + 1 + 1) (w.heap.size + 1 + 1 + 1) w3 (((((((((((w3.setCell ⟨w.heap.size + 1 + 1, 0, none⟩ (.int .i64 (sendTo N p).W)).setCell ⟨w.heap.size + 1 + 1, 1, none⟩ (.int .i64 (sendTo N p).H)).setCell ⟨w.heap.size + 1 + 1, 2, none⟩ (.slice z.br.A (sendTo N p).br.length z.br.c)).setCell ⟨w.heap.size + 1 + 1, 3, none⟩ (.slice z.ta.A (sendTo N p).ta.length z.ta.c)).setCell ⟨w.heap.size + 1 + 1, 4, none⟩ (.slice z.tb.A (sendTo N p).tb.length z.tb.c)).setCell ⟨w.heap.size + 1 + 1, 5, none⟩ (.slice z.bu.A (sendTo N p).bu.length z.bu.c)).setCell ⟨w.heap.size + 1 + 1, 6, none⟩ (.slice z.ow.A (sendTo N p).ow.length z.ow.c)).setCell ⟨w.heap.size + 1 + 1, 7, none⟩ (.slice z.tu.A (sendTo N p).tu.length z.tu.c)).setCell ⟨w.heap.size + 1 + 1, 8, none⟩ (.slice z.so.A (sendTo N p).so.length z.so.c)).setCell ⟨w.heap.size + 1 + 1, 9, none⟩ (.slice z.ar.A (sendTo N p).ar.length z.ar.c)).setCell ⟨w.heap.size + 1 + 1, 10, none⟩ (.int .i64 (sendTo N p).ti)) := ((((((((((st_in w3 (w.heap.size + 1 + 1) 0 (.int .i64 (sendTo N p).W)).sx 1 (.int .i64 (sendTo N p).H)).sx 2 (.slice z.br.A (sendTo N p).br.length z.br.c)).sx 3 (.slice z.ta.A (sendTo N p).ta.length z.ta.c)).sx 4 (.slice z.tb.A (sendTo N p).tb.length z.tb.c)).sx 5 (.slice z.bu.A (sendTo N p).bu.length z.bu.c)).sx 6 (.slice z.ow.A (sendTo N p).ow.length z.ow.c)).sx 7 (.slice z.tu.A (sendTo N p).tu.length z.tu.c)).sx 8 (.slice z.so.A (sendTo N p).so.length z.so.c)).sx 9 (.slice z.ar.A (sendTo N p).ar.length z.ar.c)).sx 10 (.int .i64 (sendTo N p).ti)
        generalize (((((((((((w3.setCell ⟨w.heap.size + 1 + 1, 0, none⟩ (.int .i64 (sendTo N p).W)).setCell ⟨w.heap.size + 1 + 1, 1, none⟩ (.int .i64 (sendTo N p).H)).setCell ⟨w.heap.size + 1 + 1, 2, none⟩ (.slice z.br.A (sendTo N p).br.length z.br.c)).setCell ⟨w.heap.size + 1 + 1, 3, none⟩ (.slice z.ta.A (sendTo N p).ta.length z.ta.c)).setCell ⟨w.heap.size + 1 + 1, 4, none⟩ (.slice z.tb.A (sendTo N p).tb.length z.tb.c)).setCell ⟨w.heap.size + 1 + 1, 5, none⟩ (.slice z.bu.A (sendTo N p).bu.length z.bu.c)).setCell ⟨w.heap.size + 1 + 1, 6, none⟩ (.slice z.ow.A (sendTo N p).ow.length z.ow.c)).setCell ⟨w.heap.size + 1 + 1, 7, none⟩ (.slice z.tu.A (sendTo N p).tu.length z.tu.c)).setCell ⟨w.heap.size + 1 + 1, 8, none⟩ (.slice z.so.A (sendTo N p).so.length z.so.c)).setCell ⟨w.heap.size + 1 + 1, 9, none⟩ (.slice z.ar.A (sendTo N p).ar.length z.ar.c)).setCell ⟨w.heap.size + 1 + 1, 10, none⟩ (.int .i64 (sendTo N p).ti)) = wz at *
        have r0 := kf.cell 0
        have r1 := kf.cell 1
        have r2 := kf.cell 2
        have r3 := kf.cell 3
        have r4 := kf.cell 4
        have r5 := kf.cell 5
        have r6 := kf.cell 6
        have r7 := kf.cell 7
        have r8 := kf.cell 8
        have r9 := kf.cell 9
        have r10 := kf.cell 10
        simp only [List.getElem?_toArray, List.getElem?_cons_zero, List.getElem?_cons_succ] at r0 r1 r2 r3 r4 r5 r6 r7 r8 r9 r10
        have GZ2 := GZ.out
        have BZ2 := BZ.out
        rw [HYE.out, sendG_yes HYE.out]
        have hnet : NetOwn wz _ w3.heap.size z (sendTo N p) := (O3.out).heap (fun k h1 h2 => qz.block k h2 (by have h3 := SZ.out; omega))
        refine bodyPost_ret (v := .tuple #[.agg #[.int .i64 (sendTo N p).W, .int .i64 (sendTo N p).H, .slice z.br.A (sendTo N p).br.length z.br.c, .slice z.ta.A (sendTo N p).ta.length z.ta.c, .slice z.tb.A (sendTo N p).tb.length z.tb.c, .slice z.bu.A (sendTo N p).bu.length z.bu.c, .slice z.ow.A (sendTo N p).ow.length z.ow.c, .slice z.tu.A (sendTo N p).tu.length z.tu.c, .slice z.so.A (sendTo N p).so.length z.so.c, .slice z.ar.A (sendTo N p).ar.length z.ar.c, .int .i64 (sendTo N p).ti], .bool true]) (by simp [results, Tryz.results21, go_sem, r0, r1, r2, r3, r4, r5, r6, r7, r8, r9, r10]) rfl ⟨z, rfl, (hnet.less (by have h3 := SZ.out; omega)).upto qz.size, (BB.out).trans (qz.below (.inl (by omega)) (by have h3 := SZ.out; omega))⟩
end Go.Proofs.YtfloekbmgjmhbaaGreat
end

section
namespace Go.Proofs.YtfloekbmgjmhbaaGreat
open Go.ChangeShapes Go.WideShapes Go.ChangeAt Go.RowKit
set_option linter.unusedVariables false

/-- A new network and a number. -/
def RetNetI (N : Nt) (x : Int) (w : World) (e : Ending) (w' : World) : Prop :=
  ∃ y : Na, e = .returned (.tuple #[.agg #[.int .i64 N.W, .int .i64 N.H, .slice y.br.A N.br.length y.br.c, .slice y.ta.A N.ta.length y.ta.c, .slice y.tb.A N.tb.length y.tb.c, .slice y.bu.A N.bu.length y.bu.c, .slice y.ow.A N.ow.length y.ow.c, .slice y.tu.A N.tu.length y.tu.c, .slice y.so.A N.so.length y.so.c, .slice y.ar.A N.ar.length y.ar.c, .int .i64 N.ti], .int .i64 x]) ∧ NetOwn w' w.heap.size w'.heap.size y N ∧ Below w.heap.size w w'
end Go.Proofs.YtfloekbmgjmhbaaGreat
end

section
namespace Go.Proofs.YtfloekbmgjmhbaaGreat
open Go.ChangeShapes Go.WideShapes Go.ChangeAt Go.RowKit
set_option linter.unusedVariables false
set_option maxRecDepth 20000

theorem sum_le {b : Nat} : ∀ {LL : List (List Flt)}, (∀ D ∈ LL, D.length ≤ b) → sumL LL ≤ b * LL.length := by
  intro LL
  induction LL with
  | nil => intro _; simp [sumL]
  | cons a t ih =>
    intro h
    have h1 := ih (fun D hD => h D (List.mem_cons_of_mem _ hD))
    have h2 := h a (List.mem_cons_self ..)
    simp only [sumL, List.map_cons, List.sum_cons, List.length_cons, Nat.mul_add] at h1 ⊢
    omega
theorem netOk_sum {N : Nt} (h : netOk N = true) : sumL N.so ≤ 1000 := by
  have h1 := nk_parts h
  unfold sizesN at h1
  have h2 := of_decide_eq_true h1
  have h3 := (countG_le N.W N.H).2
  have h4 : sumL N.so ≤ 60 * N.so.length := sum_le (fun D hD => by
    obtain ⟨i, hi, e⟩ := List.getElem_of_mem hD
    exact netOk_so h (List.getElem?_eq_some_iff.2 ⟨hi, e⟩))
  omega
theorem NetLike.small {N R : Nt} {k : Nat} (h : NetLike N R k) (hs : NetSm N) (hok : netOk N = true) (hk : k ≤ 200) : NetSm R := by
  have h1 := h.s
  have h2 := netOk_sum hok
  obtain ⟨s1, s2, s3, s4, s5, s6, s7, s8, s9, s10, s11⟩ := hs
  exact ⟨by rw [h.br]; exact s1, by rw [h.ta]; exact s2, by rw [h.tb]; exact s3, by rw [h.bu]; exact s4, by rw [h.ow]; exact s5, by rw [h.tu]; exact s6, by rw [h.so]; exact s7, by rw [h.ar]; exact s8, by rw [h.bu]; exact s9, by omega, by rw [h.ar]; exact s11⟩
theorem specBit (b : Bool) (w : World) : Calls Tryz.prog 22 #[.bool b] w (RetI (if b = true then 1 else 0) none w) := by
  cases b
  all_goals
    go_enter Tryz.func22, Tryz.ntmps22
    go_wp2_with fail
    go_ret
    exact ⟨rfl, gb_refl _ _⟩
set_option maxHeartbeats 3200000 in
theorem specSendAll (y : Na) (N : Nt) (A : Option Addr) (n cap : Nat) (D : List Pkt) (w : World) (h : NetIn w w.heap.size y N) (hn : NetSm N) (hr : RecAt 5 pktC w w.heap.size A n D) (hn1 : n ≤ 1000000000) :
    Calls Tryz.prog 6 #[.agg #[.int .i64 N.W, .int .i64 N.H, .slice y.br.A N.br.length y.br.c, .slice y.ta.A N.ta.length y.ta.c, .slice y.tb.A N.tb.length y.tb.c, .slice y.bu.A N.bu.length y.bu.c, .slice y.ow.A N.ow.length y.ow.c, .slice y.tu.A N.tu.length y.tu.c, .slice y.so.A N.so.length y.so.c, .slice y.ar.A N.ar.length y.ar.c, .int .i64 N.ti], .slice A n cap] w (RetNetI (sendAllG N D) (sentG N D) w) := by
  have HNK := Lib.hid (fun w' (g : w.grownBy w' none) => specNetOk y N w' ((h.none (Nat.le_refl _) g).more g.size) hn)
  have HCP := Lib.hid (fun w' (g : w.grownBy w' none) => specL15Copy y N w' ((h.none (Nat.le_refl _) g).more g.size) hn)
  have HRD := Lib.hid hr
  have hlD := hr.1
  have HSM := Lib.hid hn
  have k0 := (Blk.new w 45 #[.int .i64 N.W, .int .i64 N.H, .slice y.br.A N.br.length y.br.c, .slice y.ta.A N.ta.length y.ta.c, .slice y.tb.A N.tb.length y.tb.c, .slice y.bu.A N.bu.length y.bu.c, .slice y.ow.A N.ow.length y.ow.c, .slice y.tu.A N.tu.length y.tu.c, .slice y.so.A N.so.length y.so.c, .slice y.ar.A N.ar.length y.ar.c, .int .i64 N.ti]).alloc (.cells #[.int .i64 0, .int .i64 0, .slice none 0 0, .slice none 0 0, .slice none 0 0, .slice none 0 0, .slice none 0 0, .slice none 0 0, .slice none 0 0, .slice none 0 0, .int .i64 0] 45)
  have k2 := Blk.new (w.alloc (.cells #[.int .i64 N.W, .int .i64 N.H, .slice y.br.A N.br.length y.br.c, .slice y.ta.A N.ta.length y.ta.c, .slice y.tb.A N.tb.length y.tb.c, .slice y.bu.A N.bu.length y.bu.c, .slice y.ow.A N.ow.length y.ow.c, .slice y.tu.A N.tu.length y.tu.c, .slice y.so.A N.so.length y.so.c, .slice y.ar.A N.ar.length y.ar.c, .int .i64 N.ti] 45)) 45 #[.int .i64 0, .int .i64 0, .slice none 0 0, .slice none 0 0, .slice none 0 0, .slice none 0 0, .slice none 0 0, .slice none 0 0, .slice none 0 0, .slice none 0 0, .int .i64 0]
  have ge := gb_alloc (gb_alloc (gb_refl w none) (.cells #[.int .i64 N.W, .int .i64 N.H, .slice y.br.A N.br.length y.br.c, .slice y.ta.A N.ta.length y.ta.c, .slice y.tb.A N.tb.length y.tb.c, .slice y.bu.A N.bu.length y.bu.c, .slice y.ow.A N.ow.length y.ow.c, .slice y.tu.A N.tu.length y.tu.c, .slice y.so.A N.so.length y.so.c, .slice y.ar.A N.ar.length y.ar.c, .int .i64 N.ti] 45)) (.cells #[.int .i64 0, .int .i64 0, .slice none 0 0, .slice none 0 0, .slice none 0 0, .slice none 0 0, .slice none 0 0, .slice none 0 0, .slice none 0 0, .slice none 0 0, .int .i64 0] 45)
  have hsz : ((w.alloc (.cells #[.int .i64 N.W, .int .i64 N.H, .slice y.br.A N.br.length y.br.c, .slice y.ta.A N.ta.length y.ta.c, .slice y.tb.A N.tb.length y.tb.c, .slice y.bu.A N.bu.length y.bu.c, .slice y.ow.A N.ow.length y.ow.c, .slice y.tu.A N.tu.length y.tu.c, .slice y.so.A N.so.length y.so.c, .slice y.ar.A N.ar.length y.ar.c, .int .i64 N.ti] 45)).alloc (.cells #[.int .i64 0, .int .i64 0, .slice none 0 0, .slice none 0 0, .slice none 0 0, .slice none 0 0, .slice none 0 0, .slice none 0 0, .slice none 0 0, .slice none 0 0, .int .i64 0] 45)).heap.size = w.heap.size + 2 := by simp only [alloc_size]
  simp only [alloc_size] at k2
  clear h hr hn
  go_enter Tryz.func6, Tryz.ntmps6
  go_wp2_with fail
  generalize (w.alloc (.cells #[.int .i64 N.W, .int .i64 N.H, .slice y.br.A N.br.length y.br.c, .slice y.ta.A N.ta.length y.ta.c, .slice y.tb.A N.tb.length y.tb.c, .slice y.bu.A N.bu.length y.bu.c, .slice y.ow.A N.ow.length y.ow.c, .slice y.tu.A N.tu.length y.tu.c, .slice y.so.A N.so.length y.so.c, .slice y.ar.A N.ar.length y.ar.c, .int .i64 N.ti] 45)).alloc (.cells #[.int .i64 0, .int .i64 0, .slice none 0 0, .slice none 0 0, .slice none 0 0, .slice none 0 0, .slice none 0 0, .slice none 0 0, .slice none 0 0, .slice none 0 0, .int .i64 0] 45) = w0 at *
  have K0 : Hid (Blk w0 w.heap.size 45 #[.int .i64 N.W, .int .i64 N.H, .slice y.br.A N.br.length y.br.c, .slice y.ta.A N.ta.length y.ta.c, .slice y.tb.A N.tb.length y.tb.c, .slice y.bu.A N.bu.length y.bu.c, .slice y.ow.A N.ow.length y.ow.c, .slice y.tu.A N.tu.length y.tu.c, .slice y.so.A N.so.length y.so.c, .slice y.ar.A N.ar.length y.ar.c, .int .i64 N.ti]) := Lib.hid k0
  have K2 : Hid (Blk w0 (w.heap.size + 1) 45 #[.int .i64 0, .int .i64 0, .slice none 0 0, .slice none 0 0, .slice none 0 0, .slice none 0 0, .slice none 0 0, .slice none 0 0, .slice none 0 0, .slice none 0 0, .int .i64 0]) := Lib.hid k2
  have GE := Lib.hid ge
  have SZ := Lib.hid hsz
  clear k0 k2 ge hsz
  refine (HCP.out _ GE.out).mono ?_
  rintro e w1 ⟨z, rfl, o1, b1⟩
  have O1 := Lib.hid (NetOwn.gb o1 (gb_alloc (gb_refl w1 none) (.cells #[.int .i64 N.W, .int .i64 N.H, .slice z.br.A N.br.length z.br.c, .slice z.ta.A N.ta.length z.ta.c, .slice z.tb.A N.tb.length z.tb.c, .slice z.bu.A N.bu.length z.bu.c, .slice z.ow.A N.ow.length z.ow.c, .slice z.tu.A N.tu.length z.tu.c, .slice z.so.A N.so.length z.so.c, .slice z.ar.A N.ar.length z.ar.c, .int .i64 N.ti] 45)))
  have G1 := Lib.hid (gb_alloc (gb_of_below b1 none) (.cells #[.int .i64 N.W, .int .i64 N.H, .slice z.br.A N.br.length z.br.c, .slice z.ta.A N.ta.length z.ta.c, .slice z.tb.A N.tb.length z.tb.c, .slice z.bu.A N.bu.length z.bu.c, .slice z.ow.A N.ow.length z.ow.c, .slice z.tu.A N.tu.length z.tu.c, .slice z.so.A N.so.length z.so.c, .slice z.ar.A N.ar.length z.ar.c, .int .i64 N.ti] 45))
  have SZ1 := Lib.hid (show w0.heap.size ≤ w1.heap.size from b1.size)
  have KG := Lib.hid (Blk.new w1 45 #[.int .i64 N.W, .int .i64 N.H, .slice z.br.A N.br.length z.br.c, .slice z.ta.A N.ta.length z.ta.c, .slice z.tb.A N.tb.length z.tb.c, .slice z.bu.A N.bu.length z.bu.c, .slice z.ow.A N.ow.length z.ow.c, .slice z.tu.A N.tu.length z.tu.c, .slice z.so.A N.so.length z.so.c, .slice z.ar.A N.ar.length z.ar.c, .int .i64 N.ti])
  have S0 := Lib.hid (alloc_size w1 (.cells #[.int .i64 N.W, .int .i64 N.H, .slice z.br.A N.br.length z.br.c, .slice z.ta.A N.ta.length z.ta.c, .slice z.tb.A N.tb.length z.tb.c, .slice z.bu.A N.bu.length z.bu.c, .slice z.ow.A N.ow.length z.ow.c, .slice z.tu.A N.tu.length z.tu.c, .slice z.so.A N.so.length z.so.c, .slice z.ar.A N.ar.length z.ar.c, .int .i64 N.ti] 45))
  clear o1 b1
  have a0 : (w1.alloc (.cells #[.int .i64 N.W, .int .i64 N.H, .slice z.br.A N.br.length z.br.c, .slice z.ta.A N.ta.length z.ta.c, .slice z.tb.A N.tb.length z.tb.c, .slice z.bu.A N.bu.length z.bu.c, .slice z.ow.A N.ow.length z.ow.c, .slice z.tu.A N.tu.length z.tu.c, .slice z.so.A N.so.length z.so.c, .slice z.ar.A N.ar.length z.ar.c, .int .i64 N.ti] 45)).cell? ⟨w.heap.size, 0, none⟩ = some (.int .i64 N.W) := (K0.out.grown G1.out (by simp)).cell 0
  have a1 : (w1.alloc (.cells #[.int .i64 N.W, .int .i64 N.H, .slice z.br.A N.br.length z.br.c, .slice z.ta.A N.ta.length z.ta.c, .slice z.tb.A N.tb.length z.tb.c, .slice z.bu.A N.bu.length z.bu.c, .slice z.ow.A N.ow.length z.ow.c, .slice z.tu.A N.tu.length z.tu.c, .slice z.so.A N.so.length z.so.c, .slice z.ar.A N.ar.length z.ar.c, .int .i64 N.ti] 45)).cell? ⟨w.heap.size, 1, none⟩ = some (.int .i64 N.H) := (K0.out.grown G1.out (by simp)).cell 1
  have a2 : (w1.alloc (.cells #[.int .i64 N.W, .int .i64 N.H, .slice z.br.A N.br.length z.br.c, .slice z.ta.A N.ta.length z.ta.c, .slice z.tb.A N.tb.length z.tb.c, .slice z.bu.A N.bu.length z.bu.c, .slice z.ow.A N.ow.length z.ow.c, .slice z.tu.A N.tu.length z.tu.c, .slice z.so.A N.so.length z.so.c, .slice z.ar.A N.ar.length z.ar.c, .int .i64 N.ti] 45)).cell? ⟨w.heap.size, 2, none⟩ = some (.slice y.br.A N.br.length y.br.c) := (K0.out.grown G1.out (by simp)).cell 2
  have a3 : (w1.alloc (.cells #[.int .i64 N.W, .int .i64 N.H, .slice z.br.A N.br.length z.br.c, .slice z.ta.A N.ta.length z.ta.c, .slice z.tb.A N.tb.length z.tb.c, .slice z.bu.A N.bu.length z.bu.c, .slice z.ow.A N.ow.length z.ow.c, .slice z.tu.A N.tu.length z.tu.c, .slice z.so.A N.so.length z.so.c, .slice z.ar.A N.ar.length z.ar.c, .int .i64 N.ti] 45)).cell? ⟨w.heap.size, 3, none⟩ = some (.slice y.ta.A N.ta.length y.ta.c) := (K0.out.grown G1.out (by simp)).cell 3
  have a4 : (w1.alloc (.cells #[.int .i64 N.W, .int .i64 N.H, .slice z.br.A N.br.length z.br.c, .slice z.ta.A N.ta.length z.ta.c, .slice z.tb.A N.tb.length z.tb.c, .slice z.bu.A N.bu.length z.bu.c, .slice z.ow.A N.ow.length z.ow.c, .slice z.tu.A N.tu.length z.tu.c, .slice z.so.A N.so.length z.so.c, .slice z.ar.A N.ar.length z.ar.c, .int .i64 N.ti] 45)).cell? ⟨w.heap.size, 4, none⟩ = some (.slice y.tb.A N.tb.length y.tb.c) := (K0.out.grown G1.out (by simp)).cell 4
  have a5 : (w1.alloc (.cells #[.int .i64 N.W, .int .i64 N.H, .slice z.br.A N.br.length z.br.c, .slice z.ta.A N.ta.length z.ta.c, .slice z.tb.A N.tb.length z.tb.c, .slice z.bu.A N.bu.length z.bu.c, .slice z.ow.A N.ow.length z.ow.c, .slice z.tu.A N.tu.length z.tu.c, .slice z.so.A N.so.length z.so.c, .slice z.ar.A N.ar.length z.ar.c, .int .i64 N.ti] 45)).cell? ⟨w.heap.size, 5, none⟩ = some (.slice y.bu.A N.bu.length y.bu.c) := (K0.out.grown G1.out (by simp)).cell 5
  have a6 : (w1.alloc (.cells #[.int .i64 N.W, .int .i64 N.H, .slice z.br.A N.br.length z.br.c, .slice z.ta.A N.ta.length z.ta.c, .slice z.tb.A N.tb.length z.tb.c, .slice z.bu.A N.bu.length z.bu.c, .slice z.ow.A N.ow.length z.ow.c, .slice z.tu.A N.tu.length z.tu.c, .slice z.so.A N.so.length z.so.c, .slice z.ar.A N.ar.length z.ar.c, .int .i64 N.ti] 45)).cell? ⟨w.heap.size, 6, none⟩ = some (.slice y.ow.A N.ow.length y.ow.c) := (K0.out.grown G1.out (by simp)).cell 6
  have a7 : (w1.alloc (.cells #[.int .i64 N.W, .int .i64 N.H, .slice z.br.A N.br.length z.br.c, .slice z.ta.A N.ta.length z.ta.c, .slice z.tb.A N.tb.length z.tb.c, .slice z.bu.A N.bu.length z.bu.c, .slice z.ow.A N.ow.length z.ow.c, .slice z.tu.A N.tu.length z.tu.c, .slice z.so.A N.so.length z.so.c, .slice z.ar.A N.ar.length z.ar.c, .int .i64 N.ti] 45)).cell? ⟨w.heap.size, 7, none⟩ = some (.slice y.tu.A N.tu.length y.tu.c) := (K0.out.grown G1.out (by simp)).cell 7
  have a8 : (w1.alloc (.cells #[.int .i64 N.W, .int .i64 N.H, .slice z.br.A N.br.length z.br.c, .slice z.ta.A N.ta.length z.ta.c, .slice z.tb.A N.tb.length z.tb.c, .slice z.bu.A N.bu.length z.bu.c, .slice z.ow.A N.ow.length z.ow.c, .slice z.tu.A N.tu.length z.tu.c, .slice z.so.A N.so.length z.so.c, .slice z.ar.A N.ar.length z.ar.c, .int .i64 N.ti] 45)).cell? ⟨w.heap.size, 8, none⟩ = some (.slice y.so.A N.so.length y.so.c) := (K0.out.grown G1.out (by simp)).cell 8
  have a9 : (w1.alloc (.cells #[.int .i64 N.W, .int .i64 N.H, .slice z.br.A N.br.length z.br.c, .slice z.ta.A N.ta.length z.ta.c, .slice z.tb.A N.tb.length z.tb.c, .slice z.bu.A N.bu.length z.bu.c, .slice z.ow.A N.ow.length z.ow.c, .slice z.tu.A N.tu.length z.tu.c, .slice z.so.A N.so.length z.so.c, .slice z.ar.A N.ar.length z.ar.c, .int .i64 N.ti] 45)).cell? ⟨w.heap.size, 9, none⟩ = some (.slice y.ar.A N.ar.length y.ar.c) := (K0.out.grown G1.out (by simp)).cell 9
  have a10 : (w1.alloc (.cells #[.int .i64 N.W, .int .i64 N.H, .slice z.br.A N.br.length z.br.c, .slice z.ta.A N.ta.length z.ta.c, .slice z.tb.A N.tb.length z.tb.c, .slice z.bu.A N.bu.length z.bu.c, .slice z.ow.A N.ow.length z.ow.c, .slice z.tu.A N.tu.length z.tu.c, .slice z.so.A N.so.length z.so.c, .slice z.ar.A N.ar.length z.ar.c, .int .i64 N.ti] 45)).cell? ⟨w.heap.size, 10, none⟩ = some (.int .i64 N.ti) := (K0.out.grown G1.out (by simp)).cell 10
  go_wp2_with fail
  generalize (w1.alloc (.cells #[.int .i64 N.W, .int .i64 N.H, .slice z.br.A N.br.length z.br.c, .slice z.ta.A N.ta.length z.ta.c, .slice z.tb.A N.tb.length z.tb.c, .slice z.bu.A N.bu.length z.bu.c, .slice z.ow.A N.ow.length z.ow.c, .slice z.tu.A N.tu.length z.tu.c, .slice z.so.A N.so.length z.so.c, .slice z.ar.A N.ar.length z.ar.c, .int .i64 N.ti] 45)) = wx at *
  refine (HNK.out _ (gb_trans GE.out G1.out)).mono ?_
  rintro e w2 ⟨rfl, hg2⟩
  have G2 := Lib.hid hg2
  have SZ2 := Lib.hid (show w1.heap.size + 1 ≤ w2.heap.size by have h1 := hg2.size; have h2 := S0.out; omega)
  have KG2 := Lib.hid (KG.out.grown hg2 (by simp))
  have O2 := Lib.hid (O1.out.gb hg2)
  have GG := Lib.hid (gb_trans (gb_trans GE.out G1.out) hg2)
  have KR2 := Lib.hid (((K2.out.grown G1.out (by simp)).grown hg2 (by simp)))
  clear hg2 a0 a1 a2 a3 a4 a5 a6 a7 a8 a9 a10
  have BB := Lib.hid (gb_below_none GG.out (Nat.le_refl _))
  cases hok : netOk N with
  | false =>
    have HNO := Lib.hid (show allOk N D = false by rw [allOk, hok]; rfl)
    have HA := Lib.hid (show sendAllG N D = N ∧ sentG N D = -1 from ⟨if_neg (by rw [HNO.out]; decide), if_neg (by rw [HNO.out]; decide)⟩)
    have b0 : w2.cell? ⟨w1.heap.size, 0, none⟩ = some (.int .i64 N.W) := KG2.out.cell 0
    have b1 : w2.cell? ⟨w1.heap.size, 1, none⟩ = some (.int .i64 N.H) := KG2.out.cell 1
    have b2 : w2.cell? ⟨w1.heap.size, 2, none⟩ = some (.slice z.br.A N.br.length z.br.c) := KG2.out.cell 2
    have b3 : w2.cell? ⟨w1.heap.size, 3, none⟩ = some (.slice z.ta.A N.ta.length z.ta.c) := KG2.out.cell 3
    have b4 : w2.cell? ⟨w1.heap.size, 4, none⟩ = some (.slice z.tb.A N.tb.length z.tb.c) := KG2.out.cell 4
    have b5 : w2.cell? ⟨w1.heap.size, 5, none⟩ = some (.slice z.bu.A N.bu.length z.bu.c) := KG2.out.cell 5
    have b6 : w2.cell? ⟨w1.heap.size, 6, none⟩ = some (.slice z.ow.A N.ow.length z.ow.c) := KG2.out.cell 6
    have b7 : w2.cell? ⟨w1.heap.size, 7, none⟩ = some (.slice z.tu.A N.tu.length z.tu.c) := KG2.out.cell 7
    have b8 : w2.cell? ⟨w1.heap.size, 8, none⟩ = some (.slice z.so.A N.so.length z.so.c) := KG2.out.cell 8
    have b9 : w2.cell? ⟨w1.heap.size, 9, none⟩ = some (.slice z.ar.A N.ar.length z.ar.c) := KG2.out.cell 9
    have b10 : w2.cell? ⟨w1.heap.size, 10, none⟩ = some (.int .i64 N.ti) := KG2.out.cell 10
    have kr : Blk w2 (w.heap.size + 1) 45 #[.int .i64 0, .int .i64 0, .slice none 0 0, .slice none 0 0, .slice none 0 0, .slice none 0 0, .slice none 0 0, .slice none 0 0, .slice none 0 0, .slice none 0 0, .int .i64 0] := KR2.out
    have KR4 := Lib.hid kr
    have y0 : w2.cell? ⟨w.heap.size + 1, 0, none⟩ = some (.int .i64 0) := kr.cell 0
    have x0 := kr.frozen 0
    have y1 : w2.cell? ⟨w.heap.size + 1, 1, none⟩ = some (.int .i64 0) := kr.cell 1
    have x1 := kr.frozen 1
    have y2 : w2.cell? ⟨w.heap.size + 1, 2, none⟩ = some (.slice none 0 0) := kr.cell 2
    have x2 := kr.frozen 2
    have y3 : w2.cell? ⟨w.heap.size + 1, 3, none⟩ = some (.slice none 0 0) := kr.cell 3
    have x3 := kr.frozen 3
    have y4 : w2.cell? ⟨w.heap.size + 1, 4, none⟩ = some (.slice none 0 0) := kr.cell 4
    have x4 := kr.frozen 4
    have y5 : w2.cell? ⟨w.heap.size + 1, 5, none⟩ = some (.slice none 0 0) := kr.cell 5
    have x5 := kr.frozen 5
    have y6 : w2.cell? ⟨w.heap.size + 1, 6, none⟩ = some (.slice none 0 0) := kr.cell 6
    have x6 := kr.frozen 6
    have y7 : w2.cell? ⟨w.heap.size + 1, 7, none⟩ = some (.slice none 0 0) := kr.cell 7
    have x7 := kr.frozen 7
    have y8 : w2.cell? ⟨w.heap.size + 1, 8, none⟩ = some (.slice none 0 0) := kr.cell 8
    have x8 := kr.frozen 8
    have y9 : w2.cell? ⟨w.heap.size + 1, 9, none⟩ = some (.slice none 0 0) := kr.cell 9
    have x9 := kr.frozen 9
    have y10 : w2.cell? ⟨w.heap.size + 1, 10, none⟩ = some (.int .i64 0) := kr.cell 10
    have x10 := kr.frozen 10
    clear kr
    go_wp2_with fail
    have kf : Blk (((((((((((w2.setCell ⟨w.heap.size + 1, 0, none⟩ (.int .i64 N.W)).setCell ⟨w.heap.size + 1, 1, none⟩ (.int .i64 N.H)).setCell ⟨w.heap.size + 1, 2, none⟩ (.slice z.br.A N.br.length z.br.c)).setCell ⟨w.heap.size + 1, 3, none⟩ (.slice z.ta.A N.ta.length z.ta.c)).setCell ⟨w.heap.size + 1, 4, none⟩ (.slice z.tb.A N.tb.length z.tb.c)).setCell ⟨w.heap.size + 1, 5, none⟩ (.slice z.bu.A N.bu.length z.bu.c)).setCell ⟨w.heap.size + 1, 6, none⟩ (.slice z.ow.A N.ow.length z.ow.c)).setCell ⟨w.heap.size + 1, 7, none⟩ (.slice z.tu.A N.tu.length z.tu.c)).setCell ⟨w.heap.size + 1, 8, none⟩ (.slice z.so.A N.so.length z.so.c)).setCell ⟨w.heap.size + 1, 9, none⟩ (.slice z.ar.A N.ar.length z.ar.c)).setCell ⟨w.heap.size + 1, 10, none⟩ (.int .i64 N.ti)) (w.heap.size + 1) 45 #[.int .i64 N.W, .int .i64 N.H, .slice z.br.A N.br.length z.br.c, .slice z.ta.A N.ta.length z.ta.c, .slice z.tb.A N.tb.length z.tb.c, .slice z.bu.A N.bu.length z.bu.c, .slice z.ow.A N.ow.length z.ow.c, .slice z.tu.A N.tu.length z.tu.c, .slice z.so.A N.so.length z.so.c, .slice z.ar.A N.ar.length z.ar.c, .int .i64 N.ti] := by
      have hz := (((((((((((KR4.out.set_ 0 (.int .i64 N.W)).set_ 1 (.int .i64 N.H)).set_ 2 (.slice z.br.A N.br.length z.br.c)).set_ 3 (.slice z.ta.A N.ta.length z.ta.c)).set_ 4 (.slice z.tb.A N.tb.length z.tb.c)).set_ 5 (.slice z.bu.A N.bu.length z.bu.c)).set_ 6 (.slice z.ow.A N.ow.length z.ow.c)).set_ 7 (.slice z.tu.A N.tu.length z.tu.c)).set_ 8 (.slice z.so.A N.so.length z.so.c)).set_ 9 (.slice z.ar.A N.ar.length z.ar.c)).set_ 10 (.int .i64 N.ti))
      simpa using hz
    have qz : Chg (w.heap.size + 1) (w.heap.size + 1 + 1) w2 (((((((((((w2.setCell ⟨w.heap.size + 1, 0, none⟩ (.int .i64 N.W)).setCell ⟨w.heap.size + 1, 1, none⟩ (.int .i64 N.H)).setCell ⟨w.heap.size + 1, 2, none⟩ (.slice z.br.A N.br.length z.br.c)).setCell ⟨w.heap.size + 1, 3, none⟩ (.slice z.ta.A N.ta.length z.ta.c)).setCell ⟨w.heap.size + 1, 4, none⟩ (.slice z.tb.A N.tb.length z.tb.c)).setCell ⟨w.heap.size + 1, 5, none⟩ (.slice z.bu.A N.bu.length z.bu.c)).setCell ⟨w.heap.size + 1, 6, none⟩ (.slice z.ow.A N.ow.length z.ow.c)).setCell ⟨w.heap.size + 1, 7, none⟩ (.slice z.tu.A N.tu.length z.tu.c)).setCell ⟨w.heap.size + 1, 8, none⟩ (.slice z.so.A N.so.length z.so.c)).setCell ⟨w.heap.size + 1, 9, none⟩ (.slice z.ar.A N.ar.length z.ar.c)).setCell ⟨w.heap.size + 1, 10, none⟩ (.int .i64 N.ti)) := ((((((((((st_in w2 (w.heap.size + 1) 0 (.int .i64 N.W)).sx 1 (.int .i64 N.H)).sx 2 (.slice z.br.A N.br.length z.br.c)).sx 3 (.slice z.ta.A N.ta.length z.ta.c)).sx 4 (.slice z.tb.A N.tb.length z.tb.c)).sx 5 (.slice z.bu.A N.bu.length z.bu.c)).sx 6 (.slice z.ow.A N.ow.length z.ow.c)).sx 7 (.slice z.tu.A N.tu.length z.tu.c)).sx 8 (.slice z.so.A N.so.length z.so.c)).sx 9 (.slice z.ar.A N.ar.length z.ar.c)).sx 10 (.int .i64 N.ti)
    generalize (((((((((((w2.setCell ⟨w.heap.size + 1, 0, none⟩ (.int .i64 N.W)).setCell ⟨w.heap.size + 1, 1, none⟩ (.int .i64 N.H)).setCell ⟨w.heap.size + 1, 2, none⟩ (.slice z.br.A N.br.length z.br.c)).setCell ⟨w.heap.size + 1, 3, none⟩ (.slice z.ta.A N.ta.length z.ta.c)).setCell ⟨w.heap.size + 1, 4, none⟩ (.slice z.tb.A N.tb.length z.tb.c)).setCell ⟨w.heap.size + 1, 5, none⟩ (.slice z.bu.A N.bu.length z.bu.c)).setCell ⟨w.heap.size + 1, 6, none⟩ (.slice z.ow.A N.ow.length z.ow.c)).setCell ⟨w.heap.size + 1, 7, none⟩ (.slice z.tu.A N.tu.length z.tu.c)).setCell ⟨w.heap.size + 1, 8, none⟩ (.slice z.so.A N.so.length z.so.c)).setCell ⟨w.heap.size + 1, 9, none⟩ (.slice z.ar.A N.ar.length z.ar.c)).setCell ⟨w.heap.size + 1, 10, none⟩ (.int .i64 N.ti)) = wz at *
    have r0 := kf.cell 0
    have r1 := kf.cell 1
    have r2 := kf.cell 2
    have r3 := kf.cell 3
    have r4 := kf.cell 4
    have r5 := kf.cell 5
    have r6 := kf.cell 6
    have r7 := kf.cell 7
    have r8 := kf.cell 8
    have r9 := kf.cell 9
    have r10 := kf.cell 10
    simp only [List.getElem?_toArray, List.getElem?_cons_zero, List.getElem?_cons_succ] at r0 r1 r2 r3 r4 r5 r6 r7 r8 r9 r10
    rw [HA.out.1, HA.out.2]
    have hnet : NetOwn wz _ w2.heap.size z N := (O2.out.upto (show w1.heap.size ≤ w2.heap.size by have h3 := SZ.out; have h4 := SZ1.out; have h5 := SZ2.out; omega)).heap (fun k h1 h2 => qz.block k h2 (by have h3 := SZ.out; have h4 := SZ1.out; have h5 := SZ2.out; omega))
    refine bodyPost_ret (v := .tuple #[.agg #[.int .i64 N.W, .int .i64 N.H, .slice z.br.A N.br.length z.br.c, .slice z.ta.A N.ta.length z.ta.c, .slice z.tb.A N.tb.length z.tb.c, .slice z.bu.A N.bu.length z.bu.c, .slice z.ow.A N.ow.length z.ow.c, .slice z.tu.A N.tu.length z.tu.c, .slice z.so.A N.so.length z.so.c, .slice z.ar.A N.ar.length z.ar.c, .int .i64 N.ti], .int .i64 (-1)]) (by simp [results, Tryz.results6, go_sem, r0, r1, r2, r3, r4, r5, r6, r7, r8, r9, r10]) rfl ⟨z, rfl, (hnet.less (by have h3 := SZ.out; have h4 := SZ1.out; have h5 := SZ2.out; omega)).upto qz.size, (BB.out).trans (qz.below (.inl (by omega)) (by have h3 := SZ.out; have h4 := SZ1.out; have h5 := SZ2.out; omega))⟩
  | true =>
    have HOK := Lib.hid hok
    by_cases h40 : n ≤ 40
    rotate_left
    · have HNO := Lib.hid (show allOk N D = false by rw [allOk, decide_eq_false (by omega), Bool.and_false])
      have HA := Lib.hid (show sendAllG N D = N ∧ sentG N D = -1 from ⟨if_neg (by rw [HNO.out]; decide), if_neg (by rw [HNO.out]; decide)⟩)
      have e1 : (n : Int) > 40 := by omega
      clear hok h40
      have b0 : w2.cell? ⟨w1.heap.size, 0, none⟩ = some (.int .i64 N.W) := KG2.out.cell 0
      have b1 : w2.cell? ⟨w1.heap.size, 1, none⟩ = some (.int .i64 N.H) := KG2.out.cell 1
      have b2 : w2.cell? ⟨w1.heap.size, 2, none⟩ = some (.slice z.br.A N.br.length z.br.c) := KG2.out.cell 2
      have b3 : w2.cell? ⟨w1.heap.size, 3, none⟩ = some (.slice z.ta.A N.ta.length z.ta.c) := KG2.out.cell 3
      have b4 : w2.cell? ⟨w1.heap.size, 4, none⟩ = some (.slice z.tb.A N.tb.length z.tb.c) := KG2.out.cell 4
      have b5 : w2.cell? ⟨w1.heap.size, 5, none⟩ = some (.slice z.bu.A N.bu.length z.bu.c) := KG2.out.cell 5
      have b6 : w2.cell? ⟨w1.heap.size, 6, none⟩ = some (.slice z.ow.A N.ow.length z.ow.c) := KG2.out.cell 6
      have b7 : w2.cell? ⟨w1.heap.size, 7, none⟩ = some (.slice z.tu.A N.tu.length z.tu.c) := KG2.out.cell 7
      have b8 : w2.cell? ⟨w1.heap.size, 8, none⟩ = some (.slice z.so.A N.so.length z.so.c) := KG2.out.cell 8
      have b9 : w2.cell? ⟨w1.heap.size, 9, none⟩ = some (.slice z.ar.A N.ar.length z.ar.c) := KG2.out.cell 9
      have b10 : w2.cell? ⟨w1.heap.size, 10, none⟩ = some (.int .i64 N.ti) := KG2.out.cell 10
      have kr : Blk w2 (w.heap.size + 1) 45 #[.int .i64 0, .int .i64 0, .slice none 0 0, .slice none 0 0, .slice none 0 0, .slice none 0 0, .slice none 0 0, .slice none 0 0, .slice none 0 0, .slice none 0 0, .int .i64 0] := KR2.out
      have KR4 := Lib.hid kr
      have y0 : w2.cell? ⟨w.heap.size + 1, 0, none⟩ = some (.int .i64 0) := kr.cell 0
      have x0 := kr.frozen 0
      have y1 : w2.cell? ⟨w.heap.size + 1, 1, none⟩ = some (.int .i64 0) := kr.cell 1
      have x1 := kr.frozen 1
      have y2 : w2.cell? ⟨w.heap.size + 1, 2, none⟩ = some (.slice none 0 0) := kr.cell 2
      have x2 := kr.frozen 2
      have y3 : w2.cell? ⟨w.heap.size + 1, 3, none⟩ = some (.slice none 0 0) := kr.cell 3
      have x3 := kr.frozen 3
      have y4 : w2.cell? ⟨w.heap.size + 1, 4, none⟩ = some (.slice none 0 0) := kr.cell 4
      have x4 := kr.frozen 4
      have y5 : w2.cell? ⟨w.heap.size + 1, 5, none⟩ = some (.slice none 0 0) := kr.cell 5
      have x5 := kr.frozen 5
      have y6 : w2.cell? ⟨w.heap.size + 1, 6, none⟩ = some (.slice none 0 0) := kr.cell 6
      have x6 := kr.frozen 6
      have y7 : w2.cell? ⟨w.heap.size + 1, 7, none⟩ = some (.slice none 0 0) := kr.cell 7
      have x7 := kr.frozen 7
      have y8 : w2.cell? ⟨w.heap.size + 1, 8, none⟩ = some (.slice none 0 0) := kr.cell 8
      have x8 := kr.frozen 8
      have y9 : w2.cell? ⟨w.heap.size + 1, 9, none⟩ = some (.slice none 0 0) := kr.cell 9
      have x9 := kr.frozen 9
      have y10 : w2.cell? ⟨w.heap.size + 1, 10, none⟩ = some (.int .i64 0) := kr.cell 10
      have x10 := kr.frozen 10
      clear kr
      go_wp2_with fail
      have kf : Blk (((((((((((w2.setCell ⟨w.heap.size + 1, 0, none⟩ (.int .i64 N.W)).setCell ⟨w.heap.size + 1, 1, none⟩ (.int .i64 N.H)).setCell ⟨w.heap.size + 1, 2, none⟩ (.slice z.br.A N.br.length z.br.c)).setCell ⟨w.heap.size + 1, 3, none⟩ (.slice z.ta.A N.ta.length z.ta.c)).setCell ⟨w.heap.size + 1, 4, none⟩ (.slice z.tb.A N.tb.length z.tb.c)).setCell ⟨w.heap.size + 1, 5, none⟩ (.slice z.bu.A N.bu.length z.bu.c)).setCell ⟨w.heap.size + 1, 6, none⟩ (.slice z.ow.A N.ow.length z.ow.c)).setCell ⟨w.heap.size + 1, 7, none⟩ (.slice z.tu.A N.tu.length z.tu.c)).setCell ⟨w.heap.size + 1, 8, none⟩ (.slice z.so.A N.so.length z.so.c)).setCell ⟨w.heap.size + 1, 9, none⟩ (.slice z.ar.A N.ar.length z.ar.c)).setCell ⟨w.heap.size + 1, 10, none⟩ (.int .i64 N.ti)) (w.heap.size + 1) 45 #[.int .i64 N.W, .int .i64 N.H, .slice z.br.A N.br.length z.br.c, .slice z.ta.A N.ta.length z.ta.c, .slice z.tb.A N.tb.length z.tb.c, .slice z.bu.A N.bu.length z.bu.c, .slice z.ow.A N.ow.length z.ow.c, .slice z.tu.A N.tu.length z.tu.c, .slice z.so.A N.so.length z.so.c, .slice z.ar.A N.ar.length z.ar.c, .int .i64 N.ti] := by
        have hz := (((((((((((KR4.out.set_ 0 (.int .i64 N.W)).set_ 1 (.int .i64 N.H)).set_ 2 (.slice z.br.A N.br.length z.br.c)).set_ 3 (.slice z.ta.A N.ta.length z.ta.c)).set_ 4 (.slice z.tb.A N.tb.length z.tb.c)).set_ 5 (.slice z.bu.A N.bu.length z.bu.c)).set_ 6 (.slice z.ow.A N.ow.length z.ow.c)).set_ 7 (.slice z.tu.A N.tu.length z.tu.c)).set_ 8 (.slice z.so.A N.so.length z.so.c)).set_ 9 (.slice z.ar.A N.ar.length z.ar.c)).set_ 10 (.int .i64 N.ti))
        simpa using hz
      have qz : Chg (w.heap.size + 1) (w.heap.size + 1 + 1) w2 (((((((((((w2.setCell ⟨w.heap.size + 1, 0, none⟩ (.int .i64 N.W)).setCell ⟨w.heap.size + 1, 1, none⟩ (.int .i64 N.H)).setCell ⟨w.heap.size + 1, 2, none⟩ (.slice z.br.A N.br.length z.br.c)).setCell ⟨w.heap.size + 1, 3, none⟩ (.slice z.ta.A N.ta.length z.ta.c)).setCell ⟨w.heap.size + 1, 4, none⟩ (.slice z.tb.A N.tb.length z.tb.c)).setCell ⟨w.heap.size + 1, 5, none⟩ (.slice z.bu.A N.bu.length z.bu.c)).setCell ⟨w.heap.size + 1, 6, none⟩ (.slice z.ow.A N.ow.length z.ow.c)).setCell ⟨w.heap.size + 1, 7, none⟩ (.slice z.tu.A N.tu.length z.tu.c)).setCell ⟨w.heap.size + 1, 8, none⟩ (.slice z.so.A N.so.length z.so.c)).setCell ⟨w.heap.size + 1, 9, none⟩ (.slice z.ar.A N.ar.length z.ar.c)).setCell ⟨w.heap.size + 1, 10, none⟩ (.int .i64 N.ti)) := ((((((((((st_in w2 (w.heap.size + 1) 0 (.int .i64 N.W)).sx 1 (.int .i64 N.H)).sx 2 (.slice z.br.A N.br.length z.br.c)).sx 3 (.slice z.ta.A N.ta.length z.ta.c)).sx 4 (.slice z.tb.A N.tb.length z.tb.c)).sx 5 (.slice z.bu.A N.bu.length z.bu.c)).sx 6 (.slice z.ow.A N.ow.length z.ow.c)).sx 7 (.slice z.tu.A N.tu.length z.tu.c)).sx 8 (.slice z.so.A N.so.length z.so.c)).sx 9 (.slice z.ar.A N.ar.length z.ar.c)).sx 10 (.int .i64 N.ti)
      generalize (((((((((((w2.setCell ⟨w.heap.size + 1, 0, none⟩ (.int .i64 N.W)).setCell ⟨w.heap.size + 1, 1, none⟩ (.int .i64 N.H)).setCell ⟨w.heap.size + 1, 2, none⟩ (.slice z.br.A N.br.length z.br.c)).setCell ⟨w.heap.size + 1, 3, none⟩ (.slice z.ta.A N.ta.length z.ta.c)).setCell ⟨w.heap.size + 1, 4, none⟩ (.slice z.tb.A N.tb.length z.tb.c)).setCell ⟨w.heap.size + 1, 5, none⟩ (.slice z.bu.A N.bu.length z.bu.c)).setCell ⟨w.heap.size + 1, 6, none⟩ (.slice z.ow.A N.ow.length z.ow.c)).setCell ⟨w.heap.size + 1, 7, none⟩ (.slice z.tu.A N.tu.length z.tu.c)).setCell ⟨w.heap.size + 1, 8, none⟩ (.slice z.so.A N.so.length z.so.c)).setCell ⟨w.heap.size + 1, 9, none⟩ (.slice z.ar.A N.ar.length z.ar.c)).setCell ⟨w.heap.size + 1, 10, none⟩ (.int .i64 N.ti)) = wz at *
      have r0 := kf.cell 0
      have r1 := kf.cell 1
      have r2 := kf.cell 2
      have r3 := kf.cell 3
      have r4 := kf.cell 4
      have r5 := kf.cell 5
      have r6 := kf.cell 6
      have r7 := kf.cell 7
      have r8 := kf.cell 8
      have r9 := kf.cell 9
      have r10 := kf.cell 10
      simp only [List.getElem?_toArray, List.getElem?_cons_zero, List.getElem?_cons_succ] at r0 r1 r2 r3 r4 r5 r6 r7 r8 r9 r10
      rw [HA.out.1, HA.out.2]
      have hnet : NetOwn wz _ w2.heap.size z N := (O2.out.upto (show w1.heap.size ≤ w2.heap.size by have h3 := SZ.out; have h4 := SZ1.out; have h5 := SZ2.out; omega)).heap (fun k h1 h2 => qz.block k h2 (by have h3 := SZ.out; have h4 := SZ1.out; have h5 := SZ2.out; omega))
      refine bodyPost_ret (v := .tuple #[.agg #[.int .i64 N.W, .int .i64 N.H, .slice z.br.A N.br.length z.br.c, .slice z.ta.A N.ta.length z.ta.c, .slice z.tb.A N.tb.length z.tb.c, .slice z.bu.A N.bu.length z.bu.c, .slice z.ow.A N.ow.length z.ow.c, .slice z.tu.A N.tu.length z.tu.c, .slice z.so.A N.so.length z.so.c, .slice z.ar.A N.ar.length z.ar.c, .int .i64 N.ti], .int .i64 (-1)]) (by simp [results, Tryz.results6, go_sem, r0, r1, r2, r3, r4, r5, r6, r7, r8, r9, r10]) rfl ⟨z, rfl, (hnet.less (by have h3 := SZ.out; have h4 := SZ1.out; have h5 := SZ2.out; omega)).upto qz.size, (BB.out).trans (qz.below (.inl (by omega)) (by have h3 := SZ.out; have h4 := SZ1.out; have h5 := SZ2.out; omega))⟩
    · have e1 : ¬ (n : Int) > 40 := by omega
      have HA := Lib.hid (show sendAllG N D = (sendsP N D).1 ∧ sentG N D = ((sendsP N D).2 : Int) from ⟨if_pos (by rw [allOk, hok, decide_eq_true (by omega)]; rfl), if_pos (by rw [allOk, hok, decide_eq_true (by omega)]; rfl)⟩)
      have HLD := Lib.hid hlD
      clear hok
      go_wp2_with fail
      go_loopw [7, 8] (fun c i wr => ∃ (k : Nat) (u : Na), i = .int .i64 (k : Int) ∧ k ≤ n ∧ c = .int .i64 ((sendsP N (D.take k)).2 : Int) ∧ (∃ B E, NetOwn wr B E u (sendsP N (D.take k)).1 ∧ w0.heap.size ≤ B ∧ E ≤ wr.heap.size ∧ (E ≤ w1.heap.size ∨ w1.heap.size < B)) ∧ Blk wr w1.heap.size 45 #[.int .i64 (sendsP N (D.take k)).1.W, .int .i64 (sendsP N (D.take k)).1.H, .slice u.br.A (sendsP N (D.take k)).1.br.length u.br.c, .slice u.ta.A (sendsP N (D.take k)).1.ta.length u.ta.c, .slice u.tb.A (sendsP N (D.take k)).1.tb.length u.tb.c, .slice u.bu.A (sendsP N (D.take k)).1.bu.length u.bu.c, .slice u.ow.A (sendsP N (D.take k)).1.ow.length u.ow.c, .slice u.tu.A (sendsP N (D.take k)).1.tu.length u.tu.c, .slice u.so.A (sendsP N (D.take k)).1.so.length u.so.c, .slice u.ar.A (sendsP N (D.take k)).1.ar.length u.ar.c, .int .i64 (sendsP N (D.take k)).1.ti] ∧ Chg w1.heap.size (w1.heap.size + 1) w2 wr) (fun _ i _ => n - (intOf i).toNat)
      case atStart => exact ⟨0, z, rfl, Nat.zero_le _, rfl, ⟨_, _, O2.out, Nat.le_refl _, by have h3 := SZ.out; have h4 := SZ1.out; have h5 := SZ2.out; omega, .inl (Nat.le_refl _)⟩, KG2.out, Chg.refl _ _ _⟩
      case round =>
        obtain ⟨k, u, rfl, hk, rfl, ⟨B, E, ho, hB, hE, hBE⟩, hkg, hch⟩ := hrel
        have SR := Lib.hid hch.size
        have HST := Lib.hid (sendsP_take N D k)
        obtain ⟨R, hR⟩ : ∃ R, (sendsP N (D.take k)).1 = R := ⟨_, rfl⟩
        obtain ⟨t, ht⟩ : ∃ t, (sendsP N (D.take k)).2 = t := ⟨_, rfl⟩
        have HNX := Lib.hid (fun p (hp : D[k]? = some p) => sendsP_next (N := N) hp)
        rw [hR, ht] at HST
        rw [hR] at ho hkg
        rw [hR, ht] at HNX
        rw [ht]
        have HRT := Lib.hid (show (sendsP N (D.take k)).1 = R ∧ (sendsP N (D.take k)).2 = t from ⟨hR, ht⟩)
        have ht9 : t ≤ 1000000000 := by have := HST.out.2.2; omega
        have HO := Lib.hid ho
        have KGR := Lib.hid hkg
        have HCH := Lib.hid hch
        have HBE := Lib.hid (And.intro hB (And.intro hE hBE))
        have KRR := Lib.hid (KR2.out.chg hch (by have h3 := SZ.out; have h4 := SZ1.out; have h5 := SZ2.out; omega))
        have BR := Lib.hid (BB.out.trans (hch.below (.inl (by have h3 := SZ.out; have h4 := SZ1.out; have h5 := SZ2.out; omega)) (by have h3 := SZ.out; have h4 := SZ1.out; have h5 := SZ2.out; omega)))
        clear ho hkg hch hR ht hB hE hBE
        have b0 : wr.cell? ⟨w1.heap.size, 0, none⟩ = some (.int .i64 R.W) := KGR.out.cell 0
        have b1 : wr.cell? ⟨w1.heap.size, 1, none⟩ = some (.int .i64 R.H) := KGR.out.cell 1
        have b2 : wr.cell? ⟨w1.heap.size, 2, none⟩ = some (.slice u.br.A R.br.length u.br.c) := KGR.out.cell 2
        have b3 : wr.cell? ⟨w1.heap.size, 3, none⟩ = some (.slice u.ta.A R.ta.length u.ta.c) := KGR.out.cell 3
        have b4 : wr.cell? ⟨w1.heap.size, 4, none⟩ = some (.slice u.tb.A R.tb.length u.tb.c) := KGR.out.cell 4
        have b5 : wr.cell? ⟨w1.heap.size, 5, none⟩ = some (.slice u.bu.A R.bu.length u.bu.c) := KGR.out.cell 5
        have b6 : wr.cell? ⟨w1.heap.size, 6, none⟩ = some (.slice u.ow.A R.ow.length u.ow.c) := KGR.out.cell 6
        have b7 : wr.cell? ⟨w1.heap.size, 7, none⟩ = some (.slice u.tu.A R.tu.length u.tu.c) := KGR.out.cell 7
        have b8 : wr.cell? ⟨w1.heap.size, 8, none⟩ = some (.slice u.so.A R.so.length u.so.c) := KGR.out.cell 8
        have b9 : wr.cell? ⟨w1.heap.size, 9, none⟩ = some (.slice u.ar.A R.ar.length u.ar.c) := KGR.out.cell 9
        have b10 : wr.cell? ⟨w1.heap.size, 10, none⟩ = some (.int .i64 R.ti) := KGR.out.cell 10
        by_cases hlt : k < n
        · obtain ⟨q, o, p, rfl, hqB, hx, hpc⟩ := (HRD.out.below BR.out).at k hlt
          obtain ⟨c0, c1, c2, c3, c4⟩ := pkt_five hpc
          have k0 : (0 : Int) ≤ (k : Int) := by omega
          have k1 : (k : Int) < (n : Int) := by omega
          have e2 : IntKind.i64.wrap ((k : Int) + 1) = ((k + 1 : Nat) : Int) := by rw [IntWalk.i64_in _ (by omega)]; omega
          have HX := Lib.hid (HNX.out p hx)
          have NSM := HST.out.2.1.small HSM.out HOK.out (by omega)
          have HSP := Lib.hid (fun w' (g : wr.grownBy w' none) => specSendPacket u R p w' ((HO.out.gb g).at (Nat.le_refl _)) NSM)
          have HQB := Lib.hid hqB
          clear hx NSM hqB
          go_wp2_with fail
          have C0 := Lib.hid c0
          have C1 := Lib.hid c1
          have C2 := Lib.hid c2
          have C3 := Lib.hid c3
          have C4 := Lib.hid c4
          clear b0 b1 b2 b3 b4 b5 b6 b7 b8 b9 b10 c0 c1 c2 c3 c4
          obtain ⟨R2, hR2⟩ : ∃ R2, sendG R p = R2 := ⟨_, rfl⟩
          obtain ⟨bb, hbb⟩ : ∃ bb, sendOk R p = bb := ⟨_, rfl⟩
          rw [hR2, hbb] at HX HSP
          clear hR2 hbb
          have KP := Lib.hid (show ∀ w', Chg 0 0 wr w' → (fun w' => w'.cell? ⟨w1.heap.size, 0, none⟩ = some (.int .i64 R.W) ∧ w'.cell? ⟨w1.heap.size, 1, none⟩ = some (.int .i64 R.H) ∧ w'.cell? ⟨w1.heap.size, 2, none⟩ = some (.slice u.br.A R.br.length u.br.c) ∧ w'.cell? ⟨w1.heap.size, 3, none⟩ = some (.slice u.ta.A R.ta.length u.ta.c) ∧ w'.cell? ⟨w1.heap.size, 4, none⟩ = some (.slice u.tb.A R.tb.length u.tb.c) ∧ w'.cell? ⟨w1.heap.size, 5, none⟩ = some (.slice u.bu.A R.bu.length u.bu.c) ∧ w'.cell? ⟨w1.heap.size, 6, none⟩ = some (.slice u.ow.A R.ow.length u.ow.c) ∧ w'.cell? ⟨w1.heap.size, 7, none⟩ = some (.slice u.tu.A R.tu.length u.tu.c) ∧ w'.cell? ⟨w1.heap.size, 8, none⟩ = some (.slice u.so.A R.so.length u.so.c) ∧ w'.cell? ⟨w1.heap.size, 9, none⟩ = some (.slice u.ar.A R.ar.length u.ar.c) ∧ w'.cell? ⟨w1.heap.size, 10, none⟩ = some (.int .i64 R.ti) ∧ w'.cell? ⟨q, o + k * 5, none⟩ = some (.int .i64 p.id) ∧ w'.cell? ⟨q, o + k * 5 + 1, none⟩ = some (.int .i64 p.fr) ∧ w'.cell? ⟨q, o + k * 5 + 2, none⟩ = some (.int .i64 p.to) ∧ w'.cell? ⟨q, o + k * 5 + 3, none⟩ = some (.int .i64 p.cl) ∧ w'.cell? ⟨q, o + k * 5 + 4, none⟩ = some (.int .i64 p.ln)) w' from fun w' hc => by
            have g := hc.still
            have ga := KGR.out.grown g (by simp)
            have hq : q < wr.heap.size := Nat.lt_of_lt_of_le HQB.out (by have h2 := SR.out; have h3 := SZ.out; have h4 := SZ1.out; have h5 := SZ2.out; omega)
            have hl : ∀ i, w'.cell? ⟨q, i, none⟩ = wr.cell? ⟨q, i, none⟩ := fun i => World.cell?_of_block (g.block q hq (by simp))
            exact ⟨ga.cell 0, ga.cell 1, ga.cell 2, ga.cell 3, ga.cell 4, ga.cell 5, ga.cell 6, ga.cell 7, ga.cell 8, ga.cell 9, ga.cell 10, (hl _).trans C0.out, (hl _).trans C1.out, (hl _).trans C2.out, (hl _).trans C3.out, (hl _).trans C4.out⟩)
          have RZ := Lib.hid (Chg.refl 0 0 wr)
          go_cut [9, 10] from 28 to 41 (fun s9 s10 wc => ∃ (bw B2 E2 : Nat) (u2 : Na), s9 = .pointer (some ⟨bw, 0, none⟩) ∧ s10 = .bool bb ∧ Chg 0 0 wr wc ∧ Blk wc bw 45 #[.int .i64 R2.W, .int .i64 R2.H, .slice u2.br.A R2.br.length u2.br.c, .slice u2.ta.A R2.ta.length u2.ta.c, .slice u2.tb.A R2.tb.length u2.tb.c, .slice u2.bu.A R2.bu.length u2.bu.c, .slice u2.ow.A R2.ow.length u2.ow.c, .slice u2.tu.A R2.tu.length u2.tu.c, .slice u2.so.A R2.so.length u2.so.c, .slice u2.ar.A R2.ar.length u2.ar.c, .int .i64 R2.ti] ∧ Fix B2 E2 (fun w => NetOwn w B2 E2 u2 R2) wc ∧ (wr.heap.size ≤ B2 ∧ B2 ≤ E2 ∧ (bw < B2 ∨ E2 ≤ bw)) ∧ wr.heap.size ≤ bw)
          case first =>
            go_region_held3 (fun w' => w'.cell? ⟨w1.heap.size, 0, none⟩ = some (.int .i64 R.W) ∧ w'.cell? ⟨w1.heap.size, 1, none⟩ = some (.int .i64 R.H) ∧ w'.cell? ⟨w1.heap.size, 2, none⟩ = some (.slice u.br.A R.br.length u.br.c) ∧ w'.cell? ⟨w1.heap.size, 3, none⟩ = some (.slice u.ta.A R.ta.length u.ta.c) ∧ w'.cell? ⟨w1.heap.size, 4, none⟩ = some (.slice u.tb.A R.tb.length u.tb.c) ∧ w'.cell? ⟨w1.heap.size, 5, none⟩ = some (.slice u.bu.A R.bu.length u.bu.c) ∧ w'.cell? ⟨w1.heap.size, 6, none⟩ = some (.slice u.ow.A R.ow.length u.ow.c) ∧ w'.cell? ⟨w1.heap.size, 7, none⟩ = some (.slice u.tu.A R.tu.length u.tu.c) ∧ w'.cell? ⟨w1.heap.size, 8, none⟩ = some (.slice u.so.A R.so.length u.so.c) ∧ w'.cell? ⟨w1.heap.size, 9, none⟩ = some (.slice u.ar.A R.ar.length u.ar.c) ∧ w'.cell? ⟨w1.heap.size, 10, none⟩ = some (.int .i64 R.ti) ∧ w'.cell? ⟨q, o + k * 5, none⟩ = some (.int .i64 p.id) ∧ w'.cell? ⟨q, o + k * 5 + 1, none⟩ = some (.int .i64 p.fr) ∧ w'.cell? ⟨q, o + k * 5 + 2, none⟩ = some (.int .i64 p.to) ∧ w'.cell? ⟨q, o + k * 5 + 3, none⟩ = some (.int .i64 p.cl) ∧ w'.cell? ⟨q, o + k * 5 + 4, none⟩ = some (.int .i64 p.ln))
              (first | with_reducible exact KP.out _ (RZ.out) | with_reducible exact KP.out _ (RZ.out.dr) | with_reducible exact KP.out _ ((RZ.out.al (.cells #[.int .i64 0, .int .i64 0, .slice none 0 0, .slice none 0 0, .slice none 0 0, .slice none 0 0, .slice none 0 0, .slice none 0 0, .slice none 0 0, .slice none 0 0, .int .i64 0] 45))) | with_reducible exact KP.out _ ((RZ.out.al (.cells #[.int .i64 0, .int .i64 0, .slice none 0 0, .slice none 0 0, .slice none 0 0, .slice none 0 0, .slice none 0 0, .slice none 0 0, .slice none 0 0, .slice none 0 0, .int .i64 0] 45)).dr) | with_reducible exact KP.out _ ((RZ.out.dr.al (.cells #[.int .i64 0, .int .i64 0, .slice none 0 0, .slice none 0 0, .slice none 0 0, .slice none 0 0, .slice none 0 0, .slice none 0 0, .slice none 0 0, .slice none 0 0, .int .i64 0] 45))) | with_reducible exact KP.out _ (R3.out) | with_reducible exact KP.out _ ((R3.out.al _)) | with_reducible exact KP.out _ ((R3.out.sb RZ.out.size 0 _)) | with_reducible exact KP.out _ (((R3.out.sb RZ.out.size 0 _).sb RZ.out.size 1 _)) | with_reducible exact KP.out _ ((((R3.out.sb RZ.out.size 0 _).sb RZ.out.size 1 _).sb RZ.out.size 2 _)) | with_reducible exact KP.out _ (((((R3.out.sb RZ.out.size 0 _).sb RZ.out.size 1 _).sb RZ.out.size 2 _).sb RZ.out.size 3 _)) | with_reducible exact KP.out _ ((((((R3.out.sb RZ.out.size 0 _).sb RZ.out.size 1 _).sb RZ.out.size 2 _).sb RZ.out.size 3 _).sb RZ.out.size 4 _)) | with_reducible exact KP.out _ (((((((R3.out.sb RZ.out.size 0 _).sb RZ.out.size 1 _).sb RZ.out.size 2 _).sb RZ.out.size 3 _).sb RZ.out.size 4 _).sb RZ.out.size 5 _)) | with_reducible exact KP.out _ ((((((((R3.out.sb RZ.out.size 0 _).sb RZ.out.size 1 _).sb RZ.out.size 2 _).sb RZ.out.size 3 _).sb RZ.out.size 4 _).sb RZ.out.size 5 _).sb RZ.out.size 6 _)) | with_reducible exact KP.out _ (((((((((R3.out.sb RZ.out.size 0 _).sb RZ.out.size 1 _).sb RZ.out.size 2 _).sb RZ.out.size 3 _).sb RZ.out.size 4 _).sb RZ.out.size 5 _).sb RZ.out.size 6 _).sb RZ.out.size 7 _)) | with_reducible exact KP.out _ ((((((((((R3.out.sb RZ.out.size 0 _).sb RZ.out.size 1 _).sb RZ.out.size 2 _).sb RZ.out.size 3 _).sb RZ.out.size 4 _).sb RZ.out.size 5 _).sb RZ.out.size 6 _).sb RZ.out.size 7 _).sb RZ.out.size 8 _)) | with_reducible exact KP.out _ (((((((((((R3.out.sb RZ.out.size 0 _).sb RZ.out.size 1 _).sb RZ.out.size 2 _).sb RZ.out.size 3 _).sb RZ.out.size 4 _).sb RZ.out.size 5 _).sb RZ.out.size 6 _).sb RZ.out.size 7 _).sb RZ.out.size 8 _).sb RZ.out.size 9 _)) | with_reducible exact KP.out _ ((((((((((((R3.out.sb RZ.out.size 0 _).sb RZ.out.size 1 _).sb RZ.out.size 2 _).sb RZ.out.size 3 _).sb RZ.out.size 4 _).sb RZ.out.size 5 _).sb RZ.out.size 6 _).sb RZ.out.size 7 _).sb RZ.out.size 8 _).sb RZ.out.size 9 _).sb RZ.out.size 10 _)) | with_reducible exact KP.out _ (((R3.out.al _).sb R3.out.size 0 _)) | with_reducible exact KP.out _ ((((R3.out.al _).sb R3.out.size 0 _).sb R3.out.size 1 _)) | with_reducible exact KP.out _ (((((R3.out.al _).sb R3.out.size 0 _).sb R3.out.size 1 _).sb R3.out.size 2 _)) | with_reducible exact KP.out _ ((((((R3.out.al _).sb R3.out.size 0 _).sb R3.out.size 1 _).sb R3.out.size 2 _).sb R3.out.size 3 _)) | with_reducible exact KP.out _ (((((((R3.out.al _).sb R3.out.size 0 _).sb R3.out.size 1 _).sb R3.out.size 2 _).sb R3.out.size 3 _).sb R3.out.size 4 _)) | with_reducible exact KP.out _ ((((((((R3.out.al _).sb R3.out.size 0 _).sb R3.out.size 1 _).sb R3.out.size 2 _).sb R3.out.size 3 _).sb R3.out.size 4 _).sb R3.out.size 5 _)) | with_reducible exact KP.out _ (((((((((R3.out.al _).sb R3.out.size 0 _).sb R3.out.size 1 _).sb R3.out.size 2 _).sb R3.out.size 3 _).sb R3.out.size 4 _).sb R3.out.size 5 _).sb R3.out.size 6 _)) | with_reducible exact KP.out _ ((((((((((R3.out.al _).sb R3.out.size 0 _).sb R3.out.size 1 _).sb R3.out.size 2 _).sb R3.out.size 3 _).sb R3.out.size 4 _).sb R3.out.size 5 _).sb R3.out.size 6 _).sb R3.out.size 7 _)) | with_reducible exact KP.out _ (((((((((((R3.out.al _).sb R3.out.size 0 _).sb R3.out.size 1 _).sb R3.out.size 2 _).sb R3.out.size 3 _).sb R3.out.size 4 _).sb R3.out.size 5 _).sb R3.out.size 6 _).sb R3.out.size 7 _).sb R3.out.size 8 _)) | with_reducible exact KP.out _ ((((((((((((R3.out.al _).sb R3.out.size 0 _).sb R3.out.size 1 _).sb R3.out.size 2 _).sb R3.out.size 3 _).sb R3.out.size 4 _).sb R3.out.size 5 _).sb R3.out.size 6 _).sb R3.out.size 7 _).sb R3.out.size 8 _).sb R3.out.size 9 _)) | with_reducible exact KP.out _ (((((((((((((R3.out.al _).sb R3.out.size 0 _).sb R3.out.size 1 _).sb R3.out.size 2 _).sb R3.out.size 3 _).sb R3.out.size 4 _).sb R3.out.size 5 _).sb R3.out.size 6 _).sb R3.out.size 7 _).sb R3.out.size 8 _).sb R3.out.size 9 _).sb R3.out.size 10 _)) | fail)
              (first
                | (go_at_call 21; (first | (with_reducible refine (HSP.out _ (RZ.out.dr).still).mono ?_) | (with_reducible refine (HSP.out _ ((RZ.out.al (.cells #[.int .i64 0, .int .i64 0, .slice none 0 0, .slice none 0 0, .slice none 0 0, .slice none 0 0, .slice none 0 0, .slice none 0 0, .slice none 0 0, .slice none 0 0, .int .i64 0] 45)).dr).still).mono ?_) | (with_reducible refine (HSP.out _ ((RZ.out.dr.al (.cells #[.int .i64 0, .int .i64 0, .slice none 0 0, .slice none 0 0, .slice none 0 0, .slice none 0 0, .slice none 0 0, .slice none 0 0, .slice none 0 0, .slice none 0 0, .int .i64 0] 45))).still).mono ?_) | fail); rintro e w3 ⟨z3, rfl, o3, b3⟩; have R3 : Hid (Chg 0 0 wr w3) := Lib.hid (by first | exact (RZ.out.dr).bl b3 | exact ((RZ.out.al (.cells #[.int .i64 0, .int .i64 0, .slice none 0 0, .slice none 0 0, .slice none 0 0, .slice none 0 0, .slice none 0 0, .slice none 0 0, .slice none 0 0, .slice none 0 0, .int .i64 0] 45)).dr).bl b3 | exact ((RZ.out.dr.al (.cells #[.int .i64 0, .int .i64 0, .slice none 0 0, .slice none 0 0, .slice none 0 0, .slice none 0 0, .slice none 0 0, .slice none 0 0, .slice none 0 0, .slice none 0 0, .int .i64 0] 45))).bl b3 | fail); have Q3 := Lib.hid (chg_gb 0 0 (gb_of_below b3 none)); have F3 := Lib.hid (fix_net o3); (try (first | have ZZ3 := Lib.hid ((Blk.new _ 45 #[.int .i64 0, .int .i64 0, .slice none 0 0, .slice none 0 0, .slice none 0 0, .slice none 0 0, .slice none 0 0, .slice none 0 0, .slice none 0 0, .slice none 0 0, .int .i64 0]).nx ((chg_drew _).trans Q3.out)) | have ZZ3 := Lib.hid ((Blk.new _ 45 #[.int .i64 0, .int .i64 0, .slice none 0 0, .slice none 0 0, .slice none 0 0, .slice none 0 0, .slice none 0 0, .slice none 0 0, .slice none 0 0, .slice none 0 0, .int .i64 0]).nx Q3.out) | fail); have zc0 : _ = some ((.int .i64 0) : Value) := ZZ3.out.cell 0; have zf0 := ZZ3.out.frozen 0; have zc1 : _ = some ((.int .i64 0) : Value) := ZZ3.out.cell 1; have zf1 := ZZ3.out.frozen 1; have zc2 : _ = some ((.slice none 0 0) : Value) := ZZ3.out.cell 2; have zf2 := ZZ3.out.frozen 2; have zc3 : _ = some ((.slice none 0 0) : Value) := ZZ3.out.cell 3; have zf3 := ZZ3.out.frozen 3; have zc4 : _ = some ((.slice none 0 0) : Value) := ZZ3.out.cell 4; have zf4 := ZZ3.out.frozen 4; have zc5 : _ = some ((.slice none 0 0) : Value) := ZZ3.out.cell 5; have zf5 := ZZ3.out.frozen 5; have zc6 : _ = some ((.slice none 0 0) : Value) := ZZ3.out.cell 6; have zf6 := ZZ3.out.frozen 6; have zc7 : _ = some ((.slice none 0 0) : Value) := ZZ3.out.cell 7; have zf7 := ZZ3.out.frozen 7; have zc8 : _ = some ((.slice none 0 0) : Value) := ZZ3.out.cell 8; have zf8 := ZZ3.out.frozen 8; have zc9 : _ = some ((.slice none 0 0) : Value) := ZZ3.out.cell 9; have zf9 := ZZ3.out.frozen 9; have zc10 : _ = some ((.int .i64 0) : Value) := ZZ3.out.cell 10; have zf10 := ZZ3.out.frozen 10); clear b3 o3)
                | fail)
            all_goals
              go_wp2_with fail
              go_meet
              case rel => exact ⟨_, _, _, _, rfl, rfl, (by first | with_reducible exact (R3.out.al _) | with_reducible exact (((((((((((R3.out.sb RZ.out.size 0 _).sb RZ.out.size 1 _).sb RZ.out.size 2 _).sb RZ.out.size 3 _).sb RZ.out.size 4 _).sb RZ.out.size 5 _).sb RZ.out.size 6 _).sb RZ.out.size 7 _).sb RZ.out.size 8 _).sb RZ.out.size 9 _).sb RZ.out.size 10 _) | fail), (by first | with_reducible exact Blk.new _ _ _ | with_reducible exact (by have hz := (((((((((((ZZ3.out.set_ 0 (.int .i64 R2.W)).set_ 1 (.int .i64 R2.H)).set_ 2 (.slice z3.br.A R2.br.length z3.br.c)).set_ 3 (.slice z3.ta.A R2.ta.length z3.ta.c)).set_ 4 (.slice z3.tb.A R2.tb.length z3.tb.c)).set_ 5 (.slice z3.bu.A R2.bu.length z3.bu.c)).set_ 6 (.slice z3.ow.A R2.ow.length z3.ow.c)).set_ 7 (.slice z3.tu.A R2.tu.length z3.tu.c)).set_ 8 (.slice z3.so.A R2.so.length z3.so.c)).set_ 9 (.slice z3.ar.A R2.ar.length z3.ar.c)).set_ 10 (.int .i64 R2.ti)); simpa using hz) | fail), (by first | with_reducible exact F3.out.al _ | with_reducible exact F3.out.chg (((((((((((st_in _ _ _ _).si _).si _).si _).si _).si _).si _).si _).si _).si _).si _) (.inr (.inl (by (try have hs3 := Q3.out.size); simp only [alloc_size, drew_heap] at *; omega))) | fail), (by (try have hs3 := Q3.out.size); (try have hs0 := RZ.out.size); (try simp only [alloc_size, drew_heap] at *); omega), (by (try have hs3 := Q3.out.size); (try have hs0 := RZ.out.size); (try simp only [alloc_size, drew_heap] at *); omega)⟩
          case rest =>
            obtain ⟨bw, B2, E2, u2, rfl, rfl, hx, hkb, hf, hb, hbw⟩ := hcut
            have a0 : wc.cell? ⟨bw, 0, none⟩ = some (.int .i64 R2.W) := hkb.cell 0
            have a1 : wc.cell? ⟨bw, 1, none⟩ = some (.int .i64 R2.H) := hkb.cell 1
            have a2 : wc.cell? ⟨bw, 2, none⟩ = some (.slice u2.br.A R2.br.length u2.br.c) := hkb.cell 2
            have a3 : wc.cell? ⟨bw, 3, none⟩ = some (.slice u2.ta.A R2.ta.length u2.ta.c) := hkb.cell 3
            have a4 : wc.cell? ⟨bw, 4, none⟩ = some (.slice u2.tb.A R2.tb.length u2.tb.c) := hkb.cell 4
            have a5 : wc.cell? ⟨bw, 5, none⟩ = some (.slice u2.bu.A R2.bu.length u2.bu.c) := hkb.cell 5
            have a6 : wc.cell? ⟨bw, 6, none⟩ = some (.slice u2.ow.A R2.ow.length u2.ow.c) := hkb.cell 6
            have a7 : wc.cell? ⟨bw, 7, none⟩ = some (.slice u2.tu.A R2.tu.length u2.tu.c) := hkb.cell 7
            have a8 : wc.cell? ⟨bw, 8, none⟩ = some (.slice u2.so.A R2.so.length u2.so.c) := hkb.cell 8
            have a9 : wc.cell? ⟨bw, 9, none⟩ = some (.slice u2.ar.A R2.ar.length u2.ar.c) := hkb.cell 9
            have a10 : wc.cell? ⟨bw, 10, none⟩ = some (.int .i64 R2.ti) := hkb.cell 10
            have kg := KGR.out.nx hx
            have KG3 := Lib.hid kg
            have SZ9 := Lib.hid hx.size
            have y0 : wc.cell? ⟨w1.heap.size, 0, none⟩ = some (.int .i64 R.W) := kg.cell 0
            have x0 := kg.frozen 0
            have y1 : wc.cell? ⟨w1.heap.size, 1, none⟩ = some (.int .i64 R.H) := kg.cell 1
            have x1 := kg.frozen 1
            have y2 : wc.cell? ⟨w1.heap.size, 2, none⟩ = some (.slice u.br.A R.br.length u.br.c) := kg.cell 2
            have x2 := kg.frozen 2
            have y3 : wc.cell? ⟨w1.heap.size, 3, none⟩ = some (.slice u.ta.A R.ta.length u.ta.c) := kg.cell 3
            have x3 := kg.frozen 3
            have y4 : wc.cell? ⟨w1.heap.size, 4, none⟩ = some (.slice u.tb.A R.tb.length u.tb.c) := kg.cell 4
            have x4 := kg.frozen 4
            have y5 : wc.cell? ⟨w1.heap.size, 5, none⟩ = some (.slice u.bu.A R.bu.length u.bu.c) := kg.cell 5
            have x5 := kg.frozen 5
            have y6 : wc.cell? ⟨w1.heap.size, 6, none⟩ = some (.slice u.ow.A R.ow.length u.ow.c) := kg.cell 6
            have x6 := kg.frozen 6
            have y7 : wc.cell? ⟨w1.heap.size, 7, none⟩ = some (.slice u.tu.A R.tu.length u.tu.c) := kg.cell 7
            have x7 := kg.frozen 7
            have y8 : wc.cell? ⟨w1.heap.size, 8, none⟩ = some (.slice u.so.A R.so.length u.so.c) := kg.cell 8
            have x8 := kg.frozen 8
            have y9 : wc.cell? ⟨w1.heap.size, 9, none⟩ = some (.slice u.ar.A R.ar.length u.ar.c) := kg.cell 9
            have x9 := kg.frozen 9
            have y10 : wc.cell? ⟨w1.heap.size, 10, none⟩ = some (.int .i64 R.ti) := kg.cell 10
            have x10 := kg.frozen 10
            have HXC := Lib.hid hx
            have HF := Lib.hid hf
            have HBB := Lib.hid hb
            have HBW := Lib.hid hbw
            clear hx hkb hf hb hbw kg
            go_wp2_with fail
            have kf : Blk (((((((((((wc.setCell ⟨w1.heap.size, 0, none⟩ (.int .i64 R2.W)).setCell ⟨w1.heap.size, 1, none⟩ (.int .i64 R2.H)).setCell ⟨w1.heap.size, 2, none⟩ (.slice u2.br.A R2.br.length u2.br.c)).setCell ⟨w1.heap.size, 3, none⟩ (.slice u2.ta.A R2.ta.length u2.ta.c)).setCell ⟨w1.heap.size, 4, none⟩ (.slice u2.tb.A R2.tb.length u2.tb.c)).setCell ⟨w1.heap.size, 5, none⟩ (.slice u2.bu.A R2.bu.length u2.bu.c)).setCell ⟨w1.heap.size, 6, none⟩ (.slice u2.ow.A R2.ow.length u2.ow.c)).setCell ⟨w1.heap.size, 7, none⟩ (.slice u2.tu.A R2.tu.length u2.tu.c)).setCell ⟨w1.heap.size, 8, none⟩ (.slice u2.so.A R2.so.length u2.so.c)).setCell ⟨w1.heap.size, 9, none⟩ (.slice u2.ar.A R2.ar.length u2.ar.c)).setCell ⟨w1.heap.size, 10, none⟩ (.int .i64 R2.ti)) w1.heap.size 45 #[.int .i64 R2.W, .int .i64 R2.H, .slice u2.br.A R2.br.length u2.br.c, .slice u2.ta.A R2.ta.length u2.ta.c, .slice u2.tb.A R2.tb.length u2.tb.c, .slice u2.bu.A R2.bu.length u2.bu.c, .slice u2.ow.A R2.ow.length u2.ow.c, .slice u2.tu.A R2.tu.length u2.tu.c, .slice u2.so.A R2.so.length u2.so.c, .slice u2.ar.A R2.ar.length u2.ar.c, .int .i64 R2.ti] := by
              have hz := (((((((((((KG3.out.set_ 0 (.int .i64 R2.W)).set_ 1 (.int .i64 R2.H)).set_ 2 (.slice u2.br.A R2.br.length u2.br.c)).set_ 3 (.slice u2.ta.A R2.ta.length u2.ta.c)).set_ 4 (.slice u2.tb.A R2.tb.length u2.tb.c)).set_ 5 (.slice u2.bu.A R2.bu.length u2.bu.c)).set_ 6 (.slice u2.ow.A R2.ow.length u2.ow.c)).set_ 7 (.slice u2.tu.A R2.tu.length u2.tu.c)).set_ 8 (.slice u2.so.A R2.so.length u2.so.c)).set_ 9 (.slice u2.ar.A R2.ar.length u2.ar.c)).set_ 10 (.int .i64 R2.ti))
              simpa using hz
            have qz : Chg w1.heap.size (w1.heap.size + 1) wc (((((((((((wc.setCell ⟨w1.heap.size, 0, none⟩ (.int .i64 R2.W)).setCell ⟨w1.heap.size, 1, none⟩ (.int .i64 R2.H)).setCell ⟨w1.heap.size, 2, none⟩ (.slice u2.br.A R2.br.length u2.br.c)).setCell ⟨w1.heap.size, 3, none⟩ (.slice u2.ta.A R2.ta.length u2.ta.c)).setCell ⟨w1.heap.size, 4, none⟩ (.slice u2.tb.A R2.tb.length u2.tb.c)).setCell ⟨w1.heap.size, 5, none⟩ (.slice u2.bu.A R2.bu.length u2.bu.c)).setCell ⟨w1.heap.size, 6, none⟩ (.slice u2.ow.A R2.ow.length u2.ow.c)).setCell ⟨w1.heap.size, 7, none⟩ (.slice u2.tu.A R2.tu.length u2.tu.c)).setCell ⟨w1.heap.size, 8, none⟩ (.slice u2.so.A R2.so.length u2.so.c)).setCell ⟨w1.heap.size, 9, none⟩ (.slice u2.ar.A R2.ar.length u2.ar.c)).setCell ⟨w1.heap.size, 10, none⟩ (.int .i64 R2.ti)) := ((((((((((st_in wc (w1.heap.size) 0 (.int .i64 R2.W)).sx 1 (.int .i64 R2.H)).sx 2 (.slice u2.br.A R2.br.length u2.br.c)).sx 3 (.slice u2.ta.A R2.ta.length u2.ta.c)).sx 4 (.slice u2.tb.A R2.tb.length u2.tb.c)).sx 5 (.slice u2.bu.A R2.bu.length u2.bu.c)).sx 6 (.slice u2.ow.A R2.ow.length u2.ow.c)).sx 7 (.slice u2.tu.A R2.tu.length u2.tu.c)).sx 8 (.slice u2.so.A R2.so.length u2.so.c)).sx 9 (.slice u2.ar.A R2.ar.length u2.ar.c)).sx 10 (.int .i64 R2.ti)
            generalize (((((((((((wc.setCell ⟨w1.heap.size, 0, none⟩ (.int .i64 R2.W)).setCell ⟨w1.heap.size, 1, none⟩ (.int .i64 R2.H)).setCell ⟨w1.heap.size, 2, none⟩ (.slice u2.br.A R2.br.length u2.br.c)).setCell ⟨w1.heap.size, 3, none⟩ (.slice u2.ta.A R2.ta.length u2.ta.c)).setCell ⟨w1.heap.size, 4, none⟩ (.slice u2.tb.A R2.tb.length u2.tb.c)).setCell ⟨w1.heap.size, 5, none⟩ (.slice u2.bu.A R2.bu.length u2.bu.c)).setCell ⟨w1.heap.size, 6, none⟩ (.slice u2.ow.A R2.ow.length u2.ow.c)).setCell ⟨w1.heap.size, 7, none⟩ (.slice u2.tu.A R2.tu.length u2.tu.c)).setCell ⟨w1.heap.size, 8, none⟩ (.slice u2.so.A R2.so.length u2.so.c)).setCell ⟨w1.heap.size, 9, none⟩ (.slice u2.ar.A R2.ar.length u2.ar.c)).setCell ⟨w1.heap.size, 10, none⟩ (.int .i64 R2.ti)) = wz at *
            refine (specBit bb wz).mono ?_
            rintro e w5 ⟨rfl, hg5⟩
            have KF := Lib.hid (kf.grown hg5 (by simp))
            have HCZ := Lib.hid (((HCH.out.trans ((chg_gb w1.heap.size (w1.heap.size + 1) HXC.out.still).trans qz)).gb hg5))
            have HF5 := Lib.hid ((HF.out.chg qz (by have h3 := SZ.out; have h4 := SZ1.out; have h5 := SZ2.out; have h6 := SR.out; have h7 := HBB.out; omega)).nx (chg_gb 0 0 hg5))
            clear kf qz hg5
            cases bb with
            | true =>
              have e3 : IntKind.i64.wrap ((t : Int) + 1) = ((t + 1 : Nat) : Int) := by rw [IntWalk.i64_in _ (by omega)]; omega
              simp only [if_true]
              go_wp2_with fail
              go_roundw
              case rel => exact ⟨k + 1, u2, by go_num, by omega, by rw [HX.out]; simp, ⟨B2, E2, by rw [HX.out]; exact HF5.out.here, by have h3 := SZ.out; have h4 := SZ1.out; have h5 := SZ2.out; have h6 := SR.out; have h7 := HBB.out; omega, HF5.out.1, .inr (by have h3 := SZ.out; have h4 := SZ1.out; have h5 := SZ2.out; have h6 := SR.out; have h7 := HBB.out; omega)⟩, by rw [HX.out]; exact KF.out, HCZ.out⟩
              case measure => simp [intOf]; omega
            | false =>
              have e3 : IntKind.i64.wrap ((t : Int) + 0) = ((t : Nat) : Int) := by rw [IntWalk.i64_in _ (by omega)]; omega
              simp only [if_false, Bool.false_eq_true]
              go_wp2_with fail
              go_roundw
              case rel => exact ⟨k + 1, u2, by go_num, by omega, by rw [HX.out]; simp, ⟨B2, E2, by rw [HX.out]; exact HF5.out.here, by have h3 := SZ.out; have h4 := SZ1.out; have h5 := SZ2.out; have h6 := SR.out; have h7 := HBB.out; omega, HF5.out.1, .inr (by have h3 := SZ.out; have h4 := SZ1.out; have h5 := SZ2.out; have h6 := SR.out; have h7 := HBB.out; omega)⟩, by rw [HX.out]; exact KF.out, HCZ.out⟩
              case measure => simp [intOf]; omega
        · obtain rfl : k = n := by omega
          have k1 : ¬ (k : Int) < (k : Int) := by omega
          have HA2 := Lib.hid (show sendAllG N D = R ∧ sentG N D = (t : Int) by
            have h1 := HA.out
            have h2 : D.take k = D := by rw [← HLD.out, List.take_length]
            have h3 := HRT.out
            rw [h2] at h3
            rw [h3.1, h3.2] at h1
            exact h1)
          have kr : Blk wr (w.heap.size + 1) 45 #[.int .i64 0, .int .i64 0, .slice none 0 0, .slice none 0 0, .slice none 0 0, .slice none 0 0, .slice none 0 0, .slice none 0 0, .slice none 0 0, .slice none 0 0, .int .i64 0] := KRR.out
          have KR4 := Lib.hid kr
          have y0 : wr.cell? ⟨w.heap.size + 1, 0, none⟩ = some (.int .i64 0) := kr.cell 0
          have x0 := kr.frozen 0
          have y1 : wr.cell? ⟨w.heap.size + 1, 1, none⟩ = some (.int .i64 0) := kr.cell 1
          have x1 := kr.frozen 1
          have y2 : wr.cell? ⟨w.heap.size + 1, 2, none⟩ = some (.slice none 0 0) := kr.cell 2
          have x2 := kr.frozen 2
          have y3 : wr.cell? ⟨w.heap.size + 1, 3, none⟩ = some (.slice none 0 0) := kr.cell 3
          have x3 := kr.frozen 3
          have y4 : wr.cell? ⟨w.heap.size + 1, 4, none⟩ = some (.slice none 0 0) := kr.cell 4
          have x4 := kr.frozen 4
          have y5 : wr.cell? ⟨w.heap.size + 1, 5, none⟩ = some (.slice none 0 0) := kr.cell 5
          have x5 := kr.frozen 5
          have y6 : wr.cell? ⟨w.heap.size + 1, 6, none⟩ = some (.slice none 0 0) := kr.cell 6
          have x6 := kr.frozen 6
          have y7 : wr.cell? ⟨w.heap.size + 1, 7, none⟩ = some (.slice none 0 0) := kr.cell 7
          have x7 := kr.frozen 7
          have y8 : wr.cell? ⟨w.heap.size + 1, 8, none⟩ = some (.slice none 0 0) := kr.cell 8
          have x8 := kr.frozen 8
          have y9 : wr.cell? ⟨w.heap.size + 1, 9, none⟩ = some (.slice none 0 0) := kr.cell 9
          have x9 := kr.frozen 9
          have y10 : wr.cell? ⟨w.heap.size + 1, 10, none⟩ = some (.int .i64 0) := kr.cell 10
          have x10 := kr.frozen 10
          clear kr
          go_wp2_with fail
          have kf : Blk (((((((((((wr.setCell ⟨w.heap.size + 1, 0, none⟩ (.int .i64 R.W)).setCell ⟨w.heap.size + 1, 1, none⟩ (.int .i64 R.H)).setCell ⟨w.heap.size + 1, 2, none⟩ (.slice u.br.A R.br.length u.br.c)).setCell ⟨w.heap.size + 1, 3, none⟩ (.slice u.ta.A R.ta.length u.ta.c)).setCell ⟨w.heap.size + 1, 4, none⟩ (.slice u.tb.A R.tb.length u.tb.c)).setCell ⟨w.heap.size + 1, 5, none⟩ (.slice u.bu.A R.bu.length u.bu.c)).setCell ⟨w.heap.size + 1, 6, none⟩ (.slice u.ow.A R.ow.length u.ow.c)).setCell ⟨w.heap.size + 1, 7, none⟩ (.slice u.tu.A R.tu.length u.tu.c)).setCell ⟨w.heap.size + 1, 8, none⟩ (.slice u.so.A R.so.length u.so.c)).setCell ⟨w.heap.size + 1, 9, none⟩ (.slice u.ar.A R.ar.length u.ar.c)).setCell ⟨w.heap.size + 1, 10, none⟩ (.int .i64 R.ti)) (w.heap.size + 1) 45 #[.int .i64 R.W, .int .i64 R.H, .slice u.br.A R.br.length u.br.c, .slice u.ta.A R.ta.length u.ta.c, .slice u.tb.A R.tb.length u.tb.c, .slice u.bu.A R.bu.length u.bu.c, .slice u.ow.A R.ow.length u.ow.c, .slice u.tu.A R.tu.length u.tu.c, .slice u.so.A R.so.length u.so.c, .slice u.ar.A R.ar.length u.ar.c, .int .i64 R.ti] := by
            have hz := (((((((((((KR4.out.set_ 0 (.int .i64 R.W)).set_ 1 (.int .i64 R.H)).set_ 2 (.slice u.br.A R.br.length u.br.c)).set_ 3 (.slice u.ta.A R.ta.length u.ta.c)).set_ 4 (.slice u.tb.A R.tb.length u.tb.c)).set_ 5 (.slice u.bu.A R.bu.length u.bu.c)).set_ 6 (.slice u.ow.A R.ow.length u.ow.c)).set_ 7 (.slice u.tu.A R.tu.length u.tu.c)).set_ 8 (.slice u.so.A R.so.length u.so.c)).set_ 9 (.slice u.ar.A R.ar.length u.ar.c)).set_ 10 (.int .i64 R.ti))
            simpa using hz
          have qz : Chg (w.heap.size + 1) (w.heap.size + 1 + 1) wr (((((((((((wr.setCell ⟨w.heap.size + 1, 0, none⟩ (.int .i64 R.W)).setCell ⟨w.heap.size + 1, 1, none⟩ (.int .i64 R.H)).setCell ⟨w.heap.size + 1, 2, none⟩ (.slice u.br.A R.br.length u.br.c)).setCell ⟨w.heap.size + 1, 3, none⟩ (.slice u.ta.A R.ta.length u.ta.c)).setCell ⟨w.heap.size + 1, 4, none⟩ (.slice u.tb.A R.tb.length u.tb.c)).setCell ⟨w.heap.size + 1, 5, none⟩ (.slice u.bu.A R.bu.length u.bu.c)).setCell ⟨w.heap.size + 1, 6, none⟩ (.slice u.ow.A R.ow.length u.ow.c)).setCell ⟨w.heap.size + 1, 7, none⟩ (.slice u.tu.A R.tu.length u.tu.c)).setCell ⟨w.heap.size + 1, 8, none⟩ (.slice u.so.A R.so.length u.so.c)).setCell ⟨w.heap.size + 1, 9, none⟩ (.slice u.ar.A R.ar.length u.ar.c)).setCell ⟨w.heap.size + 1, 10, none⟩ (.int .i64 R.ti)) := ((((((((((st_in wr (w.heap.size + 1) 0 (.int .i64 R.W)).sx 1 (.int .i64 R.H)).sx 2 (.slice u.br.A R.br.length u.br.c)).sx 3 (.slice u.ta.A R.ta.length u.ta.c)).sx 4 (.slice u.tb.A R.tb.length u.tb.c)).sx 5 (.slice u.bu.A R.bu.length u.bu.c)).sx 6 (.slice u.ow.A R.ow.length u.ow.c)).sx 7 (.slice u.tu.A R.tu.length u.tu.c)).sx 8 (.slice u.so.A R.so.length u.so.c)).sx 9 (.slice u.ar.A R.ar.length u.ar.c)).sx 10 (.int .i64 R.ti)
          generalize (((((((((((wr.setCell ⟨w.heap.size + 1, 0, none⟩ (.int .i64 R.W)).setCell ⟨w.heap.size + 1, 1, none⟩ (.int .i64 R.H)).setCell ⟨w.heap.size + 1, 2, none⟩ (.slice u.br.A R.br.length u.br.c)).setCell ⟨w.heap.size + 1, 3, none⟩ (.slice u.ta.A R.ta.length u.ta.c)).setCell ⟨w.heap.size + 1, 4, none⟩ (.slice u.tb.A R.tb.length u.tb.c)).setCell ⟨w.heap.size + 1, 5, none⟩ (.slice u.bu.A R.bu.length u.bu.c)).setCell ⟨w.heap.size + 1, 6, none⟩ (.slice u.ow.A R.ow.length u.ow.c)).setCell ⟨w.heap.size + 1, 7, none⟩ (.slice u.tu.A R.tu.length u.tu.c)).setCell ⟨w.heap.size + 1, 8, none⟩ (.slice u.so.A R.so.length u.so.c)).setCell ⟨w.heap.size + 1, 9, none⟩ (.slice u.ar.A R.ar.length u.ar.c)).setCell ⟨w.heap.size + 1, 10, none⟩ (.int .i64 R.ti)) = wz at *
          have r0 := kf.cell 0
          have r1 := kf.cell 1
          have r2 := kf.cell 2
          have r3 := kf.cell 3
          have r4 := kf.cell 4
          have r5 := kf.cell 5
          have r6 := kf.cell 6
          have r7 := kf.cell 7
          have r8 := kf.cell 8
          have r9 := kf.cell 9
          have r10 := kf.cell 10
          simp only [List.getElem?_toArray, List.getElem?_cons_zero, List.getElem?_cons_succ] at r0 r1 r2 r3 r4 r5 r6 r7 r8 r9 r10
          rw [HA2.out.1, HA2.out.2]
          have hnet : NetOwn wz _ E u R := (HO.out).heap (fun k h1 h2 => qz.block k (by have h7 := HBE.out; omega) (by have h7 := HBE.out; have h3 := SZ.out; have h4 := SZ1.out; have h5 := SZ2.out; have h6 := SR.out; omega))
          refine bodyPost_ret (v := .tuple #[.agg #[.int .i64 R.W, .int .i64 R.H, .slice u.br.A R.br.length u.br.c, .slice u.ta.A R.ta.length u.ta.c, .slice u.tb.A R.tb.length u.tb.c, .slice u.bu.A R.bu.length u.bu.c, .slice u.ow.A R.ow.length u.ow.c, .slice u.tu.A R.tu.length u.tu.c, .slice u.so.A R.so.length u.so.c, .slice u.ar.A R.ar.length u.ar.c, .int .i64 R.ti], .int .i64 (t : Int)]) (by simp [results, Tryz.results6, go_sem, r0, r1, r2, r3, r4, r5, r6, r7, r8, r9, r10]) rfl ⟨u, rfl, (hnet.less (by have h7 := HBE.out; have h3 := SZ.out; have h4 := SZ1.out; have h5 := SZ2.out; have h6 := SR.out; omega)).upto (Nat.le_trans HBE.out.2.1 qz.size), (BR.out).trans (qz.below (.inl (by omega)) (by have h3 := SZ.out; have h4 := SZ1.out; have h5 := SZ2.out; have h6 := SR.out; omega))⟩
end Go.Proofs.YtfloekbmgjmhbaaGreat
end

section
namespace Go.Proofs.YtfloekbmgjmhbaaGreat
open Go.ChangeShapes Go.WideShapes Go.ChangeAt Go.RowKit
set_option linter.unusedVariables false
section
variable {α : Type} {z bytes : Nat} {c : α → List Value} {T e : TypeId} {zv : Value}
theorem wpList_app_atR {ops : Array Oper} {rest : List Oper} {o : Oper} {a : Act} {Q : Exit → Act → World → Prop} (hL : Lay z c) (hz : 0 < z) (hT : Tryz.prog.underlying T = some (.slice e)) (w : World) (hgd : o.guard = none) (s x : Operand)
    (ho : o.op = .call { callee := .builtin .append, args := #[s, x], argTypes := #[T, T] })
    (i0 : TypeInfo) (hi : Tryz.prog.info? e = some i0) (hz0 : i0.zero = some zv) (hz1 : i0.size = z) (hz2 : i0.bytes = bytes) (hzs : zv.cells.size = z) (hby : bytes ≤ 1000)
    (base n m cc B : Nat) (A : Option Addr) (X D : List α) (v : Value) (hs : a.eval s = v) (hx : a.eval x = .slice A m cc) (hown : w.ownsRow base e z v n (recV c X)) (h : RecAt z c w B A m D) (hm : n + m ≤ 1000000000) (hb : base ≤ w.heap.size)
    (hk : ∀ v' w', w'.ownsRow base e z v' (n + m) (recV c (X ++ D)) → w.grownBy w' v.ownBlock → (∀ b, v'.ownBlock = some b → v.ownBlock = some b ∨ b = w.heap.size) → wpList Tryz.prog ops Q rest (a.put o.dst v') w') : wpList Tryz.prog ops Q (o :: rest) a w := by
  have key : ∃ v' w', (Builtin.append_ #[T, T] o.type #[v, .slice A m cc]).run Tryz.prog w = .ok v' w' ∧ w'.ownsRow base e z v' (n + m) (recV c (X ++ D)) ∧ w.grownBy w' v.ownBlock ∧ ∀ b, v'.ownBlock = some b → v.ownBlock = some b ∨ b = w.heap.size := by
    have hl := h.1
    rcases Nat.eq_zero_or_pos m with h0 | h0
    · subst h0
      obtain rfl : D = [] := List.eq_nil_of_length_eq_zero hl
      obtain ⟨A', c', rfl, _⟩ := own_form hown
      exact ⟨_, _, run_app_nothingR hT w o.type A' n c' (own_cap hown).1 _ i0 hi hz1 (src_rec hL hz hT h cc), by rw [List.append_nil]; exact hown, gb_refl _ _, fun b hb => .inl hb⟩
    · obtain ⟨b, off, rfl, _⟩ := h.2 h0
      obtain ⟨v', w', h1, h2, h3, _, h5⟩ := run_append_own_at (P := Tryz.prog) w base T o.type e i0 zv z bytes hT hi hz0 hz1 hz2 hzs hz v n (recV c X) hown ⟨b, off, none⟩ m cc (recV c D)
        (by rw [recV_length hL, hl]) (rec_news hL hz h) (recV_one hL D) (by unfold maxLen; omega) (by
          have h4 : (n + m) * bytes ≤ 1000000000 * 1000 := Nat.mul_le_mul hm hby
          omega) hb
      refine ⟨v', w', h1, by rw [recV_append]; exact h2, h3, fun q hq => ?_⟩
      rcases h5 with h5 | h5
      · exact .inl (by rw [← h5]; exact hq)
      · right
        rw [h5] at hq
        exact (Option.some.inj hq).symm
  refine wpList_plain hgd fun K hK => ?_
  obtain ⟨v', w', hr, h2, h3, h4⟩ := key
  unfold Oper.wp execOp
  simp only [ho, resolve, invoke, builtin, Sem.run_bind, Sem.run_pure, Result.andThen_ok, List.map_toArray, List.map_cons, List.map_nil, hs, hx, hr]
  exact hK _ _ (hk v' w' h2 h3 h4)
end
end Go.Proofs.YtfloekbmgjmhbaaGreat
end

section
namespace Go.Proofs.YtfloekbmgjmhbaaGreat
open Go.ChangeShapes Go.WideShapes Go.ChangeAt Go.RowKit
set_option linter.unusedVariables false
set_option maxRecDepth 20000

/-- Blocks below base, and blocks that hold neither flits nor lists of flits, stay as they are. -/
structure KeptN (base : Nat) (w w' : World) : Prop where
  b : Below base w w'
  s : w.heap.size ≤ w'.heap.size
  k : ∀ g t cs, t ≠ 95 → t ≠ 92 → Blk w g t cs → Blk w' g t cs
theorem keptN_gb {w w' : World} (base : Nat) (hb : base ≤ w.heap.size) (h : w.grownBy w' none) : KeptN base w w' := ⟨gb_below_none h hb, h.size, fun g t cs _ _ hk => hk.grown h (by simp)⟩
theorem KeptN.trans {base : Nat} {a b c : World} (h : KeptN base a b) (k : KeptN base b c) : KeptN base a c := ⟨h.b.trans k.b, Nat.le_trans h.s k.s, fun g t cs h1 h2 hk => k.k g t cs h1 h2 (h.k g t cs h1 h2 hk)⟩
section
variable (y : Na) (N : Nt) (base E g f c : Nat) (vb vs va : List Value) (A : Option Addr) (X D : List Flt) (w : World)
set_option maxHeartbeats 1600000 in
theorem implEnter_yes (hr : NetRows w base E y N vb vs va) (hA : y.so.A = some ⟨g, 0, none⟩) (hX : N.so[f]? = some X) (hx1 : X.length + D.length ≤ 60) (h : RecAt 5 fltC w w.heap.size A D.length D) (hb : base ≤ w.heap.size) :
    Calls Tryz.prog 66 #[.pointer (some ⟨g, f, none⟩), .slice A D.length c] w fun e w' => e = .returned (.bool true) ∧ (∃ vs', NetRows w' base w'.heap.size y {N with so := N.so.set f (X ++ D)} vb vs' va) ∧ KeptN base w w' := by
  obtain ⟨j0, fi, fz0, fz1, fz2⟩ := info_parts info_flt
  have hfl := (List.getElem?_eq_some_iff.1 hX).1
  have hlsf : f < vs.length := by rw [hr.ls]; exact hfl
  obtain ⟨u, hu⟩ : ∃ u, vs[f]? = some u := ⟨_, List.getElem?_eq_getElem hlsf⟩
  have hou := hr.so.fam.row f u X hu hX
  obtain ⟨Au, cu, rfl, _⟩ := own_form hou
  have hhd := hr.so.hd
  rw [hA] at hhd
  have hel := hhd.cellAt f (by rw [Nat.mul_one]; exact hfl)
  rw [hu] at hel
  have nty : (Value.slice Au X.length cu).ownBlock ≠ some g := fun e => own_typesG hou hhd (by decide) e rfl
  have HOU := Lib.hid hou
  have HIN := Lib.hid h
  have HD := Lib.hid hhd
  have HR := Lib.hid hr
  have HU := Lib.hid hu
  have HAA := Lib.hid hA
  have NTY := Lib.hid nty
  have HFL := Lib.hid hfl
  obtain ⟨n, hn⟩ : ∃ n, X.length = n := ⟨_, rfl⟩
  obtain ⟨m, hm⟩ : ∃ m, D.length = m := ⟨_, rfl⟩
  have HN := Lib.hid hn
  have HM := Lib.hid hm
  rw [hn] at hel hx1 HOU NTY HU
  rw [hm] at hx1 HIN
  rw [hm]
  have e1 : IntKind.i64.wrap ((n : Int) + (m : Int)) = ((n + m : Nat) : Int) := by rw [IntWalk.i64_in _ (by omega)]; omega
  have e2 : ¬ ((n + m : Nat) : Int) > 60 := by omega
  clear hr hA hX h hfl hlsf hu hou hhd nty hn hm
  go_enter Tryz.func66, Tryz.ntmps66
  go_wp2_with (at_builtin; refine wpList_app_atR fltL (by decide) Tryz.underlying92 _ rfl _ _ rfl j0 fi fz0 fz1 fz2 rfl (by decide) base n m c _ _ X D (.slice Au n cu) rfl rfl HOU.out HIN.out (by omega) hb ?_; intro v1 w1 hown1 hgrow1 hat1; obtain ⟨B1, d1, rfl, _⟩ := own_form hown1; have hh1 := row_keptR HD.out hgrow1 (fun j e1 e2 => by cases e2; exact NTY.out e1); have cc := hh1.cellAt f (by rw [Nat.mul_one]; exact HFL.out); have ff := hh1.frozenAt f; rw [HU.out] at cc; have O1 := Lib.hid hown1; have G1 := Lib.hid hgrow1; have A1 := Lib.hid hat1; have H1 := Lib.hid hh1; clear hown1 hgrow1 hat1 hh1)
  go_ret
  have o1 : w1.ownsRow base 95 5 (.slice B1 (n + m) d1) (X ++ D).length (recV fltC (X ++ D)) := by rw [List.length_append, HN.out, HM.out]; exact O1.out
  obtain ⟨p1, p2⟩ := HR.out.putSo HU.out HAA.out G1.out o1 (fun k hk => (A1.out k hk).elim .inl (fun e => .inr (by omega)))
  refine ⟨rfl, ⟨_, p1⟩, ⟨((Below.refl base w).grown G1.out hb (fun j e => (HOU.out.lt j e).1)).grown p2 (Nat.le_trans hb G1.out.size) (fun j e => by cases e; exact (HD.out.lt _ rfl).1), Nat.le_trans G1.out.size p2.size, fun q t cs h1 h2 hk => ?_⟩⟩
  refine (hk.grown G1.out (fun e => own_ne HOU.out hk (Ne.symm h1) e.symm)).grown p2 (fun e => ?_)
  injection e with e
  subst e
  exact own_ne HD.out hk (Ne.symm h2) rfl
set_option maxHeartbeats 1600000 in
theorem implEnter_no (hr : NetRows w base E y N vb vs va) (hA : y.so.A = some ⟨g, 0, none⟩) (hX : N.so[f]? = some X) (hx0 : X.length ≤ 60) (hx1 : D.length ≤ 60) (hx2 : ¬ X.length + D.length ≤ 60) :
    Calls Tryz.prog 66 #[.pointer (some ⟨g, f, none⟩), .slice A D.length c] w fun e w' => e = .returned (.bool false) ∧ w' = w := by
  have hfl := (List.getElem?_eq_some_iff.1 hX).1
  have hlsf : f < vs.length := by rw [hr.ls]; exact hfl
  obtain ⟨u, hu⟩ : ∃ u, vs[f]? = some u := ⟨_, List.getElem?_eq_getElem hlsf⟩
  have hou := hr.so.fam.row f u X hu hX
  obtain ⟨Au, cu, rfl, _⟩ := own_form hou
  have hhd := hr.so.hd
  rw [hA] at hhd
  have hel := hhd.cellAt f (by rw [Nat.mul_one]; exact hfl)
  rw [hu] at hel
  obtain ⟨n, hn⟩ : ∃ n, X.length = n := ⟨_, rfl⟩
  obtain ⟨m, hm⟩ : ∃ m, D.length = m := ⟨_, rfl⟩
  rw [hn] at hel hx0 hx2
  rw [hm] at hx1 hx2
  rw [hm]
  have e1 : IntKind.i64.wrap ((n : Int) + (m : Int)) = ((n + m : Nat) : Int) := by rw [IntWalk.i64_in _ (by omega)]; omega
  have e2 : ((n + m : Nat) : Int) > 60 := by omega
  clear hr hA hX hfl hlsf hu hou hhd hn hm
  go_enter Tryz.func66, Tryz.ntmps66
  go_wp2_with fail
  go_ret
  exact ⟨rfl, rfl⟩
end
end Go.Proofs.YtfloekbmgjmhbaaGreat
end

section
namespace Go.Proofs.YtfloekbmgjmhbaaGreat
open Go.ChangeShapes Go.WideShapes Go.ChangeAt Go.RowKit
set_option linter.unusedVariables false

theorem boxi_blk {w w1 : World} {T : TypeId} {cs : Array Value} (h : (w.alloc (.cells cs T)).grownBy w1 none) : Blk w1 w.heap.size T cs := (Blk.new w T cs).grown h (by simp)
theorem boxi_gb {w w1 : World} {o : Obj} (h : (w.alloc o).grownBy w1 none) : w.grownBy w1 none := gb_trans (gb_alloc (gb_refl _ _) _) h

theorem implGridOk (W H : Int) (w : World) :
    Calls Tryz.prog 89 #[.agg #[.int .i64 W, .int .i64 H]] w (RetB (okG W H) w) := by
  by_cases h1 : W ≥ 1 <;> by_cases h2 : W ≤ 4 <;> by_cases h3 : H ≥ 1 <;> by_cases h4 : H ≤ 4
  all_goals first | (exfalso; omega) | skip
  all_goals
    go_enter Tryz.func89, Tryz.ntmps89
    go_wp2_with fail
    go_ret
    exact ⟨ret_bool (by simp [okG] <;> omega), gb_alloc (gb_refl _ _) _⟩

theorem implNodeCount (W H : Int) (w : World) :
    Calls Tryz.prog 82 #[.agg #[.int .i64 W, .int .i64 H]] w (RetI (countG W H) none w) := by
  cases hok : okG W H with
  | true =>
    obtain ⟨hW, hH⟩ := okG_cases hok
    have hm : wrap64 (W * H) = countG W H := by
      simp only [countG, hok, if_true]
      rcases hW with rfl | rfl | rfl | rfl <;> rcases hH with rfl | rfl | rfl | rfl <;> exact IntWalk.wrap64_in _ (by omega)
    have Hm := Lib.hid hm
    clear hW hH hm
    go_enter Tryz.func82, Tryz.ntmps82
    go_wp2_with fail
    refine (implGridOk W H _).mono ?_
    rintro e w1 ⟨rfl, hg⟩
    have hb := boxi_blk hg
    have c0 : w1.cell? ⟨w.heap.size, 0, none⟩ = some (.int .i64 W) := hb.cell 0
    have c1 : w1.cell? ⟨w.heap.size, 1, none⟩ = some (.int .i64 H) := hb.cell 1
    have Hg := Lib.hid hg
    clear hg hb
    rw [hok]
    go_wp2_with fail
    go_ret
    exact ⟨ret_int64 (by rw [← Hm.out]), boxi_gb Hg.out⟩
  | false =>
    go_enter Tryz.func82, Tryz.ntmps82
    go_wp2_with fail
    refine (implGridOk W H _).mono ?_
    rintro e w1 ⟨rfl, hg⟩
    rw [hok]
    go_wp2_with fail
    go_ret
    exact ⟨ret_int64 (by simp [countG, hok]), boxi_gb hg⟩

theorem implHasNode (W H n : Int) (w : World) :
    Calls Tryz.prog 90 #[.agg #[.int .i64 W, .int .i64 H], .int .i64 n] w (RetB (hasG W H n) w) := by
  obtain ⟨k, hk⟩ : ∃ k, countG W H = k := ⟨_, rfl⟩
  by_cases h0 : n ≥ 0
  · by_cases h1 : n < k
    all_goals
      go_enter Tryz.func90, Tryz.ntmps90
      go_wp2_with fail
      refine (implNodeCount W H _).mono ?_
      rintro e w1 ⟨rfl, hg⟩
      rw [hk]
      go_wp2_with fail
      go_ret
      exact ⟨ret_bool (by simp [hasG, hk]; omega), boxi_gb hg⟩
  · go_enter Tryz.func90, Tryz.ntmps90
    go_wp2_with fail
    go_ret
    exact ⟨ret_bool (by simp [hasG, hk]; omega), gb_alloc (gb_refl _ _) _⟩
end Go.Proofs.YtfloekbmgjmhbaaGreat
end

section
namespace Go.Proofs.YtfloekbmgjmhbaaGreat
open Go.ChangeShapes Go.WideShapes Go.ChangeAt Go.RowKit
set_option linter.unusedVariables false
set_option maxRecDepth 20000

theorem implIsClass (c : Int) (b : Bool) (hb : decide (0 ≤ c ∧ c ≤ 1) = b) (w : World) :
    Calls Tryz.prog 91 #[.int .i64 c] w fun e w' => e = .returned (.bool b) ∧ w = w' := by
  have HB := Lib.hid hb
  clear hb
  by_cases h0 : c = 0
  · have HN := Lib.hid (show true = b by rw [← HB.out]; exact (decide_eq_true (by omega)).symm)
    subst h0
    go_enter Tryz.func91, Tryz.ntmps91
    go_wp2_with fail
    go_ret
    exact ⟨ret_bool HN.out, rfl⟩
  · have HN := Lib.hid (show (c == 1) = b by rw [← HB.out]; exact Bool.eq_iff_iff.2 (by simp; omega))
    have q0 : (c == 0) = false := by simpa using h0
    go_enter Tryz.func91, Tryz.ntmps91
    go_wp2_with fail
    go_ret
    exact ⟨ret_bool (by first | exact HN.out | (rw [← HN.out]; simp)), rfl⟩
theorem hasNV (W H n : Int) (b : Bool) (h : hasG W H n = b) (w : World) :
    Calls Tryz.prog 90 #[.agg #[.int .i64 W, .int .i64 H], .int .i64 n] w (RetB b w) := h ▸ implHasNode W H n w
theorem pk_bad {W H : Int} {p : Pkt} {b : Bool} (hb : pktOk W H p = b) (h : ¬ ((1 ≤ p.id ∧ p.id ≤ 9999) ∧ hasG W H p.fr = true ∧ hasG W H p.to = true ∧ p.fr ≠ p.to ∧ (0 ≤ p.cl ∧ p.cl ≤ 1) ∧ (1 ≤ p.ln ∧ p.ln ≤ 5))) : false = b := by
  subst hb
  cases hk : pktOk W H p with
  | false => rfl
  | true => exact absurd (pktOk_iff.1 hk) h

set_option maxHeartbeats 1600000 in
theorem implPacketOkV (W H : Int) (p : Pkt) (b : Bool) (hb : pktOk W H p = b) (w : World) :
    Calls Tryz.prog 84 #[.agg #[.int .i64 W, .int .i64 H], pktX p] w (RetB b w) := by
  have X0 := Lib.hid (pkAt_start (W := W) (H := H) (p := p) (w := w))
  unfold pktX
  have HHS := Lib.hid (fun (n : Int) (b : Bool) (h : hasG W H n = b) w => hasNV W H n b h w)
  have HBAD := Lib.hid (pk_bad hb)
  have HB := Lib.hid hb
  clear hb
  obtain ⟨a0, a1, a2, a3, a4, a5, a6⟩ := X0.out.cells
  cases hb2 : hasG W H p.fr with
  | false =>
    have C1 := Lib.hid (HHS.out p.fr false hb2)
    have R := Lib.hid (HBAD.out (by rw [hb2]; simp))
    clear hb2
    go_enter Tryz.func84, Tryz.ntmps84
    go_wp2_with fail
    refine (C1.out _).mono ?_
    rintro e w2 ⟨rfl, g2⟩
    have X2 := Lib.hid (X0.out.gb g2)
    clear g2 a0 a1 a2 a3 a4 a5 a6
    go_wp2_with fail
    go_ret
    exact ⟨ret_bool R.out, X2.out.gb0⟩
  | true =>
    have C1 := Lib.hid (HHS.out p.fr true hb2)
    cases hb3 : hasG W H p.to with
    | false =>
      have C2 := Lib.hid (HHS.out p.to false hb3)
      have R := Lib.hid (HBAD.out (by rw [hb3]; simp))
      clear hb2 hb3
      go_enter Tryz.func84, Tryz.ntmps84
      go_wp2_with fail
      refine (C1.out _).mono ?_
      rintro e w2 ⟨rfl, g2⟩
      have X2 := Lib.hid (X0.out.gb g2)
      clear g2 a0 a1 a2 a3 a4 a5 a6
      obtain ⟨a0, a1, a2, a3, a4, a5, a6⟩ := X2.out.cells
      go_wp2_with fail
      refine (C2.out _).mono ?_
      rintro e w3 ⟨rfl, g3⟩
      have X3 := Lib.hid (X2.out.gb g3)
      clear g3 a0 a1 a2 a3 a4 a5 a6
      go_wp2_with fail
      go_ret
      exact ⟨ret_bool R.out, X3.out.gb0⟩
    | true =>
      have C2 := Lib.hid (HHS.out p.to true hb3)
      by_cases hb4 : p.fr = p.to
      · have R := Lib.hid (HBAD.out (fun h => h.2.2.2.1 hb4))
        have q4 : (p.fr == p.to) = true := by simp [hb4]
        clear hb2 hb3 hb4
        go_enter Tryz.func84, Tryz.ntmps84
        go_wp2_with fail
        refine (C1.out _).mono ?_
        rintro e w2 ⟨rfl, g2⟩
        have X2 := Lib.hid (X0.out.gb g2)
        clear g2 a0 a1 a2 a3 a4 a5 a6
        obtain ⟨a0, a1, a2, a3, a4, a5, a6⟩ := X2.out.cells
        go_wp2_with fail
        refine (C2.out _).mono ?_
        rintro e w3 ⟨rfl, g3⟩
        have X3 := Lib.hid (X2.out.gb g3)
        clear g3 a0 a1 a2 a3 a4 a5 a6
        obtain ⟨a0, a1, a2, a3, a4, a5, a6⟩ := X3.out.cells
        go_wp2_with fail
        go_ret
        exact ⟨ret_bool R.out, X3.out.gb0⟩
      · have q4 : (p.fr == p.to) = false := by simpa using hb4
        obtain ⟨bc, hbc⟩ : ∃ bc, decide (0 ≤ p.cl ∧ p.cl ≤ 1) = bc := ⟨_, rfl⟩
        have C3 := Lib.hid (implIsClass p.cl bc hbc)
        have R := Lib.hid (show (decide (1 ≤ p.id) && (decide (p.id ≤ 9999) && (bc && (decide (1 ≤ p.ln) && decide (p.ln ≤ 5))))) = b by
          rw [← HB.out, pktOk, hb2, hb3, ← hbc, decide_eq_true hb4]
          exact Bool.eq_iff_iff.2 (by simp; omega))
        clear hb2 hb3 hb4 hbc
        by_cases i1 : p.id ≥ 1 <;> by_cases i2 : p.id ≤ 9999 <;> cases bc <;> by_cases i3 : p.ln ≥ 1 <;> by_cases i4 : p.ln ≤ 5
        all_goals first | (exfalso; omega) | skip
        all_goals
          have R2 := Lib.hid (show b = _ from by have h := R.out; simp [i1, i2, i3, i4] at h; exact h)
          clear R
          go_enter Tryz.func84, Tryz.ntmps84
          go_wp2_with fail
          refine (C1.out _).mono ?_
          rintro e w2 ⟨rfl, g2⟩
          have X2 := Lib.hid (X0.out.gb g2)
          clear g2 a0 a1 a2 a3 a4 a5 a6
          obtain ⟨a0, a1, a2, a3, a4, a5, a6⟩ := X2.out.cells
          go_wp2_with fail
          refine (C2.out _).mono ?_
          rintro e w3 ⟨rfl, g3⟩
          have X3 := Lib.hid (X2.out.gb g3)
          clear g3 a0 a1 a2 a3 a4 a5 a6
          obtain ⟨a0, a1, a2, a3, a4, a5, a6⟩ := X3.out.cells
          go_wp2_with fail
          try
            refine (C3.out _).mono ?_
            rintro e w4 ⟨rfl, rfl⟩
            go_wp2_with fail
          go_ret
          exact ⟨ret_bool (by rw [R2.out]; first | done | (simp; done) | (simp; omega)), X3.out.gb0⟩
theorem implPacketOk (W H : Int) (p : Pkt) (w : World) :
    Calls Tryz.prog 84 #[.agg #[.int .i64 W, .int .i64 H], pktX p] w (RetB (pktOk W H p) w) := implPacketOkV W H p _ rfl w

set_option maxHeartbeats 1600000 in
theorem implFlitsOf (W H : Int) (p : Pkt) (w : World) :
    Calls Tryz.prog 65 #[.agg #[.int .i64 W, .int .i64 H], pktX p] w (NewF (flitsG W H p) w) := by
  obtain ⟨i0, hi, hz0, hz1, hz2⟩ := info_parts info_flt
  have X0 := Lib.hid (pkAt_start (W := W) (H := H) (p := p) (w := w))
  unfold pktX
  obtain ⟨a0, a1, a2, a3, a4, a5, a6⟩ := X0.out.cells
  cases hok : pktOk W H p with
  | false =>
    have HP := Lib.hid (fun w => implPacketOkV W H p false hok w)
    rw [flitsG_no hok]
    clear hok
    go_enter Tryz.func65, Tryz.ntmps65
    go_wp2_with fail
    refine (HP.out _).mono ?_
    rintro e w1 ⟨rfl, g1⟩
    have X1 := Lib.hid (X0.out.gb g1)
    clear g1 a0 a1 a2 a3 a4 a5 a6
    go_wp2_with fail
    go_ret
    exact ⟨_, rfl, World.ownsRow_nil _ _ _ _, gb_below_none X1.out.gb0 (Nat.le_refl _)⟩
  | true =>
    have HP := Lib.hid (fun w => implPacketOkV W H p true hok w)
    rw [flitsG_yes hok]
    have hln := (pktOk_iff.1 hok).2.2.2.2.2
    obtain ⟨m, hm⟩ : ∃ m : Nat, p.ln.toNat = m := ⟨_, rfl⟩
    have hmi : p.ln = (m : Int) := by omega
    have hm5 : m ≤ 5 := by omega
    have hm1 : 1 ≤ m := by omega
    have HFA := Lib.hid (fun k => show flitAt p k = ⟨p.id, p.to, p.cl, decide (k = 0), decide ((k : Int) = (m : Int) - 1)⟩ by rw [flitAt, hmi])
    rw [hm]
    have HMI := Lib.hid hmi
    rw [hmi] at a6
    clear hok hln hm hmi
    go_enter Tryz.func65, Tryz.ntmps65
    go_wp2_with fail
    refine (HP.out _).mono ?_
    rintro e w1 ⟨rfl, g1⟩
    have X1 := Lib.hid (X0.out.gb g1)
    clear g1 a0 a1 a2 a3 a4 a5 a6
    obtain ⟨a0, a1, a2, a3, a4, a5, a6⟩ := X1.out.cells
    rw [HMI.out] at a6
    go_wp2_with (at_make; refine wpList_make_full _ rfl _ _ 92 rfl w.heap.size 95 i0 (fltX flt0) 5 Tryz.underlying92 hi hz0 hz1 .i64 .i64 _ _ m rfl rfl (by omega) (by omega) (by rw [hz2]; omega) (by unfold maxLen; omega) X1.out.gb0.size ?_; intro w2 hown2 hgrow2)
    have ho2 : w2.ownsRow w.heap.size 95 5 (.slice (some ⟨w1.heap.size, 0, none⟩) m m) m (recV fltC (fillF (flitsTo p m) m 0)) := by rw [fillF_zero, ← madeFlts m]; exact hown2
    have HO2 := Lib.hid ho2
    have X2 := Lib.hid (X1.out.gb hgrow2)
    have HF := Lib.hid (fun (k : Nat) (h : k < m) => show (fillF (flitsTo p m) m k).set k ⟨p.id, p.to, p.cl, decide (k = 0), decide ((k : Int) = (m : Int) - 1)⟩ = fillF (flitsTo p m) m (k + 1) by rw [← HFA.out]; exact fillF_next _ _ _ _ (flitsTo_at h))
    have HA := Lib.hid (show fillF (flitsTo p m) m m = flitsTo p m from fillF_all _ _ (flitsTo_length p m))
    obtain ⟨g, hgg⟩ : ∃ g, w1.heap.size = g := ⟨_, rfl⟩
    have hg2 : w.heap.size + 2 ≤ g := by have := X1.out.p.lt; omega
    rw [hgg] at HO2 ⊢
    have e1 : IntKind.i64.wrap ((m : Int) - 1) = (m : Int) - 1 := IntWalk.i64_in _ (by omega)
    clear hown2 hgrow2 ho2 a0 a1 a2 a3 a4 a5 a6 hgg HP
    go_loopw [6, 16] (fun _ i wr => ∃ k : Nat, k ≤ m ∧ i = .int .i64 (k : Int) ∧ wr.ownsRow w.heap.size 95 5 (.slice (some ⟨g, 0, none⟩) m m) m (recV fltC (fillF (flitsTo p m) m k)) ∧ Blk wr (w.heap.size + 1) 65 #[.int .i64 p.id, .int .i64 p.fr, .int .i64 p.to, .int .i64 p.cl, .int .i64 p.ln] ∧ Below w.heap.size w wr) (fun _ i _ => m - (intOf i).toNat)
    case atStart => exact ⟨0, Nat.zero_le _, rfl, HO2.out, X2.out.p, gb_below_none X2.out.gb0 (Nat.le_refl _)⟩
    case round =>
      obtain ⟨k, hk, rfl, hown, hp, hbel⟩ := hrel
      have HB := Lib.hid hbel
      have HO := Lib.hid hown
      have HP := Lib.hid hp
      by_cases hlt : k < m
      · have b2 : wr.cell? ⟨w.heap.size + 1, 0, none⟩ = some (.int .i64 p.id) := hp.cell 0
        have b4 : wr.cell? ⟨w.heap.size + 1, 2, none⟩ = some (.int .i64 p.to) := hp.cell 2
        have b5 : wr.cell? ⟨w.heap.size + 1, 3, none⟩ = some (.int .i64 p.cl) := hp.cell 3
        have b6 : wr.cell? ⟨w.heap.size + 1, 4, none⟩ = some (.int .i64 (m : Int)) := by rw [← HMI.out]; exact hp.cell 4
        have k0 : (0 : Int) ≤ (k : Int) := by omega
        have k1 : (k : Int) < (m : Int) := by omega
        obtain ⟨t1, ht1⟩ : ∃ t, decide (k = 0) = t := ⟨_, rfl⟩
        obtain ⟨t2, ht2⟩ : ∃ t, decide ((k : Int) = (m : Int) - 1) = t := ⟨_, rfl⟩
        have u1 : ((k : Int) == 0) = t1 := by rw [← ht1]; by_cases h : k = 0 <;> simp [h]
        have u2 : ((k : Int) == (m : Int) - 1) = t2 := by rw [← ht2]; by_cases h : (k : Int) = (m : Int) - 1 <;> simp [h]
        have HFk := Lib.hid (show (fillF (flitsTo p m) m k).set k ⟨p.id, p.to, p.cl, t1, t2⟩ = fillF (flitsTo p m) m (k + 1) by rw [← ht1, ← ht2]; exact HF.out k hlt)
        have hsz5 : (#[.int .i64 p.id, .int .i64 p.to, .int .i64 p.cl, .bool t1, .bool t2] : Array Value).size = 5 := rfl
        have HTH := Lib.hid (show wr.there g (k * 5) (#[.int .i64 p.id, .int .i64 p.to, .int .i64 p.cl, .bool t1, .bool t2] : Array Value).size by rw [hsz5]; exact there_ownF HO.out hlt)
        clear hown hbel hp hsz5 ht1 ht2
        go_wp2_with (refine wpList_store_mid rfl 95 (.tmp 35) (.tmp 34) rfl g (k * 5) #[.int .i64 p.id, .int .i64 p.to, .int .i64 p.cl, .bool t1, .bool t2] ?_ ?_ ?_ ?_ ?_ ?_; rfl; rfl; exact HTH.out; (rw [hi]; simp [hz1]); (simp [Value.oneCell']))
        have X5 := Lib.hid (stored_ownF HO.out k ⟨p.id, p.to, p.cl, t1, t2⟩)
        have O5 := Lib.hid (show (wr.setCells g (k * 5) [.int .i64 p.id, .int .i64 p.to, .int .i64 p.cl, .bool t1, .bool t2]).ownsRow w.heap.size 95 5 (.slice (some ⟨g, 0, none⟩) m m) m (recV fltC (fillF (flitsTo p m) m (k + 1))) by rw [← HFk.out]; exact X5.out.1)
        have P5 := Lib.hid (HP.out.grown X5.out.2 (by simp; omega))
        have B5 := Lib.hid (HB.out.grown X5.out.2 HB.out.size (fun j e => by cases e; omega))
        go_roundw
        case rel => exact ⟨k + 1, by omega, by go_num, O5.out, P5.out, B5.out⟩
        case measure => simp [intOf]; omega
      · obtain rfl : k = m := by omega
        have k1 : ¬ (k : Int) < (k : Int) := by omega
        clear hown hbel hp
        go_wp2_with fail
        go_ret
        have h3 := HO.out
        rw [HA.out] at h3
        exact ⟨_, rfl, by rw [flitsTo_length]; exact h3, HB.out⟩
end Go.Proofs.YtfloekbmgjmhbaaGreat
end

section
namespace Go.Proofs.YtfloekbmgjmhbaaGreat
open Go.ChangeShapes Go.WideShapes Go.ChangeAt Go.RowKit
set_option linter.unusedVariables false
set_option maxRecDepth 20000

set_option maxHeartbeats 3200000 in
theorem implSend (y : Na) (N : Nt) (p : Pkt) (g0 base E : Nat) (w : World) (hbx : Blk w g0 45 #[.int .i64 N.W, .int .i64 N.H, .slice y.br.A N.br.length y.br.c, .slice y.ta.A N.ta.length y.ta.c, .slice y.tb.A N.tb.length y.tb.c, .slice y.bu.A N.bu.length y.bu.c, .slice y.ow.A N.ow.length y.ow.c, .slice y.tu.A N.tu.length y.tu.c, .slice y.so.A N.so.length y.so.c, .slice y.ar.A N.ar.length y.ar.c, .int .i64 N.ti]) (hr : NetOwn w base E y N) (hok : netOk N = true) (hbs : base ≤ w.heap.size) (hEs : E ≤ w.heap.size) :
    Calls Tryz.prog 30 #[.pointer (some ⟨g0, 0, none⟩), .agg #[.int .i64 p.id, .int .i64 p.fr, .int .i64 p.to, .int .i64 p.cl, .int .i64 p.ln]] w fun e w' => e = .returned (.bool (sendOk N p)) ∧ NetOwn w' base w'.heap.size y (sendG N p) ∧ KeptN base w w' := by
  obtain ⟨D, hD⟩ : ∃ D, flitsG N.W N.H p = D := ⟨_, rfl⟩
  have HFO := Lib.hid (fun w' => by have h := implFlitsOf N.W N.H p w'; rw [hD] at h; exact h)
  have k0 := hbx.alloc (.cells #[.int .i64 p.id, .int .i64 p.fr, .int .i64 p.to, .int .i64 p.cl, .int .i64 p.ln] 65)
  have k1 := Blk.new w 65 #[.int .i64 p.id, .int .i64 p.fr, .int .i64 p.to, .int .i64 p.cl, .int .i64 p.ln]
  have ge := gb_alloc (gb_refl w none) (.cells #[.int .i64 p.id, .int .i64 p.fr, .int .i64 p.to, .int .i64 p.cl, .int .i64 p.ln] 65)
  have hsz : (w.alloc (.cells #[.int .i64 p.id, .int .i64 p.fr, .int .i64 p.to, .int .i64 p.cl, .int .i64 p.ln] 65)).heap.size = w.heap.size + 1 := by rw [alloc_size]
  have hlt := hbx.lt
  go_enter Tryz.func30, Tryz.ntmps30
  go_wp2_with fail
  generalize w.alloc (.cells #[.int .i64 p.id, .int .i64 p.fr, .int .i64 p.to, .int .i64 p.cl, .int .i64 p.ln] 65) = w0 at *
  have KB : Hid (Blk w0 g0 45 #[.int .i64 N.W, .int .i64 N.H, .slice y.br.A N.br.length y.br.c, .slice y.ta.A N.ta.length y.ta.c, .slice y.tb.A N.tb.length y.tb.c, .slice y.bu.A N.bu.length y.bu.c, .slice y.ow.A N.ow.length y.ow.c, .slice y.tu.A N.tu.length y.tu.c, .slice y.so.A N.so.length y.so.c, .slice y.ar.A N.ar.length y.ar.c, .int .i64 N.ti]) := Lib.hid k0
  have KP : Hid (Blk w0 w.heap.size 65 #[.int .i64 p.id, .int .i64 p.fr, .int .i64 p.to, .int .i64 p.cl, .int .i64 p.ln]) := Lib.hid k1
  have GE := Lib.hid ge
  have SZ := Lib.hid hsz
  have HR := Lib.hid (hr.gb ge)
  have HDD := Lib.hid hD
  have CB := Lib.hid (show ∀ wr, w0.grownBy wr none → wr.cell? ⟨g0, 0, none⟩ = some (.int .i64 N.W) ∧ wr.cell? ⟨g0, 1, none⟩ = some (.int .i64 N.H) ∧ wr.cell? ⟨g0, 8, none⟩ = some (.slice y.so.A N.so.length y.so.c) ∧ wr.cell? ⟨w.heap.size, 0, none⟩ = some (.int .i64 p.id) ∧ wr.cell? ⟨w.heap.size, 1, none⟩ = some (.int .i64 p.fr) ∧ wr.cell? ⟨w.heap.size, 2, none⟩ = some (.int .i64 p.to) ∧ wr.cell? ⟨w.heap.size, 3, none⟩ = some (.int .i64 p.cl) ∧ wr.cell? ⟨w.heap.size, 4, none⟩ = some (.int .i64 p.ln) from fun wr hg => by
    have ga := KB.out.grown hg (by simp)
    have gb := KP.out.grown hg (by simp)
    exact ⟨ga.cell 0, ga.cell 1, ga.cell 8, gb.cell 0, gb.cell 1, gb.cell 2, gb.cell 3, gb.cell 4⟩)
  clear k0 k1 ge hsz hr hbx
  obtain ⟨a0, a1, a8, p0, p1, p2, p3, p4⟩ := CB.out w0 (gb_refl _ _)
  refine wp_region_held_drew (S := (fun w' => w'.cell? ⟨g0, 0, none⟩ = some (.int .i64 N.W) ∧ w'.cell? ⟨g0, 1, none⟩ = some (.int .i64 N.H) ∧ w'.cell? ⟨g0, 8, none⟩ = some (.slice y.so.A N.so.length y.so.c) ∧ w'.cell? ⟨w.heap.size, 0, none⟩ = some (.int .i64 p.id) ∧ w'.cell? ⟨w.heap.size, 1, none⟩ = some (.int .i64 p.fr) ∧ w'.cell? ⟨w.heap.size, 2, none⟩ = some (.int .i64 p.to) ∧ w'.cell? ⟨w.heap.size, 3, none⟩ = some (.int .i64 p.cl) ∧ w'.cell? ⟨w.heap.size, 4, none⟩ = some (.int .i64 p.ln))) (by kernel_rfl) (⟨a0, a1, a8, p0, p1, p2, p3, p4⟩) (fun hHeld => ?_)
  refine wpAnyH_take (i := 0) (v := ?_) rfl (by kernel_rfl) (by kernel_rfl) (by kernel_rfl) (fun _ _ _ h => h) (Or.inl ⟨by rfl, ?_⟩) (by assumption) ?_
  rotate_left
  · intro wq hSw; (try dsimp only at hSw); go_simp; (try with_reducible rfl)
  simp only [List.getElem_toArray, List.getElem_cons_zero, Act.put, List.setIfInBounds_toArray, List.set_cons_zero, List.set_cons_succ]
  refine wpAnyH_take (i := 1) (v := ?_) rfl (by kernel_rfl) (by kernel_rfl) (by kernel_rfl) (fun _ _ _ h => h) (Or.inl ⟨by rfl, ?_⟩) (by assumption) ?_
  rotate_left
  · intro wq hSw; (try dsimp only at hSw); go_simp; (try with_reducible rfl)
  simp only [List.getElem_toArray, List.getElem_cons_succ, List.getElem_cons_zero, Act.put, List.setIfInBounds_toArray, List.set_cons_zero, List.set_cons_succ]
  refine wpAnyH_take (i := 2) (v := ?_) rfl (by kernel_rfl) (by kernel_rfl) (by kernel_rfl) (fun _ _ _ h => h) (Or.inl ⟨by rfl, ?_⟩) (by assumption) ?_
  rotate_left
  · intro wq hSw; (try dsimp only at hSw); go_simp; (try with_reducible rfl)
  simp only [List.getElem_toArray, List.getElem_cons_succ, List.getElem_cons_zero, Act.put, List.setIfInBounds_toArray, List.set_cons_zero, List.set_cons_succ]
  refine wpAnyH_take (i := 3) (v := ?_) rfl (by kernel_rfl) (by kernel_rfl) (by kernel_rfl) (fun _ _ _ h => h) (Or.inl ⟨by rfl, ?_⟩) (by assumption) ?_
  rotate_left
  · intro wq hSw; (try dsimp only at hSw); go_simp; (try with_reducible rfl)
  simp only [List.getElem_toArray, List.getElem_cons_succ, List.getElem_cons_zero, Act.put, List.setIfInBounds_toArray, List.set_cons_zero, List.set_cons_succ]
  refine wpAnyH_take (i := 4) (v := ?_) rfl (by kernel_rfl) (by kernel_rfl) (by kernel_rfl) (fun _ _ _ h => h) (Or.inl ⟨by rfl, ?_⟩) (by assumption) ?_
  rotate_left
  · intro wq hSw; (try dsimp only at hSw); go_simp; (try with_reducible rfl)
  simp only [List.getElem_toArray, List.getElem_cons_succ, List.getElem_cons_zero, Act.put, List.setIfInBounds_toArray, List.set_cons_zero, List.set_cons_succ]
  refine wpAnyH_take (i := 5) (v := ?_) rfl (by kernel_rfl) (by kernel_rfl) (by kernel_rfl) (fun _ _ _ h => h) (Or.inl ⟨by rfl, ?_⟩) (by assumption) ?_
  rotate_left
  · intro wq hSw; (try dsimp only at hSw); go_simp; (try with_reducible rfl)
  simp only [List.getElem_toArray, List.getElem_cons_succ, List.getElem_cons_zero, Act.put, List.setIfInBounds_toArray, List.set_cons_zero, List.set_cons_succ]
  refine wpAnyH_ready (rs := [6]) (by kernel_rfl) (by simp) ?_
  refine AllReadyH.cons rfl (fun K hK => ?_) AllReadyH.nil
  go_simp
  refine (HFO.out _).mono ?_; rintro e w1 ⟨v, rfl, o1, b1⟩; obtain ⟨A1, c1, rfl, _⟩ := own_form o1; have G1 := Lib.hid (gb_drF (gb_of_below b1 none)); have RD := Lib.hid (recAt_own fltL (by decide) o1 (Nat.le_refl _)); clear o1 b1; obtain ⟨d0, d1, d8, q0, q1, q2, q3, q4⟩ := CB.out _ G1.out
  try go_wp2_with fail
  refine hK.out _ _ (⟨d0, d1, d8, q0, q1, q2, q3, q4⟩) (fun hHeld => ?_)
  clear hK K
  try simp only [List.getElem_toArray, List.getElem_cons_succ, List.getElem_cons_zero, Act.put, List.setIfInBounds_toArray, List.set_cons_zero, List.set_cons_succ]
  refine wpAnyH_take (i := 7) (v := ?_) rfl (by kernel_rfl) (by kernel_rfl) (by kernel_rfl) (fun _ _ _ h => h) (Or.inl ⟨by rfl, ?_⟩) (by assumption) ?_
  rotate_left
  · intro wq hSw; (try dsimp only at hSw); go_simp; (try with_reducible rfl)
  simp only [List.getElem_toArray, List.getElem_cons_succ, List.getElem_cons_zero, Act.put, List.setIfInBounds_toArray, List.set_cons_zero, List.set_cons_succ]
  refine wpAnyH_done (by kernel_rfl) ?_ _
  go_wp2_with fail
  have HR1 := Lib.hid (HR.out.gb G1.out)
  have S1 := Lib.hid G1.out.size
  have HBW := Lib.hid (show base ≤ w1.heap.size by have h1 := S1.out; have h2 := SZ.out; omega)
  clear a0 a1 a8 p0 p1 p2 p3 p4
  cases hpk : pktOk N.W N.H p with
  | false =>
    have HNO := Lib.hid (show sendOk N p = false by rw [sendOk, hok, hpk]; rfl)
    obtain rfl : D = [] := by rw [← hD]; exact flitsG_no hpk
    clear d0 d1 d8 q0 q1 q2 q3 q4
    clear hD hpk hok
    refine wp_region_held_drew (S := (fun _ => True)) (by kernel_rfl) (trivial) (fun hHeld => ?_)
    refine wpAnyH_take (i := 0) (v := ?_) rfl (by kernel_rfl) (by kernel_rfl) (by kernel_rfl) (fun _ _ _ h => h) (Or.inl ⟨by rfl, ?_⟩) (by assumption) ?_
    rotate_left
    · intro wq hSw; (try dsimp only at hSw); go_simp; (try with_reducible rfl)
    simp only [List.getElem_toArray, List.getElem_cons_zero, Act.put, List.setIfInBounds_toArray, List.set_cons_zero, List.set_cons_succ]
    refine wpAnyH_take (i := 1) (v := ?_) rfl (by kernel_rfl) (by kernel_rfl) (by kernel_rfl) (fun _ _ _ h => h) (Or.inl ⟨by rfl, ?_⟩) (by assumption) ?_
    rotate_left
    · intro wq hSw; (try dsimp only at hSw); go_simp; (try with_reducible rfl)
    simp only [List.getElem_toArray, List.getElem_cons_succ, List.getElem_cons_zero, Act.put, List.setIfInBounds_toArray, List.set_cons_zero, List.set_cons_succ]
    refine wpAnyH_take (i := 2) (v := ?_) rfl (by kernel_rfl) (by kernel_rfl) (by kernel_rfl) (fun _ _ _ h => h) (Or.inl ⟨by rfl, ?_⟩) (by assumption) ?_
    rotate_left
    · intro wq hSw; (try dsimp only at hSw); go_simp; (try with_reducible rfl)
    simp only [List.getElem_toArray, List.getElem_cons_succ, List.getElem_cons_zero, Act.put, List.setIfInBounds_toArray, List.set_cons_zero, List.set_cons_succ]
    refine wpAnyH_take (i := 3) (v := ?_) rfl (by kernel_rfl) (by kernel_rfl) (by kernel_rfl) (fun _ _ _ h => h) (Or.inl ⟨by rfl, ?_⟩) (by assumption) ?_
    rotate_left
    · intro wq hSw; (try dsimp only at hSw); go_simp; (try with_reducible rfl)
    simp only [List.getElem_toArray, List.getElem_cons_succ, List.getElem_cons_zero, Act.put, List.setIfInBounds_toArray, List.set_cons_zero, List.set_cons_succ]
    refine wpAnyH_take (i := 4) (v := undef) rfl (by kernel_rfl) (by kernel_rfl) (by kernel_rfl) (fun _ _ _ h => h) (Or.inr ⟨by rfl, rfl⟩) (by assumption) ?_
    simp only [List.getElem_toArray, List.getElem_cons_succ, List.getElem_cons_zero, Act.put, List.setIfInBounds_toArray, List.set_cons_zero, List.set_cons_succ]
    refine wpAnyH_take (i := 5) (v := undef) rfl (by kernel_rfl) (by kernel_rfl) (by kernel_rfl) (fun _ _ _ h => h) (Or.inr ⟨by rfl, rfl⟩) (by assumption) ?_
    simp only [List.getElem_toArray, List.getElem_cons_succ, List.getElem_cons_zero, Act.put, List.setIfInBounds_toArray, List.set_cons_zero, List.set_cons_succ]
    refine wpAnyH_take (i := 6) (v := undef) rfl (by kernel_rfl) (by kernel_rfl) (by kernel_rfl) (fun _ _ _ h => h) (Or.inr ⟨by rfl, rfl⟩) (by assumption) ?_
    simp only [List.getElem_toArray, List.getElem_cons_succ, List.getElem_cons_zero, Act.put, List.setIfInBounds_toArray, List.set_cons_zero, List.set_cons_succ]
    refine wpAnyH_take (i := 7) (v := undef) rfl (by kernel_rfl) (by kernel_rfl) (by kernel_rfl) (fun _ _ _ h => h) (Or.inr ⟨by rfl, rfl⟩) (by assumption) ?_
    simp only [List.getElem_toArray, List.getElem_cons_succ, List.getElem_cons_zero, Act.put, List.setIfInBounds_toArray, List.set_cons_zero, List.set_cons_succ]
    refine wpAnyH_take (i := 8) (v := undef) rfl (by kernel_rfl) (by kernel_rfl) (by kernel_rfl) (fun _ _ _ h => h) (Or.inr ⟨by rfl, rfl⟩) (by assumption) ?_
    simp only [List.getElem_toArray, List.getElem_cons_succ, List.getElem_cons_zero, Act.put, List.setIfInBounds_toArray, List.set_cons_zero, List.set_cons_succ]
    refine wpAnyH_take (i := 9) (v := undef) rfl (by kernel_rfl) (by kernel_rfl) (by kernel_rfl) (fun _ _ _ h => h) (Or.inr ⟨by rfl, rfl⟩) (by assumption) ?_
    simp only [List.getElem_toArray, List.getElem_cons_succ, List.getElem_cons_zero, Act.put, List.setIfInBounds_toArray, List.set_cons_zero, List.set_cons_succ]
    refine wpAnyH_take (i := 10) (v := undef) rfl (by kernel_rfl) (by kernel_rfl) (by kernel_rfl) (fun _ _ _ h => h) (Or.inr ⟨by rfl, rfl⟩) (by assumption) ?_
    simp only [List.getElem_toArray, List.getElem_cons_succ, List.getElem_cons_zero, Act.put, List.setIfInBounds_toArray, List.set_cons_zero, List.set_cons_succ]
    refine wpAnyH_take (i := 11) (v := undef) rfl (by kernel_rfl) (by kernel_rfl) (by kernel_rfl) (fun _ _ _ h => h) (Or.inr ⟨by rfl, rfl⟩) (by assumption) ?_
    simp only [List.getElem_toArray, List.getElem_cons_succ, List.getElem_cons_zero, Act.put, List.setIfInBounds_toArray, List.set_cons_zero, List.set_cons_succ]
    refine wpAnyH_take (i := 12) (v := undef) rfl (by kernel_rfl) (by kernel_rfl) (by kernel_rfl) (fun _ _ _ h => h) (Or.inr ⟨by rfl, rfl⟩) (by assumption) ?_
    simp only [List.getElem_toArray, List.getElem_cons_succ, List.getElem_cons_zero, Act.put, List.setIfInBounds_toArray, List.set_cons_zero, List.set_cons_succ]
    refine wpAnyH_take (i := 13) (v := ?_) rfl (by kernel_rfl) (by kernel_rfl) (by kernel_rfl) (fun _ _ _ h => h) (Or.inl ⟨by rfl, ?_⟩) (by assumption) ?_
    rotate_left
    · intro wq hSw; (try dsimp only at hSw); go_simp; (try with_reducible rfl)
    simp only [List.getElem_toArray, List.getElem_cons_succ, List.getElem_cons_zero, Act.put, List.setIfInBounds_toArray, List.set_cons_zero, List.set_cons_succ]
    refine wpAnyH_take (i := 14) (v := ?_) rfl (by kernel_rfl) (by kernel_rfl) (by kernel_rfl) (fun _ _ _ h => h) (Or.inl ⟨by rfl, ?_⟩) (by assumption) ?_
    rotate_left
    · intro wq hSw; (try dsimp only at hSw); go_simp; (try with_reducible rfl)
    simp only [List.getElem_toArray, List.getElem_cons_succ, List.getElem_cons_zero, Act.put, List.setIfInBounds_toArray, List.set_cons_zero, List.set_cons_succ]
    refine wpAnyH_done (by kernel_rfl) ?_ _
    go_wp2_with fail
    go_ret
    rw [HNO.out, sendG_no HNO.out]
    exact ⟨rfl, (HR1.out.gb (gb_drew (gb_refl _ none))).upto (by rw [drew_heap]; have h1 := S1.out; have h2 := SZ.out; omega), (keptN_gb base hbs (gb_drew (gb_trans GE.out G1.out)))⟩
  | true =>
    obtain ⟨hf0, hfl, hsrc⟩ := src_there hok hpk
    obtain ⟨f, hf⟩ : ∃ f : Nat, p.fr = (f : Int) := ⟨p.fr.toNat, by omega⟩
    have hft : p.fr.toNat = f := by omega
    rw [hft] at hfl hsrc
    have hX := Lib.hid (show sendOk N p = decide (((srcN N p).length : Int) + p.ln ≤ 60) by rw [sendOk, hok, hpk]; rfl)
    have hln := (pktOk_iff.1 hpk).2.2.2.2.2
    have hDl : (D.length : Int) = p.ln := by rw [← hD]; exact flitsG_length hpk
    have hso := netOk_so hok hsrc
    obtain ⟨vb, vs, va, hrw⟩ := HR1.out
    obtain ⟨A0, c0, hsl, hA0⟩ := own_form hrw.so.hd
    obtain ⟨hb, hhb⟩ := hA0 (by omega)
    have hzA : y.so.A = some ⟨hb, 0, none⟩ := by injection hsl with h1 h2 h3; rw [h1, hhb]
    rw [hzA] at d8
    rw [hf] at q1
    have f0 : (0 : Int) ≤ (f : Int) := by omega
    have f1 : (f : Int) < (N.so.length : Int) := by omega
    have hl0 : (0 : Int) < (D.length : Int) := by omega
    have HST := Lib.hid (show sendTo N p = {N with so := N.so.set f (srcN N p ++ D)} by rw [sendTo, hD, hft])
    have CS := Lib.hid (show ∀ wr, KeptN base w1 wr → wr.cell? ⟨g0, 8, none⟩ = some (.slice (some ⟨hb, 0, none⟩) N.so.length y.so.c) ∧ wr.cell? ⟨w.heap.size, 1, none⟩ = some (.int .i64 (f : Int)) from fun wr hk => by
      have ga := hk.k _ _ _ (by decide) (by decide) (KB.out.grown G1.out (by simp))
      have gb := hk.k _ _ _ (by decide) (by decide) (KP.out.grown G1.out (by simp))
      have c8 := ga.cell 8
      have c1 := gb.cell 1
      simp only [List.getElem?_toArray, List.getElem?_cons_zero, List.getElem?_cons_succ] at c8 c1
      rw [hzA] at c8
      rw [hf] at c1
      exact ⟨c8, c1⟩)
    obtain ⟨m, hm⟩ : ∃ m, D.length = m := ⟨_, rfl⟩
    have hm0 : 0 < m := by omega
    have hm1 : (0 : Int) < (m : Int) := by omega
    rw [hm]
    have s8 := d8
    have s1 := q1
    clear d0 d1 d8 q0 q1 q2 q3 q4
    by_cases hfit : (srcN N p).length + D.length ≤ 60
    · have HYE := Lib.hid (show sendOk N p = true by rw [hX.out]; exact decide_eq_true (by omega))
      have hE := implEnter_yes y N base E hb f c1 vb vs va A1 (srcN N p) D w1.drew (hrw.gb (gb_drew (gb_refl _ none))) hzA hsrc hfit (RD.out.more (Nat.le_refl _)) (by rw [drew_heap]; have h1 := S1.out; have h2 := SZ.out; omega)
      rw [hm] at hE
      have HE := Lib.hid hE
      clear hE hok hpk hf0 hfl hsrc hf hft hln hDl hso hrw hsl hA0 hhb hzA hfit hD hm hl0
      refine wp_region_held_drew (S := (fun w' => w'.cell? ⟨g0, 8, none⟩ = some (.slice (some ⟨hb, 0, none⟩) N.so.length y.so.c) ∧ w'.cell? ⟨w.heap.size, 1, none⟩ = some (.int .i64 (f : Int)))) (by kernel_rfl) (⟨s8, s1⟩) (fun hHeld => ?_)
      refine wpAnyH_take (i := 0) (v := ?_) rfl (by kernel_rfl) (by kernel_rfl) (by kernel_rfl) (fun _ _ _ h => h) (Or.inl ⟨by rfl, ?_⟩) (by assumption) ?_
      rotate_left
      · intro wq hSw; (try dsimp only at hSw); go_simp; (try with_reducible rfl)
      simp only [List.getElem_toArray, List.getElem_cons_zero, Act.put, List.setIfInBounds_toArray, List.set_cons_zero, List.set_cons_succ]
      refine wpAnyH_take (i := 1) (v := ?_) rfl (by kernel_rfl) (by kernel_rfl) (by kernel_rfl) (fun _ _ _ h => h) (Or.inl ⟨by rfl, ?_⟩) (by assumption) ?_
      rotate_left
      · intro wq hSw; (try dsimp only at hSw); go_simp; (try with_reducible rfl)
      simp only [List.getElem_toArray, List.getElem_cons_succ, List.getElem_cons_zero, Act.put, List.setIfInBounds_toArray, List.set_cons_zero, List.set_cons_succ]
      refine wpAnyH_take (i := 2) (v := ?_) rfl (by kernel_rfl) (by kernel_rfl) (by kernel_rfl) (fun _ _ _ h => h) (Or.inl ⟨by rfl, ?_⟩) (by assumption) ?_
      rotate_left
      · intro wq hSw; (try dsimp only at hSw); go_simp; (try with_reducible rfl)
      simp only [List.getElem_toArray, List.getElem_cons_succ, List.getElem_cons_zero, Act.put, List.setIfInBounds_toArray, List.set_cons_zero, List.set_cons_succ]
      refine wpAnyH_take (i := 3) (v := ?_) rfl (by kernel_rfl) (by kernel_rfl) (by kernel_rfl) (fun _ _ _ h => h) (Or.inl ⟨by rfl, ?_⟩) (by assumption) ?_
      rotate_left
      · intro wq hSw; (try dsimp only at hSw); go_simp; (try with_reducible rfl)
      simp only [List.getElem_toArray, List.getElem_cons_succ, List.getElem_cons_zero, Act.put, List.setIfInBounds_toArray, List.set_cons_zero, List.set_cons_succ]
      refine wpAnyH_take (i := 4) (v := ?_) rfl (by kernel_rfl) (by kernel_rfl) (by kernel_rfl) (fun _ _ _ h => h) (Or.inl ⟨by rfl, ?_⟩) (by assumption) ?_
      rotate_left
      · intro wq hSw; (try dsimp only at hSw); go_simp; (try with_reducible rfl)
      simp only [List.getElem_toArray, List.getElem_cons_succ, List.getElem_cons_zero, Act.put, List.setIfInBounds_toArray, List.set_cons_zero, List.set_cons_succ]
      refine wpAnyH_take (i := 5) (v := ?_) rfl (by kernel_rfl) (by kernel_rfl) (by kernel_rfl) (fun _ _ _ h => h) (Or.inl ⟨by rfl, ?_⟩) (by assumption) ?_
      rotate_left
      · intro wq hSw; (try dsimp only at hSw); go_simp; (try with_reducible rfl)
      simp only [List.getElem_toArray, List.getElem_cons_succ, List.getElem_cons_zero, Act.put, List.setIfInBounds_toArray, List.set_cons_zero, List.set_cons_succ]
      refine wpAnyH_take (i := 6) (v := ?_) rfl (by kernel_rfl) (by kernel_rfl) (by kernel_rfl) (fun _ _ _ h => h) (Or.inl ⟨by rfl, ?_⟩) (by assumption) ?_
      rotate_left
      · intro wq hSw; (try dsimp only at hSw); go_simp; (try with_reducible rfl)
      simp only [List.getElem_toArray, List.getElem_cons_succ, List.getElem_cons_zero, Act.put, List.setIfInBounds_toArray, List.set_cons_zero, List.set_cons_succ]
      refine wpAnyH_take (i := 7) (v := ?_) rfl (by kernel_rfl) (by kernel_rfl) (by kernel_rfl) (fun _ _ _ h => h) (Or.inl ⟨by rfl, ?_⟩) (by assumption) ?_
      rotate_left
      · intro wq hSw; (try dsimp only at hSw); go_simp; (try with_reducible rfl)
      simp only [List.getElem_toArray, List.getElem_cons_succ, List.getElem_cons_zero, Act.put, List.setIfInBounds_toArray, List.set_cons_zero, List.set_cons_succ]
      refine wpAnyH_take (i := 8) (v := ?_) rfl (by kernel_rfl) (by kernel_rfl) (by kernel_rfl) (fun _ _ _ h => h) (Or.inl ⟨by rfl, ?_⟩) (by assumption) ?_
      rotate_left
      · intro wq hSw; (try dsimp only at hSw); go_simp; (try with_reducible rfl)
      simp only [List.getElem_toArray, List.getElem_cons_succ, List.getElem_cons_zero, Act.put, List.setIfInBounds_toArray, List.set_cons_zero, List.set_cons_succ]
      refine wpAnyH_take (i := 9) (v := ?_) rfl (by kernel_rfl) (by kernel_rfl) (by kernel_rfl) (fun _ _ _ h => h) (Or.inl ⟨by rfl, ?_⟩) (by assumption) ?_
      rotate_left
      · intro wq hSw; (try dsimp only at hSw); go_simp; (try with_reducible rfl)
      simp only [List.getElem_toArray, List.getElem_cons_succ, List.getElem_cons_zero, Act.put, List.setIfInBounds_toArray, List.set_cons_zero, List.set_cons_succ]
      refine wpAnyH_take (i := 10) (v := ?_) rfl (by kernel_rfl) (by kernel_rfl) (by kernel_rfl) (fun _ _ _ h => h) (Or.inl ⟨by rfl, ?_⟩) (by assumption) ?_
      rotate_left
      · intro wq hSw; (try dsimp only at hSw); go_simp; (try with_reducible rfl)
      simp only [List.getElem_toArray, List.getElem_cons_succ, List.getElem_cons_zero, Act.put, List.setIfInBounds_toArray, List.set_cons_zero, List.set_cons_succ]
      refine wpAnyH_take (i := 11) (v := ?_) rfl (by kernel_rfl) (by kernel_rfl) (by kernel_rfl) (fun _ _ _ h => h) (Or.inl ⟨by rfl, ?_⟩) (by assumption) ?_
      rotate_left
      · intro wq hSw; (try dsimp only at hSw); go_simp; (try with_reducible rfl)
      simp only [List.getElem_toArray, List.getElem_cons_succ, List.getElem_cons_zero, Act.put, List.setIfInBounds_toArray, List.set_cons_zero, List.set_cons_succ]
      refine wpAnyH_ready (rs := [12]) (by kernel_rfl) (by simp) ?_
      refine AllReadyH.cons rfl (fun K hK => ?_) AllReadyH.nil
      go_simp
      refine HE.out.mono ?_; rintro e w2 ⟨rfl, hv, hk⟩; have HV := Lib.hid hv; have HK := Lib.hid ((keptN_gb base HBW.out (gb_drew (gb_refl _ none))).trans hk); clear hv hk; obtain ⟨z8, z1⟩ := CS.out _ HK.out
      try go_wp2_with fail
      refine hK.out _ _ (⟨z8, z1⟩) (fun hHeld => ?_)
      clear hK K
      try simp only [List.getElem_toArray, List.getElem_cons_succ, List.getElem_cons_zero, Act.put, List.setIfInBounds_toArray, List.set_cons_zero, List.set_cons_succ]
      refine wpAnyH_take (i := 13) (v := ?_) rfl (by kernel_rfl) (by kernel_rfl) (by kernel_rfl) (fun _ _ _ h => h) (Or.inl ⟨by rfl, ?_⟩) (by assumption) ?_
      rotate_left
      · intro wq hSw; (try dsimp only at hSw); go_simp; (try with_reducible rfl)
      simp only [List.getElem_toArray, List.getElem_cons_succ, List.getElem_cons_zero, Act.put, List.setIfInBounds_toArray, List.set_cons_zero, List.set_cons_succ]
      refine wpAnyH_take (i := 14) (v := ?_) rfl (by kernel_rfl) (by kernel_rfl) (by kernel_rfl) (fun _ _ _ h => h) (Or.inl ⟨by rfl, ?_⟩) (by assumption) ?_
      rotate_left
      · intro wq hSw; (try dsimp only at hSw); go_simp; (try with_reducible rfl)
      simp only [List.getElem_toArray, List.getElem_cons_succ, List.getElem_cons_zero, Act.put, List.setIfInBounds_toArray, List.set_cons_zero, List.set_cons_succ]
      refine wpAnyH_done (by kernel_rfl) ?_ _
      go_wp2_with fail
      go_ret
      rw [HYE.out, sendG_yes HYE.out, HST.out]
      obtain ⟨vs', hv'⟩ := HV.out
      exact ⟨rfl, ⟨_, _, _, hv'⟩, (keptN_gb base hbs (gb_trans GE.out G1.out)).trans HK.out⟩
    · have HNO := Lib.hid (show sendOk N p = false by rw [hX.out]; exact decide_eq_false (by omega))
      have hE := implEnter_no y N base E hb f c1 vb vs va A1 (srcN N p) D w1.drew (hrw.gb (gb_drew (gb_refl _ none))) hzA hsrc hso (by omega) hfit
      rw [hm] at hE
      have HE := Lib.hid hE
      clear hE hok hpk hf0 hfl hsrc hf hft hln hDl hso hrw hsl hA0 hhb hzA hfit hD hm hl0
      refine wp_region_held_drew (S := (fun w' => w'.cell? ⟨g0, 8, none⟩ = some (.slice (some ⟨hb, 0, none⟩) N.so.length y.so.c) ∧ w'.cell? ⟨w.heap.size, 1, none⟩ = some (.int .i64 (f : Int)))) (by kernel_rfl) (⟨s8, s1⟩) (fun hHeld => ?_)
      refine wpAnyH_take (i := 0) (v := ?_) rfl (by kernel_rfl) (by kernel_rfl) (by kernel_rfl) (fun _ _ _ h => h) (Or.inl ⟨by rfl, ?_⟩) (by assumption) ?_
      rotate_left
      · intro wq hSw; (try dsimp only at hSw); go_simp; (try with_reducible rfl)
      simp only [List.getElem_toArray, List.getElem_cons_zero, Act.put, List.setIfInBounds_toArray, List.set_cons_zero, List.set_cons_succ]
      refine wpAnyH_take (i := 1) (v := ?_) rfl (by kernel_rfl) (by kernel_rfl) (by kernel_rfl) (fun _ _ _ h => h) (Or.inl ⟨by rfl, ?_⟩) (by assumption) ?_
      rotate_left
      · intro wq hSw; (try dsimp only at hSw); go_simp; (try with_reducible rfl)
      simp only [List.getElem_toArray, List.getElem_cons_succ, List.getElem_cons_zero, Act.put, List.setIfInBounds_toArray, List.set_cons_zero, List.set_cons_succ]
      refine wpAnyH_take (i := 2) (v := ?_) rfl (by kernel_rfl) (by kernel_rfl) (by kernel_rfl) (fun _ _ _ h => h) (Or.inl ⟨by rfl, ?_⟩) (by assumption) ?_
      rotate_left
      · intro wq hSw; (try dsimp only at hSw); go_simp; (try with_reducible rfl)
      simp only [List.getElem_toArray, List.getElem_cons_succ, List.getElem_cons_zero, Act.put, List.setIfInBounds_toArray, List.set_cons_zero, List.set_cons_succ]
      refine wpAnyH_take (i := 3) (v := ?_) rfl (by kernel_rfl) (by kernel_rfl) (by kernel_rfl) (fun _ _ _ h => h) (Or.inl ⟨by rfl, ?_⟩) (by assumption) ?_
      rotate_left
      · intro wq hSw; (try dsimp only at hSw); go_simp; (try with_reducible rfl)
      simp only [List.getElem_toArray, List.getElem_cons_succ, List.getElem_cons_zero, Act.put, List.setIfInBounds_toArray, List.set_cons_zero, List.set_cons_succ]
      refine wpAnyH_take (i := 4) (v := ?_) rfl (by kernel_rfl) (by kernel_rfl) (by kernel_rfl) (fun _ _ _ h => h) (Or.inl ⟨by rfl, ?_⟩) (by assumption) ?_
      rotate_left
      · intro wq hSw; (try dsimp only at hSw); go_simp; (try with_reducible rfl)
      simp only [List.getElem_toArray, List.getElem_cons_succ, List.getElem_cons_zero, Act.put, List.setIfInBounds_toArray, List.set_cons_zero, List.set_cons_succ]
      refine wpAnyH_take (i := 5) (v := ?_) rfl (by kernel_rfl) (by kernel_rfl) (by kernel_rfl) (fun _ _ _ h => h) (Or.inl ⟨by rfl, ?_⟩) (by assumption) ?_
      rotate_left
      · intro wq hSw; (try dsimp only at hSw); go_simp; (try with_reducible rfl)
      simp only [List.getElem_toArray, List.getElem_cons_succ, List.getElem_cons_zero, Act.put, List.setIfInBounds_toArray, List.set_cons_zero, List.set_cons_succ]
      refine wpAnyH_take (i := 6) (v := ?_) rfl (by kernel_rfl) (by kernel_rfl) (by kernel_rfl) (fun _ _ _ h => h) (Or.inl ⟨by rfl, ?_⟩) (by assumption) ?_
      rotate_left
      · intro wq hSw; (try dsimp only at hSw); go_simp; (try with_reducible rfl)
      simp only [List.getElem_toArray, List.getElem_cons_succ, List.getElem_cons_zero, Act.put, List.setIfInBounds_toArray, List.set_cons_zero, List.set_cons_succ]
      refine wpAnyH_take (i := 7) (v := ?_) rfl (by kernel_rfl) (by kernel_rfl) (by kernel_rfl) (fun _ _ _ h => h) (Or.inl ⟨by rfl, ?_⟩) (by assumption) ?_
      rotate_left
      · intro wq hSw; (try dsimp only at hSw); go_simp; (try with_reducible rfl)
      simp only [List.getElem_toArray, List.getElem_cons_succ, List.getElem_cons_zero, Act.put, List.setIfInBounds_toArray, List.set_cons_zero, List.set_cons_succ]
      refine wpAnyH_take (i := 8) (v := ?_) rfl (by kernel_rfl) (by kernel_rfl) (by kernel_rfl) (fun _ _ _ h => h) (Or.inl ⟨by rfl, ?_⟩) (by assumption) ?_
      rotate_left
      · intro wq hSw; (try dsimp only at hSw); go_simp; (try with_reducible rfl)
      simp only [List.getElem_toArray, List.getElem_cons_succ, List.getElem_cons_zero, Act.put, List.setIfInBounds_toArray, List.set_cons_zero, List.set_cons_succ]
      refine wpAnyH_take (i := 9) (v := ?_) rfl (by kernel_rfl) (by kernel_rfl) (by kernel_rfl) (fun _ _ _ h => h) (Or.inl ⟨by rfl, ?_⟩) (by assumption) ?_
      rotate_left
      · intro wq hSw; (try dsimp only at hSw); go_simp; (try with_reducible rfl)
      simp only [List.getElem_toArray, List.getElem_cons_succ, List.getElem_cons_zero, Act.put, List.setIfInBounds_toArray, List.set_cons_zero, List.set_cons_succ]
      refine wpAnyH_take (i := 10) (v := ?_) rfl (by kernel_rfl) (by kernel_rfl) (by kernel_rfl) (fun _ _ _ h => h) (Or.inl ⟨by rfl, ?_⟩) (by assumption) ?_
      rotate_left
      · intro wq hSw; (try dsimp only at hSw); go_simp; (try with_reducible rfl)
      simp only [List.getElem_toArray, List.getElem_cons_succ, List.getElem_cons_zero, Act.put, List.setIfInBounds_toArray, List.set_cons_zero, List.set_cons_succ]
      refine wpAnyH_take (i := 11) (v := ?_) rfl (by kernel_rfl) (by kernel_rfl) (by kernel_rfl) (fun _ _ _ h => h) (Or.inl ⟨by rfl, ?_⟩) (by assumption) ?_
      rotate_left
      · intro wq hSw; (try dsimp only at hSw); go_simp; (try with_reducible rfl)
      simp only [List.getElem_toArray, List.getElem_cons_succ, List.getElem_cons_zero, Act.put, List.setIfInBounds_toArray, List.set_cons_zero, List.set_cons_succ]
      refine wpAnyH_ready (rs := [12]) (by kernel_rfl) (by simp) ?_
      refine AllReadyH.cons rfl (fun K hK => ?_) AllReadyH.nil
      go_simp
      refine HE.out.mono ?_; rintro e w2 ⟨rfl, rfl⟩
      try go_wp2_with fail
      refine hK.out _ _ (⟨s8, s1⟩) (fun hHeld => ?_)
      clear hK K
      try simp only [List.getElem_toArray, List.getElem_cons_succ, List.getElem_cons_zero, Act.put, List.setIfInBounds_toArray, List.set_cons_zero, List.set_cons_succ]
      refine wpAnyH_take (i := 13) (v := ?_) rfl (by kernel_rfl) (by kernel_rfl) (by kernel_rfl) (fun _ _ _ h => h) (Or.inl ⟨by rfl, ?_⟩) (by assumption) ?_
      rotate_left
      · intro wq hSw; (try dsimp only at hSw); go_simp; (try with_reducible rfl)
      simp only [List.getElem_toArray, List.getElem_cons_succ, List.getElem_cons_zero, Act.put, List.setIfInBounds_toArray, List.set_cons_zero, List.set_cons_succ]
      refine wpAnyH_take (i := 14) (v := ?_) rfl (by kernel_rfl) (by kernel_rfl) (by kernel_rfl) (fun _ _ _ h => h) (Or.inl ⟨by rfl, ?_⟩) (by assumption) ?_
      rotate_left
      · intro wq hSw; (try dsimp only at hSw); go_simp; (try with_reducible rfl)
      simp only [List.getElem_toArray, List.getElem_cons_succ, List.getElem_cons_zero, Act.put, List.setIfInBounds_toArray, List.set_cons_zero, List.set_cons_succ]
      refine wpAnyH_done (by kernel_rfl) ?_ _
      go_wp2_with fail
      go_ret
      rw [HNO.out, sendG_no HNO.out]
      exact ⟨rfl, (HR1.out.gb (gb_drew (gb_refl _ none))).upto (by rw [drew_heap]; have h1 := S1.out; have h2 := SZ.out; omega), (keptN_gb base hbs (gb_drew (gb_trans GE.out G1.out)))⟩
end Go.Proofs.YtfloekbmgjmhbaaGreat
end

section
namespace Go.Proofs.YtfloekbmgjmhbaaGreat
open Go.ChangeShapes Go.WideShapes Go.ChangeAt Go.RowKit
set_option linter.unusedVariables false
set_option maxRecDepth 20000

theorem run_copy_rec {P : Program} (w : World) (dT sT ty elem : TypeId) (z g n dCap : Nat) (ad : Addr) (sCap : Nat) (cur : Array Value) (t : TypeId) (cs : List Value)
    (hu : P.underlying dT = some (.slice elem)) (hs : (P.info? elem).map (·.size) = some z) (hg : w.heap[g]? = some (.cells cur t (0, 0))) (hn : cs.length = n * z)
    (hsrc : ∀ j v, cs[j]? = some v → w.cell? (ad.add j) = some v) (hfit : cs.length ≤ cur.size) (h1 : ∀ v ∈ cs, v.oneCell' = true) :
    (Builtin.copy_ #[dT, sT] ty #[.slice (some ⟨g, 0, none⟩) n dCap, .slice (some ad) n sCap]).run P w =
      .ok (goInt n) (w.setRow g (cur.toList.take (0 + 0) ++ cs ++ cur.toList.drop (0 + 0 + cs.length)).toArray) := by
  have hl := run_loadCells_list (P := P) w ad cs hsrc
  have hst := run_storeCells_at P g 0 t cs 0 cur w hg (by simpa using hfit) h1
  cases hq : P.info? elem with
  | none => simp [hq] at hs
  | some i =>
    have hi : i.size = z := by simpa [hq] using hs
    have hm : Nat.min n n = n := Nat.min_self n
    simp only [Nat.zero_add, List.take_zero, List.nil_append] at hst ⊢
    simp [Builtin.copy_, run_underlying hu, Builtin.lenOf, Builtin.firstCells, sizeOf, typeInfo, hq, hi, hm, ← hn, hl, hst]
theorem run_copy_zero {P : Program} (w : World) (dT sT ty elem : TypeId) (z : Nat) (d a : Option Addr) (dCap sCap : Nat) (hu : P.underlying dT = some (.slice elem)) (hs : (P.info? elem).map (·.size) = some z) :
    (Builtin.copy_ #[dT, sT] ty #[.slice d 0 dCap, .slice a 0 sCap]).run P w = .ok (goInt 0) w := by
  cases hq : P.info? elem with
  | none => simp [hq] at hs
  | some i =>
    have hl : ∀ (x : Addr), (loadCells x 0).run P w = .ok #[] w := fun x => by simpa using run_loadCells_list (P := P) w x [] (by simp)
    cases d <;> cases a <;> simp [Builtin.copy_, run_underlying hu, Builtin.lenOf, Builtin.firstCells, sizeOf, typeInfo, hq, storeCells, hl]
theorem gb_setRowC {w : World} {g : Nat} (cs : Array Value) (hg : g < w.heap.size) : w.grownBy (w.setRow g cs) (some g) :=
  ⟨rfl, rfl, rfl, by simp [World.setRow], fun k hk hne => setRow_other w g k cs (fun e => hne (by rw [e]))⟩
/-- A whole slice is copied into a row of the same length. -/
theorem wpList_copy_whole {P : Program} {w : World} {ops : Array Oper} {rest : List Oper} {o : Oper} {a : Act} {Q : Exit → Act → World → Prop} (hgd : o.guard = none) (d s : Operand) (dT sT : TypeId)
    (ho : o.op = .call { callee := .builtin .copy, args := #[d, s], argTypes := #[dT, sT] }) (elem : TypeId) (hu : P.underlying dT = some (.slice elem)) (z : Nat) (hsz : (P.info? elem).map (·.size) = some z)
    (base g n sCap : Nat) (sp : Option Addr) (hd : a.eval d = .slice (some ⟨g, 0, none⟩) n n) (hs : a.eval s = .slice sp n sCap) (xs cs : List Value)
    (hown : w.ownsRow base elem z (.slice (some ⟨g, 0, none⟩) n n) n xs) (hcs : cs.length = n * z) (hsrc : 0 < n → ∃ ad, sp = some ad ∧ ∀ j v, cs[j]? = some v → w.cell? (ad.add j) = some v) (h1 : ∀ v ∈ cs, v.oneCell' = true)
    (h : ∀ w', w'.ownsRow base elem z (.slice (some ⟨g, 0, none⟩) n n) n cs → w.grownBy w' (some g) → wpList P ops Q rest (a.put o.dst (goInt n)) w') :
    wpList P ops Q (o :: rest) a w := by
  rcases Nat.eq_zero_or_pos n with h0 | h0
  · subst h0
    have e1 : cs = [] := List.eq_nil_of_length_eq_zero (by simpa using hcs)
    have e2 : xs = [] := List.eq_nil_of_length_eq_zero (by simpa using hown.1)
    subst e1 e2
    refine wpList_plain hgd fun K hK => ?_
    have hrun := run_copy_zero (P := P) w dT sT o.type elem z (some ⟨g, 0, none⟩) sp 0 sCap hu hsz
    unfold Oper.wp
    simp [execOp, ho, resolve, invoke, builtin, hd, hs, hrun, Result.andThen]
    exact hK _ _ (h w hown ⟨rfl, rfl, rfl, Nat.le_refl _, fun _ _ _ => rfl⟩)
  · obtain ⟨ad, rfl, hsr⟩ := hsrc h0
    obtain ⟨hx, hv | ⟨g', cap, cur, hv, hb, hg, hnc, hm, hsc, ht⟩⟩ := hown
    · exact absurd hv.1 (by simp)
    · obtain ⟨rfl, rfl⟩ : g = g' ∧ n = cap := by injection hv with a1 a2 a3; injection a1 with a4; injection a4 with a5; exact ⟨a5, a3⟩
      have hlt : g < w.heap.size := (Array.getElem?_eq_some_iff.1 hg).1
      refine wpList_plain hgd fun K hK => ?_
      have hrun := run_copy_rec (P := P) w dT sT o.type elem z g n n ad sCap cur elem cs hu hsz hg hcs hsr (by omega) h1
      have e3 : cur.toList.take (0 + 0) ++ cs ++ cur.toList.drop (0 + 0 + cs.length) = cs := by
        rw [List.drop_eq_nil_of_le (by rw [Array.length_toList]; omega)]; simp
      rw [e3] at hrun
      unfold Oper.wp
      simp [execOp, ho, resolve, invoke, builtin, hd, hs, hrun, Result.andThen]
      exact hK _ _ (h _ ⟨hcs, .inr ⟨g, n, cs.toArray, rfl, hb, setRow_heap w g cur _ elem _ hg, hnc, hm, by simpa using hcs, by simp [← hcs]⟩⟩ (gb_setRowC _ hlt))

theorem implCopyI (A : Option Addr) (n cap : Nat) (L : List Int) (w : World) (h : IntAt w w.heap.size A n L) (hn : n ≤ 1000000000) :
    Calls Tryz.prog 58 #[.slice A n cap] w (NewI L w) := by
  obtain ⟨i0, hi, hz0, hz1, hz2⟩ := info_parts info_int
  have hsz : (Tryz.prog.info? 3).map (·.size) = some 1 := by rw [hi]; simp [hz1]
  have hl := h.1
  have HI := Lib.hid h
  have HL := Lib.hid (show (intsV L).length = n * 1 by rw [Nat.mul_one, ← hl]; simp [intsV])
  have HONE := Lib.hid (intsV_one L)
  have HLN := Lib.hid hl
  clear h hl
  go_enter Tryz.func58, Tryz.ntmps58
  go_wp2_with (first
    | (at_make; refine wpList_make_full _ rfl _ _ 24 rfl w.heap.size 3 i0 (.int .i64 0) 1 Tryz.underlying24 hi hz0 hz1 .i64 .i64 _ _ n rfl rfl (by omega) (by omega) (by rw [hz2]; omega) (by unfold maxLen; omega) (Nat.le_refl _) ?_; intro w0 hown0 hgrow0; have O0 := Lib.hid hown0; have G0 := Lib.hid hgrow0; clear hown0 hgrow0)
    | (refine wpList_copy_whole rfl (.tmp 7) (.tmp 8) 24 24 rfl 3 Tryz.underlying24 1 hsz w.heap.size w.heap.size n cap A rfl rfl _ (intsV L) O0.out HL.out (fun h0 => by
        obtain ⟨b, off, e, _⟩ := HI.out.2 h0
        subst e
        exact ⟨_, rfl, intAt_news (HI.out.none (Nat.le_refl _) G0.out)⟩) HONE.out ?_; intro w2 hown2 hgrow2; have O2 := Lib.hid hown2; have G2 := Lib.hid hgrow2; clear hown2 hgrow2))
  go_ret
  refine ⟨_, rfl, ?_, ?_⟩
  · rw [HLN.out]; exact O2.out
  · exact (gb_below_none G0.out (Nat.le_refl _)).grown G2.out G0.out.size (fun j hj => by cases hj; exact Nat.le_refl _)
theorem implCopyF (A : Option Addr) (n cap : Nat) (D : List Flt) (w : World) (h : RecAt 5 fltC w w.heap.size A n D) (hn : n ≤ 1000000000) :
    Calls Tryz.prog 80 #[.slice A n cap] w (fun e w' => ∃ v, e = .returned v ∧ w'.ownsRow w.heap.size 95 5 v D.length (recV fltC D) ∧ Below w.heap.size w w') := by
  obtain ⟨i0, hi, hz0, hz1, hz2⟩ := info_parts info_flt
  have hsz : (Tryz.prog.info? 95).map (·.size) = some 5 := by rw [hi]; simp [hz1]
  have hl := h.1
  have HI := Lib.hid h
  have HL := Lib.hid (show (recV fltC D).length = n * 5 by rw [recV_length fltL, hl])
  have HONE := Lib.hid (recV_one fltL D)
  have HLN := Lib.hid hl
  clear h hl
  go_enter Tryz.func80, Tryz.ntmps80
  go_wp2_with (first
    | (at_make; refine wpList_make_full _ rfl _ _ 92 rfl w.heap.size 95 i0 (fltX flt0) 5 Tryz.underlying92 hi hz0 hz1 .i64 .i64 _ _ n rfl rfl (by omega) (by omega) (by rw [hz2]; omega) (by unfold maxLen; omega) (Nat.le_refl _) ?_; intro w0 hown0 hgrow0; have O0 := Lib.hid hown0; have G0 := Lib.hid hgrow0; clear hown0 hgrow0)
    | (refine wpList_copy_whole rfl (.tmp 7) (.tmp 8) 92 92 rfl 95 Tryz.underlying92 5 hsz w.heap.size w.heap.size n cap A rfl rfl _ (recV fltC D) O0.out HL.out (fun h0 => by
        obtain ⟨b, off, e, _⟩ := HI.out.2 h0
        subst e
        exact ⟨_, rfl, recAt_news fltL (by decide) (HI.out.none (Nat.le_refl _) G0.out)⟩) HONE.out ?_; intro w2 hown2 hgrow2; have O2 := Lib.hid hown2; have G2 := Lib.hid hgrow2; clear hown2 hgrow2))
  go_ret
  refine ⟨_, rfl, ?_, ?_⟩
  · rw [HLN.out]; exact O2.out
  · exact (gb_below_none G0.out (Nat.le_refl _)).grown G2.out G0.out.size (fun j hj => by cases hj; exact Nat.le_refl _)
set_option maxHeartbeats 3200000 in
theorem implCopies (A : Option Addr) (n cap : Nat) (DD : List (List Flt)) (w : World) (h : RecsAt 5 fltC w w.heap.size A n DD) (hn : n ≤ 1000000000) (hs : sumL DD ≤ 1000000000) :
    Calls Tryz.prog 59 #[.slice A n cap] w (NewLL DD w) := by
  obtain ⟨i0, hi, hz0, hz1, hz2⟩ := info_parts info_fss
  have hl := h.1
  have HI := Lib.hid h
  have HCF := Lib.hid (fun A n cap D w h hn => implCopyF A n cap D w h hn)
  clear h
  go_enter Tryz.func59, Tryz.ntmps59
  go_wp2_with (at_make; refine wpList_make_full _ rfl _ _ 43 rfl w.heap.size 92 i0 (.slice none 0 0) 1 Tryz.underlying43 hi hz0 hz1 .i64 .i64 _ _ n rfl rfl (by omega) (by omega) (by rw [hz2]; omega) (by unfold maxLen; omega) (Nat.le_refl _) ?_; intro w0 hown0 hgrow0; rw [made_nils] at hown0; have HO := Lib.hid hown0; have HB := Lib.hid (gb_below_none hgrow0 (Nat.le_refl _)); clear hown0 hgrow0)
  go_loopw [11] (fun i wr => ∃ (k : Nat) (vs : List Value), k ≤ n ∧ i = .int .i64 (k : Int) ∧ vs.length = k ∧ wr.ownsRow w.heap.size 92 1 (.slice (some ⟨w.heap.size, 0, none⟩) n n) n (vs ++ List.replicate (n - vs.length) (.slice none 0 0)) ∧ Fam 95 5 fltC wr w.heap.size vs (DD.take k) ∧ Below w.heap.size w wr) (fun i _ => n - (intOf i).toNat)
  case atStart => exact ⟨0, [], Nat.zero_le _, rfl, rfl, by simpa using HO.out, by rw [List.take_zero]; exact Fam.nil _ _, HB.out⟩
  case round =>
    obtain ⟨k, vs, hk, rfl, hvl, ho, hf, hbel⟩ := hrel
    have HO1 := Lib.hid ho
    have HF1 := Lib.hid hf
    have HB1 := Lib.hid hbel
    by_cases hlt : k < n
    · obtain ⟨b, off, D, A', c', rfl, hb, hD, hc, _, hr⟩ := (HI.out.below hbel).at k hlt
      have hat := sumL_at hD
      have hsz := hbel.size
      have HT := Lib.hid (HCF.out A' D.length c' D wr (hr.more hsz) (by omega))
      have k0 : (0 : Int) ≤ (k : Int) := by omega
      have k1 : (k : Int) < (n : Int) := by omega
      have HDD := Lib.hid (show DD.take (k + 1) = DD.take k ++ [D] by
        have hkD := (List.getElem?_eq_some_iff.1 hD).1
        have e : DD[k] = D := (List.getElem?_eq_some_iff.1 hD).2
        rw [List.take_succ_eq_append_getElem hkD, e])
      have HVL := Lib.hid hvl
      have HS := Lib.hid hsz
      clear ho hf hbel hD hat hr hvl
      go_wp2_with fail
      refine HT.out.mono ?_
      rintro e w4 ⟨v4, rfl, o4, b4⟩
      obtain ⟨A4, c4, rfl, _⟩ := own_form o4
      have hb4 := gb_of_below b4 none
      have hoh := own_none HO1.out hb4
      have HF4 := Lib.hid (HF1.out.gb hb4)
      have HR4 := Lib.hid (own_less o4 HS.out)
      have HA4 := Lib.hid (show ∀ (i : Nat) u, vs[i]? = some u → Apart u (.slice A4 D.length c4) from fun i u hu j h1 h2 => by
        have h3 := (HF1.out.lt hu h1).2
        have h4 := (o4.lt j h2).1
        omega)
      have HB4 := Lib.hid (HB1.out.trans (b4.mono HS.out))
      have hcell := hoh.cellAt k (by omega)
      have hlen : k < (vs ++ List.replicate (n - vs.length) (Value.slice none 0 0)).length := by have := HVL.out; simp; omega
      obtain ⟨x, hx⟩ : ∃ x, (vs ++ List.replicate (n - vs.length) (Value.slice none 0 0))[k]? = some x := ⟨_, List.getElem?_eq_getElem hlen⟩
      rw [hx] at hcell
      have hfz := hoh.frozenAt k
      obtain ⟨o5, g5⟩ := hoh.stored k (.slice A4 D.length c4)
      have hset := set_rep vs (Value.slice none 0 0) (.slice A4 D.length c4) n (by have := HVL.out; omega)
      rw [HVL.out] at hset
      have HRW := Lib.hid hoh
      rw [HVL.out, hset] at o5
      have HO5 := Lib.hid o5
      have HF5 := Lib.hid ((HF4.out.kept g5 (fun i v j hv hj e => by
        have hi := (List.getElem?_eq_some_iff.1 hv).1
        obtain ⟨u, hu, hou⟩ := HF4.out.get (i := i) (by rw [← HF4.out.len]; exact hi)
        rw [hv] at hu
        obtain rfl := Option.some.inj hu
        exact own_typesG HRW.out hou (by decide) (k := j) (by rw [← e]; rfl) hj)).snoc (row_keptR HR4.out g5 (fun j e1 e2 => own_typesG HRW.out HR4.out (by decide) (k := j) (by rw [← e1]; rfl) e2)) HA4.out)
      have HB5 := Lib.hid (HB4.out.grown g5 HB4.out.size (fun j e => by cases e; exact Nat.le_refl _))
      clear hb4 hoh hlen hx o4 b4 o5 g5 hset hc
      go_wp2_with fail
      go_roundw
      case rel => exact ⟨k + 1, vs ++ [.slice A4 D.length c4], by omega, by go_num, by rw [List.length_append, HVL.out]; rfl, HO5.out, by rw [HDD.out]; exact HF5.out, HB5.out⟩
      case measure => simp [intOf]; omega
    · have hkn : k = n := by omega
      have HKN := Lib.hid hkn
      have HVL := Lib.hid hvl
      clear ho hf hbel hkn hvl
      go_wp2_with fail
      go_ret
      refine ⟨_, vs, rfl, ⟨?_, ?_⟩, HB1.out⟩
      · have h9 := HO1.out
        rw [HVL.out, HKN.out, Nat.sub_self] at h9
        rw [hl]
        simpa using h9
      · have h9 := HF1.out
        rw [HKN.out, ← hl, List.take_length] at h9
        exact h9
end Go.Proofs.YtfloekbmgjmhbaaGreat
end
