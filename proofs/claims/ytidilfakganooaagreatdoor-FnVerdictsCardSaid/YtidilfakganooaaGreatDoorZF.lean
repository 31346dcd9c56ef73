/- What is proved here: what the model's draw of any mesh returns; only the cursor and new blocks are written; a drawn table is a standard table of a drawn valid grid; only new blocks are written; what the model's draw of any mesh and table returns; only the cursor and new blocks are written; DrawCheckTable returns some mesh and some table; only new blocks are written; the laws' size test answers whether a draw has more than a million bytes; nothing is written; what the model's IsOrder and RisesAlong return, for all arguments; only new blocks are written; what the model's search of an element in a list of dependencies returns, for all arguments; nothing is written; what the model's IsCycle returns, for all arguments; only new blocks are written; whether the model finds that a verdict proves itself; only new blocks are written; what the program's IsOrder returns, for all arguments; only new blocks are written; what the program's IsCycle returns, for all arguments; only new blocks are written; whether the program finds that a verdict proves itself, for all arguments, where the sentinel holds an error; only new blocks are written; what the program's VerdictName returns, for all arguments; only new blocks are written; the law on verdicts answers true, for every draw, where the sentinel holds an error; only new blocks are written. -/
import Derived.Test.YtidilfakganooaaGreatDoorZE
import Derived.Deep.AppendLies
import Derived.Deep.RegionLaw
section
namespace Go.Proofs.YtidilfakganooaaGreatDoor
open Go.ChangeShapes Go.WideShapes Go.ChangeAt Go.RowKit
set_option linter.unusedVariables false
set_option maxRecDepth 20000

theorem gb_put3 (w : World) (g : Nat) (x y z : Value) : w.grownBy (((w.setCell ⟨g, 0, none⟩ x).setCell ⟨g, 1, none⟩ y).setCell ⟨g, 2, none⟩ z) (some g) := by
  have g1 := gb_setCell (gb_refl w (some g)) (p := ⟨g, 0, none⟩) (.inl rfl) x
  have g2 := gb_setCell g1 (p := ⟨g, 1, none⟩) (.inl rfl) y
  exact gb_setCell g2 (p := ⟨g, 2, none⟩) (.inl rfl) z
theorem gb_put3r {a w : World} {row : Option Nat} {g : Nat} (h : a.grownBy w row) (hg : a.heap.size ≤ g) (x y z : Value) : a.grownBy (((w.setCell ⟨g, 0, none⟩ x).setCell ⟨g, 1, none⟩ y).setCell ⟨g, 2, none⟩ z) row := by
  have g1 := gb_setCell h (p := ⟨g, 0, none⟩) (.inr hg) x
  have g2 := gb_setCell g1 (p := ⟨g, 1, none⟩) (.inr hg) y
  exact gb_setCell g2 (p := ⟨g, 2, none⟩) (.inr hg) z
theorem wfOf {n : Int} (h : -9223372036854775808 ≤ n ∧ n ≤ 9223372036854775807) : (Lit.int .i64 n).wf = true := by
  simp [Lit.wf, IntKind.min, IntKind.max, IntKind.signed, IntKind.bits]
  omega
theorem wfl_mesh {W H : Int} {L : List Int} (h : meshG W H L = true) : WfL L := fun x hx => by
  obtain ⟨hok, hg⟩ := meshG_ok h
  obtain ⟨i, hi, e⟩ := List.getElem_of_mem hx
  have h1 := hg i hi
  have e2 : L.getD i 0 = x := by rw [List.getD_eq_getElem?_getD, List.getElem?_eq_getElem hi, e]; rfl
  unfold goodAt leadsG at h1
  rw [e2] at h1
  simp only [Bool.and_eq_true, decide_eq_true_eq] at h1
  have h2 := h1.1
  obtain ⟨hW, hH⟩ := okG_cases hok
  have h3 : countG W H ≤ 16 := by
    rcases hW with rfl | rfl | rfl | rfl <;> rcases hH with rfl | rfl | rfl | rfl <;> decide
  exact wfOf (by omega)
/-- Some mesh with few broken channels; only the cursor and new blocks are written. -/
def DrawnAnyM (g : Nat) (w : World) (e : Ending) (w' : World) : Prop :=
  ∃ (W H : Int) (v : Value) (L : List Int), e = .returned (.agg #[.int .i64 W, .int .i64 H, v]) ∧ WfL L ∧ w'.ownsRow (w.heap.size + 1) 3 1 v L.length (intsV L) ∧ L.length ≤ 65 ∧ Cur w' g ∧ w.grownBy w' (some g)
/-- The box of the result, the box of the mesh so far, its list. -/
structure MA (w : World) (g b : Nat) (a1 a2 : Int) (v : Value) (L : List Int) (wr : World) : Prop where
  r : Blk wr w.heap.size 28 #[.int .i64 0, .int .i64 0, .slice none 0 0]
  k : Blk wr b 28 #[.int .i64 a1, .int .i64 a2, v]
  o : wr.ownsRow (w.heap.size + 1) 3 1 v L.length (intsV L)
  c : Cur wr g
  h : w.grownBy wr (some g)
  lt : w.heap.size < b
  gl : g < w.heap.size
section
variable {w wr w' : World} {g b : Nat} {a1 a2 x y : Int} {v : Value} {L : List Int}
theorem MA.gb (h : MA w g b a1 a2 v L wr) (hg : wr.grownBy w' (some g)) (hc : Cur w' g) : MA w g b a1 a2 v L w' :=
  ⟨h.r.grown hg (fun e => by have := Option.some.inj e; have := h.gl; omega), h.k.grown hg (fun e => by have := Option.some.inj e; have := h.gl; have := h.lt; omega),
    row_kept h.o hg (fun j e e2 => by have := (h.o.lt j e2).1; have := h.gl; have := Option.some.inj e; omega), hc, gb_trans h.h hg, h.lt, h.gl⟩
theorem MA.sz (h : MA w g b a1 a2 v L wr) : w.heap.size + 1 ≤ wr.heap.size := by have := h.r.lt; omega
theorem MA.al (h : MA w g b a1 a2 v L wr) (o : Obj) : MA w g b a1 a2 v L (wr.alloc o) :=
  ⟨h.r.alloc o, h.k.alloc o, h.o.alloc o, h.c.grown (gb_alloc (gb_refl wr none) o) (fun k e => by cases e), gb_alloc h.h o, h.lt, h.gl⟩
theorem MA.dr (h : MA w g b a1 a2 v L wr) : MA w g b a1 a2 v L wr.drew :=
  h.gb (gb_drew (gb_refl wr (some g))) (h.c.grown (gb_drew (gb_refl wr none)) (fun k e => by cases e))
theorem MA.put01 (h : MA w g b a1 a2 v L wr) (x y : Int) : MA w g b x y v L ((wr.setCell ⟨b, 0, none⟩ (.int .i64 x)).setCell ⟨b, 1, none⟩ (.int .i64 y)) := by
  have hg : wr.grownBy ((wr.setCell ⟨b, 0, none⟩ (.int .i64 x)).setCell ⟨b, 1, none⟩ (.int .i64 y)) (some b) := gb_setCell (gb_setCell (gb_refl wr (some b)) (.inl rfl) _) (.inl rfl) _
  have hl := h.lt
  have hgl := h.gl
  refine ⟨h.r.grown hg (fun e => by have := Option.some.inj e; omega), ?_, row_kept h.o hg (fun j e e2 => by
    have e3 : b = j := Option.some.inj e
    subst e3
    exact own_ne h.o h.k (by decide) e2), h.c.grown hg (fun k e => by have := Option.some.inj e; omega), gb_setCell (gb_setCell h.h (.inr (Nat.le_of_lt hl)) _) (.inr (Nat.le_of_lt hl)) _, hl, hgl⟩
  have := (h.k.set_ 0 (.int .i64 x)).set_ 1 (.int .i64 y)
  simpa using this
/-- One broken channel more. -/
theorem MA.app {q cap : Nat} {o : Obj} (h : MA w g b a1 a2 v L wr) (ho : w'.ownsRow (w.heap.size + 1) 3 1 (.slice (some ⟨q, 0, none⟩) (L.length + 1) cap) (L.length + 1) (intsV L ++ [.int .i64 x])) (hg : (wr.alloc o).grownBy w' v.ownBlock) :
    MA w g b a1 a2 (.slice (some ⟨q, 0, none⟩) (L.length + 1) cap) (L ++ [x]) (w'.setCell ⟨b, 2, none⟩ (.slice (some ⟨q, 0, none⟩) (L.length + 1) cap)) := by
  have k := h.al o
  have hl := h.lt
  have hgl := h.gl
  have hk := k.k.grown hg (fun e => own_ne k.o k.k (by decide) e.symm)
  have hs : w'.grownBy (w'.setCell ⟨b, 2, none⟩ (.slice (some ⟨q, 0, none⟩) (L.length + 1) cap)) (some b) := gb_setCell (gb_refl w' (some b)) (.inl rfl) _
  have hc := k.c.grown hg (fun j e => by have := (k.o.lt j e).1; omega)
  have hw : w.grownBy w' (some g) := ⟨hg.os.trans k.h.os, hg.tape.trans k.h.tape, hg.output.trans k.h.output, Nat.le_trans k.h.size hg.size, fun i hi hne => (hg.block i (Nat.lt_of_lt_of_le hi k.h.size) (fun e => by have := (k.o.lt i e.symm).1; omega)).trans (k.h.block i hi hne)⟩
  refine ⟨(k.r.grown hg (fun e => own_ne k.o k.r (by decide) e.symm)).grown hs (fun e => by have := Option.some.inj e; omega), ?_, ?_, hc.grown hs (fun j e => by have := Option.some.inj e; omega), gb_setCell hw (.inr (Nat.le_of_lt hl)) _, hl, hgl⟩
  · have := hk.set_ 2 (.slice (some ⟨q, 0, none⟩) (L.length + 1) cap)
    simpa using this
  · rw [List.length_append, intsV_append]
    exact row_kept ho hs (fun j e e2 => by
      have e3 : b = j := Option.some.inj e
      subst e3
      exact own_ne ho hk (by decide) e2)
theorem MA.cells (h : MA w g b a1 a2 v L wr) : wr.cell? ⟨b, 0, none⟩ = some (.int .i64 a1) ∧ wr.cell? ⟨b, 1, none⟩ = some (.int .i64 a2) ∧ wr.cell? ⟨b, 2, none⟩ = some v ∧ wr.frozen? ⟨b, 0, none⟩ = false ∧ wr.frozen? ⟨b, 1, none⟩ = false ∧ wr.frozen? ⟨b, 2, none⟩ = false ∧
    wr.cell? ⟨w.heap.size, 0, none⟩ = some (.int .i64 0) ∧ wr.cell? ⟨w.heap.size, 1, none⟩ = some (.int .i64 0) ∧ wr.cell? ⟨w.heap.size, 2, none⟩ = some (.slice none 0 0) ∧ wr.frozen? ⟨w.heap.size, 0, none⟩ = false ∧ wr.frozen? ⟨w.heap.size, 1, none⟩ = false ∧ wr.frozen? ⟨w.heap.size, 2, none⟩ = false :=
  ⟨h.k.cell 0, h.k.cell 1, h.k.cell 2, h.k.frozen 0, h.k.frozen 1, h.k.frozen 2, h.r.cell 0, h.r.cell 1, h.r.cell 2, h.r.frozen 0, h.r.frozen 1, h.r.frozen 2⟩
theorem MA.fin (h : MA w g b a1 a2 v L wr) : Blk (((wr.setCell ⟨w.heap.size, 0, none⟩ (.int .i64 a1)).setCell ⟨w.heap.size, 1, none⟩ (.int .i64 a2)).setCell ⟨w.heap.size, 2, none⟩ v) w.heap.size 28 #[.int .i64 a1, .int .i64 a2, v] ∧
    Cur (((wr.setCell ⟨w.heap.size, 0, none⟩ (.int .i64 a1)).setCell ⟨w.heap.size, 1, none⟩ (.int .i64 a2)).setCell ⟨w.heap.size, 2, none⟩ v) g ∧ w.grownBy (((wr.setCell ⟨w.heap.size, 0, none⟩ (.int .i64 a1)).setCell ⟨w.heap.size, 1, none⟩ (.int .i64 a2)).setCell ⟨w.heap.size, 2, none⟩ v) (some g) ∧
    (((wr.setCell ⟨w.heap.size, 0, none⟩ (.int .i64 a1)).setCell ⟨w.heap.size, 1, none⟩ (.int .i64 a2)).setCell ⟨w.heap.size, 2, none⟩ v).ownsRow (w.heap.size + 1) 3 1 v L.length (intsV L) := by
  have hgl := h.gl
  have hg : wr.grownBy (((wr.setCell ⟨w.heap.size, 0, none⟩ (.int .i64 a1)).setCell ⟨w.heap.size, 1, none⟩ (.int .i64 a2)).setCell ⟨w.heap.size, 2, none⟩ v) (some w.heap.size) := gb_put3 _ _ _ _ _
  refine ⟨?_, h.c.grown hg (fun k e => by have := Option.some.inj e; omega), gb_put3r h.h (Nat.le_refl _) _ _ _, row_kept h.o hg (fun j e e2 => by
    have e3 : w.heap.size = j := Option.some.inj e
    have := (h.o.lt j e2).1
    omega)⟩
  have := ((h.r.set_ 0 (.int .i64 a1)).set_ 1 (.int .i64 a2)).set_ 2 v
  simpa using this
end
set_option maxHeartbeats 1600000 in
theorem l03Any (g : Nat) (w : World) (hcur : Cur w g) :
    Calls Tryz.prog 53 #[.pointer (some ⟨g, 0, none⟩)] w (DrawnAnyM g w) := by
  obtain ⟨i0, hi, hz0, hz1, hz2⟩ := info_parts info_int
  have hlt := hcur.lt
  have hc0 : Cur (w.alloc (.cells #[.int .i64 0, .int .i64 0, .slice none 0 0] 28)) g := hcur.grown (gb_alloc (gb_refl _ none) _) (fun k e => by cases e)
  have HB := Lib.hid (Blk.new w 28 #[.int .i64 0, .int .i64 0, .slice none 0 0])
  have HA := Lib.hid (show w.grownBy (w.alloc (.cells #[.int .i64 0, .int .i64 0, .slice none 0 0] 28)) (some g) from gb_alloc (gb_refl _ _) _)
  clear hcur
  go_enter Tryz.func53, Tryz.ntmps53
  go_wp2_with fail
  refine (l03Mesh g _ hc0).mono ?_
  rintro e w1 ⟨W, H, v, L, rfl, hm, ho, hL, hcur1, hg1⟩
  have hs := hg1.size
  rw [alloc_size] at hs ho
  obtain ⟨Av, cv, rfl, _⟩ := own_form ho
  have HWF := Lib.hid (wfl_mesh hm)
  have X1 := Lib.hid (show MA w g w1.heap.size W H (.slice Av L.length cv) L (w1.alloc (.cells #[.int .i64 W, .int .i64 H, .slice Av L.length cv] 28)) from
    ⟨(HB.out.grown hg1 (fun e => by have := Option.some.inj e; omega)).alloc _, Blk.new w1 28 _, (own_less ho (by omega)).alloc _, hcur1.grown (gb_alloc (gb_refl _ none) _) (fun k e => by cases e), gb_alloc (gb_trans HA.out hg1) _, by omega, hlt⟩)
  clear hc0 hcur1 hg1 hs hm ho
  go_wp2_with fail
  refine (l01Below 14 g _ X1.out.c).mono ?_
  rintro e w2 ⟨x, rfl, _, _, _, hc2, hg2⟩
  have X2 := Lib.hid (X1.out.gb hg2 hc2)
  obtain ⟨b, hb⟩ : ∃ b, w1.heap.size = b := ⟨_, rfl⟩
  rw [hb] at X2 ⊢
  clear hc2 hg2 hb
  by_cases x0 : x = 0
  · subst x0
    go_wp2_with fail
    refine (l02Any g _ X2.out.c).mono ?_
    rintro e w3 ⟨W', H', rfl, hc3, hg3⟩
    have X3 := Lib.hid (X2.out.gb hg3 hc3)
    obtain ⟨c0, c1, c2, f0, f1, f2, d0, d1, d2, h0, h1, h2⟩ := X3.out.cells
    obtain ⟨e0, e1, e2, _, _, _, i0, i1, i2, j0, j1, j2⟩ := (X3.out.put01 W' H').cells
    clear hc3 hg3
    go_wp2_with fail
    obtain ⟨hB, hC, hG, hO⟩ := (X3.out.put01 W' H').fin
    have r0 := hB.cell 0
    have r1 := hB.cell 1
    have r2 := hB.cell 2
    simp at r0 r1 r2
    refine bodyPost_ret (v := .agg #[.int .i64 W', .int .i64 H', .slice Av L.length cv]) (by simp [results, Tryz.results53, go_sem, r0, r1, r2]) rfl ⟨_, _, _, L, rfl, HWF.out, hO, by omega, hC, hG⟩
  · have x0b : (x == 0) = false := beq_eq_false_iff_ne.2 x0
    by_cases x1 : x = 1
    · subst x1
      clear x0 x0b
      have XL := Lib.hid (X2.out.al (.cells #[.int .i64 (-1), .int .i64 0, .int .i64 5, .int .i64 63, .int .i64 64] 3)).dr
      have HL := Lib.hid (show ∀ k, k < 5 → ∃ y : Int, (-1 ≤ y ∧ y ≤ 64) ∧ (w2.alloc (.cells #[.int .i64 (-1), .int .i64 0, .int .i64 5, .int .i64 63, .int .i64 64] 3)).drew.cell? ⟨w2.heap.size, k, none⟩ = some (.int .i64 y) from fun k hk => by
        have h := (Blk.new w2 3 #[.int .i64 (-1), .int .i64 0, .int .i64 5, .int .i64 63, .int .i64 64]).cell k
        have e : k = 0 ∨ k = 1 ∨ k = 2 ∨ k = 3 ∨ k = 4 := by omega
        rcases e with rfl | rfl | rfl | rfl | rfl
        · exact ⟨-1, by omega, h⟩
        · exact ⟨0, by omega, h⟩
        · exact ⟨5, by omega, h⟩
        · exact ⟨63, by omega, h⟩
        · exact ⟨64, by omega, h⟩)
      have HS2 := Lib.hid (show w2.heap.size ≠ g ∧ w2.heap.size < (w2.alloc (.cells #[.int .i64 (-1), .int .i64 0, .int .i64 5, .int .i64 63, .int .i64 64] 3)).drew.heap.size from ⟨by have := X2.out.sz; omega, by show w2.heap.size < (w2.alloc (.cells #[.int .i64 (-1), .int .i64 0, .int .i64 5, .int .i64 63, .int .i64 64] 3)).heap.size; rw [alloc_size]; omega⟩)
      have a2 : (w2.alloc (.cells #[.int .i64 (-1), .int .i64 0, .int .i64 5, .int .i64 63, .int .i64 64] 3)).cell? ⟨b, 2, none⟩ = some (.slice Av L.length cv) := XL.out.k.cell 2
      have a0 : w2.cell? ⟨b, 2, none⟩ = some (.slice Av L.length cv) := X2.out.k.cell 2
      have b4 : L.length + 1 ≤ maxLen := by unfold maxLen; omega
      have b5 : (L.length + 1) * 8 ≤ 140737488355328 := by omega
      go_wp2_with fail
      go_region_law
        (first
          | (go_simp; (with_reducible refine (l01PickInt (fun y => -1 ≤ y ∧ y ≤ 64) w2.heap.size 5 5 g _ XL.out.c (by omega) HS2.out.1 HS2.out.2 HL.out).mono ?_); rintro e w3 ⟨n, rfl, hP, hc3, hg3⟩; have HP := Lib.hid hP; have X3 := Lib.hid (XL.out.gb hg3 hc3); have c2 : w3.cell? ⟨b, 2, none⟩ = some (.slice Av L.length cv) := X3.out.k.cell 2; have d2 : (w3.alloc (.cells #[.int .i64 n] 3)).cell? ⟨b, 2, none⟩ = some (.slice Av L.length cv) := (X3.out.al _).k.cell 2; have o4 := X3.out.o.alloc (.cells #[.int .i64 n] 3); have b3 : ∀ u ∈ [Value.int .i64 n], u.oneCell' = true := by simp [Value.oneCell']
             have hnb := World.news_of_block (w := w3.alloc (.cells #[.int .i64 n] 3)) (B := w3.heap.size) (cs := #[.int .i64 n]) (t := 3) (fr := (0, 0)) (heap_alloc_new w3 _)
             have s4 : w.heap.size + 1 ≤ (w3.alloc (.cells #[.int .i64 n] 3)).heap.size := by rw [alloc_size]; have := X3.out.sz; omega
             clear hc3 hg3 hP; go_simp)
          | (refine step_append_lies _ (by rfl) _ _ _ (by rfl) (w.heap.size + 1) 3 i0 _ 1 8 Tryz.underlying26 hi hz0 hz1 hz2 rfl (by omega) (.slice Av L.length cv) L.length (intsV L) (by rfl) o4 ⟨w3.heap.size, 0, none⟩ 1 1 [.int .i64 n] (by rfl) (by rfl) hnb b3 (by omega) b4 b5 s4 (w3.heap.size + 1) (by simp) ?_; intro q cap w4 hown hgrow hat hltq; have X4 := Lib.hid (X3.out.app hown hgrow); have K4 := (X3.out.al (.cells #[.int .i64 n] 3)).k.grown hgrow (fun e => own_ne X3.out.o X3.out.k (by decide) e.symm); have e2 : w4.cell? ⟨b, 2, none⟩ = some (.slice Av L.length cv) := K4.cell 2; have f2 := K4.frozen 2; clear K4 hown hgrow hat hltq)
          | fail)
      all_goals
        clear a0 a2 c2 d2 o4 b3 hnb s4 e2 f2
        obtain ⟨c0, c1, c2, f0, f1, f2, d0, d1, d2, h0, h1, h2⟩ := X4.out.cells
        go_wp2_with fail
        obtain ⟨hB, hC, hG, hO⟩ := X4.out.fin
        have r0 := hB.cell 0
        have r1 := hB.cell 1
        have r2 := hB.cell 2
        simp at r0 r1 r2
        refine bodyPost_ret (v := .agg #[.int .i64 W, .int .i64 H, .slice (some ⟨q, 0, none⟩) (L.length + 1) cap]) (by simp [results, Tryz.results53, go_sem, r0, r1, r2]) rfl ⟨_, _, _, L ++ [n], rfl, fun y hy => ?_, hO, by rw [List.length_append]; simp; omega, hC, hG⟩
        rcases List.mem_append.1 hy with h | h
        · exact HWF.out y h
        · rw [List.mem_singleton.1 h]
          have := HP.out
          exact wfOf (by omega)
    · have x1b : (x == 1) = false := beq_eq_false_iff_ne.2 x1
      obtain ⟨c0, c1, c2, f0, f1, f2, d0, d1, d2, h0, h1, h2⟩ := X2.out.cells
      go_wp2_with fail
      obtain ⟨hB, hC, hG, hO⟩ := X2.out.fin
      have r0 := hB.cell 0
      have r1 := hB.cell 1
      have r2 := hB.cell 2
      simp at r0 r1 r2
      refine bodyPost_ret (v := .agg #[.int .i64 W, .int .i64 H, .slice Av L.length cv]) (by simp [results, Tryz.results53, go_sem, r0, r1, r2]) rfl ⟨_, _, _, L, rfl, HWF.out, hO, by omega, hC, hG⟩
end Go.Proofs.YtidilfakganooaaGreatDoor
end

section
namespace Go.Proofs.YtidilfakganooaaGreatDoor
open Go.ChangeShapes Go.WideShapes Go.ChangeAt Go.RowKit
set_option linter.unusedVariables false

theorem cur_far {w : World} {g : Nat} {p : Addr} (h : Cur w g) (hp : g < p.block) (x : Value) : Cur (w.setCell p x) g :=
  h.grown (gb_setCell (gb_refl w (some p.block)) (.inl rfl) x) (fun k e => by cases e; exact hp)
theorem gb_setS {a w : World} {row : Option Nat} {b i j k : Nat} (h : a.grownBy w row) (hb : a.heap.size ≤ b) (x y z : Value) : a.grownBy (((w.setCell ⟨b, i, none⟩ x).setCell ⟨b, j, none⟩ y).setCell ⟨b, k, none⟩ z) row :=
  gb_setCell (gb_setCell (gb_setCell h (.inr hb) x) (.inr hb) y) (.inr hb) z
theorem gb_undraw2 {a b : World} {row : Option Nat} (h : a.drew.grownBy b row) : a.grownBy b row := ⟨h.os, h.tape, h.output, h.size, h.block⟩
/-- A mesh without broken channels and a standard table are returned; only the cursor and new blocks are written. -/
def DrawnTabC (g : Nat) (w : World) (e : Ending) (w' : World) : Prop := ∃ (W H r : Int) (v : Value), e = .returned (.tuple #[.agg #[.int .i64 W, .int .i64 H, .slice none 0 0], .agg #[v]]) ∧ okG W H = true ∧ 1 ≤ r ∧ r ≤ 4 ∧
  w'.ownsRow w.heap.size 3 1 v (stdTab W H r).length (intsV (stdTab W H r)) ∧ Cur w' g ∧ w.grownBy w' (some g)

set_option maxRecDepth 100000 in
theorem l04Case (g : Nat) (w : World) (hcur : Cur w g) :
    Calls Tryz.prog 51 #[.pointer (some ⟨g, 0, none⟩)] w (DrawnTabC g w) := by
  have hlt := hcur.lt
  have hg0 : w.grownBy ((w.alloc (.cells #[.int .i64 0, .int .i64 0, .slice none 0 0] 28)).alloc (.cells #[.slice none 0 0] 30)) none := gb_alloc (gb_alloc (gb_refl w none) _) _
  have hc0 : Cur ((w.alloc (.cells #[.int .i64 0, .int .i64 0, .slice none 0 0] 28)).alloc (.cells #[.slice none 0 0] 30)) g := hcur.grown hg0 (fun k e => by cases e)
  have hbM : Blk ((w.alloc (.cells #[.int .i64 0, .int .i64 0, .slice none 0 0] 28)).alloc (.cells #[.slice none 0 0] 30)) w.heap.size 28 #[.int .i64 0, .int .i64 0, .slice none 0 0] := (Blk.new w _ _).alloc _
  have hbT : Blk ((w.alloc (.cells #[.int .i64 0, .int .i64 0, .slice none 0 0] 28)).alloc (.cells #[.slice none 0 0] 30)) (w.heap.size + 1) 30 #[.slice none 0 0] := by
    have := Blk.new (w.alloc (.cells #[.int .i64 0, .int .i64 0, .slice none 0 0] 28)) 30 #[.slice none 0 0]
    rwa [alloc_size] at this
  have HBM := Lib.hid hbM
  have HBT := Lib.hid hbT
  have HG0 := Lib.hid (gb_of_none hg0 (some g))
  clear hcur hbM hbT hg0
  go_enter Tryz.func51, Tryz.ntmps51
  go_wp2_with fail
  refine (l02Grid g _ hc0).mono ?_
  rintro e w1 ⟨W, H, rfl, hok, hc1, hg1⟩
  have HOK := Lib.hid hok
  have HG1 := Lib.hid (gb_trans HG0.out hg1)
  have HM1 := Lib.hid ((HBM.out.grown hg1 (fun e => by cases e; omega)).alloc (.cells #[.int .i64 W, .int .i64 H, .slice none 0 0] 28))
  have HT1 := Lib.hid ((HBT.out.grown hg1 (fun e => by cases e; omega)).alloc (.cells #[.int .i64 W, .int .i64 H, .slice none 0 0] 28))
  have HQ1 := Lib.hid (Blk.new w1 28 #[.int .i64 W, .int .i64 H, .slice none 0 0])
  have HC1 : Hid (Cur (w1.alloc (.cells #[.int .i64 W, .int .i64 H, .slice none 0 0] 28)).drew g) := (hc1.grown (gb_alloc (gb_refl _ none) (.cells #[.int .i64 W, .int .i64 H, .slice none 0 0] 28)) (fun k e => by cases e) : Cur (w1.alloc (.cells #[.int .i64 W, .int .i64 H, .slice none 0 0] 28)) g)
  have hs1 : w.heap.size + 2 ≤ w1.heap.size := by have := hg1.size; rw [alloc_size, alloc_size] at this; omega
  have hgw : g ≠ w1.heap.size := by omega
  clear hok hc0 hc1 hg1
  go_wp2_with fail
  have a0 : (w1.alloc (.cells #[.int .i64 W, .int .i64 H, .slice none 0 0] 28)).cell? ⟨w1.heap.size, 0, none⟩ = some (.int .i64 W) := HQ1.out.cell 0
  have a1 : (w1.alloc (.cells #[.int .i64 W, .int .i64 H, .slice none 0 0] 28)).cell? ⟨w1.heap.size, 1, none⟩ = some (.int .i64 H) := HQ1.out.cell 1
  have a2 : (w1.alloc (.cells #[.int .i64 W, .int .i64 H, .slice none 0 0] 28)).cell? ⟨w1.heap.size, 2, none⟩ = some (.slice none 0 0) := HQ1.out.cell 2
  have z0 : (w1.alloc (.cells #[.int .i64 W, .int .i64 H, .slice none 0 0] 28)).drew.cell? ⟨w1.heap.size, 0, none⟩ = some (.int .i64 W) := a0
  have z1 : (w1.alloc (.cells #[.int .i64 W, .int .i64 H, .slice none 0 0] 28)).drew.cell? ⟨w1.heap.size, 1, none⟩ = some (.int .i64 H) := a1
  have z2 : (w1.alloc (.cells #[.int .i64 W, .int .i64 H, .slice none 0 0] 28)).drew.cell? ⟨w1.heap.size, 2, none⟩ = some (.slice none 0 0) := a2
  go_region_held3 (fun w' => w'.cell? ⟨w1.heap.size, 0, none⟩ = some (.int .i64 W) ∧ w'.cell? ⟨w1.heap.size, 1, none⟩ = some (.int .i64 H) ∧ w'.cell? ⟨w1.heap.size, 2, none⟩ = some (.slice none 0 0))
    (first | with_reducible exact ⟨z0, z1, z2⟩ | with_reducible exact ⟨a0, a1, a2⟩ | with_reducible exact ⟨d0, d1, d2⟩ | with_reducible exact ⟨e0, e1, e2⟩ | with_reducible exact ⟨s0, s1, s2⟩ | with_reducible exact ⟨u0, u1, u2⟩ | fail)
    (first
      | (go_at_call 52; (with_reducible refine (l01Below 4 g _ HC1.out).mono ?_); rintro e w4 ⟨x, rfl, x0, x1, x2, hc4, hg4⟩; have x3 := x1 (by omega); have q1 : IntKind.i64.wrap (1 + x) = 1 + x := IntWalk.i64_in _ (by omega)
         have HC4 := Lib.hid hc4; have HG4 := Lib.hid (gb_trans (gb_alloc HG1.out (.cells #[.int .i64 W, .int .i64 H, .slice none 0 0] 28)) (gb_undraw2 hg4)); have HX := Lib.hid (And.intro x0 x3)
         have HQ4 := Lib.hid (HQ1.out.grown (gb_undraw2 hg4) (fun e => by cases e; omega)); have HM4 := Lib.hid (HM1.out.grown (gb_undraw2 hg4) (fun e => by cases e; omega)); have HT4 := Lib.hid (HT1.out.grown (gb_undraw2 hg4) (fun e => by cases e; omega))
         have d0 : w4.cell? ⟨w1.heap.size, 0, none⟩ = some (.int .i64 W) := HQ4.out.cell 0; have d1 : w4.cell? ⟨w1.heap.size, 1, none⟩ = some (.int .i64 H) := HQ4.out.cell 1; have d2 : w4.cell? ⟨w1.heap.size, 2, none⟩ = some (.slice none 0 0) := HQ4.out.cell 2; clear hc4 hg4 x1 x2)
      | (go_at_call 49; (with_reducible refine (specMake W H (1 + x) HOK.out (by omega) (by omega) _).mono ?_); rintro e w5 ⟨v, rfl, o5, b5⟩
         obtain ⟨A5, c5, rfl, _⟩ := own_form o5
         have hg5 := gb_of_below b5 none
         have HC5 := Lib.hid (HC4.out.grown hg5 (fun k e => by cases e)); have HG5 := Lib.hid (gb_trans HG4.out (gb_of_none hg5 _)); have HO5 := Lib.hid o5
         have HQ5 := Lib.hid (HQ4.out.grown hg5 (by simp)); have HM5 := Lib.hid (HM4.out.grown hg5 (by simp)); have HT5 := Lib.hid (HT4.out.grown hg5 (by simp))
         have e0 : w5.cell? ⟨w1.heap.size, 0, none⟩ = some (.int .i64 W) := HQ5.out.cell 0; have e1 : w5.cell? ⟨w1.heap.size, 1, none⟩ = some (.int .i64 H) := HQ5.out.cell 1; have e2 : w5.cell? ⟨w1.heap.size, 2, none⟩ = some (.slice none 0 0) := HQ5.out.cell 2
         have m0 : w5.cell? ⟨w.heap.size, 0, none⟩ = some (.int .i64 0) := HM5.out.cell 0; have m1 : w5.cell? ⟨w.heap.size, 1, none⟩ = some (.int .i64 0) := HM5.out.cell 1; have m2 : w5.cell? ⟨w.heap.size, 2, none⟩ = some (.slice none 0 0) := HM5.out.cell 2
         have t0 : w5.cell? ⟨w.heap.size + 1, 0, none⟩ = some (.slice none 0 0) := HT5.out.cell 0
         have hne1 : w1.heap.size ≠ w.heap.size := by omega
         have hne2 : w1.heap.size ≠ w.heap.size + 1 := by omega
         have Q7 := Lib.hid (((HQ5.out.far (p := ⟨w.heap.size, 0, none⟩) hne1 (.int .i64 W)).far (p := ⟨w.heap.size, 1, none⟩) hne1 (.int .i64 H)).far (p := ⟨w.heap.size, 2, none⟩) hne1 (.slice none 0 0))
         have Q8 := Lib.hid (Q7.out.far (p := ⟨w.heap.size + 1, 0, none⟩) hne2 (.slice A5 (stdTab W H (1 + x)).length c5))
         have s0 : (((w5.setCell ⟨w.heap.size, 0, none⟩ (.int .i64 W)).setCell ⟨w.heap.size, 1, none⟩ (.int .i64 H)).setCell ⟨w.heap.size, 2, none⟩ (.slice none 0 0)).cell? ⟨w1.heap.size, 0, none⟩ = some (.int .i64 W) := Q7.out.cell 0
         have u0 : ((((w5.setCell ⟨w.heap.size, 0, none⟩ (.int .i64 W)).setCell ⟨w.heap.size, 1, none⟩ (.int .i64 H)).setCell ⟨w.heap.size, 2, none⟩ (.slice none 0 0)).setCell ⟨w.heap.size + 1, 0, none⟩ (.slice A5 (stdTab W H (1 + x)).length c5)).cell? ⟨w1.heap.size, 0, none⟩ = some (.int .i64 W) := Q8.out.cell 0
         have s1 : (((w5.setCell ⟨w.heap.size, 0, none⟩ (.int .i64 W)).setCell ⟨w.heap.size, 1, none⟩ (.int .i64 H)).setCell ⟨w.heap.size, 2, none⟩ (.slice none 0 0)).cell? ⟨w1.heap.size, 1, none⟩ = some (.int .i64 H) := Q7.out.cell 1
         have u1 : ((((w5.setCell ⟨w.heap.size, 0, none⟩ (.int .i64 W)).setCell ⟨w.heap.size, 1, none⟩ (.int .i64 H)).setCell ⟨w.heap.size, 2, none⟩ (.slice none 0 0)).setCell ⟨w.heap.size + 1, 0, none⟩ (.slice A5 (stdTab W H (1 + x)).length c5)).cell? ⟨w1.heap.size, 1, none⟩ = some (.int .i64 H) := Q8.out.cell 1
         have s2 : (((w5.setCell ⟨w.heap.size, 0, none⟩ (.int .i64 W)).setCell ⟨w.heap.size, 1, none⟩ (.int .i64 H)).setCell ⟨w.heap.size, 2, none⟩ (.slice none 0 0)).cell? ⟨w1.heap.size, 2, none⟩ = some (.slice none 0 0) := Q7.out.cell 2
         have u2 : ((((w5.setCell ⟨w.heap.size, 0, none⟩ (.int .i64 W)).setCell ⟨w.heap.size, 1, none⟩ (.int .i64 H)).setCell ⟨w.heap.size, 2, none⟩ (.slice none 0 0)).setCell ⟨w.heap.size + 1, 0, none⟩ (.slice A5 (stdTab W H (1 + x)).length c5)).cell? ⟨w1.heap.size, 2, none⟩ = some (.slice none 0 0) := Q8.out.cell 2
         have f0 := HM5.out.frozen 0; have f1 := HM5.out.frozen 1; have f2 := HM5.out.frozen 2; have f3 := HT5.out.frozen 0; clear hg5 o5 b5)
      | fail)
  all_goals
    have kk := ((((HM5.out.set_ 0 (.int .i64 W)).set_ 1 (.int .i64 H)).set_ 2 (.slice none 0 0)).far (p := ⟨w.heap.size + 1, 0, none⟩) (by show w.heap.size ≠ w.heap.size + 1; omega) (.slice A5 (stdTab W H (1 + x)).length c5))
    have tt := ((((HT5.out.far (p := ⟨w.heap.size, 0, none⟩) (by show w.heap.size + 1 ≠ w.heap.size; omega) (.int .i64 W)).far (p := ⟨w.heap.size, 1, none⟩) (by show w.heap.size + 1 ≠ w.heap.size; omega) (.int .i64 H)).far (p := ⟨w.heap.size, 2, none⟩) (by show w.heap.size + 1 ≠ w.heap.size; omega) (.slice none 0 0)).set_ 0 (.slice A5 (stdTab W H (1 + x)).length c5))
    have r0 := kk.cell 0
    have r1 := kk.cell 1
    have r2 := kk.cell 2
    have r3 := tt.cell 0
    simp at r0 r1 r2 r3
    have hs4 := HQ4.out.lt
    have O8 := Lib.hid (own_less (ownsRow_setCell_below (ownsRow_setCell_below (ownsRow_setCell_below (ownsRow_setCell_below HO5.out (a := ⟨w.heap.size, 0, none⟩) (by show w.heap.size < _; omega) (.int .i64 W)) (a := ⟨w.heap.size, 1, none⟩) (by show w.heap.size < _; omega) (.int .i64 H)) (a := ⟨w.heap.size, 2, none⟩) (by show w.heap.size < _; omega) (.slice none 0 0)) (a := ⟨w.heap.size + 1, 0, none⟩) (by show w.heap.size + 1 < _; omega) (.slice A5 (stdTab W H (1 + x)).length c5)) (b1 := w.heap.size) (by omega))
    have G8 := Lib.hid (gb_setCell (gb_setS HG5.out (i := 0) (j := 1) (k := 2) (b := w.heap.size) (Nat.le_refl _) (.int .i64 W) (.int .i64 H) (.slice none 0 0)) (p := ⟨w.heap.size + 1, 0, none⟩) (.inr (by show w.heap.size ≤ w.heap.size + 1; omega)) (.slice A5 (stdTab W H (1 + x)).length c5))
    have C8 := Lib.hid (cur_far (cur_far (cur_far (cur_far HC5.out (p := ⟨w.heap.size, 0, none⟩) (by show g < w.heap.size; omega) (.int .i64 W)) (p := ⟨w.heap.size, 1, none⟩) (by show g < w.heap.size; omega) (.int .i64 H)) (p := ⟨w.heap.size, 2, none⟩) (by show g < w.heap.size; omega) (.slice none 0 0)) (p := ⟨w.heap.size + 1, 0, none⟩) (by show g < w.heap.size + 1; omega) (.slice A5 (stdTab W H (1 + x)).length c5))
    clear kk tt
    go_wp2_with fail
    refine bodyPost_ret (v := .tuple #[.agg #[.int .i64 W, .int .i64 H, .slice none 0 0], .agg #[.slice A5 (stdTab W H (1 + x)).length c5]]) (by simp [results, Tryz.results51, go_sem, r0, r1, r2, r3]) rfl ⟨W, H, 1 + x, _, rfl, HOK.out, by have := HX.out; omega, by have := HX.out; omega, O8.out, C8.out, G8.out⟩
end Go.Proofs.YtidilfakganooaaGreatDoor
end

section
namespace Go.Proofs.YtidilfakganooaaGreatDoor
open Go.ChangeShapes Go.WideShapes Go.ChangeAt Go.RowKit
set_option linter.unusedVariables false
set_option maxRecDepth 20000

/-- Some mesh and some table; only the cursor and new blocks are written. -/
def DrawnAnyT (g : Nat) (w : World) (e : Ending) (w' : World) : Prop :=
  ∃ (W H : Int) (v : Value) (L : List Int) (A2 : Option Addr) (n2 c2 : Nat) (P : List Int), e = .returned (.tuple #[.agg #[.int .i64 W, .int .i64 H, v], .agg #[.slice A2 n2 c2]]) ∧ WfL L ∧ w'.ownsRow (w.heap.size + 2) 3 1 v L.length (intsV L) ∧ L.length ≤ 65 ∧ IntAt w' w'.heap.size A2 n2 P ∧ (∀ a, A2 = some a → w.heap.size + 2 ≤ a.block) ∧ n2 ≤ 256 ∧ Cur w' g ∧ w.grownBy w' (some g)
theorem sq_ok {W H : Int} (h : okG W H = true) : 1 ≤ sqG W H ∧ sqG W H ≤ 256 := by
  obtain ⟨hW, hH⟩ := okG_cases h
  rcases hW with rfl | rfl | rfl | rfl <;> rcases hH with rfl | rfl | rfl | rfl <;> decide
theorem blk_neT {wq : World} {g g2 : Nat} {t t2 : TypeId} {cs cs2 : Array Value} (h : Blk wq g t cs) (h2 : Blk wq g2 t2 cs2) (hne : t ≠ t2) : g ≠ g2 := fun e => by
  subst e
  unfold Blk at h h2
  rw [h] at h2
  injection h2 with h3
  injection h3 with _ h4 _
  exact hne h4
theorem ints_get0 {w : World} {base g cap n : Nat} {L : List Int} (h : w.ownsRow base 3 1 (.slice (some ⟨g, 0, none⟩) n cap) n (intsV L)) {k : Nat} (hk : k < n) : w.cell? ⟨g, k, none⟩ = some (.int .i64 (L.getD k 0)) := by
  have hn := own_ints_length h
  exact ints_cell h k (L.getD k 0) (by rw [List.getD, List.getElem?_eq_getElem (by omega)]; rfl) hn
/-- The tail of a row. -/
theorem intAt_tail {w : World} {base n B q cap : Nat} {L : List Int} (h : w.ownsRow base 3 1 (.slice (some ⟨q, 0, none⟩) n cap) n (intsV L)) (hl : L.length = n) (hB : w.heap.size ≤ B) : IntAt w B (some ⟨q, 1, none⟩) (n - 1) (L.drop 1) :=
  ⟨by rw [List.length_drop, hl], fun h0 => ⟨q, 1, rfl, Nat.lt_of_lt_of_le (h.lt q rfl).2 hB, fun k x hk => by
    rw [List.getElem?_drop] at hk
    exact ints_cell h (1 + k) x hk hl⟩⟩
/-- The boxes of the results, the boxes of the mesh and of the table so far, their lists. -/
structure TA (w : World) (g bm bt : Nat) (a1 a2 : Int) (v : Value) (L : List Int) (tv : Value) (q n cap : Nat) (P : List Int) (wr : World) : Prop where
  rm : Blk wr w.heap.size 28 #[.int .i64 0, .int .i64 0, .slice none 0 0]
  rt : Blk wr (w.heap.size + 1) 30 #[.slice none 0 0]
  km : Blk wr bm 28 #[.int .i64 a1, .int .i64 a2, v]
  kt : Blk wr bt 30 #[tv]
  om : wr.ownsRow (w.heap.size + 2) 3 1 v L.length (intsV L)
  ot : wr.ownsRow (w.heap.size + 2) 3 1 (.slice (some ⟨q, 0, none⟩) n cap) n (intsV P)
  ap : Apart (.slice (some ⟨q, 0, none⟩) n cap) v
  c : Cur wr g
  h : w.grownBy wr (some g)
  lm : w.heap.size + 1 < bm
  lt : w.heap.size + 1 < bt
  gl : g < w.heap.size
section
variable {w wr w' : World} {g bm bt q n cap : Nat} {a1 a2 x y : Int} {v tv : Value} {L P : List Int}
theorem TA.gb (h : TA w g bm bt a1 a2 v L tv q n cap P wr) (hg : wr.grownBy w' (some g)) (hc : Cur w' g) : TA w g bm bt a1 a2 v L tv q n cap P w' := by
  have h1 := h.gl
  have h2 := h.lm
  have h3 := h.lt
  exact ⟨h.rm.grown hg (fun e => by have := Option.some.inj e; omega), h.rt.grown hg (fun e => by have := Option.some.inj e; omega), h.km.grown hg (fun e => by have := Option.some.inj e; omega), h.kt.grown hg (fun e => by have := Option.some.inj e; omega),
    row_kept h.om hg (fun j e e2 => by have := (h.om.lt j e2).1; have := Option.some.inj e; omega), row_kept h.ot hg (fun j e e2 => by have := (h.ot.lt j e2).1; have := Option.some.inj e; omega), h.ap, hc, gb_trans h.h hg, h2, h3, h1⟩
theorem TA.dr (h : TA w g bm bt a1 a2 v L tv q n cap P wr) : TA w g bm bt a1 a2 v L tv q n cap P wr.drew := h.gb (gb_drew (gb_refl wr (some g))) (h.c.grown (gb_drew (gb_refl wr none)) (fun k e => by cases e))
/-- Another mesh. -/
theorem TA.mesh {v' : Value} {L' : List Int} (h : TA w g bm bt a1 a2 v L tv q n cap P wr) (x y : Int) (ho : wr.ownsRow (w.heap.size + 2) 3 1 v' L'.length (intsV L')) (hap : Apart (.slice (some ⟨q, 0, none⟩) n cap) v') :
    TA w g bm bt x y v' L' tv q n cap P (((wr.setCell ⟨bm, 0, none⟩ (.int .i64 x)).setCell ⟨bm, 1, none⟩ (.int .i64 y)).setCell ⟨bm, 2, none⟩ v') := by
  have h1 := h.gl
  have h2 := h.lm
  have h3 := h.lt
  have hg := gb_put3 wr bm (.int .i64 x) (.int .i64 y) v'
  have hrow : ∀ {u : Value} {k : Nat} {xs : List Value}, wr.ownsRow (w.heap.size + 2) 3 1 u k xs → (((wr.setCell ⟨bm, 0, none⟩ (.int .i64 x)).setCell ⟨bm, 1, none⟩ (.int .i64 y)).setCell ⟨bm, 2, none⟩ v').ownsRow (w.heap.size + 2) 3 1 u k xs := fun hv => row_kept hv hg (fun j e => by
    have e2 : bm = j := Option.some.inj e
    subst e2
    exact own_ne hv h.km (by decide))
  refine ⟨h.rm.grown hg (fun e => by have := Option.some.inj e; omega), h.rt.grown hg (fun e => by have := Option.some.inj e; omega), ?_, h.kt.grown hg (fun e => blk_neT h.kt h.km (by decide) (Option.some.inj e)), hrow ho, hrow h.ot, hap, h.c.grown hg (fun k e => by have := Option.some.inj e; omega), gb_put3r h.h (by omega) _ _ _, h2, h3, h1⟩
  have := ((h.km.set_ 0 (.int .i64 x)).set_ 1 (.int .i64 y)).set_ 2 v'
  simpa using this
/-- Another part of the table's list. -/
theorem TA.part (h : TA w g bm bt a1 a2 v L tv q n cap P wr) (u : Value) : TA w g bm bt a1 a2 v L u q n cap P (wr.setCell ⟨bt, 0, none⟩ u) := by
  have h1 := h.gl
  have h2 := h.lm
  have h3 := h.lt
  have hg : wr.grownBy (wr.setCell ⟨bt, 0, none⟩ u) (some bt) := gb_setCell (gb_refl wr (some bt)) (.inl rfl) _
  have hrow : ∀ {v : Value} {k : Nat} {xs : List Value}, wr.ownsRow (w.heap.size + 2) 3 1 v k xs → (wr.setCell ⟨bt, 0, none⟩ u).ownsRow (w.heap.size + 2) 3 1 v k xs := fun hv => row_kept hv hg (fun j e => by
    have e2 : bt = j := Option.some.inj e
    subst e2
    exact own_ne hv h.kt (by decide))
  refine ⟨h.rm.grown hg (fun e => by have := Option.some.inj e; omega), h.rt.grown hg (fun e => by have := Option.some.inj e; omega), h.km.grown hg (fun e => blk_neT h.km h.kt (by decide) (Option.some.inj e)), ?_, hrow h.om, hrow h.ot, h.ap, h.c.grown hg (fun k e => by have := Option.some.inj e; omega), gb_setCell h.h (.inr (by show w.heap.size ≤ bt; omega)) _, h2, h3, h1⟩
  have := h.kt.set_ 0 u
  simpa using this
/-- One number of the table's list is another one. -/
theorem TA.num (h : TA w g bm bt a1 a2 v L tv q n cap P wr) (k : Nat) (x : Int) : TA w g bm bt a1 a2 v L tv q n cap (P.set k x) (wr.setCell ⟨q, k, none⟩ (.int .i64 x)) := by
  have h1 := h.gl
  have hq := (h.ot.lt q rfl).1
  obtain ⟨ho, hg⟩ := h.ot.stored k (.int .i64 x)
  rw [intsV_set] at ho
  exact ⟨h.rm.grown hg (fun e => by have := Option.some.inj e; omega), h.rt.grown hg (fun e => by have := Option.some.inj e; omega), h.km.grown hg (fun e => own_ne h.ot h.km (by decide) e.symm), h.kt.grown hg (fun e => own_ne h.ot h.kt (by decide) e.symm),
    row_kept h.om hg (fun j e e2 => by cases e; exact h.ap q rfl e2), ho, h.ap, h.c.grown hg (fun k e => by have := Option.some.inj e; omega), gb_setCell h.h (.inr (by show w.heap.size ≤ q; omega)) _, h.lm, h.lt, h1⟩
theorem TA.cm (h : TA w g bm bt a1 a2 v L tv q n cap P wr) : wr.cell? ⟨bm, 0, none⟩ = some (.int .i64 a1) ∧ wr.cell? ⟨bm, 1, none⟩ = some (.int .i64 a2) ∧ wr.cell? ⟨bm, 2, none⟩ = some v ∧ wr.frozen? ⟨bm, 0, none⟩ = false ∧ wr.frozen? ⟨bm, 1, none⟩ = false ∧ wr.frozen? ⟨bm, 2, none⟩ = false :=
  ⟨h.km.cell 0, h.km.cell 1, h.km.cell 2, h.km.frozen 0, h.km.frozen 1, h.km.frozen 2⟩
theorem TA.cr (h : TA w g bm bt a1 a2 v L tv q n cap P wr) : wr.cell? ⟨bt, 0, none⟩ = some tv ∧ wr.cell? ⟨w.heap.size, 0, none⟩ = some (.int .i64 0) ∧ wr.cell? ⟨w.heap.size, 1, none⟩ = some (.int .i64 0) ∧ wr.cell? ⟨w.heap.size, 2, none⟩ = some (.slice none 0 0) ∧ wr.frozen? ⟨w.heap.size, 0, none⟩ = false ∧ wr.frozen? ⟨w.heap.size, 1, none⟩ = false ∧ wr.frozen? ⟨w.heap.size, 2, none⟩ = false ∧ wr.cell? ⟨w.heap.size + 1, 0, none⟩ = some (.slice none 0 0) ∧ wr.frozen? ⟨w.heap.size + 1, 0, none⟩ = false :=
  ⟨h.kt.cell 0, h.rm.cell 0, h.rm.cell 1, h.rm.cell 2, h.rm.frozen 0, h.rm.frozen 1, h.rm.frozen 2, h.rt.cell 0, h.rt.frozen 0⟩
/-- Behind the mesh's store, and behind the table's. -/
theorem TA.s1 (h : TA w g bm bt a1 a2 v L tv q n cap P wr) : (((wr.setCell ⟨w.heap.size, 0, none⟩ (.int .i64 a1)).setCell ⟨w.heap.size, 1, none⟩ (.int .i64 a2)).setCell ⟨w.heap.size, 2, none⟩ v).cell? ⟨bt, 0, none⟩ = some tv ∧
    (((wr.setCell ⟨w.heap.size, 0, none⟩ (.int .i64 a1)).setCell ⟨w.heap.size, 1, none⟩ (.int .i64 a2)).setCell ⟨w.heap.size, 2, none⟩ v).cell? ⟨w.heap.size + 1, 0, none⟩ = some (.slice none 0 0) ∧ (((wr.setCell ⟨w.heap.size, 0, none⟩ (.int .i64 a1)).setCell ⟨w.heap.size, 1, none⟩ (.int .i64 a2)).setCell ⟨w.heap.size, 2, none⟩ v).frozen? ⟨w.heap.size + 1, 0, none⟩ = false := by
  have hg := gb_put3 wr w.heap.size (.int .i64 a1) (.int .i64 a2) v
  have h3 := h.lt
  have k1 := h.kt.grown hg (fun e => by have := Option.some.inj e; omega)
  have k2 := h.rt.grown hg (fun e => by have := Option.some.inj e; omega)
  exact ⟨k1.cell 0, k2.cell 0, k2.frozen 0⟩
theorem TA.s2 (h : TA w g bm bt a1 a2 v L tv q n cap P wr) : (wr.setCell ⟨w.heap.size + 1, 0, none⟩ tv).cell? ⟨bm, 0, none⟩ = some (.int .i64 a1) ∧ (wr.setCell ⟨w.heap.size + 1, 0, none⟩ tv).cell? ⟨bm, 1, none⟩ = some (.int .i64 a2) ∧ (wr.setCell ⟨w.heap.size + 1, 0, none⟩ tv).cell? ⟨bm, 2, none⟩ = some v ∧
    (wr.setCell ⟨w.heap.size + 1, 0, none⟩ tv).cell? ⟨w.heap.size, 0, none⟩ = some (.int .i64 0) ∧ (wr.setCell ⟨w.heap.size + 1, 0, none⟩ tv).cell? ⟨w.heap.size, 1, none⟩ = some (.int .i64 0) ∧ (wr.setCell ⟨w.heap.size + 1, 0, none⟩ tv).cell? ⟨w.heap.size, 2, none⟩ = some (.slice none 0 0) ∧
    (wr.setCell ⟨w.heap.size + 1, 0, none⟩ tv).frozen? ⟨w.heap.size, 0, none⟩ = false ∧ (wr.setCell ⟨w.heap.size + 1, 0, none⟩ tv).frozen? ⟨w.heap.size, 1, none⟩ = false ∧ (wr.setCell ⟨w.heap.size + 1, 0, none⟩ tv).frozen? ⟨w.heap.size, 2, none⟩ = false := by
  have hg : wr.grownBy (wr.setCell ⟨w.heap.size + 1, 0, none⟩ tv) (some (w.heap.size + 1)) := gb_setCell (gb_refl wr (some (w.heap.size + 1))) (.inl rfl) _
  have h3 := h.lm
  have k1 := h.km.grown hg (fun e => by have := Option.some.inj e; omega)
  have k2 := h.rm.grown hg (fun e => by have := Option.some.inj e; omega)
  exact ⟨k1.cell 0, k1.cell 1, k1.cell 2, k2.cell 0, k2.cell 1, k2.cell 2, k2.frozen 0, k2.frozen 1, k2.frozen 2⟩
theorem TA.fin1 (h : TA w g bm bt a1 a2 v L tv q n cap P wr) : ((((wr.setCell ⟨w.heap.size, 0, none⟩ (.int .i64 a1)).setCell ⟨w.heap.size, 1, none⟩ (.int .i64 a2)).setCell ⟨w.heap.size, 2, none⟩ v).setCell ⟨w.heap.size + 1, 0, none⟩ tv).cell? ⟨w.heap.size, 0, none⟩ = some (.int .i64 a1) ∧ ((((wr.setCell ⟨w.heap.size, 0, none⟩ (.int .i64 a1)).setCell ⟨w.heap.size, 1, none⟩ (.int .i64 a2)).setCell ⟨w.heap.size, 2, none⟩ v).setCell ⟨w.heap.size + 1, 0, none⟩ tv).cell? ⟨w.heap.size, 1, none⟩ = some (.int .i64 a2) ∧ ((((wr.setCell ⟨w.heap.size, 0, none⟩ (.int .i64 a1)).setCell ⟨w.heap.size, 1, none⟩ (.int .i64 a2)).setCell ⟨w.heap.size, 2, none⟩ v).setCell ⟨w.heap.size + 1, 0, none⟩ tv).cell? ⟨w.heap.size, 2, none⟩ = some v ∧ ((((wr.setCell ⟨w.heap.size, 0, none⟩ (.int .i64 a1)).setCell ⟨w.heap.size, 1, none⟩ (.int .i64 a2)).setCell ⟨w.heap.size, 2, none⟩ v).setCell ⟨w.heap.size + 1, 0, none⟩ tv).cell? ⟨w.heap.size + 1, 0, none⟩ = some tv ∧
    Cur ((((wr.setCell ⟨w.heap.size, 0, none⟩ (.int .i64 a1)).setCell ⟨w.heap.size, 1, none⟩ (.int .i64 a2)).setCell ⟨w.heap.size, 2, none⟩ v).setCell ⟨w.heap.size + 1, 0, none⟩ tv).drew g ∧ w.grownBy ((((wr.setCell ⟨w.heap.size, 0, none⟩ (.int .i64 a1)).setCell ⟨w.heap.size, 1, none⟩ (.int .i64 a2)).setCell ⟨w.heap.size, 2, none⟩ v).setCell ⟨w.heap.size + 1, 0, none⟩ tv).drew (some g) ∧ ((((wr.setCell ⟨w.heap.size, 0, none⟩ (.int .i64 a1)).setCell ⟨w.heap.size, 1, none⟩ (.int .i64 a2)).setCell ⟨w.heap.size, 2, none⟩ v).setCell ⟨w.heap.size + 1, 0, none⟩ tv).drew.ownsRow (w.heap.size + 2) 3 1 v L.length (intsV L) ∧ ((((wr.setCell ⟨w.heap.size, 0, none⟩ (.int .i64 a1)).setCell ⟨w.heap.size, 1, none⟩ (.int .i64 a2)).setCell ⟨w.heap.size, 2, none⟩ v).setCell ⟨w.heap.size + 1, 0, none⟩ tv).drew.ownsRow (w.heap.size + 2) 3 1 (.slice (some ⟨q, 0, none⟩) n cap) n (intsV P) := by
  have hgl := h.gl
  have g1 := gb_put3 wr w.heap.size (.int .i64 a1) (.int .i64 a2) v
  have g2 : (((wr.setCell ⟨w.heap.size, 0, none⟩ (.int .i64 a1)).setCell ⟨w.heap.size, 1, none⟩ (.int .i64 a2)).setCell ⟨w.heap.size, 2, none⟩ v).grownBy ((((wr.setCell ⟨w.heap.size, 0, none⟩ (.int .i64 a1)).setCell ⟨w.heap.size, 1, none⟩ (.int .i64 a2)).setCell ⟨w.heap.size, 2, none⟩ v).setCell ⟨w.heap.size + 1, 0, none⟩ tv) (some (w.heap.size + 1)) := gb_setCell (gb_refl _ _) (.inl rfl) _
  have m1 : Blk (((wr.setCell ⟨w.heap.size, 0, none⟩ (.int .i64 a1)).setCell ⟨w.heap.size, 1, none⟩ (.int .i64 a2)).setCell ⟨w.heap.size, 2, none⟩ v) w.heap.size 28 #[.int .i64 a1, .int .i64 a2, v] := by
    have := ((h.rm.set_ 0 (.int .i64 a1)).set_ 1 (.int .i64 a2)).set_ 2 v
    simpa using this
  have m2 := m1.grown g2 (fun e => by have := Option.some.inj e; omega)
  have t2 : Blk ((((wr.setCell ⟨w.heap.size, 0, none⟩ (.int .i64 a1)).setCell ⟨w.heap.size, 1, none⟩ (.int .i64 a2)).setCell ⟨w.heap.size, 2, none⟩ v).setCell ⟨w.heap.size + 1, 0, none⟩ tv) (w.heap.size + 1) 30 #[tv] := by
    have := (h.rt.grown g1 (fun e => by have := Option.some.inj e; omega)).set_ 0 tv
    simpa using this
  have hrow : ∀ {u : Value} {k : Nat} {xs : List Value}, wr.ownsRow (w.heap.size + 2) 3 1 u k xs → ((((wr.setCell ⟨w.heap.size, 0, none⟩ (.int .i64 a1)).setCell ⟨w.heap.size, 1, none⟩ (.int .i64 a2)).setCell ⟨w.heap.size, 2, none⟩ v).setCell ⟨w.heap.size + 1, 0, none⟩ tv).drew.ownsRow (w.heap.size + 2) 3 1 u k xs := fun hv => by
    have h1 := row_kept hv g1 (fun j e e2 => by have := (hv.lt j e2).1; have := Option.some.inj e; omega)
    exact own_none (row_kept h1 g2 (fun j e e2 => by have := (h1.lt j e2).1; have := Option.some.inj e; omega)) (gb_drew (gb_refl _ none))
  exact ⟨m2.cell 0, m2.cell 1, m2.cell 2, t2.cell 0, ((h.c.grown g1 (fun k e => by have := Option.some.inj e; omega)).grown g2 (fun k e => by have := Option.some.inj e; omega)).grown (gb_drew (gb_refl _ none)) (fun k e => by cases e), gb_drew (gb_setCell (gb_put3r h.h (Nat.le_refl _) _ _ _) (.inr (by show w.heap.size ≤ w.heap.size + 1; omega)) _), hrow h.om, hrow h.ot⟩
theorem TA.fin2 (h : TA w g bm bt a1 a2 v L tv q n cap P wr) : ((((wr.setCell ⟨w.heap.size + 1, 0, none⟩ tv).setCell ⟨w.heap.size, 0, none⟩ (.int .i64 a1)).setCell ⟨w.heap.size, 1, none⟩ (.int .i64 a2)).setCell ⟨w.heap.size, 2, none⟩ v).cell? ⟨w.heap.size, 0, none⟩ = some (.int .i64 a1) ∧ ((((wr.setCell ⟨w.heap.size + 1, 0, none⟩ tv).setCell ⟨w.heap.size, 0, none⟩ (.int .i64 a1)).setCell ⟨w.heap.size, 1, none⟩ (.int .i64 a2)).setCell ⟨w.heap.size, 2, none⟩ v).cell? ⟨w.heap.size, 1, none⟩ = some (.int .i64 a2) ∧ ((((wr.setCell ⟨w.heap.size + 1, 0, none⟩ tv).setCell ⟨w.heap.size, 0, none⟩ (.int .i64 a1)).setCell ⟨w.heap.size, 1, none⟩ (.int .i64 a2)).setCell ⟨w.heap.size, 2, none⟩ v).cell? ⟨w.heap.size, 2, none⟩ = some v ∧ ((((wr.setCell ⟨w.heap.size + 1, 0, none⟩ tv).setCell ⟨w.heap.size, 0, none⟩ (.int .i64 a1)).setCell ⟨w.heap.size, 1, none⟩ (.int .i64 a2)).setCell ⟨w.heap.size, 2, none⟩ v).cell? ⟨w.heap.size + 1, 0, none⟩ = some tv ∧
    Cur ((((wr.setCell ⟨w.heap.size + 1, 0, none⟩ tv).setCell ⟨w.heap.size, 0, none⟩ (.int .i64 a1)).setCell ⟨w.heap.size, 1, none⟩ (.int .i64 a2)).setCell ⟨w.heap.size, 2, none⟩ v).drew g ∧ w.grownBy ((((wr.setCell ⟨w.heap.size + 1, 0, none⟩ tv).setCell ⟨w.heap.size, 0, none⟩ (.int .i64 a1)).setCell ⟨w.heap.size, 1, none⟩ (.int .i64 a2)).setCell ⟨w.heap.size, 2, none⟩ v).drew (some g) ∧ ((((wr.setCell ⟨w.heap.size + 1, 0, none⟩ tv).setCell ⟨w.heap.size, 0, none⟩ (.int .i64 a1)).setCell ⟨w.heap.size, 1, none⟩ (.int .i64 a2)).setCell ⟨w.heap.size, 2, none⟩ v).drew.ownsRow (w.heap.size + 2) 3 1 v L.length (intsV L) ∧ ((((wr.setCell ⟨w.heap.size + 1, 0, none⟩ tv).setCell ⟨w.heap.size, 0, none⟩ (.int .i64 a1)).setCell ⟨w.heap.size, 1, none⟩ (.int .i64 a2)).setCell ⟨w.heap.size, 2, none⟩ v).drew.ownsRow (w.heap.size + 2) 3 1 (.slice (some ⟨q, 0, none⟩) n cap) n (intsV P) := by
  have hgl := h.gl
  have g1 : wr.grownBy (wr.setCell ⟨w.heap.size + 1, 0, none⟩ tv) (some (w.heap.size + 1)) := gb_setCell (gb_refl _ _) (.inl rfl) _
  have g2 := gb_put3 (wr.setCell ⟨w.heap.size + 1, 0, none⟩ tv) w.heap.size (.int .i64 a1) (.int .i64 a2) v
  have t1 : Blk (wr.setCell ⟨w.heap.size + 1, 0, none⟩ tv) (w.heap.size + 1) 30 #[tv] := by
    have := h.rt.set_ 0 tv
    simpa using this
  have t2 := t1.grown g2 (fun e => by have := Option.some.inj e; omega)
  have m2 : Blk ((((wr.setCell ⟨w.heap.size + 1, 0, none⟩ tv).setCell ⟨w.heap.size, 0, none⟩ (.int .i64 a1)).setCell ⟨w.heap.size, 1, none⟩ (.int .i64 a2)).setCell ⟨w.heap.size, 2, none⟩ v) w.heap.size 28 #[.int .i64 a1, .int .i64 a2, v] := by
    have := (((h.rm.grown g1 (fun e => by have := Option.some.inj e; omega)).set_ 0 (.int .i64 a1)).set_ 1 (.int .i64 a2)).set_ 2 v
    simpa using this
  have hrow : ∀ {u : Value} {k : Nat} {xs : List Value}, wr.ownsRow (w.heap.size + 2) 3 1 u k xs → ((((wr.setCell ⟨w.heap.size + 1, 0, none⟩ tv).setCell ⟨w.heap.size, 0, none⟩ (.int .i64 a1)).setCell ⟨w.heap.size, 1, none⟩ (.int .i64 a2)).setCell ⟨w.heap.size, 2, none⟩ v).drew.ownsRow (w.heap.size + 2) 3 1 u k xs := fun hv => by
    have h1 := row_kept hv g1 (fun j e e2 => by have := (hv.lt j e2).1; have := Option.some.inj e; omega)
    exact own_none (row_kept h1 g2 (fun j e e2 => by have := (h1.lt j e2).1; have := Option.some.inj e; omega)) (gb_drew (gb_refl _ none))
  exact ⟨m2.cell 0, m2.cell 1, m2.cell 2, t2.cell 0, ((h.c.grown g1 (fun k e => by have := Option.some.inj e; omega)).grown g2 (fun k e => by have := Option.some.inj e; omega)).grown (gb_drew (gb_refl _ none)) (fun k e => by cases e), gb_drew (gb_put3r (gb_setCell h.h (.inr (by show w.heap.size ≤ w.heap.size + 1; omega)) _) (Nat.le_refl _) _ _ _), hrow h.om, hrow h.ot⟩
end
set_option maxHeartbeats 3200000 in
theorem l04Any (g : Nat) (w : World) (hcur : Cur w g) :
    Calls Tryz.prog 31 #[.pointer (some ⟨g, 0, none⟩)] w (DrawnAnyT g w) := by
  have hlt := hcur.lt
  have e0 : ((w.alloc (.cells #[.int .i64 0, .int .i64 0, .slice none 0 0] 28)).alloc (.cells #[.slice none 0 0] 30)).heap.size = w.heap.size + 2 := by rw [alloc_size, alloc_size]
  have ha : w.grownBy ((w.alloc (.cells #[.int .i64 0, .int .i64 0, .slice none 0 0] 28)).alloc (.cells #[.slice none 0 0] 30)) none := gb_alloc (gb_alloc (gb_refl _ _) _) _
  have hc0 : Cur ((w.alloc (.cells #[.int .i64 0, .int .i64 0, .slice none 0 0] 28)).alloc (.cells #[.slice none 0 0] 30)) g := hcur.grown ha (fun k e => by cases e)
  have HM := Lib.hid ((Blk.new w 28 #[.int .i64 0, .int .i64 0, .slice none 0 0]).alloc (.cells #[.slice none 0 0] 30))
  have HT := Lib.hid (show Blk ((w.alloc (.cells #[.int .i64 0, .int .i64 0, .slice none 0 0] 28)).alloc (.cells #[.slice none 0 0] 30)) (w.heap.size + 1) 30 #[.slice none 0 0] from by
    have h := Blk.new (w.alloc (.cells #[.int .i64 0, .int .i64 0, .slice none 0 0] 28)) 30 #[.slice none 0 0]
    rw [alloc_size] at h
    exact h)
  have HA := Lib.hid (gb_of_none ha (some g))
  have HE := Lib.hid e0
  clear hcur e0 ha
  go_enter Tryz.func31, Tryz.ntmps31
  go_wp2_with fail
  refine (l04Case g _ hc0).mono ?_
  rintro e w1 ⟨W, H, r, v, rfl, hok, hr1, hr4, ho, hcur1, hg1⟩
  obtain ⟨A0, cap, rfl, hA0⟩ := own_form ho
  have hn := stdTo_len W H r (sqG W H)
  have hn2 := sq_ok hok
  obtain ⟨q, rfl⟩ := hA0 (by unfold stdTab; omega)
  obtain ⟨P, hP⟩ : ∃ P, stdTab W H r = P := ⟨_, rfl⟩
  obtain ⟨n, hn3⟩ : ∃ n, P.length = n := ⟨_, rfl⟩
  rw [hP] at ho ⊢
  rw [hn3] at ho ⊢
  have HN := Lib.hid (show P.length = n ∧ 1 ≤ n ∧ n ≤ 256 from ⟨hn3, by rw [← hn3, ← hP]; unfold stdTab; omega, by rw [← hn3, ← hP]; unfold stdTab; omega⟩)
  rw [HE.out] at ho
  have hs := hg1.size
  rw [HE.out] at hs
  clear hc0 hok hr1 hr4 hA0 hn hn2 hP hn3
  have X1 := Lib.hid (show TA w g w1.heap.size (w1.heap.size + 1) W H (.slice none 0 0) [] (.slice (some ⟨q, 0, none⟩) n cap) q n cap P ((w1.alloc (.cells #[.int .i64 W, .int .i64 H, .slice none 0 0] 28)).alloc (.cells #[.slice (some ⟨q, 0, none⟩) n cap] 30)) from by
    have g1 : w1.grownBy ((w1.alloc (.cells #[.int .i64 W, .int .i64 H, .slice none 0 0] 28)).alloc (.cells #[.slice (some ⟨q, 0, none⟩) n cap] 30)) none := gb_alloc (gb_alloc (gb_refl _ _) _) _
    have hk := Blk.new (w1.alloc (.cells #[.int .i64 W, .int .i64 H, .slice none 0 0] 28)) 30 #[.slice (some ⟨q, 0, none⟩) n cap]
    rw [alloc_size] at hk
    exact ⟨(HM.out.grown hg1 (fun e => by have := Option.some.inj e; omega)).grown g1 (by simp), (HT.out.grown hg1 (fun e => by have := Option.some.inj e; omega)).grown g1 (by simp), (Blk.new w1 28 _).alloc _, hk, World.ownsRow_nil _ _ _ _, own_none ho g1, apart_none _, hcur1.grown g1 (fun k e => by cases e), gb_trans (gb_trans HA.out hg1) (gb_of_none g1 _), by omega, by omega, hlt⟩)
  clear hcur1 hg1 hs ho
  go_wp2_with fail
  refine (l01Below 12 g _ X1.out.c).mono ?_
  rintro e w2 ⟨x, rfl, _, _, _, hc2, hg2⟩
  have X2 := Lib.hid (X1.out.gb hg2 hc2)
  obtain ⟨bm, hbm⟩ : ∃ b, w1.heap.size = b := ⟨_, rfl⟩
  rw [hbm] at X2 ⊢
  obtain ⟨bt, hbt⟩ : ∃ b, bm + 1 = b := ⟨_, rfl⟩
  rw [hbt] at X2 ⊢
  clear hc2 hg2 hbm hbt
  by_cases x0 : x = 0
  · subst x0
    go_wp2_with fail
    refine (l03Any g _ X2.out.c).mono ?_
    rintro e w3 ⟨W', H', v', L', rfl, hwf, ho, hL, hc3, hg3⟩
    obtain ⟨Av, cv, rfl, _⟩ := own_form ho
    have X3 := Lib.hid ((X2.out.gb hg3 hc3).mesh W' H' (own_less ho (by have := X2.out.kt.lt; have := X2.out.lt; omega)) (fun j e e2 => by have h1 := (X2.out.ot.lt j e).2; have h2 := (ho.lt j e2).1; omega))
    obtain ⟨m0, m1, m2, m3, m4, m5⟩ := (X2.out.gb hg3 hc3).cm
    clear hc3 hg3 ho
    go_wp2_with fail
    clear m0 m1 m2 m3 m4 m5
    have XD := Lib.hid X3.out.dr
    obtain ⟨m0, m1, m2, m3, m4, m5⟩ := X3.out.cm
    obtain ⟨n0, z0, z1, z2, f0, f1, f2, t0, g0⟩ := X3.out.cr
    obtain ⟨a0, a1, a2⟩ := X3.out.s1
    obtain ⟨b0, b1, b2, c0, c1, c2, d0, d1, d2⟩ := X3.out.s2
    go_region_law (first | fail)
    all_goals
      clear m0 m1 m2 m3 m4 m5 n0 z0 z1 z2 f0 f1 f2 t0 g0 a0 a1 a2 b0 b1 b2 c0 c1 c2 d0 d1 d2
      go_wp2_with fail
      first
        | (obtain ⟨r0, r1, r2, r3, hC, hG, hO, hP⟩ := X3.out.fin1
           refine bodyPost_ret (v := .tuple #[.agg #[.int .i64 W', .int .i64 H', .slice Av L'.length cv], .agg #[.slice (some ⟨q, 0, none⟩) n cap]]) (by simp [results, Tryz.results31, go_sem, r0, r1, r2, r3]) rfl ⟨_, _, _, L', _, _, _, P, rfl, hwf, hO, hL, intAt_own hP HN.out.1 (Nat.le_refl _), (fun a e => by cases e; exact (hP.lt q rfl).1), HN.out.2.2, hC, hG⟩)
        | (obtain ⟨r0, r1, r2, r3, hC, hG, hO, hP⟩ := X3.out.fin2
           refine bodyPost_ret (v := .tuple #[.agg #[.int .i64 W', .int .i64 H', .slice Av L'.length cv], .agg #[.slice (some ⟨q, 0, none⟩) n cap]]) (by simp [results, Tryz.results31, go_sem, r0, r1, r2, r3]) rfl ⟨_, _, _, L', _, _, _, P, rfl, hwf, hO, hL, intAt_own hP HN.out.1 (Nat.le_refl _), (fun a e => by cases e; exact (hP.lt q rfl).1), HN.out.2.2, hC, hG⟩)
  · have x0b : (x == 0) = false := beq_eq_false_iff_ne.2 x0
    by_cases x1 : x = 1
    · subst x1
      have q0 : (1 : Int) ≤ (n : Int) := by have := HN.out.2.1; omega
      have q1 : 1 ≤ n := HN.out.2.1
      have hk := X2.out.kt.cell 0
      have hkf := X2.out.kt.frozen 0
      simp at hk
      have X3 := Lib.hid (X2.out.part (.slice (some ⟨q, 1, none⟩) (n - 1) (cap - 1)))
      have q2 : n ≤ cap := (own_cap X2.out.ot).1
      have q3 : 1 ≤ cap := by omega
      clear x0 x0b
      by_cases hc1 : cap - 1 = 0
      · have X4 := Lib.hid (X2.out.part (.slice (some ⟨q, 0, none⟩) (n - 1) 0))
        clear X3
        go_wp2_with fail
        clear hk hkf
        obtain ⟨m0, m1, m2, m3, m4, m5⟩ := X4.out.cm
        obtain ⟨n0, z0, z1, z2, f0, f1, f2, t0, g0⟩ := X4.out.cr
        obtain ⟨a0, a1, a2⟩ := X4.out.s1
        obtain ⟨b0, b1, b2, c0, c1, c2, d0, d1, d2⟩ := X4.out.s2
        go_region_law (first | fail)
        all_goals
          clear m0 m1 m2 m3 m4 m5 n0 z0 z1 z2 f0 f1 f2 t0 g0 a0 a1 a2 b0 b1 b2 c0 c1 c2 d0 d1 d2
          go_wp2_with fail
          first
            | (obtain ⟨r0, r1, r2, r3, hC, hG, hO, hP⟩ := X4.out.fin1
               refine bodyPost_ret (v := .tuple #[.agg #[.int .i64 W, .int .i64 H, .slice none 0 0], .agg #[.slice (some ⟨q, 0, none⟩) (n - 1) 0]]) (by simp [results, Tryz.results31, go_sem, r0, r1, r2, r3]) rfl ⟨_, _, _, [], _, _, _, _, rfl, (fun y hy => by cases hy), hO, (by simp), (show IntAt _ _ _ _ [] from ⟨by simp; omega, fun h => by omega⟩), (fun a e => by cases e; exact (hP.lt q rfl).1), (by have := HN.out.2.2; omega), hC, hG⟩)
            | (obtain ⟨r0, r1, r2, r3, hC, hG, hO, hP⟩ := X4.out.fin2
               refine bodyPost_ret (v := .tuple #[.agg #[.int .i64 W, .int .i64 H, .slice none 0 0], .agg #[.slice (some ⟨q, 0, none⟩) (n - 1) 0]]) (by simp [results, Tryz.results31, go_sem, r0, r1, r2, r3]) rfl ⟨_, _, _, [], _, _, _, _, rfl, (fun y hy => by cases hy), hO, (by simp), (show IntAt _ _ _ _ [] from ⟨by simp; omega, fun h => by omega⟩), (fun a e => by cases e; exact (hP.lt q rfl).1), (by have := HN.out.2.2; omega), hC, hG⟩)
      · go_wp2_with fail
        clear hk hkf
        obtain ⟨m0, m1, m2, m3, m4, m5⟩ := X3.out.cm
        obtain ⟨n0, z0, z1, z2, f0, f1, f2, t0, g0⟩ := X3.out.cr
        obtain ⟨a0, a1, a2⟩ := X3.out.s1
        obtain ⟨b0, b1, b2, c0, c1, c2, d0, d1, d2⟩ := X3.out.s2
        go_region_law (first | fail)
        all_goals
          clear m0 m1 m2 m3 m4 m5 n0 z0 z1 z2 f0 f1 f2 t0 g0 a0 a1 a2 b0 b1 b2 c0 c1 c2 d0 d1 d2
          go_wp2_with fail
          first
            | (obtain ⟨r0, r1, r2, r3, hC, hG, hO, hP⟩ := X3.out.fin1
               refine bodyPost_ret (v := .tuple #[.agg #[.int .i64 W, .int .i64 H, .slice none 0 0], .agg #[.slice (some ⟨q, 1, none⟩) (n - 1) (cap - 1)]]) (by simp [results, Tryz.results31, go_sem, r0, r1, r2, r3]) rfl ⟨_, _, _, [], _, _, _, _, rfl, (fun y hy => by cases hy), hO, (by simp), intAt_tail hP HN.out.1 (Nat.le_refl _), (fun a e => by cases e; exact (hP.lt q rfl).1), (by have := HN.out.2.2; omega), hC, hG⟩)
            | (obtain ⟨r0, r1, r2, r3, hC, hG, hO, hP⟩ := X3.out.fin2
               refine bodyPost_ret (v := .tuple #[.agg #[.int .i64 W, .int .i64 H, .slice none 0 0], .agg #[.slice (some ⟨q, 1, none⟩) (n - 1) (cap - 1)]]) (by simp [results, Tryz.results31, go_sem, r0, r1, r2, r3]) rfl ⟨_, _, _, [], _, _, _, _, rfl, (fun y hy => by cases hy), hO, (by simp), intAt_tail hP HN.out.1 (Nat.le_refl _), (fun a e => by cases e; exact (hP.lt q rfl).1), (by have := HN.out.2.2; omega), hC, hG⟩)
    · have x1b : (x == 1) = false := beq_eq_false_iff_ne.2 x1
      by_cases x2 : x = 2
      · subst x2
        have X2d := Lib.hid X2.out.dr
        have hk := X2.out.kt.cell 0
        simp at hk
        have hkd : w2.drew.cell? ⟨bt, 0, none⟩ = some (.slice (some ⟨q, 0, none⟩) n cap) := hk
        have hnp : (0 : Int) < (n : Int) := by have := HN.out.2.1; omega
        clear x0 x0b x1 x1b
        go_wp2_with fail
        go_region_held3 (fun w' => w'.cell? ⟨bt, 0, none⟩ = some (.slice (some ⟨q, 0, none⟩) n cap))
          (first | exact hk | exact hkd | exact e0 | exact e1 | with_reducible exact e2 | fail)
          (first
            | (go_at_call 52; (with_reducible refine (l01Below 7 g _ X3.out.c).mono ?_); rintro e w4 ⟨y, rfl, y0, y1, _, hc4, hg4⟩; have y2 := y1 (by omega); have HY := Lib.hid (And.intro y0 y2); have X4 := Lib.hid (X3.out.gb hg4 hc4); have e1 : w4.cell? ⟨bt, 0, none⟩ = some (.slice (some ⟨q, 0, none⟩) n cap) := X4.out.kt.cell 0; have yw : IntKind.i64.wrap (y - 1) = y - 1 := IntWalk.i64_in _ (by omega); have c4 := ints_get0 X4.out.ot (show k < n by omega); have f4 := X4.out.ot.frozenAt k; have X5 := Lib.hid (X4.out.num k (y - 1)); have e2 : (w4.setCell ⟨q, k, none⟩ (.int .i64 (y - 1))).cell? ⟨bt, 0, none⟩ = some (.slice (some ⟨q, 0, none⟩) n cap) := X5.out.kt.cell 0; clear hc4 hg4 y1)
            | (go_at_call 52; (with_reducible refine (l01Below n g _ X2d.out.c).mono ?_); rintro e w3 ⟨kk, rfl, k0, k1, _, hc3, hg3⟩; have k2 := k1 hnp; obtain ⟨k, rfl⟩ : ∃ k : Nat, kk = (k : Int) := ⟨kk.toNat, by omega⟩; have X3 := Lib.hid (X2d.out.gb hg3 hc3); have e0 : w3.cell? ⟨bt, 0, none⟩ = some (.slice (some ⟨q, 0, none⟩) n cap) := X3.out.kt.cell 0; clear hc3 hg3 k1)
            | fail)
        all_goals
          clear hk hkd e0 e1 e2 c4 f4
          go_wp2_with fail
          obtain ⟨m0, m1, m2, m3, m4, m5⟩ := X5.out.cm
          obtain ⟨n0, z0, z1, z2, f0, f1, f2, t0, g0⟩ := X5.out.cr
          obtain ⟨a0, a1, a2⟩ := X5.out.s1
          obtain ⟨b0, b1, b2, c0, c1, c2, d0, d1, d2⟩ := X5.out.s2
          go_region_law (first | fail)
          all_goals
            clear m0 m1 m2 m3 m4 m5 n0 z0 z1 z2 f0 f1 f2 t0 g0 a0 a1 a2 b0 b1 b2 c0 c1 c2 d0 d1 d2
            go_wp2_with fail
            first
              | (obtain ⟨r0, r1, r2, r3, hC, hG, hO, hP⟩ := X5.out.fin1
                 refine bodyPost_ret (v := .tuple #[.agg #[.int .i64 W, .int .i64 H, .slice none 0 0], .agg #[.slice (some ⟨q, 0, none⟩) n cap]]) (by simp [results, Tryz.results31, go_sem, r0, r1, r2, r3]) rfl ⟨_, _, _, [], _, _, _, _, rfl, (fun y hy => by cases hy), hO, (by simp), intAt_own hP (by rw [List.length_set]; exact HN.out.1) (Nat.le_refl _), (fun a e => by cases e; exact (hP.lt q rfl).1), HN.out.2.2, hC, hG⟩)
              | (obtain ⟨r0, r1, r2, r3, hC, hG, hO, hP⟩ := X5.out.fin2
                 refine bodyPost_ret (v := .tuple #[.agg #[.int .i64 W, .int .i64 H, .slice none 0 0], .agg #[.slice (some ⟨q, 0, none⟩) n cap]]) (by simp [results, Tryz.results31, go_sem, r0, r1, r2, r3]) rfl ⟨_, _, _, [], _, _, _, _, rfl, (fun y hy => by cases hy), hO, (by simp), intAt_own hP (by rw [List.length_set]; exact HN.out.1) (Nat.le_refl _), (fun a e => by cases e; exact (hP.lt q rfl).1), HN.out.2.2, hC, hG⟩)
      · have x2b : (x == 2) = false := beq_eq_false_iff_ne.2 x2
        go_wp2_with fail
        obtain ⟨m0, m1, m2, m3, m4, m5⟩ := X2.out.cm
        obtain ⟨n0, z0, z1, z2, f0, f1, f2, t0, g0⟩ := X2.out.cr
        obtain ⟨a0, a1, a2⟩ := X2.out.s1
        obtain ⟨b0, b1, b2, c0, c1, c2, d0, d1, d2⟩ := X2.out.s2
        go_region_law (first | fail)
        all_goals
          clear m0 m1 m2 m3 m4 m5 n0 z0 z1 z2 f0 f1 f2 t0 g0 a0 a1 a2 b0 b1 b2 c0 c1 c2 d0 d1 d2
          go_wp2_with fail
          first
            | (obtain ⟨r0, r1, r2, r3, hC, hG, hO, hP⟩ := X2.out.fin1
               refine bodyPost_ret (v := .tuple #[.agg #[.int .i64 W, .int .i64 H, .slice none 0 0], .agg #[.slice (some ⟨q, 0, none⟩) n cap]]) (by simp [results, Tryz.results31, go_sem, r0, r1, r2, r3]) rfl ⟨_, _, _, [], _, _, _, _, rfl, (fun y hy => by cases hy), hO, (by simp), intAt_own hP HN.out.1 (Nat.le_refl _), (fun a e => by cases e; exact (hP.lt q rfl).1), HN.out.2.2, hC, hG⟩)
            | (obtain ⟨r0, r1, r2, r3, hC, hG, hO, hP⟩ := X2.out.fin2
               refine bodyPost_ret (v := .tuple #[.agg #[.int .i64 W, .int .i64 H, .slice none 0 0], .agg #[.slice (some ⟨q, 0, none⟩) n cap]]) (by simp [results, Tryz.results31, go_sem, r0, r1, r2, r3]) rfl ⟨_, _, _, [], _, _, _, _, rfl, (fun y hy => by cases hy), hO, (by simp), intAt_own hP HN.out.1 (Nat.le_refl _), (fun a e => by cases e; exact (hP.lt q rfl).1), HN.out.2.2, hC, hG⟩)
end Go.Proofs.YtidilfakganooaaGreatDoor
end

section
namespace Go.Proofs.YtidilfakganooaaGreatDoor
open Go.ChangeShapes Go.WideShapes Go.ChangeAt Go.RowKit
set_option linter.unusedVariables false
set_option maxRecDepth 20000

/-- Some mesh and some table are returned; only new blocks are written. -/
def DrawnChk (w : World) (e : Ending) (w' : World) : Prop :=
  ∃ (W H : Int) (v : Value) (L : List Int) (A2 : Option Addr) (n2 c2 : Nat) (P : List Int), e = .returned (.tuple #[.agg #[.int .i64 W, .int .i64 H, v], .agg #[.slice A2 n2 c2]]) ∧ WfL L ∧ w'.ownsRow w.heap.size 3 1 v L.length (intsV L) ∧ L.length ≤ 65 ∧ IntAt w' w'.heap.size A2 n2 P ∧ n2 ≤ 256 ∧ Below w.heap.size w w'
/-- A list above a block stays where only lower blocks are written. -/
theorem intAt_far {w w' : World} {B n lo : Nat} {A : Option Addr} {P : List Int} (h : IntAt w B A n P) (hA : ∀ a, A = some a → lo ≤ a.block) (hk : ∀ p : Addr, lo ≤ p.block ∧ p.block < B → w'.cell? p = w.cell? p) : IntAt w' B A n P :=
  ⟨h.1, fun hn => by
    obtain ⟨b, off, e, hb, hc⟩ := h.2 hn
    exact ⟨b, off, e, hb, fun k x hx => (hk ⟨b, off + k, none⟩ ⟨(hA ⟨b, off, none⟩ e : lo ≤ b), hb⟩).trans (hc k x hx)⟩⟩
theorem drawCheck (A : Option Addr) (n cap : Nat) (w : World) (hr : ByteRow w w.heap.size A n) (hn : n ≤ 1048576) :
    Calls Tryz.prog 7 #[.slice A n cap] w (DrawnChk w) := by
  have hg0 : w.grownBy ((w.alloc (.cells #[.int .i64 0, .int .i64 0, .slice none 0 0] 28)).alloc (.cells #[.slice none 0 0] 30)) none := gb_alloc (gb_alloc (gb_refl w none) _) _
  have hs0 : ((w.alloc (.cells #[.int .i64 0, .int .i64 0, .slice none 0 0] 28)).alloc (.cells #[.slice none 0 0] 30)).heap.size = w.heap.size + 2 := by rw [alloc_size, alloc_size]
  have hr0 : ByteRow ((w.alloc (.cells #[.int .i64 0, .int .i64 0, .slice none 0 0] 28)).alloc (.cells #[.slice none 0 0] 30)) ((w.alloc (.cells #[.int .i64 0, .int .i64 0, .slice none 0 0] 28)).alloc (.cells #[.slice none 0 0] 30)).heap.size A n :=
    (hr.keep fun p hp => World.cell?_of_block (hg0.block p.block hp (by simp))).more (by rw [hs0]; omega)
  have hbM : Blk ((w.alloc (.cells #[.int .i64 0, .int .i64 0, .slice none 0 0] 28)).alloc (.cells #[.slice none 0 0] 30)) w.heap.size 28 #[.int .i64 0, .int .i64 0, .slice none 0 0] := (Blk.new w _ _).alloc _
  have hbT : Blk ((w.alloc (.cells #[.int .i64 0, .int .i64 0, .slice none 0 0] 28)).alloc (.cells #[.slice none 0 0] 30)) (w.heap.size + 1) 30 #[.slice none 0 0] := by
    have := Blk.new (w.alloc (.cells #[.int .i64 0, .int .i64 0, .slice none 0 0] 28)) 30 #[.slice none 0 0]
    rwa [alloc_size] at this
  have HR := Lib.hid hr0
  have HBM := Lib.hid hbM
  have HBT := Lib.hid hbT
  have HG0 := Lib.hid hg0
  have HS0 := Lib.hid hs0
  clear hr hr0 hbM hbT hg0 hs0
  go_enter Tryz.func7, Tryz.ntmps7
  go_wp2_with fail
  refine (l01New _ _ _ _ HR.out hn).mono ?_
  rintro e w1 ⟨g, rfl, hg, hc1, hbel⟩
  rw [HS0.out] at hg hbel
  have hle := hbel.size
  rw [HS0.out] at hle
  have HM1 := Lib.hid (HBM.out.below hbel (by omega))
  have HT1 := Lib.hid (HBT.out.below hbel (by omega))
  have HA1 := Lib.hid ((gb_below_none HG0.out (Nat.le_refl _)).trans (hbel.mono (by omega)))
  have HG := Lib.hid hg
  have HLE := Lib.hid hle
  have hcl := hc1.lt
  clear hbel hg hle
  go_wp2_with fail
  refine (l04Any g _ hc1).mono ?_
  rintro e w2 ⟨W, H, v, L, A2, n2, c2, P, rfl, hwf, ho2, hL, hi2, hlo, hn2, hc2, hg2⟩
  have HM2 := Lib.hid (HM1.out.grown hg2 (fun e => by cases e; have := HG.out; omega))
  have HT2 := Lib.hid (HT1.out.grown hg2 (fun e => by cases e; have := HG.out; omega))
  have HA2 := Lib.hid (HA1.out.trans (gb_below hg2 HA1.out.size (by have := HG.out; omega)))
  obtain ⟨Av, cv, rfl, _⟩ := own_form ho2
  have HO2 := Lib.hid ho2
  have HI2 := Lib.hid hi2
  have HLO := Lib.hid hlo
  have m0 : w2.cell? ⟨w.heap.size, 0, none⟩ = some (.int .i64 0) := HM2.out.cell 0
  have m1 : w2.cell? ⟨w.heap.size, 1, none⟩ = some (.int .i64 0) := HM2.out.cell 1
  have m2 : w2.cell? ⟨w.heap.size, 2, none⟩ = some (.slice none 0 0) := HM2.out.cell 2
  have t0 : w2.cell? ⟨w.heap.size + 1, 0, none⟩ = some (.slice none 0 0) := HT2.out.cell 0
  have f0 := HM2.out.frozen 0
  have f1 := HM2.out.frozen 1
  have f2 := HM2.out.frozen 2
  have f3 := HT2.out.frozen 0
  clear ho2 hi2 hlo hc1 hc2 hg2
  go_wp2_with fail
  have kk := ((((HM2.out.set_ 0 (.int .i64 W)).set_ 1 (.int .i64 H)).set_ 2 (.slice Av L.length cv)).far (p := ⟨w.heap.size + 1, 0, none⟩) (by show w.heap.size ≠ w.heap.size + 1; omega) (.slice A2 n2 c2))
  have tt := ((((HT2.out.far (p := ⟨w.heap.size, 0, none⟩) (by show w.heap.size + 1 ≠ w.heap.size; omega) (.int .i64 W)).far (p := ⟨w.heap.size, 1, none⟩) (by show w.heap.size + 1 ≠ w.heap.size; omega) (.int .i64 H)).far (p := ⟨w.heap.size, 2, none⟩) (by show w.heap.size + 1 ≠ w.heap.size; omega) (.slice Av L.length cv)).set_ 0 (.slice A2 n2 c2))
  have r0 := kk.cell 0
  have r1 := kk.cell 1
  have r2 := kk.cell 2
  have r3 := tt.cell 0
  simp at r0 r1 r2 r3
  have hle := HLE.out
  have g1 := gb_put3 w2 w.heap.size (.int .i64 W) (.int .i64 H) (.slice Av L.length cv)
  have g2 : (((w2.setCell ⟨w.heap.size, 0, none⟩ (.int .i64 W)).setCell ⟨w.heap.size, 1, none⟩ (.int .i64 H)).setCell ⟨w.heap.size, 2, none⟩ (.slice Av L.length cv)).grownBy ((((w2.setCell ⟨w.heap.size, 0, none⟩ (.int .i64 W)).setCell ⟨w.heap.size, 1, none⟩ (.int .i64 H)).setCell ⟨w.heap.size, 2, none⟩ (.slice Av L.length cv)).setCell ⟨w.heap.size + 1, 0, none⟩ (.slice A2 n2 c2)) (some (w.heap.size + 1)) := gb_setCell (gb_refl _ _) (.inl rfl) _
  have o1 := row_kept HO2.out g1 (fun j e e2 => by have := (HO2.out.lt j e2).1; have := Option.some.inj e; omega)
  have o2 := row_kept o1 g2 (fun j e e2 => by have := (o1.lt j e2).1; have := Option.some.inj e; omega)
  have i2 := intAt_far HI2.out HLO.out (fun p hp => World.cell?_of_block ((g2.block p.block (by have := g1.size; omega) (fun e => by have := Option.some.inj e; omega)).trans (g1.block p.block hp.2 (fun e => by have := Option.some.inj e; omega))))
  refine bodyPost_ret (v := .tuple #[.agg #[.int .i64 W, .int .i64 H, .slice Av L.length cv], .agg #[.slice A2 n2 c2]]) (by simp [results, Tryz.results7, go_sem, r0, r1, r2, r3]) rfl ⟨W, H, _, L, A2, n2, c2, P, rfl, hwf, own_less o2 (by omega), hL, i2.more (by simp), hn2, gb_below_none (gb_setCell (gb_put3r (gb_of_below HA2.out none) (Nat.le_refl _) _ _ _) (.inr (by show w.heap.size ≤ w.heap.size + 1; omega)) _) (Nat.le_refl _)⟩
end Go.Proofs.YtidilfakganooaaGreatDoor
end

section
namespace Go.Proofs.YtidilfakganooaaGreatDoor
open Go.ChangeShapes Go.WideShapes Go.ChangeAt Go.RowKit
set_option linter.unusedVariables false

theorem lawsBig (A : Option Addr) (n cap : Nat) (w : World) :
    Calls Tryz.prog 6 #[.slice A n cap] w fun e w' => e = .returned (.bool (decide (1048576 < n))) ∧ w = w' := by
  go_enter Tryz.func6, Tryz.ntmps6
  go_wp2_with fail
  go_ret
  exact ⟨ret_bool (by simp; omega), rfl⟩
end Go.Proofs.YtidilfakganooaaGreatDoor
end

section
namespace Go.Proofs.YtidilfakganooaaGreatDoor
open Go.ChangeShapes Go.WideShapes Go.ChangeAt Go.RowKit
set_option linter.unusedVariables false
set_option maxRecDepth 20000

set_option maxHeartbeats 1600000 in
theorem specIsOrder (A AR : Option Addr) (n cap nR cR : Nat) (D : List Dep) (R : List Int) (w : World) (h : DepAt w w.heap.size A n D) (hR : IntAt w w.heap.size AR nR R) (hn : n ≤ 1000000000) (hnR : nR ≤ 1000000000) :
    Calls Tryz.prog 40 #[.slice A n cap, .slice AR nR cR] w (RetB (isOrdO D R) w) := by
  have hl := h.1
  have hRl := hR.1
  have HI := Lib.hid h
  have HR := Lib.hid hR
  have HOK := Lib.hid (specDependsOk A n cap D w h (by omega))
  clear h hR
  cases hok : okD D with
  | false =>
    rw [isOrdO_bad hok]
    rw [hok] at HOK
    clear hok
    go_enter Tryz.func40, Tryz.ntmps40
    go_wp2_with fail
    refine HOK.out.mono ?_
    rintro e w1 ⟨rfl, hg1⟩
    have G1 := Lib.hid hg1
    clear hg1
    go_wp2_with fail
    go_ret
    exact ⟨rfl, G1.out⟩
  | true =>
    by_cases h128 : nR = 128
    · have HIN := Lib.hid (fun k (hk : k < D.length) => inD_iff.1 (okD_in hok (atD_mem hk)))
      have HYES := Lib.hid (fun (h3 : ∀ r : Nat, r < 128 → inG R (r : Int) = true) h4 => isOrdO_of hok (hRl.trans h128) h3 h4)
      have HLA := Lib.hid (fun (r : Nat) (hr : r < 128) h => isOrdO_lack (D := D) (R := R) (r := r) hr h)
      have HFA := Lib.hid (fun i hi h => isOrdO_fall (D := D) (R := R) (i := i) hi h)
      obtain ⟨b, hb⟩ : ∃ b, isOrdO D R = b := ⟨_, rfl⟩
      rw [hb] at HYES HLA HFA
      rw [hb]
      rw [hok] at HOK
      have HF := Lib.hid (fun (r : Nat) (b : Bool) (hb : inG R (r : Int) = b) B (w : World) (h : IntAt w B AR 128 R) => specFindV AR 128 cR B R (r : Int) b hb w h (by omega))
      subst h128
      clear hok hb
      go_enter Tryz.func40, Tryz.ntmps40
      go_wp2_with fail
      refine HOK.out.mono ?_
      rintro e w1 ⟨rfl, hg1⟩
      have G1 := Lib.hid hg1
      clear hg1
      go_wp2_with fail
      go_loopw [5] (fun i wr => ∃ r : Nat, i = .int .i64 (r : Int) ∧ r ≤ 128 ∧ (∀ j : Nat, j < r → inG R (j : Int) = true) ∧ w.grownBy wr none) (fun i _ => 128 - (intOf i).toNat)
      case atStart => exact ⟨0, rfl, Nat.zero_le _, fun j h => by omega, G1.out⟩
      case round =>
        obtain ⟨r, rfl, hr, hall, hg⟩ := hrel
        have HA := Lib.hid hall
        have HG := Lib.hid hg
        clear hall hg
        by_cases hlt : r < 128
        · cases hf : inG R (r : Int) with
          | false =>
            have HB := Lib.hid (HLA.out r hlt hf)
            have HF2 := Lib.hid (fun B w h => HF.out r false hf B w h)
            clear hf
            go_wp2_with fail
            refine (HF2.out _ _ (HR.out.none (Nat.le_refl _) HG.out)).mono ?_
            rintro e w2 ⟨rfl, rfl⟩
            go_wp2_with fail
            go_ret
            exact ⟨ret_bool HB.out.symm, HG.out⟩
          | true =>
            have HB := Lib.hid hf
            have HF2 := Lib.hid (fun B w h => HF.out r true hf B w h)
            clear hf
            go_wp2_with fail
            refine (HF2.out _ _ (HR.out.none (Nat.le_refl _) HG.out)).mono ?_
            rintro e w2 ⟨rfl, rfl⟩
            go_wp2_with fail
            go_roundw
            case rel => exact ⟨r + 1, by go_num, by omega, fun j hj => by rcases Nat.lt_succ_iff_lt_or_eq.1 hj with h | h; exact HA.out j h; rw [h]; exact HB.out, HG.out⟩
            case measure => simp [intOf]; omega
        · obtain rfl : r = 128 := by omega
          go_wp2_with fail
          simp only [show ((128 : Nat) : Int) = 128 from rfl]
          go_loopw [6] (fun i wr => ∃ k : Nat, i = .int .i64 (k : Int) ∧ k ≤ n ∧ (∀ j, j < k → riseO D R j = true) ∧ w.grownBy wr none) (fun i _ => n - (intOf i).toNat)
          case atStart => exact ⟨0, rfl, Nat.zero_le _, fun j h => by omega, HG.out⟩
          case round =>
            obtain ⟨k, rfl, hk, hall, hg⟩ := hrel
            have HS := Lib.hid hall
            have HG2 := Lib.hid hg
            clear hall hg
            by_cases hlt2 : k < n
            · obtain ⟨b1, off, rfl, hb1, c0, c1⟩ := (HI.out.none (Nat.le_refl _) HG2.out).at k hlt2
              obtain ⟨x, hx⟩ : ∃ x, atD D k = x := ⟨_, rfl⟩
              obtain ⟨x0, x1, x2, x3⟩ := HIN.out k (by omega)
              rw [hx] at c0 c1 x0 x1 x2 x3
              obtain ⟨m, hm⟩ : ∃ m : Nat, x.1 = (m : Int) := ⟨x.1.toNat, by omega⟩
              obtain ⟨q, hq⟩ : ∃ q : Nat, x.2 = (q : Int) := ⟨x.2.toNat, by omega⟩
              rw [hm] at c0 x0 x1
              rw [hq] at c1 x2 x3
              obtain ⟨b2, off2, rfl, hb2, e0⟩ := (HR.out.none (Nat.le_refl _) HG2.out).at m (by omega)
              obtain ⟨b3, off3, hA3, hb3, e1⟩ := (HR.out.none (Nat.le_refl _) HG2.out).at q (by omega)
              injection hA3 with hA
              injection hA with hA1 hA2
              subst hA1
              subst hA2
              obtain ⟨y, hy⟩ : ∃ y, R.getD m 0 = y := ⟨_, rfl⟩
              obtain ⟨z, hz⟩ : ∃ z, R.getD q 0 = z := ⟨_, rfl⟩
              rw [hy] at e0
              rw [hz] at e1
              have hh : riseO D R k = decide (y < z) := by unfold riseO; rw [hx, hm, hq, Int.toNat_natCast, Int.toNat_natCast, hy, hz]
              have k0 : (0 : Int) ≤ (k : Int) := by omega
              have k1 : (k : Int) < (n : Int) := by omega
              have m0 : (0 : Int) ≤ (m : Int) := by omega
              have m1 : (m : Int) < 128 := by omega
              have q0 : (0 : Int) ≤ (q : Int) := by omega
              have q1 : (q : Int) < 128 := by omega
              clear hx hm hq hy hz
              by_cases hyz : y < z
              · have HB := Lib.hid (hh.trans (decide_eq_true hyz))
                have hge : ¬ z ≤ y := by omega
                clear hh
                go_wp2_with fail
                go_quiet (fail)
                go_wp2_with fail
                go_roundw
                case rel => exact ⟨k + 1, by go_num, by omega, fun j hj => by rcases Nat.lt_succ_iff_lt_or_eq.1 hj with h | h; exact HS.out j h; rw [h]; exact HB.out, gb_drewN HG2.out _⟩
                case measure => simp [intOf]; omega
              · have HB := Lib.hid (HFA.out k (by omega) (hh.trans (decide_eq_false hyz)))
                have hge : z ≤ y := by omega
                clear hh
                go_wp2_with fail
                go_quiet (fail)
                go_wp2_with fail
                go_ret
                exact ⟨ret_bool HB.out.symm, gb_drewN HG2.out _⟩
            · obtain rfl : k = n := by omega
              have HB := Lib.hid (HYES.out (fun r hr => HA.out r hr) (fun j hj => HS.out j (by omega)))
              go_wp2_with fail
              go_ret
              exact ⟨ret_bool HB.out.symm, HG2.out⟩
    · rw [isOrdO_len (fun e => h128 (hRl.symm.trans e))]
      have hne : ((nR : Int) != 128) = true := by simpa using (fun e : (nR : Int) = 128 => h128 (by omega))
      rw [hok] at HOK
      clear hok
      go_enter Tryz.func40, Tryz.ntmps40
      go_wp2_with fail
      refine HOK.out.mono ?_
      rintro e w1 ⟨rfl, hg1⟩
      have G1 := Lib.hid hg1
      clear hg1
      go_wp2_with fail
      go_ret
      exact ⟨rfl, G1.out⟩
end Go.Proofs.YtidilfakganooaaGreatDoor
end

section
namespace Go.Proofs.YtidilfakganooaaGreatDoor
open Go.ChangeShapes Go.WideShapes Go.ChangeAt Go.RowKit
set_option linter.unusedVariables false
set_option maxRecDepth 20000

theorem specHasD (A : Option Addr) (n cap B : Nat) (D : List Dep) (x y : Int) (b : Bool) (hb : hasD D x y = b) (w : World) (h : DepAt w B A n D) (hn : n ≤ 1000000000) :
    Calls Tryz.prog 69 #[.slice A n cap, .int .i64 x, .int .i64 y] w fun e w' => e = .returned (.bool b) ∧ w = w' := by
  have hl := h.1
  have HI := Lib.hid h
  have HYES := Lib.hid (fun i hi h1 h2 => hb.symm.trans (has_yes (D := D) (x := x) (y := y) (i := i) hi h1 h2))
  have HNO := Lib.hid (fun h => hb.symm.trans (has_no (D := D) (x := x) (y := y) h))
  clear h hb
  go_enter Tryz.func69, Tryz.ntmps69
  go_wp2_with fail
  go_loop [7] (fun i => ∃ k : Nat, i = .int .i64 (k : Int) ∧ k ≤ n ∧ ∀ j, j < k → ¬ ((atD D j).1 = x ∧ (atD D j).2 = y)) (fun i => n - (intOf i).toNat)
  case atStart => exact ⟨0, rfl, Nat.zero_le _, fun j h => by omega⟩
  case round =>
    obtain ⟨k, rfl, hk, hne⟩ := hrel
    have HNE := Lib.hid hne
    clear hne
    by_cases hlt : k < n
    · obtain ⟨b1, off, rfl, hb1, c0, c1⟩ := HI.out.at k hlt
      obtain ⟨d, hd⟩ : ∃ d, atD D k = d := ⟨_, rfl⟩
      rw [hd] at c0 c1
      obtain ⟨p, q⟩ := d
      have k0 : (0 : Int) ≤ (k : Int) := by omega
      have k1 : (k : Int) < (n : Int) := by omega
      by_cases hp : p = x
      · by_cases hq : q = y
        · have HB := Lib.hid (HYES.out k (by omega) (by rw [hd]; exact hp) (by rw [hd]; exact hq))
          clear hd
          subst hp
          subst hq
          go_wp2_with fail
          go_ret
          exact ⟨ret_bool HB.out.symm, rfl⟩
        · have HB := Lib.hid (show ¬ ((atD D k).1 = x ∧ (atD D k).2 = y) by rw [hd]; exact fun e => hq e.2)
          have hqb : (q == y) = false := by simpa using hq
          clear hd
          subst hp
          go_wp2_with fail
          go_round
          case rel => exact ⟨k + 1, by go_num, by omega, fun j hj => by rcases Nat.lt_succ_iff_lt_or_eq.1 hj with h | h; exact HNE.out j h; rw [h]; exact HB.out⟩
          case measure => simp [intOf]; omega
      · have HB := Lib.hid (show ¬ ((atD D k).1 = x ∧ (atD D k).2 = y) by rw [hd]; exact fun e => hp e.1)
        have hpb : (p == x) = false := by simpa using hp
        clear hd
        go_wp2_with fail
        go_round
        case rel => exact ⟨k + 1, by go_num, by omega, fun j hj => by rcases Nat.lt_succ_iff_lt_or_eq.1 hj with h | h; exact HNE.out j h; rw [h]; exact HB.out⟩
        case measure => simp [intOf]; omega
    · obtain rfl : k = n := by omega
      have HB := Lib.hid (HNO.out (fun j hj => HNE.out j (by omega)))
      go_wp2_with fail
      go_ret
      exact ⟨ret_bool HB.out.symm, rfl⟩
end Go.Proofs.YtidilfakganooaaGreatDoor
end

section
namespace Go.Proofs.YtidilfakganooaaGreatDoor
open Go.ChangeShapes Go.WideShapes Go.ChangeAt Go.RowKit
set_option linter.unusedVariables false
set_option maxRecDepth 20000

/-- The place behind k, around the end. -/
theorem around (k n : Nat) (hn : 0 < n) : Int.tmod ((k : Int) + 1) (n : Int) = (((k + 1) % n : Nat) : Int) := by
  rw [show (k : Int) + 1 = ((k + 1 : Nat) : Int) from by omega, Int.tmod_eq_emod_of_nonneg (by omega)]
  rfl
set_option maxHeartbeats 1600000 in
theorem specIsCycle (A AC : Option Addr) (n cap nC cC : Nat) (D : List Dep) (C : List Int) (w : World) (h : DepAt w w.heap.size A n D) (hC : IntAt w w.heap.size AC nC C) (hcc : nC ≤ cC) (hn : n ≤ 1000000000) (hnC : nC ≤ 1000000000) :
    Calls Tryz.prog 41 #[.slice A n cap, .slice AC nC cC] w (RetB (isCycG D C) w) := by
  have hl := h.1
  have hCl := hC.1
  have HI := Lib.hid h
  have HC := Lib.hid hC
  have HOK := Lib.hid (specDependsOk A n cap D w h (by omega))
  clear h hC
  cases hok : okD D with
  | false =>
    rw [isCyc_bad hok]
    rw [hok] at HOK
    clear hok
    go_enter Tryz.func41, Tryz.ntmps41
    go_wp2_with fail
    refine HOK.out.mono ?_
    rintro e w1 ⟨rfl, hg1⟩
    have G1 := Lib.hid hg1
    clear hg1
    go_wp2_with fail
    go_ret
    exact ⟨rfl, G1.out⟩
  | true =>
    have HYES := Lib.hid (fun h => isCyc_yes (D := D) (C := C) hok h)
    have HNO := Lib.hid (fun (i : Nat) (hi : i < C.length) h => isCyc_no (D := D) (C := C) (i := i) hi h)
    have HAT := Lib.hid (fun i => show cycAt D C i = (!inG (C.take i) (C.getD i 0) && hasD D (C.getD i 0) (C.getD ((i + 1) % nC) 0)) by unfold cycAt; rw [hCl])
    obtain ⟨b, hb⟩ : ∃ b, isCycG D C = b := ⟨_, rfl⟩
    rw [hb] at HYES HNO
    rw [hb]
    rw [hok] at HOK
    have HF := Lib.hid (fun (A : Option Addr) (k : Nat) (hk : k ≤ nC) (x : Int) (b : Bool) (hb : inG (C.take k) x = b) B (w : World) (h : IntAt w B A k (C.take k)) => specFindV A k cC B (C.take k) x b hb w h (by omega))
    have HH := Lib.hid (fun (A : Option Addr) (x y : Int) (b : Bool) (hb : hasD D x y = b) B (w : World) (h : DepAt w B A n D) => specHasD A n cap B D x y b hb w h hn)
    clear hok hb
    go_enter Tryz.func41, Tryz.ntmps41
    go_wp2_with fail
    refine HOK.out.mono ?_
    rintro e w1 ⟨rfl, hg1⟩
    have G1 := Lib.hid hg1
    clear hg1
    go_wp2_with fail
    go_loopw [5] (fun i wr => ∃ k : Nat, i = .int .i64 (k : Int) ∧ k ≤ nC ∧ (∀ j : Nat, j < k → cycAt D C j = true) ∧ w.grownBy wr none) (fun i _ => nC - (intOf i).toNat)
    case atStart => exact ⟨0, rfl, Nat.zero_le _, fun j h => by omega, G1.out⟩
    case round =>
      obtain ⟨k, rfl, hk, hall, hg⟩ := hrel
      have HA := Lib.hid hall
      have HG := Lib.hid hg
      clear hall hg
      by_cases hlt : k < nC
      · have HCW := Lib.hid (HC.out.none (Nat.le_refl _) HG.out)
        have HIW := Lib.hid (HI.out.none (Nat.le_refl _) HG.out)
        obtain ⟨b1, off, rfl, hb1, c0⟩ := HCW.out.at k hlt
        obtain ⟨q, hq⟩ : ∃ q, (k + 1) % nC = q := ⟨_, rfl⟩
        have hqn : q < nC := by rw [← hq]; exact Nat.mod_lt _ (by omega)
        obtain ⟨_, _, hA, _, c1⟩ := HCW.out.at q hqn
        injection hA with hA
        injection hA with hA1 hA2
        subst hA1
        subst hA2
        obtain ⟨x, hx⟩ : ∃ x, C.getD k 0 = x := ⟨_, rfl⟩
        obtain ⟨y, hy⟩ : ∃ y, C.getD q 0 = y := ⟨_, rfl⟩
        have hat := HAT.out k
        rw [hq, hx, hy] at hat
        rw [hx] at c0
        rw [hy] at c1
        have k0 : (0 : Int) ≤ (k : Int) := by omega
        have k1 : (k : Int) < (nC : Int) := by omega
        have k2 : (k : Int) ≤ (cC : Int) := by omega
        have q0 : (0 : Int) ≤ (q : Int) := by omega
        have q1 : (q : Int) < (nC : Int) := by omega
        have r0 := around k nC (by omega)
        rw [hq] at r0
        have r1 : IntKind.i64.wrap ((k : Int) + 1) = (k : Int) + 1 := IntWalk.i64_in _ (by omega)
        have r2 : IntKind.i64.wrap (q : Int) = (q : Int) := IntWalk.i64_in _ (by omega)
        have r3 : ¬ nC = 0 := by omega
        have ht := HCW.out.take (Nat.le_of_lt hlt)
        have HT : Hid (IntAt wr.drew w.heap.size (some ⟨b1, off, none⟩) k (C.take k)) := ht
        have HD : Hid (DepAt wr.drew w.heap.size A n D) := HIW.out
        clear ht
        cases hin : inG (C.take k) x with
        | true =>
          have HF2 := Lib.hid (fun B w h => HF.out (some ⟨b1, off, none⟩) k hk x true hin B w h)
          have HB := Lib.hid (HNO.out k (by omega) (by rw [hat, hin]; rfl))
          clear hin hat hx hy hq
          go_wp2_with fail
          go_quiet (first
            | (refine Calls.quiet_of_same (still_of (HF2.out _ _ HT.out))))
          go_wp2_with fail
          go_ret
          exact ⟨ret_bool HB.out.symm, gb_drewN HG.out _⟩
        | false =>
          have HF2 := Lib.hid (fun B w h => HF.out (some ⟨b1, off, none⟩) k hk x false hin B w h)
          cases hha : hasD D x y with
          | true =>
            have HH2 := Lib.hid (fun B w h => HH.out A x y true hha B w h)
            have HB := Lib.hid (show cycAt D C k = true by rw [hat, hin, hha]; rfl)
            clear hin hat hx hy hq hha
            go_wp2_with fail
            go_quiet (first
              | (refine Calls.quiet_of_same (still_of (HF2.out _ _ HT.out)))
              | (refine Calls.quiet_of_same (still_of (HH2.out _ _ HD.out))))
            go_wp2_with fail
            go_roundw
            case rel => exact ⟨k + 1, by go_num, by omega, fun j hj => by rcases Nat.lt_succ_iff_lt_or_eq.1 hj with h | h; exact HA.out j h; rw [h]; exact HB.out, gb_drewN HG.out _⟩
            case measure => simp [intOf]; omega
          | false =>
            have HH2 := Lib.hid (fun B w h => HH.out A x y false hha B w h)
            have HB := Lib.hid (HNO.out k (by omega) (by rw [hat, hin, hha]; rfl))
            clear hin hat hx hy hq hha
            go_wp2_with fail
            go_quiet (first
              | (refine Calls.quiet_of_same (still_of (HF2.out _ _ HT.out)))
              | (refine Calls.quiet_of_same (still_of (HH2.out _ _ HD.out))))
            go_wp2_with fail
            go_ret
            exact ⟨ret_bool HB.out.symm, gb_drewN HG.out _⟩
      · obtain rfl : k = nC := by omega
        have HB := Lib.hid (HYES.out (fun i hi => HA.out i (by omega)))
        rw [hCl] at HB
        by_cases h0 : 0 < k
        · have hp : (0 : Int) < (k : Int) := by omega
          have HB2 := Lib.hid (HB.out.trans (decide_eq_true h0))
          clear HB
          go_wp2_with fail
          go_ret
          exact ⟨ret_bool HB2.out.symm, HG.out⟩
        · have hp : ¬ (0 : Int) < (k : Int) := by omega
          have HB2 := Lib.hid (HB.out.trans (decide_eq_false h0))
          clear HB
          go_wp2_with fail
          go_ret
          exact ⟨ret_bool HB2.out.symm, HG.out⟩
end Go.Proofs.YtidilfakganooaaGreatDoor
end

section
namespace Go.Proofs.YtidilfakganooaaGreatDoor
open Go.ChangeShapes Go.WideShapes Go.ChangeAt Go.RowKit
set_option linter.unusedVariables false
set_option maxRecDepth 20000

theorem beq_nat0 (n : Nat) : ((n : Int) == 0) = decide (n = 0) := by
  rw [Bool.eq_iff_iff]
  simp
set_option maxHeartbeats 3200000 in
theorem specProves (W H : Int) (A A2 AR AC : Option Addr) (n cap n2 c2 nR cR nC cC : Nat) (L P : List Int) (v : Verd) (w : World) (h : IntAt w w.heap.size A n L) (h2 : IntAt w w.heap.size A2 n2 P) (hR : IntAt w w.heap.size AR nR v.ranks) (hC : IntAt w w.heap.size AC nC v.cycle) (hn : n ≤ 1000000000) (hn2 : n2 ≤ 1000000000) (hnR : nR ≤ 1000000000) (hnC : nC ≤ 1000000000) (hcc : nC ≤ cC) :
    Calls Tryz.prog 10 #[.agg #[.int .i64 W, .int .i64 H, .slice A n cap], .agg #[.slice A2 n2 c2], .agg #[.int .i64 v.code, .slice AR nR cR, .slice AC nC cC]] w (RetB (provesG W H L P v) w) := by
  obtain ⟨z, R, C⟩ := v
  simp only at hR hC ⊢
  have hRl := hR.1
  have hCl := hC.1
  have X0 := Lib.hid (vdAt_start (W := W) (H := H) (A := A) (A2 := A2) (n := n) (cap := cap) (n2 := n2) (c2 := c2) #[.int .i64 z, .slice AR nR cR, .slice AC nC cC] w)
  have HT := Lib.hid h
  have HT2 := Lib.hid h2
  have HR := Lib.hid hR
  have HC := Lib.hid hC
  have HDP := Lib.hid (fun w h h2 => specDependsOf W H A A2 n cap n2 c2 L P w h h2 hn hn2)
  have HDL := Lib.hid (depG_len (W := W) (H := H) (L := L) (P := P))
  obtain ⟨t, ht⟩ : ∃ t, tableG W H L P = t := ⟨_, rfl⟩
  have HS := Lib.hid (fun w h h2 => specTableOkV W H A A2 n cap n2 c2 L P t ht w h h2 hn hn2)
  obtain ⟨r, hr⟩ : ∃ r, provesG W H L P ⟨z, R, C⟩ = r := ⟨_, rfl⟩
  have P0 := Lib.hid (fun (h : z = 0) => show r = (!t && decide (nR = 0) && decide (nC = 0)) by rw [← hr, proves_bad (v := ⟨z, R, C⟩) h, ht, hRl, hCl])
  have P1 := Lib.hid (fun (h : z = 1) => show r = (t && isOrdO (depG W H L P) R && decide (nC = 0)) by rw [← hr, proves_safe (v := ⟨z, R, C⟩) h, ht, hCl])
  have P2 := Lib.hid (fun (h : z = 2) => show r = (t && isCycG (depG W H L P) C && decide (nR = 0)) by rw [← hr, proves_cyc (v := ⟨z, R, C⟩) h, ht, hRl])
  have P3 := Lib.hid (fun (h0 : z ≠ 0) (h1 : z ≠ 1) (h2 : z ≠ 2) => show r = false by rw [← hr, proves_no (v := ⟨z, R, C⟩) h0 h1 h2])
  rw [hr]
  obtain ⟨D, hD⟩ : ∃ D, depG W H L P = D := ⟨_, rfl⟩
  rw [hD] at HDP HDL P1 P2
  have HO := Lib.hid (fun A n cap w h hR hn => specIsOrder A AR n cap nR cR D R w h hR hn hnR)
  have HY := Lib.hid (fun A n cap w h hC hn => specIsCycle A AC n cap nC cC D C w h hC hcc hn hnC)
  clear h h2 hR hC ht hr hD hRl hCl
  go_enter Tryz.func10, Tryz.ntmps10
  go_wp2_with fail
  refine (HS.out _ ((HT.out.none (Nat.le_refl _) X0.out.g).more X0.out.g.size) ((HT2.out.none (Nat.le_refl _) X0.out.g).more X0.out.g.size)).mono ?_
  rintro e w1 ⟨rfl, hg⟩
  have X1 := Lib.hid (X0.out.gb hg)
  have m0 : w1.cell? ⟨w.heap.size, 0, none⟩ = some (.int .i64 W) := X1.out.m.cell 0
  have m1 : w1.cell? ⟨w.heap.size, 1, none⟩ = some (.int .i64 H) := X1.out.m.cell 1
  have m2 : w1.cell? ⟨w.heap.size, 2, none⟩ = some (.slice A n cap) := X1.out.m.cell 2
  have m3 : w1.cell? ⟨w.heap.size + 1, 0, none⟩ = some (.slice A2 n2 c2) := X1.out.t.cell 0
  clear hg
  go_wp2_with fail
  refine (HDP.out _ ((HT.out.none (Nat.le_refl _) X1.out.g).more X1.out.g.size) ((HT2.out.none (Nat.le_refl _) X1.out.g).more X1.out.g.size)).mono ?_
  rintro e w2 ⟨vd, rfl, od, bd⟩
  have X2 := Lib.hid (X1.out.gb (gb_of_below bd none))
  obtain ⟨Ad, cd, rfl, _⟩ := own_form od
  have HD := Lib.hid (depAt_own (B := w2.heap.size) od (Nat.le_refl _))
  obtain ⟨nd, hnd⟩ : ∃ nd, D.length = nd := ⟨_, rfl⟩
  rw [hnd] at HD HDL
  have HR2 := Lib.hid ((HR.out.none (Nat.le_refl _) X2.out.g).more X2.out.g.size)
  have HC2 := Lib.hid ((HC.out.none (Nat.le_refl _) X2.out.g).more X2.out.g.size)
  have v0 : w2.cell? ⟨w.heap.size + 2, 0, none⟩ = some (.int .i64 z) := X2.out.v.cell 0
  have v1 : w2.cell? ⟨w.heap.size + 2, 1, none⟩ = some (.slice AR nR cR) := X2.out.v.cell 1
  have v2 : w2.cell? ⟨w.heap.size + 2, 2, none⟩ = some (.slice AC nC cC) := X2.out.v.cell 2
  rw [hnd]
  clear od bd hnd m0 m1 m2 m3
  by_cases z0 : z = 0
  · have Q := Lib.hid (P0.out z0)
    subst z0
    cases t with
    | true =>
      have hr := Lib.hid (show r = false by rw [Q.out]; rfl)
      go_wp2_with fail
      go_ret
      exact ⟨ret_bool hr.out.symm, X2.out.g⟩
    | false =>
      by_cases hr0 : nR = 0
      · have hr := Lib.hid (show r = decide (nC = 0) by rw [Q.out, hr0]; rfl)
        subst hr0
        go_wp2_with fail
        go_ret
        exact ⟨ret_bool ((beq_nat0 nC).trans hr.out.symm), X2.out.g⟩
      · have hr := Lib.hid (show r = false by rw [Q.out, decide_eq_false hr0]; rfl)
        go_wp2_with fail
        go_ret
        exact ⟨ret_bool hr.out.symm, X2.out.g⟩
  · by_cases z1 : z = 1
    · have Q := Lib.hid (P1.out z1)
      subst z1
      clear z0
      cases t with
      | false =>
        have hr := Lib.hid (show r = false by rw [Q.out]; rfl)
        go_wp2_with fail
        go_ret
        exact ⟨ret_bool hr.out.symm, X2.out.g⟩
      | true =>
        go_wp2_with fail
        refine (HO.out Ad nd cd _ HD.out HR2.out (by have := HDL.out; omega)).mono ?_
        rintro e w3 ⟨rfl, hg3⟩
        have X3 := Lib.hid (X2.out.gb hg3)
        have u2 : w3.cell? ⟨w.heap.size + 2, 2, none⟩ = some (.slice AC nC cC) := X3.out.v.cell 2
        clear hg3 v0 v1 v2
        cases ho : isOrdO D R with
        | false =>
          have hr := Lib.hid (show r = false by rw [Q.out, ho]; rfl)
          clear ho
          go_wp2_with fail
          go_ret
          exact ⟨ret_bool hr.out.symm, X3.out.g⟩
        | true =>
          have hr := Lib.hid (show r = decide (nC = 0) by rw [Q.out, ho]; rfl)
          clear ho
          go_wp2_with fail
          go_ret
          exact ⟨ret_bool ((beq_nat0 nC).trans hr.out.symm), X3.out.g⟩
    · by_cases z2 : z = 2
      · have Q := Lib.hid (P2.out z2)
        subst z2
        clear z0 z1
        cases t with
        | false =>
          have hr := Lib.hid (show r = false by rw [Q.out]; rfl)
          go_wp2_with fail
          go_ret
          exact ⟨ret_bool hr.out.symm, X2.out.g⟩
        | true =>
          go_wp2_with fail
          refine (HY.out Ad nd cd _ HD.out HC2.out (by have := HDL.out; omega)).mono ?_
          rintro e w3 ⟨rfl, hg3⟩
          have X3 := Lib.hid (X2.out.gb hg3)
          have u1 : w3.cell? ⟨w.heap.size + 2, 1, none⟩ = some (.slice AR nR cR) := X3.out.v.cell 1
          clear hg3 v0 v1 v2
          cases ho : isCycG D C with
          | false =>
            have hr := Lib.hid (show r = false by rw [Q.out, ho]; rfl)
            clear ho
            go_wp2_with fail
            go_ret
            exact ⟨ret_bool hr.out.symm, X3.out.g⟩
          | true =>
            have hr := Lib.hid (show r = decide (nR = 0) by rw [Q.out, ho]; rfl)
            clear ho
            go_wp2_with fail
            go_ret
            exact ⟨ret_bool ((beq_nat0 nR).trans hr.out.symm), X3.out.g⟩
      · have hr := Lib.hid (P3.out z0 z1 z2)
        have b0 : (z == 0) = false := beq_eq_false_iff_ne.2 z0
        have b1 : (z == 1) = false := beq_eq_false_iff_ne.2 z1
        have b2 : (z == 2) = false := beq_eq_false_iff_ne.2 z2
        go_wp2_with fail
        go_ret
        exact ⟨ret_bool hr.out.symm, X2.out.g⟩
end Go.Proofs.YtidilfakganooaaGreatDoor
end

section
namespace Go.Proofs.YtidilfakganooaaGreatDoor
open Go.ChangeShapes Go.WideShapes Go.ChangeAt Go.RowKit
set_option linter.unusedVariables false
set_option maxRecDepth 20000

set_option maxHeartbeats 1600000 in
theorem implIsOrder (A AR : Option Addr) (n cap nR cR : Nat) (D : List Dep) (R : List Int) (w : World) (h : DepAt w w.heap.size A n D) (hR : IntAt w w.heap.size AR nR R) (hn : n ≤ 1000000000) (hnR : nR ≤ 1000000000) :
    Calls Tryz.prog 36 #[.slice A n cap, .slice AR nR cR] w (RetB (isOrdO D R) w) := by
  have hl := h.1
  have hRl := hR.1
  have HI := Lib.hid h
  have HR := Lib.hid hR
  have HOK := Lib.hid (implDependsOk A n cap D w h (by omega))
  clear h hR
  cases hok : okD D with
  | false =>
    rw [isOrdO_bad hok]
    rw [hok] at HOK
    clear hok
    go_enter Tryz.func36, Tryz.ntmps36
    go_wp2_with fail
    refine HOK.out.mono ?_
    rintro e w1 ⟨rfl, hg1⟩
    have G1 := Lib.hid hg1
    clear hg1
    go_wp2_with fail
    go_ret
    exact ⟨rfl, G1.out⟩
  | true =>
    by_cases h128 : nR = 128
    · have HIN := Lib.hid (fun k (hk : k < D.length) => inD_iff.1 (okD_in hok (atD_mem hk)))
      have HYES := Lib.hid (fun (h3 : ∀ r : Nat, r < 128 → inG R (r : Int) = true) h4 => isOrdO_of hok (hRl.trans h128) h3 h4)
      have HLA := Lib.hid (fun (r : Nat) (hr : r < 128) h => isOrdO_lack (D := D) (R := R) (r := r) hr h)
      have HFA := Lib.hid (fun i hi h => isOrdO_fall (D := D) (R := R) (i := i) hi h)
      obtain ⟨b, hb⟩ : ∃ b, isOrdO D R = b := ⟨_, rfl⟩
      rw [hb] at HYES HLA HFA
      rw [hb]
      rw [hok] at HOK
      have HF := Lib.hid (fun (r : Nat) (b : Bool) (hb : inG R (r : Int) = b) B (w : World) (h : IntAt w B AR 128 R) => implContains AR 128 cR B R (r : Int) b hb w h (by omega))
      subst h128
      clear hok hb
      go_enter Tryz.func36, Tryz.ntmps36
      go_wp2_with fail
      refine HOK.out.mono ?_
      rintro e w1 ⟨rfl, hg1⟩
      have G1 := Lib.hid hg1
      clear hg1
      go_wp2_with fail
      go_loopw [16] (fun i wr => ∃ r : Nat, i = .int .i64 (r : Int) ∧ r ≤ 128 ∧ (∀ j : Nat, j < r → inG R (j : Int) = true) ∧ w.grownBy wr none) (fun i _ => 128 - (intOf i).toNat)
      case atStart => exact ⟨0, rfl, Nat.zero_le _, fun j h => by omega, G1.out⟩
      case round =>
        obtain ⟨r, rfl, hr, hall, hg⟩ := hrel
        have HA := Lib.hid hall
        have HG := Lib.hid hg
        clear hall hg
        by_cases hlt : r < 128
        · cases hf : inG R (r : Int) with
          | false =>
            have HB := Lib.hid (HLA.out r hlt hf)
            have HF2 := Lib.hid (fun B w h => HF.out r false hf B w h)
            clear hf
            go_wp2_with fail
            refine (HF2.out _ _ (HR.out.none (Nat.le_refl _) HG.out)).mono ?_
            rintro e w2 ⟨rfl, rfl⟩
            go_wp2_with fail
            go_ret
            exact ⟨ret_bool HB.out.symm, HG.out⟩
          | true =>
            have HB := Lib.hid hf
            have HF2 := Lib.hid (fun B w h => HF.out r true hf B w h)
            clear hf
            go_wp2_with fail
            refine (HF2.out _ _ (HR.out.none (Nat.le_refl _) HG.out)).mono ?_
            rintro e w2 ⟨rfl, rfl⟩
            go_wp2_with fail
            go_roundw
            case rel => exact ⟨r + 1, by go_num, by omega, fun j hj => by rcases Nat.lt_succ_iff_lt_or_eq.1 hj with h | h; exact HA.out j h; rw [h]; exact HB.out, HG.out⟩
            case measure => simp [intOf]; omega
        · obtain rfl : r = 128 := by omega
          go_wp2_with fail
          simp only [show ((128 : Nat) : Int) = 128 from rfl]
          go_loopw [26] (fun i wr => ∃ k : Nat, i = .int .i64 (k : Int) ∧ k ≤ n ∧ (∀ j, j < k → riseO D R j = true) ∧ w.grownBy wr none) (fun i _ => n - (intOf i).toNat)
          case atStart => exact ⟨0, rfl, Nat.zero_le _, fun j h => by omega, HG.out⟩
          case round =>
            obtain ⟨k, rfl, hk, hall, hg⟩ := hrel
            have HS := Lib.hid hall
            have HG2 := Lib.hid hg
            clear hall hg
            by_cases hlt2 : k < n
            · obtain ⟨b1, off, rfl, hb1, c0, c1⟩ := (HI.out.none (Nat.le_refl _) HG2.out).at k hlt2
              obtain ⟨x, hx⟩ : ∃ x, atD D k = x := ⟨_, rfl⟩
              obtain ⟨x0, x1, x2, x3⟩ := HIN.out k (by omega)
              rw [hx] at c0 c1 x0 x1 x2 x3
              obtain ⟨m, hm⟩ : ∃ m : Nat, x.1 = (m : Int) := ⟨x.1.toNat, by omega⟩
              obtain ⟨q, hq⟩ : ∃ q : Nat, x.2 = (q : Int) := ⟨x.2.toNat, by omega⟩
              rw [hm] at c0 x0 x1
              rw [hq] at c1 x2 x3
              obtain ⟨b2, off2, rfl, hb2, e0⟩ := (HR.out.none (Nat.le_refl _) HG2.out).at m (by omega)
              obtain ⟨b3, off3, hA3, hb3, e1⟩ := (HR.out.none (Nat.le_refl _) HG2.out).at q (by omega)
              injection hA3 with hA
              injection hA with hA1 hA2
              subst hA1
              subst hA2
              obtain ⟨y, hy⟩ : ∃ y, R.getD m 0 = y := ⟨_, rfl⟩
              obtain ⟨z, hz⟩ : ∃ z, R.getD q 0 = z := ⟨_, rfl⟩
              rw [hy] at e0
              rw [hz] at e1
              have hh : riseO D R k = decide (y < z) := by unfold riseO; rw [hx, hm, hq, Int.toNat_natCast, Int.toNat_natCast, hy, hz]
              have k0 : (0 : Int) ≤ (k : Int) := by omega
              have k1 : (k : Int) < (n : Int) := by omega
              have m0 : (0 : Int) ≤ (m : Int) := by omega
              have m1 : (m : Int) < 128 := by omega
              have q0 : (0 : Int) ≤ (q : Int) := by omega
              have q1 : (q : Int) < 128 := by omega
              have hga := gb_alloc (gb_refl wr none) (.cells #[.int .i64 (m : Int), .int .i64 (q : Int)] 94)
              have GA := Lib.hid (gb_trans HG2.out hga)
              have bn := Blk.new wr 94 #[.int .i64 (m : Int), .int .i64 (q : Int)]
              have t0 : (wr.alloc (.cells #[.int .i64 (m : Int), .int .i64 (q : Int)] 94)).cell? ⟨wr.heap.size, 0, none⟩ = some (.int .i64 (m : Int)) := bn.cell 0
              have t1 : (wr.alloc (.cells #[.int .i64 (m : Int), .int .i64 (q : Int)] 94)).cell? ⟨wr.heap.size, 1, none⟩ = some (.int .i64 (q : Int)) := bn.cell 1
              have s0 := hga.cell e0 (by simp)
              have s1 := hga.cell e1 (by simp)
              clear hga bn e0 e1
              clear hx hm hq hy hz
              by_cases hyz : y < z
              · have HB := Lib.hid (hh.trans (decide_eq_true hyz))
                have hge : ¬ z ≤ y := by omega
                clear hh
                go_wp2_with fail
                go_quiet (fail)
                go_wp2_with fail
                go_roundw
                case rel => exact ⟨k + 1, by go_num, by omega, fun j hj => by rcases Nat.lt_succ_iff_lt_or_eq.1 hj with h | h; exact HS.out j h; rw [h]; exact HB.out, gb_drewN GA.out _⟩
                case measure => simp [intOf]; omega
              · have HB := Lib.hid (HFA.out k (by omega) (hh.trans (decide_eq_false hyz)))
                have hge : z ≤ y := by omega
                clear hh
                go_wp2_with fail
                go_quiet (fail)
                go_wp2_with fail
                go_ret
                exact ⟨ret_bool HB.out.symm, gb_drewN GA.out _⟩
            · obtain rfl : k = n := by omega
              have HB := Lib.hid (HYES.out (fun r hr => HA.out r hr) (fun j hj => HS.out j (by omega)))
              go_wp2_with fail
              go_ret
              exact ⟨ret_bool HB.out.symm, HG2.out⟩
    · rw [isOrdO_len (fun e => h128 (hRl.symm.trans e))]
      have hne : ((nR : Int) != 128) = true := by simpa using (fun e : (nR : Int) = 128 => h128 (by omega))
      rw [hok] at HOK
      clear hok
      go_enter Tryz.func36, Tryz.ntmps36
      go_wp2_with fail
      refine HOK.out.mono ?_
      rintro e w1 ⟨rfl, hg1⟩
      have G1 := Lib.hid hg1
      clear hg1
      go_wp2_with fail
      go_ret
      exact ⟨rfl, G1.out⟩
end Go.Proofs.YtidilfakganooaaGreatDoor
end

section
namespace Go.Proofs.YtidilfakganooaaGreatDoor
open Go.ChangeShapes Go.WideShapes Go.ChangeAt Go.RowKit
set_option linter.unusedVariables false
set_option maxRecDepth 20000

theorem hasD_iff {D : List Dep} {x y : Int} : hasD D x y = true ↔ (x, y) ∈ D := by
  constructor
  · intro h
    obtain ⟨i, hi, h1⟩ := List.any_eq_true.1 h
    simp only [Bool.and_eq_true, decide_eq_true_eq] at h1
    have : atD D i = (x, y) := Prod.ext h1.1 h1.2
    rw [← this]
    exact atD_mem (List.mem_range.1 hi)
  · intro h
    obtain ⟨k, hk, e⟩ := atD_ex h
    exact has_yes hk (by rw [e]) (by rw [e])
/-- The channel ahead of the one at i, around the end. -/
def befC (C : List Int) (i : Nat) : Int := if i = 0 then C.getD (C.length - 1) 0 else C.getD (i - 1) 0
theorem bef_zero (C : List Int) : befC C 0 = C.getD (C.length - 1) 0 := rfl
theorem bef_next (C : List Int) (i : Nat) : befC C (i + 1) = C.getD i 0 := rfl
theorem ring_iff {D : List Dep} {C : List Int} : (∀ i, i < C.length → hasD D (C.getD i 0) (C.getD ((i + 1) % C.length) 0) = true) ↔ ∀ i, i < C.length → (befC C i, C.getD i 0) ∈ D := by
  constructor
  · intro h i hi
    cases i with
    | zero =>
      have h1 := h (C.length - 1) (by omega)
      rw [show C.length - 1 + 1 = C.length by omega, Nat.mod_self] at h1
      exact hasD_iff.1 h1
    | succ i =>
      have h1 := h i (by omega)
      rw [Nat.mod_eq_of_lt hi] at h1
      exact hasD_iff.1 h1
  · intro h i hi
    rw [hasD_iff]
    by_cases e : i + 1 = C.length
    · have h1 := h 0 (by omega)
      rw [e, Nat.mod_self]
      rw [bef_zero, show C.length - 1 = i by omega] at h1
      exact h1
    · rw [Nat.mod_eq_of_lt (by omega)]
      exact h (i + 1) (by omega)
theorem isCyc_all {D : List Dep} {C : List Int} (hD : okD D = true) (h0 : 0 < C.length) (h : ∀ i, i < C.length → (befC C i, C.getD i 0) ∈ D ∧ inG (C.take i) (C.getD i 0) = false) : isCycG D C = true := by
  rw [isCyc_yes hD (fun i hi => ?_)]
  · exact decide_eq_true h0
  · unfold cycAt
    rw [(h i hi).2, ring_iff.2 (fun j hj => (h j hj).1) i hi]
    rfl
theorem isCyc_miss {D : List Dep} {C : List Int} {i : Nat} (hi : i < C.length) (h : (befC C i, C.getD i 0) ∉ D) : isCycG D C = false := by
  cases ho : isCycG D C with
  | false => rfl
  | true =>
    simp only [isCycG, Bool.and_eq_true, List.all_eq_true, List.mem_range] at ho
    have h1 : ∀ i, i < C.length → hasD D (C.getD i 0) (C.getD ((i + 1) % C.length) 0) = true := fun j hj => by
      have := ho.1.2 j hj
      unfold cycAt at this
      rw [Bool.and_eq_true] at this
      exact this.2
    exact absurd (ring_iff.1 h1 i hi) h
theorem isCyc_twice {D : List Dep} {C : List Int} {i : Nat} (hi : i < C.length) (h : inG (C.take i) (C.getD i 0) = true) : isCycG D C = false :=
  isCyc_no hi (by unfold cycAt; rw [h]; rfl)

set_option maxHeartbeats 1600000 in
theorem implIsCycle (A AC : Option Addr) (n cap nC cC : Nat) (D : List Dep) (C : List Int) (w : World) (h : DepAt w w.heap.size A n D) (hC : IntAt w w.heap.size AC nC C) (hcc : nC ≤ cC) (hn : n ≤ 1000000000) (hnC : nC ≤ 1000000000) :
    Calls Tryz.prog 37 #[.slice A n cap, .slice AC nC cC] w (RetB (isCycG D C) w) := by
  have hl := h.1
  have hCl := hC.1
  have HI := Lib.hid h
  have HC := Lib.hid hC
  have HOK := Lib.hid (implDependsOk A n cap D w h (by omega))
  clear h hC
  cases hok : okD D with
  | false =>
    rw [isCyc_bad hok]
    rw [hok] at HOK
    clear hok
    go_enter Tryz.func37, Tryz.ntmps37
    go_wp2_with fail
    refine HOK.out.mono ?_
    rintro e w1 ⟨rfl, hg1⟩
    have G1 := Lib.hid hg1
    clear hg1
    go_wp2_with fail
    go_ret
    exact ⟨rfl, G1.out⟩
  | true =>
    by_cases h0 : nC = 0
    · subst h0
      have hCn : C = [] := List.eq_nil_of_length_eq_zero hCl
      subst hCn
      rw [isCyc_nil]
      rw [hok] at HOK
      clear hok
      go_enter Tryz.func37, Tryz.ntmps37
      go_wp2_with fail
      refine HOK.out.mono ?_
      rintro e w1 ⟨rfl, hg1⟩
      have G1 := Lib.hid hg1
      clear hg1
      go_wp2_with fail
      go_ret
      exact ⟨rfl, G1.out⟩
    · have HYES := Lib.hid (fun h => isCyc_all (D := D) (C := C) hok (by omega) h)
      have HNO := Lib.hid (fun (i : Nat) (hi : i < nC) h => isCyc_miss (D := D) (C := C) (i := i) (by omega) h)
      have HTW := Lib.hid (fun (i : Nat) (hi : i < nC) h => isCyc_twice (D := D) (C := C) (i := i) (by omega) h)
      have HBS := Lib.hid (fun d w h => libSearch A n cap D d (okD_asc hok) w h (by omega))
      have HCO := Lib.hid (fun (i : Nat) (hi : i < nC) (x : Int) (b : Bool) (hb : inG (C.take i) x = b) B w h => implContains AC i cC B (C.take i) x b hb w h (by omega))
      obtain ⟨r, hr⟩ : ∃ r, isCycG D C = r := ⟨_, rfl⟩
      rw [hr] at HYES HNO HTW
      rw [hr]
      rw [hok] at HOK
      have HCL := Lib.hid hCl
      obtain ⟨bC, oC, rfl, hbC, _⟩ := HC.out.at 0 (by omega)
      obtain ⟨z, hz⟩ : ∃ z, C.getD (nC - 1) 0 = z := ⟨_, rfl⟩
      have HZ := Lib.hid (show befC C 0 = z by rw [bef_zero, hCl, hz])
      obtain ⟨bz, oz, ez, _, cz⟩ := HC.out.at (nC - 1) (by omega)
      injection ez with ez
      injection ez with ez1 ez2
      subst ez1 ez2
      rw [hz] at cz
      have CZ := Lib.hid cz
      have n0 : (0 : Int) ≤ ((nC - 1 : Nat) : Int) := by omega
      have n1 : ((nC - 1 : Nat) : Int) < (nC : Int) := by omega
      have n2 : IntKind.i64.wrap ((nC : Int) - 1) = ((nC - 1 : Nat) : Int) := by rw [IntWalk.i64_in _ (by omega)]; omega
      have n3 : ¬ (nC : Int) = 0 := by omega
      have n4 : ((nC : Int) == 0) = false := by simpa using h0
      clear hr hok hCl hz cz
      go_enter Tryz.func37, Tryz.ntmps37
      go_wp2_with fail
      refine HOK.out.mono ?_
      rintro e w1 ⟨rfl, hg1⟩
      have G1 := Lib.hid hg1
      have cz1 := hg1.cell CZ.out (by simp)
      clear hg1
      go_wp2_with fail
      clear cz1
      go_loopw [5, 26] (fun bv i wr => ∃ k : Nat, i = .int .i64 (k : Int) ∧ k ≤ nC ∧ bv = .int .i64 (befC C k) ∧ (∀ j, j < k → (befC C j, C.getD j 0) ∈ D ∧ inG (C.take j) (C.getD j 0) = false) ∧ w.grownBy wr none) (fun _ i _ => nC - (intOf i).toNat)
      case atStart => exact ⟨0, rfl, Nat.zero_le _, by rw [HZ.out], fun j h => by omega, G1.out⟩
      case round =>
        obtain ⟨k, rfl, hk, rfl, hall, hg⟩ := hrel
        have HA := Lib.hid hall
        have HG := Lib.hid hg
        clear hall hg
        by_cases hlt : k < nC
        · obtain ⟨b2, o2, e2, _, c0⟩ := (HC.out.none (Nat.le_refl _) HG.out).at k hlt
          injection e2 with e2
          injection e2 with e21 e22
          subst e21 e22
          obtain ⟨x, hx⟩ : ∃ x, C.getD k 0 = x := ⟨_, rfl⟩
          obtain ⟨y, hy⟩ : ∃ y, befC C k = y := ⟨_, rfl⟩
          rw [hx] at c0
          rw [hy]
          have HX := Lib.hid hx
          have HY := Lib.hid hy
          have HI2 := Lib.hid ((HI.out.none (Nat.le_refl _) HG.out).more HG.out.size)
          have HN2 := Lib.hid (HNO.out k hlt)
          have HT2 := Lib.hid (HTW.out k hlt)
          have HCO2 := Lib.hid (fun b hb w' h => HCO.out k hlt x b hb w.heap.size w' h)
          have HLT := Lib.hid hlt
          have k0 : (0 : Int) ≤ (k : Int) := by omega
          have k1 : (k : Int) < (nC : Int) := by omega
          have k2 : (k : Int) ≤ (cC : Int) := by omega
          have k3 : k ≤ cC := by omega
          clear hx hy hlt
          go_wp2_with fail
          refine (HBS.out (y, x) _ HI2.out).mono ?_
          rintro e w2 ⟨rfl, hg2⟩
          have HG2 := Lib.hid (gb_trans HG.out hg2)
          clear hg2 c0
          by_cases hin : (y, x) ∈ D
          · have HIN := Lib.hid hin
            rw [decide_eq_true hin]
            clear hin
            have HT3 := Lib.hid (((HC.out.none (Nat.le_refl _) HG2.out)).take (Nat.le_of_lt HLT.out))
            obtain ⟨q, hq⟩ : ∃ q, inG (C.take k) x = q := ⟨_, rfl⟩
            have HQ := Lib.hid hq
            have HCO3 := Lib.hid (fun w' h => HCO2.out q hq w' h)
            clear hq
            go_wp2_with fail
            refine (HCO3.out _ HT3.out).mono ?_
            rintro e w3 ⟨rfl, rfl⟩
            cases q with
            | true =>
              have HR := Lib.hid (HT2.out (by rw [HX.out]; exact HQ.out))
              go_wp2_with fail
              go_ret
              exact ⟨ret_bool HR.out.symm, HG2.out⟩
            | false =>
              go_wp2_with fail
              go_roundw
              case rel => exact ⟨k + 1, by go_num, by have := HLT.out; omega, by rw [bef_next, HX.out], fun j hj => by
                rcases Nat.lt_succ_iff_lt_or_eq.1 hj with h1 | rfl
                · exact HA.out j h1
                · rw [HX.out, HY.out]; exact ⟨HIN.out, HQ.out⟩, HG2.out⟩
              case measure => have := HLT.out; simp [intOf]; omega
          · have HR := Lib.hid (HN2.out (by rw [HX.out, HY.out]; exact hin))
            rw [decide_eq_false hin]
            clear hin
            go_wp2_with fail
            go_ret
            exact ⟨ret_bool HR.out.symm, HG2.out⟩
        · obtain rfl : k = nC := by omega
          have HR := Lib.hid (HYES.out (by rw [HCL.out]; exact HA.out))
          go_wp2_with fail
          go_ret
          exact ⟨ret_bool HR.out.symm, HG.out⟩
end Go.Proofs.YtidilfakganooaaGreatDoor
end

section
namespace Go.Proofs.YtidilfakganooaaGreatDoor
open Go.ChangeShapes Go.WideShapes Go.ChangeAt Go.RowKit
set_option linter.unusedVariables false
set_option maxRecDepth 20000

theorem beq_nat0' (n : Nat) : ((n : Int) == 0) = decide (n = 0) := by
  rw [Bool.eq_iff_iff]
  simp
/-- errors.Is of the error and the sentinel. -/
theorem is_err (t : Bool) (a : Addr) (w : World) : Calls Tryz.prog 34 #[errV t a, .iface 169 (.pointer (some a))] w fun e w' => e = .returned (.bool (!t)) ∧ w' = w := by
  cases t with
  | true => exact is_nil _ w
  | false => exact is_same a w
set_option maxHeartbeats 3200000 in
theorem implProves (W H : Int) (A A2 AR AC : Option Addr) (n cap n2 c2 nR cR nC cC : Nat) (L P : List Int) (v : Verd) (hL : WfL L) (w : World) (h : IntAt w w.heap.size A n L) (h2 : IntAt w w.heap.size A2 n2 P) (hR : IntAt w w.heap.size AR nR v.ranks) (hC : IntAt w w.heap.size AC nC v.cycle) (hn : n ≤ 1000000000) (hn2 : n2 ≤ 1000000000) (hnR : nR ≤ 1000000000) (hnC : nC ≤ 1000000000) (hcc : nC ≤ cC) (hp : Pre w) :
    Calls Tryz.prog 9 #[.agg #[.int .i64 W, .int .i64 H, .slice A n cap], .agg #[.slice A2 n2 c2], .agg #[.int .i64 v.code, .slice AR nR cR, .slice AC nC cC]] w (RetB (provesG W H L P v) w) := by
  obtain ⟨a, he⟩ := hp.at
  obtain ⟨z, R, C⟩ := v
  simp only at hR hC ⊢
  have hRl := hR.1
  have hCl := hC.1
  have X0 := Lib.hid (vdAt_start (W := W) (H := H) (A := A) (A2 := A2) (n := n) (cap := cap) (n2 := n2) (c2 := c2) #[.int .i64 z, .slice AR nR cR, .slice AC nC cC] w)
  have HT := Lib.hid ((h.none (Nat.le_refl _) X0.out.g).more X0.out.g.size)
  have HT2 := Lib.hid ((h2.none (Nat.le_refl _) X0.out.g).more X0.out.g.size)
  have HE := Lib.hid (he.gb X0.out.g)
  have HR := Lib.hid hR
  have HC := Lib.hid hC
  have HDV := Lib.hid (fun w h h2 he => implDov W H A A2 n cap n2 c2 L P a hL w h h2 hn hn2 he)
  have HDL := Lib.hid (depG_len (W := W) (H := H) (L := L) (P := P))
  obtain ⟨t, ht⟩ : ∃ t, tableG W H L P = t := ⟨_, rfl⟩
  rw [ht] at HDV
  obtain ⟨r, hr⟩ : ∃ r, provesG W H L P ⟨z, R, C⟩ = r := ⟨_, rfl⟩
  have P0 := Lib.hid (fun (h : z = 0) => show r = (!t && decide (nR = 0) && decide (nC = 0)) by rw [← hr, proves_bad (v := ⟨z, R, C⟩) h, ht, hRl, hCl])
  have P1 := Lib.hid (fun (h : z = 1) => show r = (t && isOrdO (depG W H L P) R && decide (nC = 0)) by rw [← hr, proves_safe (v := ⟨z, R, C⟩) h, ht, hCl])
  have P2 := Lib.hid (fun (h : z = 2) => show r = (t && isCycG (depG W H L P) C && decide (nR = 0)) by rw [← hr, proves_cyc (v := ⟨z, R, C⟩) h, ht, hRl])
  have P3 := Lib.hid (fun (h0 : z ≠ 0) (h1 : z ≠ 1) (h2 : z ≠ 2) => show r = false by rw [← hr, proves_no (v := ⟨z, R, C⟩) h0 h1 h2])
  rw [hr]
  obtain ⟨D, hD⟩ : ∃ D, depG W H L P = D := ⟨_, rfl⟩
  rw [hD] at HDV HDL P1 P2
  have HO := Lib.hid (fun A n cap w h hR hn => implIsOrder A AR n cap nR cR D R w h hR hn hnR)
  have HY := Lib.hid (fun A n cap w h hC hn => implIsCycle A AC n cap nC cC D C w h hC hcc hn hnC)
  have HIS := Lib.hid (fun w => is_err t a w)
  obtain ⟨x, hx⟩ : ∃ x, errV t a = x := ⟨_, rfl⟩
  rw [hx] at HDV HIS
  clear h h2 hR hC ht hr hD hRl hCl he hp hL hx
  go_enter Tryz.func9, Tryz.ntmps9
  go_wp2_with fail
  refine (HDV.out _ HT.out HT2.out HE.out).mono ?_
  rintro e w1 ⟨vd, rfl, od, bd⟩
  obtain ⟨Ad, cd, rfl, _⟩ := own_form od
  obtain ⟨nd, hnd⟩ : ∃ nd, D.length = nd := ⟨_, rfl⟩
  rw [hnd] at od HDL
  have HD := Lib.hid (depAt_own (B := w1.heap.size) od (Nat.le_refl _))
  rw [hnd]
  have X2 := Lib.hid (X0.out.gb (gb_of_below bd none))
  have E1 := Lib.hid (HE.out.below bd)
  have c0 := E1.out.cell
  clear od bd hnd
  go_wp2_with fail
  refine (HIS.out _).mono ?_
  rintro e w2 ⟨rfl, rfl⟩
  have HR2 := Lib.hid ((HR.out.none (Nat.le_refl _) X2.out.g).more X2.out.g.size)
  have HC2 := Lib.hid ((HC.out.none (Nat.le_refl _) X2.out.g).more X2.out.g.size)
  have v0 : w2.cell? ⟨w.heap.size + 2, 0, none⟩ = some (.int .i64 z) := X2.out.v.cell 0
  have v1 : w2.cell? ⟨w.heap.size + 2, 1, none⟩ = some (.slice AR nR cR) := X2.out.v.cell 1
  have v2 : w2.cell? ⟨w.heap.size + 2, 2, none⟩ = some (.slice AC nC cC) := X2.out.v.cell 2
  clear c0
  by_cases z0 : z = 0
  · have Q := Lib.hid (P0.out z0)
    subst z0
    cases t with
    | true =>
      have hr := Lib.hid (show r = false by rw [Q.out]; rfl)
      go_wp2_with fail
      go_ret
      exact ⟨ret_bool hr.out.symm, X2.out.g⟩
    | false =>
      by_cases hr0 : nR = 0
      · have hr := Lib.hid (show r = decide (nC = 0) by rw [Q.out, hr0]; rfl)
        subst hr0
        go_wp2_with fail
        go_ret
        exact ⟨ret_bool ((beq_nat0' nC).trans hr.out.symm), X2.out.g⟩
      · have hr := Lib.hid (show r = false by rw [Q.out, decide_eq_false hr0]; rfl)
        go_wp2_with fail
        go_ret
        exact ⟨ret_bool hr.out.symm, X2.out.g⟩
  · by_cases z1 : z = 1
    · have Q := Lib.hid (P1.out z1)
      subst z1
      clear z0
      cases t with
      | false =>
        have hr := Lib.hid (show r = false by rw [Q.out]; rfl)
        go_wp2_with fail
        go_ret
        exact ⟨ret_bool hr.out.symm, X2.out.g⟩
      | true =>
        go_wp2_with fail
        refine (HO.out Ad nd cd _ HD.out HR2.out (by have := HDL.out; omega)).mono ?_
        rintro e w3 ⟨rfl, hg3⟩
        have X3 := Lib.hid (X2.out.gb hg3)
        have u2 : w3.cell? ⟨w.heap.size + 2, 2, none⟩ = some (.slice AC nC cC) := X3.out.v.cell 2
        clear hg3 v0 v1 v2
        cases ho : isOrdO D R with
        | false =>
          have hr := Lib.hid (show r = false by rw [Q.out, ho]; rfl)
          clear ho
          go_wp2_with fail
          go_ret
          exact ⟨ret_bool hr.out.symm, X3.out.g⟩
        | true =>
          have hr := Lib.hid (show r = decide (nC = 0) by rw [Q.out, ho]; rfl)
          clear ho
          go_wp2_with fail
          go_ret
          exact ⟨ret_bool ((beq_nat0' nC).trans hr.out.symm), X3.out.g⟩
    · by_cases z2 : z = 2
      · have Q := Lib.hid (P2.out z2)
        subst z2
        clear z0 z1
        cases t with
        | false =>
          have hr := Lib.hid (show r = false by rw [Q.out]; rfl)
          go_wp2_with fail
          go_ret
          exact ⟨ret_bool hr.out.symm, X2.out.g⟩
        | true =>
          go_wp2_with fail
          refine (HY.out Ad nd cd _ HD.out HC2.out (by have := HDL.out; omega)).mono ?_
          rintro e w3 ⟨rfl, hg3⟩
          have X3 := Lib.hid (X2.out.gb hg3)
          have u1 : w3.cell? ⟨w.heap.size + 2, 1, none⟩ = some (.slice AR nR cR) := X3.out.v.cell 1
          clear hg3 v0 v1 v2
          cases ho : isCycG D C with
          | false =>
            have hr := Lib.hid (show r = false by rw [Q.out, ho]; rfl)
            clear ho
            go_wp2_with fail
            go_ret
            exact ⟨ret_bool hr.out.symm, X3.out.g⟩
          | true =>
            have hr := Lib.hid (show r = decide (nR = 0) by rw [Q.out, ho]; rfl)
            clear ho
            go_wp2_with fail
            go_ret
            exact ⟨ret_bool ((beq_nat0' nR).trans hr.out.symm), X3.out.g⟩
      · have hr := Lib.hid (P3.out z0 z1 z2)
        have b0 : (z == 0) = false := beq_eq_false_iff_ne.2 z0
        have b1 : (z == 1) = false := beq_eq_false_iff_ne.2 z1
        have b2 : (z == 2) = false := beq_eq_false_iff_ne.2 z2
        go_wp2_with fail
        go_ret
        exact ⟨ret_bool hr.out.symm, X2.out.g⟩
end Go.Proofs.YtidilfakganooaaGreatDoor
end

section
namespace Go.Proofs.YtidilfakganooaaGreatDoor
open Go.ChangeShapes Go.WideShapes Go.ChangeAt Go.RowKit
set_option linter.unusedVariables false

theorem implVdName (c : Int) (w : World) : Calls Tryz.prog 11 #[.int .i64 c] w (RetS (nameV c) w) := by
  by_cases h0 : c = 0
  · subst h0
    go_enter Tryz.func11, Tryz.ntmps11
    go_wp2_with fail
    go_ret
    exact ⟨rfl, gb_refl _ _⟩
  · by_cases h1 : c = 1
    · subst h1
      go_enter Tryz.func11, Tryz.ntmps11
      go_wp2_with fail
      go_ret
      exact ⟨rfl, gb_refl _ _⟩
    · by_cases h2 : c = 2
      · subst h2
        go_enter Tryz.func11, Tryz.ntmps11
        go_wp2_with fail
        go_ret
        exact ⟨rfl, gb_refl _ _⟩
      · have HR := Lib.hid (nameV_no h0 h1 h2)
        have b0 : (c == 0) = false := beq_eq_false_iff_ne.2 h0
        have b1 : (c == 1) = false := beq_eq_false_iff_ne.2 h1
        have b2 : (c == 2) = false := beq_eq_false_iff_ne.2 h2
        go_enter Tryz.func11, Tryz.ntmps11
        go_wp2_with fail
        go_ret
        exact ⟨by rw [HR.out]; rfl, gb_refl _ _⟩
end Go.Proofs.YtidilfakganooaaGreatDoor
end

section
namespace Go.Proofs.YtidilfakganooaaGreatDoor
open Go.ChangeShapes Go.WideShapes Go.ChangeAt Go.RowKit
set_option linter.unusedVariables false
set_option maxRecDepth 20000

/-- The drawn mesh and table, and the verdict, in their boxes. -/
structure FV (w : World) (W H : Int) (A A2 : Option Addr) (n cap n2 c2 : Nat) (L P : List Int) (g1 g2 g3 : Nat) (z : Int) (vr vc : Value) (R C : List Int) (wr : World) : Prop where
  m : Blk wr g1 28 #[.int .i64 W, .int .i64 H, .slice A n cap]
  t : Blk wr g2 30 #[.slice A2 n2 c2]
  v : Blk wr g3 34 #[.int .i64 z, vr, vc]
  im : IntAt wr wr.heap.size A n L
  it : IntAt wr wr.heap.size A2 n2 P
  r : VRow wr w.heap.size vr vc R.length C.length R C
  b : Below w.heap.size w wr
theorem FV.gb {w wr w' : World} {W H z : Int} {A A2 : Option Addr} {n cap n2 c2 g1 g2 g3 : Nat} {L P R C : List Int} {vr vc : Value} (h : FV w W H A A2 n cap n2 c2 L P g1 g2 g3 z vr vc R C wr) (hg : wr.grownBy w' none) : FV w W H A A2 n cap n2 c2 L P g1 g2 g3 z vr vc R C w' :=
  ⟨h.m.grown hg (by simp), h.t.grown hg (by simp), h.v.grown hg (by simp), (h.im.none (Nat.le_refl _) hg).more hg.size, (h.it.none (Nat.le_refl _) hg).more hg.size, h.r.gb hg, below_gb h.b (Nat.le_refl _) hg⟩

theorem text_neV {t s : ByteArray} (h : ¬ t = s) : (t.toList == s.toList) = false := by
  rw [ByteArray.toList_eq, ByteArray.toList_eq]
  refine beq_eq_false_iff_ne.2 (fun e => h ?_)
  apply ByteArray.ext
  exact Array.toList_inj.1 e
set_option maxHeartbeats 3200000 in
theorem walk_FnVerdicts (A : Option Addr) (n cap : Nat) (w : World) (hr : ByteRow w w.heap.size A n) (hp : Pre w) :
    Calls Tryz.prog 3 #[.slice A n cap] w fun e w' => e = .returned (.bool true) ∧ Below w.heap.size w w' := by
  by_cases hbig : 1048576 < n
  · go_enter Tryz.func3, Tryz.ntmps3
    go_wp2_with fail
    refine (lawsBig A n cap _).mono ?_
    rintro e w1 ⟨rfl, rfl⟩
    rw [decide_eq_true hbig]
    go_wp2_with fail
    go_ret
    exact ⟨rfl, Below.refl _ _⟩
  · have HR := Lib.hid hr
    have hn : n ≤ 1048576 := by omega
    have HPR := Lib.hid (fun w' (hb : Below w.heap.size w w') => hp.below hb)
    clear hr hp
    go_enter Tryz.func3, Tryz.ntmps3
    go_wp2_with fail
    refine (lawsBig A n cap _).mono ?_
    rintro e w1 ⟨rfl, rfl⟩
    rw [decide_eq_false hbig]
    clear hbig
    go_wp2_with fail
    refine (drawCheck A n cap _ HR.out hn).mono ?_
    rintro e w2 ⟨W, H, v, L, A2, n2, c2, P, rfl, hwf, ho, hL, hi, hn2, hb⟩
    obtain ⟨Am, cm, rfl, _⟩ := own_form ho
    have HWF := Lib.hid hwf
    have HIM := Lib.hid (intAt_own ho rfl (Nat.le_refl w2.heap.size))
    have HIT := Lib.hid hi
    have HB2 := Lib.hid hb
    clear hwf ho hi hb
    go_wp2_with fail
    have g12 : w2.grownBy ((w2.alloc (.cells #[.int .i64 W, .int .i64 H, .slice Am L.length cm] 28)).alloc (.cells #[.slice A2 n2 c2] 30)) none := gb_alloc (gb_alloc (gb_refl _ _) _) _
    have hB3 : Below w.heap.size w ((w2.alloc (.cells #[.int .i64 W, .int .i64 H, .slice Am L.length cm] 28)).alloc (.cells #[.slice A2 n2 c2] 30)) := below_gb HB2.out (Nat.le_refl _) g12
    have HCK := Lib.hid (implCheck W H Am A2 L.length cm n2 c2 L P HWF.out ((w2.alloc (.cells #[.int .i64 W, .int .i64 H, .slice Am L.length cm] 28)).alloc (.cells #[.slice A2 n2 c2] 30)) ((HIM.out.none (Nat.le_refl _) g12).more g12.size) ((HIT.out.none (Nat.le_refl _) g12).more g12.size) (by omega) (by omega) (HPR.out _ hB3))
    obtain ⟨tb, htb⟩ : ∃ tb, tableG W H L P = tb := ⟨_, rfl⟩
    have hvz := verd_zero (W := W) (H := H) (L := L) (P := P)
    have hvp := verd_proves (W := W) (H := H) (L := L) (P := P)
    have hvc := verd_code (W := W) (H := H) (L := L) (P := P)
    have hvl := verd_len (W := W) (H := H) (L := L) (P := P)
    obtain ⟨vd, hvd⟩ : ∃ vd, verdG W H L P = vd := ⟨_, rfl⟩
    rw [hvd] at hvz hvp hvc hvl HCK
    obtain ⟨z, R, C⟩ := vd
    rw [htb] at hvz
    simp only at hvz hvc hvl
    have HG := Lib.hid g12
    clear g12 hvd
    refine HCK.out.mono ?_
    rintro e w3 ⟨vr, vc, rfl, hrow, hb3⟩
    simp only at hrow
    obtain ⟨Ar, cr, rfl, _⟩ := own_form hrow.r
    obtain ⟨Ac, cc, rfl, _⟩ := own_form hrow.c
    have hcc := (own_cap hrow.c).1
    have g23 : ((w2.alloc (.cells #[.int .i64 W, .int .i64 H, .slice Am L.length cm] 28)).alloc (.cells #[.slice A2 n2 c2] 30)).grownBy (w3.alloc (.cells #[.int .i64 z, .slice Ar R.length cr, .slice Ac C.length cc] 34)) none := gb_alloc (gb_of_below hb3 none) _
    have X3 := Lib.hid (show FV w W H Am A2 L.length cm n2 c2 L P w2.heap.size (w2.heap.size + 1) w3.heap.size z (.slice Ar R.length cr) (.slice Ac C.length cc) R C (w3.alloc (.cells #[.int .i64 z, .slice Ar R.length cr, .slice Ac C.length cc] 34)) from
      ⟨((Blk.new w2 28 _).alloc _).grown g23 (by simp), (new_at2 w2 (.cells #[.int .i64 W, .int .i64 H, .slice Am L.length cm] 28) (.cells #[] 3) 30 #[.slice A2 n2 c2]).grown g23 (by simp), Blk.new w3 34 _,
        (((HIM.out.none (Nat.le_refl _) HG.out).more HG.out.size).none (Nat.le_refl _) g23).more g23.size, (((HIT.out.none (Nat.le_refl _) HG.out).more HG.out.size).none (Nat.le_refl _) g23).more g23.size, (hrow.less hB3.size).alloc _, below_gb hB3 (Nat.le_refl _) g23⟩)
    clear hrow hb3 hB3 g23
    obtain ⟨g1, hg1⟩ : ∃ g, w2.heap.size = g := ⟨_, rfl⟩
    obtain ⟨g2, hg2⟩ : ∃ g, g1 + 1 = g := ⟨_, rfl⟩
    obtain ⟨g3, hg3⟩ : ∃ g, w3.heap.size = g := ⟨_, rfl⟩
    rw [hg1, hg2, hg3] at X3
    have HG1 := Lib.hid hg1
    have HG2 := Lib.hid hg2
    have HG3 := Lib.hid hg3
    clear hg1 hg2 hg3
    go_wp2_with fail
    (try rw [HG1.out])
    (try rw [HG2.out])
    (try rw [HG3.out])
    obtain ⟨wa, hwa⟩ : ∃ wa, w3.alloc (.cells #[.int .i64 z, .slice Ar R.length cr, .slice Ac C.length cc] 34) = wa := ⟨_, rfl⟩
    rw [hwa] at X3 ⊢
    have XD := Lib.hid (X3.out.gb (gb_drew (gb_refl wa none)))
    have HIP := Lib.hid (fun w h h2 hR hC hp => show Calls Tryz.prog 9 #[.agg #[.int .i64 W, .int .i64 H, .slice Am L.length cm], .agg #[.slice A2 n2 c2], .agg #[.int .i64 z, .slice Ar R.length cr, .slice Ac C.length cc]] w (RetB true w) from hvp ▸ implProves W H Am A2 Ar Ac L.length cm n2 c2 R.length cr C.length cc L P ⟨z, R, C⟩ HWF.out w h h2 hR hC (by omega) (by omega) (by omega) (by omega) hcc hp)
    have HSPV := Lib.hid (fun w h h2 hR hC => show Calls Tryz.prog 10 #[.agg #[.int .i64 W, .int .i64 H, .slice Am L.length cm], .agg #[.slice A2 n2 c2], .agg #[.int .i64 z, .slice Ar R.length cr, .slice Ac C.length cc]] w (RetB true w) from hvp ▸ specProves W H Am A2 Ar Ac L.length cm n2 c2 R.length cr C.length cc L P ⟨z, R, C⟩ w h h2 hR hC (by omega) (by omega) (by omega) (by omega) hcc)
    have HTK := Lib.hid (fun w h h2 => show Calls Tryz.prog 12 #[.agg #[.int .i64 W, .int .i64 H, .slice Am L.length cm], .agg #[.slice A2 n2 c2]] w (RetB tb w) from htb ▸ implTableOk W H Am A2 L.length cm n2 c2 L P HWF.out w h h2 (by omega) (by omega))
    have HNM := Lib.hid (fun w => implVdName z w)
    rcases hvc with rfl | rfl | rfl
    · rw [nameV_0] at HNM
      obtain rfl : tb = false := by simpa using hvz
      have a0 : wa.cell? ⟨g1, 0, none⟩ = some (.int .i64 W) := X3.out.m.cell 0; have a1 : wa.cell? ⟨g1, 1, none⟩ = some (.int .i64 H) := X3.out.m.cell 1; have a2 : wa.cell? ⟨g1, 2, none⟩ = some (.slice Am L.length cm) := X3.out.m.cell 2; have a3 : wa.cell? ⟨g2, 0, none⟩ = some (.slice A2 n2 c2) := X3.out.t.cell 0; have a4 : wa.cell? ⟨g3, 0, none⟩ = some (.int .i64 0) := X3.out.v.cell 0; have a5 : wa.cell? ⟨g3, 1, none⟩ = some (.slice Ar R.length cr) := X3.out.v.cell 1; have a6 : wa.cell? ⟨g3, 2, none⟩ = some (.slice Ac C.length cc) := X3.out.v.cell 2
      have b0 : wa.drew.cell? ⟨g1, 0, none⟩ = some (.int .i64 W) := XD.out.m.cell 0; have b1 : wa.drew.cell? ⟨g1, 1, none⟩ = some (.int .i64 H) := XD.out.m.cell 1; have b2 : wa.drew.cell? ⟨g1, 2, none⟩ = some (.slice Am L.length cm) := XD.out.m.cell 2; have b3 : wa.drew.cell? ⟨g2, 0, none⟩ = some (.slice A2 n2 c2) := XD.out.t.cell 0; have b4 : wa.drew.cell? ⟨g3, 0, none⟩ = some (.int .i64 0) := XD.out.v.cell 0; have b5 : wa.drew.cell? ⟨g3, 1, none⟩ = some (.slice Ar R.length cr) := XD.out.v.cell 1; have b6 : wa.drew.cell? ⟨g3, 2, none⟩ = some (.slice Ac C.length cc) := XD.out.v.cell 2
      clear hwa hvp hvz htb
      go_region_held3 (fun w' => w'.cell? ⟨g1, 0, none⟩ = some (.int .i64 W) ∧ w'.cell? ⟨g1, 1, none⟩ = some (.int .i64 H) ∧ w'.cell? ⟨g1, 2, none⟩ = some (.slice Am L.length cm) ∧ w'.cell? ⟨g2, 0, none⟩ = some (.slice A2 n2 c2) ∧ w'.cell? ⟨g3, 0, none⟩ = some (.int .i64 0) ∧ w'.cell? ⟨g3, 1, none⟩ = some (.slice Ar R.length cr) ∧ w'.cell? ⟨g3, 2, none⟩ = some (.slice Ac C.length cc))
        (first | exact ⟨a0, a1, a2, a3, a4, a5, a6⟩ | exact ⟨b0, b1, b2, b3, b4, b5, b6⟩ | exact ⟨h0, h1, h2, h3, h4, h5, h6⟩ | exact ⟨d0, d1, d2, d3, d4, d5, d6⟩ | exact ⟨e0, e1, e2, e3, e4, e5, e6⟩ | exact ⟨f0, f1, f2, f3, f4, f5, f6⟩ | fail)
        (first
          | (go_at_call 9; (with_reducible refine (HIP.out _ XD.out.im XD.out.it (intAt_own XD.out.r.r rfl (Nat.le_refl _)) (intAt_own XD.out.r.c rfl (Nat.le_refl _)) (HPR.out _ XD.out.b)).mono ?_); rintro e w4 ⟨rfl, hg4⟩; have X4 := Lib.hid (XD.out.gb hg4); have h0 : w4.cell? ⟨g1, 0, none⟩ = some (.int .i64 W) := X4.out.m.cell 0; have h1 : w4.cell? ⟨g1, 1, none⟩ = some (.int .i64 H) := X4.out.m.cell 1; have h2 : w4.cell? ⟨g1, 2, none⟩ = some (.slice Am L.length cm) := X4.out.m.cell 2; have h3 : w4.cell? ⟨g2, 0, none⟩ = some (.slice A2 n2 c2) := X4.out.t.cell 0; have h4 : w4.cell? ⟨g3, 0, none⟩ = some (.int .i64 0) := X4.out.v.cell 0; have h5 : w4.cell? ⟨g3, 1, none⟩ = some (.slice Ar R.length cr) := X4.out.v.cell 1; have h6 : w4.cell? ⟨g3, 2, none⟩ = some (.slice Ac C.length cc) := X4.out.v.cell 2; clear hg4)
          | (go_at_call 10; (with_reducible refine (HSPV.out _ X4.out.im X4.out.it (intAt_own X4.out.r.r rfl (Nat.le_refl _)) (intAt_own X4.out.r.c rfl (Nat.le_refl _))).mono ?_); rintro e w5 ⟨rfl, hg5⟩; have X5 := Lib.hid (X4.out.gb hg5); have d0 : w5.cell? ⟨g1, 0, none⟩ = some (.int .i64 W) := X5.out.m.cell 0; have d1 : w5.cell? ⟨g1, 1, none⟩ = some (.int .i64 H) := X5.out.m.cell 1; have d2 : w5.cell? ⟨g1, 2, none⟩ = some (.slice Am L.length cm) := X5.out.m.cell 2; have d3 : w5.cell? ⟨g2, 0, none⟩ = some (.slice A2 n2 c2) := X5.out.t.cell 0; have d4 : w5.cell? ⟨g3, 0, none⟩ = some (.int .i64 0) := X5.out.v.cell 0; have d5 : w5.cell? ⟨g3, 1, none⟩ = some (.slice Ar R.length cr) := X5.out.v.cell 1; have d6 : w5.cell? ⟨g3, 2, none⟩ = some (.slice Ac C.length cc) := X5.out.v.cell 2; clear hg5)
          | (go_at_call 11; (with_reducible refine (HNM.out _).mono ?_); rintro e w6 ⟨rfl, hg6⟩; have X6 := Lib.hid (X5.out.gb hg6); have e0 : w6.cell? ⟨g1, 0, none⟩ = some (.int .i64 W) := X6.out.m.cell 0; have e1 : w6.cell? ⟨g1, 1, none⟩ = some (.int .i64 H) := X6.out.m.cell 1; have e2 : w6.cell? ⟨g1, 2, none⟩ = some (.slice Am L.length cm) := X6.out.m.cell 2; have e3 : w6.cell? ⟨g2, 0, none⟩ = some (.slice A2 n2 c2) := X6.out.t.cell 0; have e4 : w6.cell? ⟨g3, 0, none⟩ = some (.int .i64 0) := X6.out.v.cell 0; have e5 : w6.cell? ⟨g3, 1, none⟩ = some (.slice Ar R.length cr) := X6.out.v.cell 1; have e6 : w6.cell? ⟨g3, 2, none⟩ = some (.slice Ac C.length cc) := X6.out.v.cell 2; clear hg6)
          | (go_at_call 12; (with_reducible refine (HTK.out _ X6.out.im X6.out.it).mono ?_); rintro e w7 ⟨rfl, hg7⟩; have X7 := Lib.hid (X6.out.gb hg7); have f0 : w7.cell? ⟨g1, 0, none⟩ = some (.int .i64 W) := X7.out.m.cell 0; have f1 : w7.cell? ⟨g1, 1, none⟩ = some (.int .i64 H) := X7.out.m.cell 1; have f2 : w7.cell? ⟨g1, 2, none⟩ = some (.slice Am L.length cm) := X7.out.m.cell 2; have f3 : w7.cell? ⟨g2, 0, none⟩ = some (.slice A2 n2 c2) := X7.out.t.cell 0; have f4 : w7.cell? ⟨g3, 0, none⟩ = some (.int .i64 0) := X7.out.v.cell 0; have f5 : w7.cell? ⟨g3, 1, none⟩ = some (.slice Ar R.length cr) := X7.out.v.cell 1; have f6 : w7.cell? ⟨g3, 2, none⟩ = some (.slice Ac C.length cc) := X7.out.v.cell 2; clear hg7)
          | fail)
      all_goals
        clear a0 a1 a2 a3 a4 a5 a6
        go_wp2_with fail
        go_ret
        exact ⟨rfl, X7.out.b⟩
    · rw [nameV_1] at HNM
      obtain rfl : tb = true := by simpa using hvz
      have a0 : wa.cell? ⟨g1, 0, none⟩ = some (.int .i64 W) := X3.out.m.cell 0; have a1 : wa.cell? ⟨g1, 1, none⟩ = some (.int .i64 H) := X3.out.m.cell 1; have a2 : wa.cell? ⟨g1, 2, none⟩ = some (.slice Am L.length cm) := X3.out.m.cell 2; have a3 : wa.cell? ⟨g2, 0, none⟩ = some (.slice A2 n2 c2) := X3.out.t.cell 0; have a4 : wa.cell? ⟨g3, 0, none⟩ = some (.int .i64 1) := X3.out.v.cell 0; have a5 : wa.cell? ⟨g3, 1, none⟩ = some (.slice Ar R.length cr) := X3.out.v.cell 1; have a6 : wa.cell? ⟨g3, 2, none⟩ = some (.slice Ac C.length cc) := X3.out.v.cell 2
      have b0 : wa.drew.cell? ⟨g1, 0, none⟩ = some (.int .i64 W) := XD.out.m.cell 0; have b1 : wa.drew.cell? ⟨g1, 1, none⟩ = some (.int .i64 H) := XD.out.m.cell 1; have b2 : wa.drew.cell? ⟨g1, 2, none⟩ = some (.slice Am L.length cm) := XD.out.m.cell 2; have b3 : wa.drew.cell? ⟨g2, 0, none⟩ = some (.slice A2 n2 c2) := XD.out.t.cell 0; have b4 : wa.drew.cell? ⟨g3, 0, none⟩ = some (.int .i64 1) := XD.out.v.cell 0; have b5 : wa.drew.cell? ⟨g3, 1, none⟩ = some (.slice Ar R.length cr) := XD.out.v.cell 1; have b6 : wa.drew.cell? ⟨g3, 2, none⟩ = some (.slice Ac C.length cc) := XD.out.v.cell 2
      clear hwa hvp hvz htb
      go_region_held3 (fun w' => w'.cell? ⟨g1, 0, none⟩ = some (.int .i64 W) ∧ w'.cell? ⟨g1, 1, none⟩ = some (.int .i64 H) ∧ w'.cell? ⟨g1, 2, none⟩ = some (.slice Am L.length cm) ∧ w'.cell? ⟨g2, 0, none⟩ = some (.slice A2 n2 c2) ∧ w'.cell? ⟨g3, 0, none⟩ = some (.int .i64 1) ∧ w'.cell? ⟨g3, 1, none⟩ = some (.slice Ar R.length cr) ∧ w'.cell? ⟨g3, 2, none⟩ = some (.slice Ac C.length cc))
        (first | exact ⟨a0, a1, a2, a3, a4, a5, a6⟩ | exact ⟨b0, b1, b2, b3, b4, b5, b6⟩ | exact ⟨h0, h1, h2, h3, h4, h5, h6⟩ | exact ⟨d0, d1, d2, d3, d4, d5, d6⟩ | exact ⟨e0, e1, e2, e3, e4, e5, e6⟩ | exact ⟨f0, f1, f2, f3, f4, f5, f6⟩ | fail)
        (first
          | (go_at_call 9; (with_reducible refine (HIP.out _ XD.out.im XD.out.it (intAt_own XD.out.r.r rfl (Nat.le_refl _)) (intAt_own XD.out.r.c rfl (Nat.le_refl _)) (HPR.out _ XD.out.b)).mono ?_); rintro e w4 ⟨rfl, hg4⟩; have X4 := Lib.hid (XD.out.gb hg4); have h0 : w4.cell? ⟨g1, 0, none⟩ = some (.int .i64 W) := X4.out.m.cell 0; have h1 : w4.cell? ⟨g1, 1, none⟩ = some (.int .i64 H) := X4.out.m.cell 1; have h2 : w4.cell? ⟨g1, 2, none⟩ = some (.slice Am L.length cm) := X4.out.m.cell 2; have h3 : w4.cell? ⟨g2, 0, none⟩ = some (.slice A2 n2 c2) := X4.out.t.cell 0; have h4 : w4.cell? ⟨g3, 0, none⟩ = some (.int .i64 1) := X4.out.v.cell 0; have h5 : w4.cell? ⟨g3, 1, none⟩ = some (.slice Ar R.length cr) := X4.out.v.cell 1; have h6 : w4.cell? ⟨g3, 2, none⟩ = some (.slice Ac C.length cc) := X4.out.v.cell 2; clear hg4)
          | (go_at_call 10; (with_reducible refine (HSPV.out _ X4.out.im X4.out.it (intAt_own X4.out.r.r rfl (Nat.le_refl _)) (intAt_own X4.out.r.c rfl (Nat.le_refl _))).mono ?_); rintro e w5 ⟨rfl, hg5⟩; have X5 := Lib.hid (X4.out.gb hg5); have d0 : w5.cell? ⟨g1, 0, none⟩ = some (.int .i64 W) := X5.out.m.cell 0; have d1 : w5.cell? ⟨g1, 1, none⟩ = some (.int .i64 H) := X5.out.m.cell 1; have d2 : w5.cell? ⟨g1, 2, none⟩ = some (.slice Am L.length cm) := X5.out.m.cell 2; have d3 : w5.cell? ⟨g2, 0, none⟩ = some (.slice A2 n2 c2) := X5.out.t.cell 0; have d4 : w5.cell? ⟨g3, 0, none⟩ = some (.int .i64 1) := X5.out.v.cell 0; have d5 : w5.cell? ⟨g3, 1, none⟩ = some (.slice Ar R.length cr) := X5.out.v.cell 1; have d6 : w5.cell? ⟨g3, 2, none⟩ = some (.slice Ac C.length cc) := X5.out.v.cell 2; clear hg5)
          | (go_at_call 11; (with_reducible refine (HNM.out _).mono ?_); rintro e w6 ⟨rfl, hg6⟩; have X6 := Lib.hid (X5.out.gb hg6); have e0 : w6.cell? ⟨g1, 0, none⟩ = some (.int .i64 W) := X6.out.m.cell 0; have e1 : w6.cell? ⟨g1, 1, none⟩ = some (.int .i64 H) := X6.out.m.cell 1; have e2 : w6.cell? ⟨g1, 2, none⟩ = some (.slice Am L.length cm) := X6.out.m.cell 2; have e3 : w6.cell? ⟨g2, 0, none⟩ = some (.slice A2 n2 c2) := X6.out.t.cell 0; have e4 : w6.cell? ⟨g3, 0, none⟩ = some (.int .i64 1) := X6.out.v.cell 0; have e5 : w6.cell? ⟨g3, 1, none⟩ = some (.slice Ar R.length cr) := X6.out.v.cell 1; have e6 : w6.cell? ⟨g3, 2, none⟩ = some (.slice Ac C.length cc) := X6.out.v.cell 2; clear hg6)
          | (go_at_call 12; (with_reducible refine (HTK.out _ X6.out.im X6.out.it).mono ?_); rintro e w7 ⟨rfl, hg7⟩; have X7 := Lib.hid (X6.out.gb hg7); have f0 : w7.cell? ⟨g1, 0, none⟩ = some (.int .i64 W) := X7.out.m.cell 0; have f1 : w7.cell? ⟨g1, 1, none⟩ = some (.int .i64 H) := X7.out.m.cell 1; have f2 : w7.cell? ⟨g1, 2, none⟩ = some (.slice Am L.length cm) := X7.out.m.cell 2; have f3 : w7.cell? ⟨g2, 0, none⟩ = some (.slice A2 n2 c2) := X7.out.t.cell 0; have f4 : w7.cell? ⟨g3, 0, none⟩ = some (.int .i64 1) := X7.out.v.cell 0; have f5 : w7.cell? ⟨g3, 1, none⟩ = some (.slice Ar R.length cr) := X7.out.v.cell 1; have f6 : w7.cell? ⟨g3, 2, none⟩ = some (.slice Ac C.length cc) := X7.out.v.cell 2; clear hg7)
          | fail)
      all_goals
        clear a0 a1 a2 a3 a4 a5 a6
        go_wp2_with fail
        go_ret
        exact ⟨rfl, X7.out.b⟩
    · rw [nameV_2] at HNM
      obtain rfl : tb = true := by simpa using hvz
      have a0 : wa.cell? ⟨g1, 0, none⟩ = some (.int .i64 W) := X3.out.m.cell 0; have a1 : wa.cell? ⟨g1, 1, none⟩ = some (.int .i64 H) := X3.out.m.cell 1; have a2 : wa.cell? ⟨g1, 2, none⟩ = some (.slice Am L.length cm) := X3.out.m.cell 2; have a3 : wa.cell? ⟨g2, 0, none⟩ = some (.slice A2 n2 c2) := X3.out.t.cell 0; have a4 : wa.cell? ⟨g3, 0, none⟩ = some (.int .i64 2) := X3.out.v.cell 0; have a5 : wa.cell? ⟨g3, 1, none⟩ = some (.slice Ar R.length cr) := X3.out.v.cell 1; have a6 : wa.cell? ⟨g3, 2, none⟩ = some (.slice Ac C.length cc) := X3.out.v.cell 2
      have b0 : wa.drew.cell? ⟨g1, 0, none⟩ = some (.int .i64 W) := XD.out.m.cell 0; have b1 : wa.drew.cell? ⟨g1, 1, none⟩ = some (.int .i64 H) := XD.out.m.cell 1; have b2 : wa.drew.cell? ⟨g1, 2, none⟩ = some (.slice Am L.length cm) := XD.out.m.cell 2; have b3 : wa.drew.cell? ⟨g2, 0, none⟩ = some (.slice A2 n2 c2) := XD.out.t.cell 0; have b4 : wa.drew.cell? ⟨g3, 0, none⟩ = some (.int .i64 2) := XD.out.v.cell 0; have b5 : wa.drew.cell? ⟨g3, 1, none⟩ = some (.slice Ar R.length cr) := XD.out.v.cell 1; have b6 : wa.drew.cell? ⟨g3, 2, none⟩ = some (.slice Ac C.length cc) := XD.out.v.cell 2
      clear hwa hvp hvz htb
      go_region_held3 (fun w' => w'.cell? ⟨g1, 0, none⟩ = some (.int .i64 W) ∧ w'.cell? ⟨g1, 1, none⟩ = some (.int .i64 H) ∧ w'.cell? ⟨g1, 2, none⟩ = some (.slice Am L.length cm) ∧ w'.cell? ⟨g2, 0, none⟩ = some (.slice A2 n2 c2) ∧ w'.cell? ⟨g3, 0, none⟩ = some (.int .i64 2) ∧ w'.cell? ⟨g3, 1, none⟩ = some (.slice Ar R.length cr) ∧ w'.cell? ⟨g3, 2, none⟩ = some (.slice Ac C.length cc))
        (first | exact ⟨a0, a1, a2, a3, a4, a5, a6⟩ | exact ⟨b0, b1, b2, b3, b4, b5, b6⟩ | exact ⟨h0, h1, h2, h3, h4, h5, h6⟩ | exact ⟨d0, d1, d2, d3, d4, d5, d6⟩ | exact ⟨e0, e1, e2, e3, e4, e5, e6⟩ | exact ⟨f0, f1, f2, f3, f4, f5, f6⟩ | fail)
        (first
          | (go_at_call 9; (with_reducible refine (HIP.out _ XD.out.im XD.out.it (intAt_own XD.out.r.r rfl (Nat.le_refl _)) (intAt_own XD.out.r.c rfl (Nat.le_refl _)) (HPR.out _ XD.out.b)).mono ?_); rintro e w4 ⟨rfl, hg4⟩; have X4 := Lib.hid (XD.out.gb hg4); have h0 : w4.cell? ⟨g1, 0, none⟩ = some (.int .i64 W) := X4.out.m.cell 0; have h1 : w4.cell? ⟨g1, 1, none⟩ = some (.int .i64 H) := X4.out.m.cell 1; have h2 : w4.cell? ⟨g1, 2, none⟩ = some (.slice Am L.length cm) := X4.out.m.cell 2; have h3 : w4.cell? ⟨g2, 0, none⟩ = some (.slice A2 n2 c2) := X4.out.t.cell 0; have h4 : w4.cell? ⟨g3, 0, none⟩ = some (.int .i64 2) := X4.out.v.cell 0; have h5 : w4.cell? ⟨g3, 1, none⟩ = some (.slice Ar R.length cr) := X4.out.v.cell 1; have h6 : w4.cell? ⟨g3, 2, none⟩ = some (.slice Ac C.length cc) := X4.out.v.cell 2; clear hg4)
          | (go_at_call 10; (with_reducible refine (HSPV.out _ X4.out.im X4.out.it (intAt_own X4.out.r.r rfl (Nat.le_refl _)) (intAt_own X4.out.r.c rfl (Nat.le_refl _))).mono ?_); rintro e w5 ⟨rfl, hg5⟩; have X5 := Lib.hid (X4.out.gb hg5); have d0 : w5.cell? ⟨g1, 0, none⟩ = some (.int .i64 W) := X5.out.m.cell 0; have d1 : w5.cell? ⟨g1, 1, none⟩ = some (.int .i64 H) := X5.out.m.cell 1; have d2 : w5.cell? ⟨g1, 2, none⟩ = some (.slice Am L.length cm) := X5.out.m.cell 2; have d3 : w5.cell? ⟨g2, 0, none⟩ = some (.slice A2 n2 c2) := X5.out.t.cell 0; have d4 : w5.cell? ⟨g3, 0, none⟩ = some (.int .i64 2) := X5.out.v.cell 0; have d5 : w5.cell? ⟨g3, 1, none⟩ = some (.slice Ar R.length cr) := X5.out.v.cell 1; have d6 : w5.cell? ⟨g3, 2, none⟩ = some (.slice Ac C.length cc) := X5.out.v.cell 2; clear hg5)
          | (go_at_call 11; (with_reducible refine (HNM.out _).mono ?_); rintro e w6 ⟨rfl, hg6⟩; have X6 := Lib.hid (X5.out.gb hg6); have e0 : w6.cell? ⟨g1, 0, none⟩ = some (.int .i64 W) := X6.out.m.cell 0; have e1 : w6.cell? ⟨g1, 1, none⟩ = some (.int .i64 H) := X6.out.m.cell 1; have e2 : w6.cell? ⟨g1, 2, none⟩ = some (.slice Am L.length cm) := X6.out.m.cell 2; have e3 : w6.cell? ⟨g2, 0, none⟩ = some (.slice A2 n2 c2) := X6.out.t.cell 0; have e4 : w6.cell? ⟨g3, 0, none⟩ = some (.int .i64 2) := X6.out.v.cell 0; have e5 : w6.cell? ⟨g3, 1, none⟩ = some (.slice Ar R.length cr) := X6.out.v.cell 1; have e6 : w6.cell? ⟨g3, 2, none⟩ = some (.slice Ac C.length cc) := X6.out.v.cell 2; clear hg6)
          | (go_at_call 12; (with_reducible refine (HTK.out _ X6.out.im X6.out.it).mono ?_); rintro e w7 ⟨rfl, hg7⟩; have X7 := Lib.hid (X6.out.gb hg7); have f0 : w7.cell? ⟨g1, 0, none⟩ = some (.int .i64 W) := X7.out.m.cell 0; have f1 : w7.cell? ⟨g1, 1, none⟩ = some (.int .i64 H) := X7.out.m.cell 1; have f2 : w7.cell? ⟨g1, 2, none⟩ = some (.slice Am L.length cm) := X7.out.m.cell 2; have f3 : w7.cell? ⟨g2, 0, none⟩ = some (.slice A2 n2 c2) := X7.out.t.cell 0; have f4 : w7.cell? ⟨g3, 0, none⟩ = some (.int .i64 2) := X7.out.v.cell 0; have f5 : w7.cell? ⟨g3, 1, none⟩ = some (.slice Ar R.length cr) := X7.out.v.cell 1; have f6 : w7.cell? ⟨g3, 2, none⟩ = some (.slice Ac C.length cc) := X7.out.v.cell 2; clear hg7)
          | fail)
      all_goals
        clear a0 a1 a2 a3 a4 a5 a6
        go_wp2_with fail
        go_ret
        exact ⟨rfl, X7.out.b⟩
end Go.Proofs.YtidilfakganooaaGreatDoor
end
