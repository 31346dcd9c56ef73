/- What is proved here: a drawn table is a standard table of a drawn valid grid; only new blocks are written. -/
import Derived.Test.YtecaehkckamhkaaPickGrid
import Derived.Test.YtecaehkckamhkaaMakeS
namespace Go.Proofs.Ytecaehkckamhkaa
open Go.ChangeShapes Go.WideShapes Go.ChangeAt Go.RowKit
set_option linter.unusedVariables false

theorem cur_far {w : World} {g : Nat} {p : Addr} (h : Cur w g) (hp : g < p.block) (x : Value) : Cur (w.setCell p x) g :=
  h.grown (gb_setCell (gb_refl w (some p.block)) (.inl rfl) x) (fun k e => by cases e; exact hp)
theorem gb_setS {a w : World} {row : Option Nat} {b i j k : Nat} (h : a.grownBy w row) (hb : a.heap.size ≤ b) (x y z : Value) : a.grownBy (((w.setCell ⟨b, i, none⟩ x).setCell ⟨b, j, none⟩ y).setCell ⟨b, k, none⟩ z) row :=
  gb_setCell (gb_setCell (gb_setCell h (.inr hb) x) (.inr hb) y) (.inr hb) z
theorem gb_undraw2 {a b : World} {row : Option Nat} (h : a.drew.grownBy b row) : a.grownBy b row := ⟨h.os, h.tape, h.output, h.size, h.block⟩
/-- A mesh without broken channels and a standard table are returned; only the cursor and new blocks are written. -/
def DrawnTabC (g : Nat) (w : World) (e : Ending) (w' : World) : Prop := ∃ (W H r : Int) (v : Value), e = .returned (.tuple #[.agg #[.int .i64 W, .int .i64 H, .slice none 0 0], .agg #[v]]) ∧ okG W H = true ∧ 1 ≤ r ∧ r ≤ 4 ∧
  w'.ownsRow w.heap.size 3 1 v (stdTab W H r).length (intsV (stdTab W H r)) ∧ Cur w' g ∧ w.grownBy w' (some g)

set_option maxRecDepth 100000 in
theorem l04Case (g : Nat) (w : World) (hcur : Cur w g) :
    Calls Try.prog 67 #[.pointer (some ⟨g, 0, none⟩)] w (DrawnTabC g w) := by
  have hlt := hcur.lt
  have hg0 : w.grownBy ((w.alloc (.cells #[.int .i64 0, .int .i64 0, .slice none 0 0] 34)).alloc (.cells #[.slice none 0 0] 36)) none := gb_alloc (gb_alloc (gb_refl w none) _) _
  have hc0 : Cur ((w.alloc (.cells #[.int .i64 0, .int .i64 0, .slice none 0 0] 34)).alloc (.cells #[.slice none 0 0] 36)) g := hcur.grown hg0 (fun k e => by cases e)
  have hbM : Blk ((w.alloc (.cells #[.int .i64 0, .int .i64 0, .slice none 0 0] 34)).alloc (.cells #[.slice none 0 0] 36)) w.heap.size 34 #[.int .i64 0, .int .i64 0, .slice none 0 0] := (Blk.new w _ _).alloc _
  have hbT : Blk ((w.alloc (.cells #[.int .i64 0, .int .i64 0, .slice none 0 0] 34)).alloc (.cells #[.slice none 0 0] 36)) (w.heap.size + 1) 36 #[.slice none 0 0] := by
    have := Blk.new (w.alloc (.cells #[.int .i64 0, .int .i64 0, .slice none 0 0] 34)) 36 #[.slice none 0 0]
    rwa [alloc_size] at this
  have HBM := Lib.hid hbM
  have HBT := Lib.hid hbT
  have HG0 := Lib.hid (gb_of_none hg0 (some g))
  clear hcur hbM hbT hg0
  go_enter Try.func67, Try.ntmps67
  go_wp2_with fail
  refine (l02Grid g _ hc0).mono ?_
  rintro e w1 ⟨W, H, rfl, hok, hc1, hg1⟩
  have HOK := Lib.hid hok
  have HG1 := Lib.hid (gb_trans HG0.out hg1)
  have HM1 := Lib.hid ((HBM.out.grown hg1 (fun e => by cases e; omega)).alloc (.cells #[.int .i64 W, .int .i64 H, .slice none 0 0] 34))
  have HT1 := Lib.hid ((HBT.out.grown hg1 (fun e => by cases e; omega)).alloc (.cells #[.int .i64 W, .int .i64 H, .slice none 0 0] 34))
  have HQ1 := Lib.hid (Blk.new w1 34 #[.int .i64 W, .int .i64 H, .slice none 0 0])
  have HC1 : Hid (Cur (w1.alloc (.cells #[.int .i64 W, .int .i64 H, .slice none 0 0] 34)).drew g) := (hc1.grown (gb_alloc (gb_refl _ none) (.cells #[.int .i64 W, .int .i64 H, .slice none 0 0] 34)) (fun k e => by cases e) : Cur (w1.alloc (.cells #[.int .i64 W, .int .i64 H, .slice none 0 0] 34)) g)
  have hs1 : w.heap.size + 2 ≤ w1.heap.size := by have := hg1.size; rw [alloc_size, alloc_size] at this; omega
  have hgw : g ≠ w1.heap.size := by omega
  clear hok hc0 hc1 hg1
  go_wp2_with fail
  have a0 : (w1.alloc (.cells #[.int .i64 W, .int .i64 H, .slice none 0 0] 34)).cell? ⟨w1.heap.size, 0, none⟩ = some (.int .i64 W) := HQ1.out.cell 0
  have a1 : (w1.alloc (.cells #[.int .i64 W, .int .i64 H, .slice none 0 0] 34)).cell? ⟨w1.heap.size, 1, none⟩ = some (.int .i64 H) := HQ1.out.cell 1
  have a2 : (w1.alloc (.cells #[.int .i64 W, .int .i64 H, .slice none 0 0] 34)).cell? ⟨w1.heap.size, 2, none⟩ = some (.slice none 0 0) := HQ1.out.cell 2
  have z0 : (w1.alloc (.cells #[.int .i64 W, .int .i64 H, .slice none 0 0] 34)).drew.cell? ⟨w1.heap.size, 0, none⟩ = some (.int .i64 W) := a0
  have z1 : (w1.alloc (.cells #[.int .i64 W, .int .i64 H, .slice none 0 0] 34)).drew.cell? ⟨w1.heap.size, 1, none⟩ = some (.int .i64 H) := a1
  have z2 : (w1.alloc (.cells #[.int .i64 W, .int .i64 H, .slice none 0 0] 34)).drew.cell? ⟨w1.heap.size, 2, none⟩ = some (.slice none 0 0) := a2
  go_region_held3 (fun w' => w'.cell? ⟨w1.heap.size, 0, none⟩ = some (.int .i64 W) ∧ w'.cell? ⟨w1.heap.size, 1, none⟩ = some (.int .i64 H) ∧ w'.cell? ⟨w1.heap.size, 2, none⟩ = some (.slice none 0 0))
    (first | with_reducible exact ⟨z0, z1, z2⟩ | with_reducible exact ⟨a0, a1, a2⟩ | with_reducible exact ⟨d0, d1, d2⟩ | with_reducible exact ⟨e0, e1, e2⟩ | with_reducible exact ⟨s0, s1, s2⟩ | with_reducible exact ⟨u0, u1, u2⟩ | fail)
    (first
      | (go_at_call 69; (with_reducible refine (l01Below 4 g _ HC1.out).mono ?_); rintro e w4 ⟨x, rfl, x0, x1, x2, hc4, hg4⟩; have x3 := x1 (by omega); have q1 : IntKind.i64.wrap (1 + x) = 1 + x := IntWalk.i64_in _ (by omega)
         have HC4 := Lib.hid hc4; have HG4 := Lib.hid (gb_trans (gb_alloc HG1.out (.cells #[.int .i64 W, .int .i64 H, .slice none 0 0] 34)) (gb_undraw2 hg4)); have HX := Lib.hid (And.intro x0 x3)
         have HQ4 := Lib.hid (HQ1.out.grown (gb_undraw2 hg4) (fun e => by cases e; omega)); have HM4 := Lib.hid (HM1.out.grown (gb_undraw2 hg4) (fun e => by cases e; omega)); have HT4 := Lib.hid (HT1.out.grown (gb_undraw2 hg4) (fun e => by cases e; omega))
         have d0 : w4.cell? ⟨w1.heap.size, 0, none⟩ = some (.int .i64 W) := HQ4.out.cell 0; have d1 : w4.cell? ⟨w1.heap.size, 1, none⟩ = some (.int .i64 H) := HQ4.out.cell 1; have d2 : w4.cell? ⟨w1.heap.size, 2, none⟩ = some (.slice none 0 0) := HQ4.out.cell 2; clear hc4 hg4 x1 x2)
      | (go_at_call 102; (with_reducible refine (specMake W H (1 + x) HOK.out (by omega) (by omega) _).mono ?_); rintro e w5 ⟨v, rfl, o5, b5⟩
         obtain ⟨A5, c5, rfl, _⟩ := own_form o5
         have hg5 := gb_of_below b5 none
         have HC5 := Lib.hid (HC4.out.grown hg5 (fun k e => by cases e)); have HG5 := Lib.hid (gb_trans HG4.out (gb_of_none hg5 _)); have HO5 := Lib.hid o5
         have HQ5 := Lib.hid (HQ4.out.grown hg5 (by simp)); have HM5 := Lib.hid (HM4.out.grown hg5 (by simp)); have HT5 := Lib.hid (HT4.out.grown hg5 (by simp))
         have e0 : w5.cell? ⟨w1.heap.size, 0, none⟩ = some (.int .i64 W) := HQ5.out.cell 0; have e1 : w5.cell? ⟨w1.heap.size, 1, none⟩ = some (.int .i64 H) := HQ5.out.cell 1; have e2 : w5.cell? ⟨w1.heap.size, 2, none⟩ = some (.slice none 0 0) := HQ5.out.cell 2
         have m0 : w5.cell? ⟨w.heap.size, 0, none⟩ = some (.int .i64 0) := HM5.out.cell 0; have m1 : w5.cell? ⟨w.heap.size, 1, none⟩ = some (.int .i64 0) := HM5.out.cell 1; have m2 : w5.cell? ⟨w.heap.size, 2, none⟩ = some (.slice none 0 0) := HM5.out.cell 2
         have t0 : w5.cell? ⟨w.heap.size + 1, 0, none⟩ = some (.slice none 0 0) := HT5.out.cell 0
         have hne1 : w1.heap.size ≠ w.heap.size := by omega
         have hne2 : w1.heap.size ≠ w.heap.size + 1 := by omega
         have Q7 := Lib.hid (((HQ5.out.far (p := ⟨w.heap.size, 0, none⟩) hne1 (.int .i64 W)).far (p := ⟨w.heap.size, 1, none⟩) hne1 (.int .i64 H)).far (p := ⟨w.heap.size, 2, none⟩) hne1 (.slice none 0 0))
         have Q8 := Lib.hid (Q7.out.far (p := ⟨w.heap.size + 1, 0, none⟩) hne2 (.slice A5 (stdTab W H (1 + x)).length c5))
         have s0 : (((w5.setCell ⟨w.heap.size, 0, none⟩ (.int .i64 W)).setCell ⟨w.heap.size, 1, none⟩ (.int .i64 H)).setCell ⟨w.heap.size, 2, none⟩ (.slice none 0 0)).cell? ⟨w1.heap.size, 0, none⟩ = some (.int .i64 W) := Q7.out.cell 0
         have u0 : ((((w5.setCell ⟨w.heap.size, 0, none⟩ (.int .i64 W)).setCell ⟨w.heap.size, 1, none⟩ (.int .i64 H)).setCell ⟨w.heap.size, 2, none⟩ (.slice none 0 0)).setCell ⟨w.heap.size + 1, 0, none⟩ (.slice A5 (stdTab W H (1 + x)).length c5)).cell? ⟨w1.heap.size, 0, none⟩ = some (.int .i64 W) := Q8.out.cell 0
         have s1 : (((w5.setCell ⟨w.heap.size, 0, none⟩ (.int .i64 W)).setCell ⟨w.heap.size, 1, none⟩ (.int .i64 H)).setCell ⟨w.heap.size, 2, none⟩ (.slice none 0 0)).cell? ⟨w1.heap.size, 1, none⟩ = some (.int .i64 H) := Q7.out.cell 1
         have u1 : ((((w5.setCell ⟨w.heap.size, 0, none⟩ (.int .i64 W)).setCell ⟨w.heap.size, 1, none⟩ (.int .i64 H)).setCell ⟨w.heap.size, 2, none⟩ (.slice none 0 0)).setCell ⟨w.heap.size + 1, 0, none⟩ (.slice A5 (stdTab W H (1 + x)).length c5)).cell? ⟨w1.heap.size, 1, none⟩ = some (.int .i64 H) := Q8.out.cell 1
         have s2 : (((w5.setCell ⟨w.heap.size, 0, none⟩ (.int .i64 W)).setCell ⟨w.heap.size, 1, none⟩ (.int .i64 H)).setCell ⟨w.heap.size, 2, none⟩ (.slice none 0 0)).cell? ⟨w1.heap.size, 2, none⟩ = some (.slice none 0 0) := Q7.out.cell 2
         have u2 : ((((w5.setCell ⟨w.heap.size, 0, none⟩ (.int .i64 W)).setCell ⟨w.heap.size, 1, none⟩ (.int .i64 H)).setCell ⟨w.heap.size, 2, none⟩ (.slice none 0 0)).setCell ⟨w.heap.size + 1, 0, none⟩ (.slice A5 (stdTab W H (1 + x)).length c5)).cell? ⟨w1.heap.size, 2, none⟩ = some (.slice none 0 0) := Q8.out.cell 2
         have f0 := HM5.out.frozen 0; have f1 := HM5.out.frozen 1; have f2 := HM5.out.frozen 2; have f3 := HT5.out.frozen 0; clear hg5 o5 b5)
      | fail)
  all_goals
    have kk := ((((HM5.out.set_ 0 (.int .i64 W)).set_ 1 (.int .i64 H)).set_ 2 (.slice none 0 0)).far (p := ⟨w.heap.size + 1, 0, none⟩) (by show w.heap.size ≠ w.heap.size + 1; omega) (.slice A5 (stdTab W H (1 + x)).length c5))
    have tt := ((((HT5.out.far (p := ⟨w.heap.size, 0, none⟩) (by show w.heap.size + 1 ≠ w.heap.size; omega) (.int .i64 W)).far (p := ⟨w.heap.size, 1, none⟩) (by show w.heap.size + 1 ≠ w.heap.size; omega) (.int .i64 H)).far (p := ⟨w.heap.size, 2, none⟩) (by show w.heap.size + 1 ≠ w.heap.size; omega) (.slice none 0 0)).set_ 0 (.slice A5 (stdTab W H (1 + x)).length c5))
    have r0 := kk.cell 0
    have r1 := kk.cell 1
    have r2 := kk.cell 2
    have r3 := tt.cell 0
    simp at r0 r1 r2 r3
    have hs4 := HQ4.out.lt
    have O8 := Lib.hid (own_less (ownsRow_setCell_below (ownsRow_setCell_below (ownsRow_setCell_below (ownsRow_setCell_below HO5.out (a := ⟨w.heap.size, 0, none⟩) (by show w.heap.size < _; omega) (.int .i64 W)) (a := ⟨w.heap.size, 1, none⟩) (by show w.heap.size < _; omega) (.int .i64 H)) (a := ⟨w.heap.size, 2, none⟩) (by show w.heap.size < _; omega) (.slice none 0 0)) (a := ⟨w.heap.size + 1, 0, none⟩) (by show w.heap.size + 1 < _; omega) (.slice A5 (stdTab W H (1 + x)).length c5)) (b1 := w.heap.size) (by omega))
    have G8 := Lib.hid (gb_setCell (gb_setS HG5.out (i := 0) (j := 1) (k := 2) (b := w.heap.size) (Nat.le_refl _) (.int .i64 W) (.int .i64 H) (.slice none 0 0)) (p := ⟨w.heap.size + 1, 0, none⟩) (.inr (by show w.heap.size ≤ w.heap.size + 1; omega)) (.slice A5 (stdTab W H (1 + x)).length c5))
    have C8 := Lib.hid (cur_far (cur_far (cur_far (cur_far HC5.out (p := ⟨w.heap.size, 0, none⟩) (by show g < w.heap.size; omega) (.int .i64 W)) (p := ⟨w.heap.size, 1, none⟩) (by show g < w.heap.size; omega) (.int .i64 H)) (p := ⟨w.heap.size, 2, none⟩) (by show g < w.heap.size; omega) (.slice none 0 0)) (p := ⟨w.heap.size + 1, 0, none⟩) (by show g < w.heap.size + 1; omega) (.slice A5 (stdTab W H (1 + x)).length c5))
    clear kk tt
    go_wp2_with fail
    refine bodyPost_ret (v := .tuple #[.agg #[.int .i64 W, .int .i64 H, .slice none 0 0], .agg #[.slice A5 (stdTab W H (1 + x)).length c5]]) (by simp [results, Try.results67, go_sem, r0, r1, r2, r3]) rfl ⟨W, H, 1 + x, _, rfl, HOK.out, by have := HX.out; omega, by have := HX.out; omega, O8.out, C8.out, G8.out⟩
end Go.Proofs.Ytecaehkckamhkaa
