/- What is proved here: DrawRoute returns a valid mesh and an empty list or a route of it; only new blocks are written. -/
import Derived.Test.YtakigpgkcneboaaRouteD
namespace Go.Proofs.Ytakigpgkcneboaa
open Go.ChangeShapes Go.WideShapes Go.ChangeAt Go.RowKit
set_option linter.unusedVariables false

theorem gb_undrawR {a b : World} {row : Option Nat} (h : a.drew.grownBy b row) : a.grownBy b row := ⟨h.os, h.tape, h.output, h.size, h.block⟩
/-- A valid mesh and a route or nothing. -/
def DrawnRt (w : World) (e : Ending) (w' : World) : Prop :=
  ∃ (W H : Int) (v v2 : Value) (L r : List Int), e = .returned (.tuple #[.agg #[.int .i64 W, .int .i64 H, v], v2]) ∧ meshG W H L = true ∧ (r = [] ∨ routeG W H L r = true) ∧ L.length ≤ 64 ∧ r.length ≤ 16 ∧
    w'.ownsRow (w.heap.size + 1) 3 1 v L.length (intsV L) ∧ w'.ownsRow (w.heap.size + 1) 3 1 v2 r.length (intsV r) ∧ Below w.heap.size w w'

set_option maxHeartbeats 1600000 in
theorem drawRoute (A : Option Addr) (n cap : Nat) (w : World) (hr : ByteRow w w.heap.size A n) (hn : n ≤ 1048576) :
    Calls Try.prog 19 #[.slice A n cap] w (DrawnRt w) := by
  have hr0 : ByteRow (w.alloc (.cells #[.int .i64 0, .int .i64 0, .slice none 0 0] 28)) (w.alloc (.cells #[.int .i64 0, .int .i64 0, .slice none 0 0] 28)).heap.size A n := (hr.keep fun p hp => World.cell?_of_block (Below.heap_alloc _ _ _ hp)).more (by simp)
  have HB := Lib.hid (Blk.new w 28 #[.int .i64 0, .int .i64 0, .slice none 0 0])
  have HA := Lib.hid (show Below w.heap.size w (w.alloc (.cells #[.int .i64 0, .int .i64 0, .slice none 0 0] 28)) from (Below.refl _ _).alloc (Nat.le_refl _) _)
  have HR := Lib.hid hr0
  clear hr hr0
  go_enter Try.func19, Try.ntmps19
  go_wp2_with fail
  refine (l01New _ _ _ _ HR.out hn).mono ?_
  rintro e w1 ⟨g, rfl, hg, hc1, hbel⟩
  rw [alloc_size] at hg hbel
  have HG := Lib.hid hg
  have HB1 := Lib.hid (HB.out.below hbel (by omega))
  have HS1 := Lib.hid (show w.heap.size + 1 ≤ w1.heap.size by have := hbel.size; rw [alloc_size] at this; exact this)
  have HA1 := Lib.hid (HA.out.trans (hbel.mono (by omega)))
  have hgl := hc1.lt
  clear hbel hg
  go_wp2_with fail
  refine (l03Mesh g _ hc1).mono ?_
  rintro e w2 ⟨W, H, v, L, rfl, hm, ho, hlen, hc2, hg2⟩
  have HB2 := Lib.hid (HB1.out.grown hg2 (fun e => by cases e; have := HG.out; omega))
  have HA2 := Lib.hid (HA1.out.trans (gb_below hg2 HA1.out.size (by have := HG.out; omega)))
  have hs2 := hg2.size
  obtain ⟨A', cap', rfl, _⟩ := own_form ho
  have HO := Lib.hid (show w2.ownsRow (g + 1) 3 1 (.slice A' L.length cap') L.length (intsV L) from own_less ho (by omega))
  have HM := Lib.hid hm
  have HOK := Lib.hid (meshG_ok hm).1
  have HLen := Lib.hid hlen
  have HBX := Lib.hid (HB2.out.alloc (.cells #[.int .i64 W, .int .i64 H, .slice A' L.length cap'] 28))
  have HQ := Lib.hid (Blk.new w2 28 #[.int .i64 W, .int .i64 H, .slice A' L.length cap'])
  have HOX := Lib.hid (HO.out.alloc (.cells #[.int .i64 W, .int .i64 H, .slice A' L.length cap'] 28))
  have HGX := Lib.hid (gb_alloc (gb_of_below HA2.out none) (.cells #[.int .i64 W, .int .i64 H, .slice A' L.length cap'] 28))
  have HCX : Hid (Cur (w2.alloc (.cells #[.int .i64 W, .int .i64 H, .slice A' L.length cap'] 28)).drew g) := (hc2.grown (gb_alloc (gb_refl _ none) (.cells #[.int .i64 W, .int .i64 H, .slice A' L.length cap'] 28)) (fun k e => by cases e) : Cur (w2.alloc (.cells #[.int .i64 W, .int .i64 H, .slice A' L.length cap'] 28)) g)
  have HOD : Hid ((w2.alloc (.cells #[.int .i64 W, .int .i64 H, .slice A' L.length cap'] 28)).drew.ownsRow (g + 1) 3 1 (.slice A' L.length cap') L.length (intsV L)) := (HOX.out :)
  have hlen9 : L.length ≤ 1000000000 := by omega
  have hne : w2.heap.size ≠ w.heap.size := by have := HS1.out; omega
  clear hc1 hc2 hg2 ho hm hlen
  go_wp2_with fail
  have a0 : (w2.alloc (.cells #[.int .i64 W, .int .i64 H, .slice A' L.length cap'] 28)).cell? ⟨w2.heap.size, 0, none⟩ = some (.int .i64 W) := HQ.out.cell 0
  have a1 : (w2.alloc (.cells #[.int .i64 W, .int .i64 H, .slice A' L.length cap'] 28)).cell? ⟨w2.heap.size, 1, none⟩ = some (.int .i64 H) := HQ.out.cell 1
  have a2 : (w2.alloc (.cells #[.int .i64 W, .int .i64 H, .slice A' L.length cap'] 28)).cell? ⟨w2.heap.size, 2, none⟩ = some (.slice A' L.length cap') := HQ.out.cell 2
  have z0 : (w2.alloc (.cells #[.int .i64 W, .int .i64 H, .slice A' L.length cap'] 28)).drew.cell? ⟨w2.heap.size, 0, none⟩ = some (.int .i64 W) := a0
  have z1 : (w2.alloc (.cells #[.int .i64 W, .int .i64 H, .slice A' L.length cap'] 28)).drew.cell? ⟨w2.heap.size, 1, none⟩ = some (.int .i64 H) := a1
  have z2 : (w2.alloc (.cells #[.int .i64 W, .int .i64 H, .slice A' L.length cap'] 28)).drew.cell? ⟨w2.heap.size, 2, none⟩ = some (.slice A' L.length cap') := a2
  go_region_held3 (fun w' => w'.cell? ⟨w2.heap.size, 0, none⟩ = some (.int .i64 W) ∧ w'.cell? ⟨w2.heap.size, 1, none⟩ = some (.int .i64 H) ∧ w'.cell? ⟨w2.heap.size, 2, none⟩ = some (.slice A' L.length cap'))
    (first | with_reducible exact ⟨z0, z1, z2⟩ | with_reducible exact ⟨a0, a1, a2⟩ | with_reducible exact ⟨d0, d1, d2⟩ | with_reducible exact ⟨s0, s1, s2⟩ | fail)
    (first
      | (go_at_call 49; (with_reducible refine (l06Route W H A' L.length cap' L g _ HCX.out HOK.out HM.out HOD.out hlen9).mono ?_); rintro e w4 ⟨v2, r, rfl, hr, hrl, o4, hc4, hg4⟩
         obtain ⟨A4, c4, rfl, _⟩ := own_form o4
         have hgw : g ≠ w2.heap.size := by omega
         have HQ4 := Lib.hid (HQ.out.grown (gb_undrawR hg4) (fun e => by cases e; omega)); have HB4 := Lib.hid (HBX.out.grown (gb_undrawR hg4) (fun e => by cases e; have := HG.out; omega))
         have HO4 := Lib.hid (HOX.out.kept (gb_undrawR hg4) (.inr (fun e => by have := (HOX.out.lt g e).1; omega))); have HR4 := Lib.hid o4; have HRR := Lib.hid hr; have HRL := Lib.hid hrl
         have HA4 := Lib.hid ((gb_below_none HGX.out (Nat.le_refl _)).trans (gb_below (gb_undrawR hg4) HGX.out.size (by have := HG.out; omega)))
         have d0 : w4.cell? ⟨w2.heap.size, 0, none⟩ = some (.int .i64 W) := HQ4.out.cell 0; have d1 : w4.cell? ⟨w2.heap.size, 1, none⟩ = some (.int .i64 H) := HQ4.out.cell 1; have d2 : w4.cell? ⟨w2.heap.size, 2, none⟩ = some (.slice A' L.length cap') := HQ4.out.cell 2
         have m0 : w4.cell? ⟨w.heap.size, 0, none⟩ = some (.int .i64 0) := HB4.out.cell 0; have m1 : w4.cell? ⟨w.heap.size, 1, none⟩ = some (.int .i64 0) := HB4.out.cell 1; have m2 : w4.cell? ⟨w.heap.size, 2, none⟩ = some (.slice none 0 0) := HB4.out.cell 2
         have Q7 := Lib.hid (((HQ4.out.far (p := ⟨w.heap.size, 0, none⟩) hne (.int .i64 W)).far (p := ⟨w.heap.size, 1, none⟩) hne (.int .i64 H)).far (p := ⟨w.heap.size, 2, none⟩) hne (.slice A' L.length cap'))
         have s0 : (((w4.setCell ⟨w.heap.size, 0, none⟩ (.int .i64 W)).setCell ⟨w.heap.size, 1, none⟩ (.int .i64 H)).setCell ⟨w.heap.size, 2, none⟩ (.slice A' L.length cap')).cell? ⟨w2.heap.size, 0, none⟩ = some (.int .i64 W) := Q7.out.cell 0
         have s1 : (((w4.setCell ⟨w.heap.size, 0, none⟩ (.int .i64 W)).setCell ⟨w.heap.size, 1, none⟩ (.int .i64 H)).setCell ⟨w.heap.size, 2, none⟩ (.slice A' L.length cap')).cell? ⟨w2.heap.size, 1, none⟩ = some (.int .i64 H) := Q7.out.cell 1
         have s2 : (((w4.setCell ⟨w.heap.size, 0, none⟩ (.int .i64 W)).setCell ⟨w.heap.size, 1, none⟩ (.int .i64 H)).setCell ⟨w.heap.size, 2, none⟩ (.slice A' L.length cap')).cell? ⟨w2.heap.size, 2, none⟩ = some (.slice A' L.length cap') := Q7.out.cell 2
         have f0 := HB4.out.frozen 0; have f1 := HB4.out.frozen 1; have f2 := HB4.out.frozen 2; clear hg4 o4 hr hrl hc4)
      | fail)
  all_goals
    go_wp2_with fail
    have kk := ((HB4.out.set_ 0 (.int .i64 W)).set_ 1 (.int .i64 H)).set_ 2 (.slice A' L.length cap')
    have y0 := kk.cell 0
    have y1 := kk.cell 1
    have y2 := kk.cell 2
    simp at y0 y1 y2
    have hs1 := HS1.out
    have hgg := HG.out
    have R4 := HR4.out
    have hsd : (w2.alloc (.cells #[.int .i64 W, .int .i64 H, .slice A' L.length cap'] 28)).drew.heap.size = w2.heap.size + 1 := by simp
    rw [hsd] at R4
    refine bodyPost_ret (v := .tuple #[.agg #[.int .i64 W, .int .i64 H, .slice A' L.length cap'], .slice A4 r.length c4]) (by simp [results, Try.results19, go_sem, y0, y1, y2]) rfl ⟨W, H, _, _, L, r, rfl, HM.out, HRR.out, HLen.out, HRL.out, ?_, ?_, ?_⟩
    · exact own_less (ownsRow_setCell_below (ownsRow_setCell_below (ownsRow_setCell_below HO4.out (by show w.heap.size < _; omega) _) (by show w.heap.size < _; omega) _) (by show w.heap.size < _; omega) _) (by omega)
    · exact own_less (ownsRow_setCell_below (ownsRow_setCell_below (ownsRow_setCell_below R4 (by show w.heap.size < _; omega) _) (by show w.heap.size < _; omega) _) (by show w.heap.size < _; omega) _) (by omega)
    · exact gb_below_none (gb_set3 (gb_of_below HA4.out none) (Nat.le_refl _) _ _ _) (Nat.le_refl _)
end Go.Proofs.Ytakigpgkcneboaa
