/- What is proved here: DrawTable returns a valid grid's mesh and one of its standard tables; only new blocks are written. -/
import Derived.Test.YtecaehkckamhkaaDrawTab
namespace Go.Proofs.Ytecaehkckamhkaa
open Go.ChangeShapes Go.WideShapes Go.ChangeAt Go.RowKit
set_option linter.unusedVariables false

/-- A mesh without broken channels and a standard table are returned; only new blocks are written. -/
def DrawnTab (w : World) (e : Ending) (w' : World) : Prop := ∃ (W H r : Int) (v : Value), e = .returned (.tuple #[.agg #[.int .i64 W, .int .i64 H, .slice none 0 0], .agg #[v]]) ∧ okG W H = true ∧ 1 ≤ r ∧ r ≤ 4 ∧
  w'.ownsRow w.heap.size 3 1 v (stdTab W H r).length (intsV (stdTab W H r)) ∧ Below w.heap.size w w'

theorem drawTable (A : Option Addr) (n cap : Nat) (w : World) (hr : ByteRow w w.heap.size A n) (hn : n ≤ 1048576) :
    Calls Try.prog 26 #[.slice A n cap] w (DrawnTab w) := by
  have hg0 : w.grownBy ((w.alloc (.cells #[.int .i64 0, .int .i64 0, .slice none 0 0] 34)).alloc (.cells #[.slice none 0 0] 36)) none := gb_alloc (gb_alloc (gb_refl w none) _) _
  have hs0 : ((w.alloc (.cells #[.int .i64 0, .int .i64 0, .slice none 0 0] 34)).alloc (.cells #[.slice none 0 0] 36)).heap.size = w.heap.size + 2 := by rw [alloc_size, alloc_size]
  have hr0 : ByteRow ((w.alloc (.cells #[.int .i64 0, .int .i64 0, .slice none 0 0] 34)).alloc (.cells #[.slice none 0 0] 36)) ((w.alloc (.cells #[.int .i64 0, .int .i64 0, .slice none 0 0] 34)).alloc (.cells #[.slice none 0 0] 36)).heap.size A n :=
    (hr.keep fun p hp => World.cell?_of_block (hg0.block p.block hp (by simp))).more (by rw [hs0]; omega)
  have hbM : Blk ((w.alloc (.cells #[.int .i64 0, .int .i64 0, .slice none 0 0] 34)).alloc (.cells #[.slice none 0 0] 36)) w.heap.size 34 #[.int .i64 0, .int .i64 0, .slice none 0 0] := (Blk.new w _ _).alloc _
  have hbT : Blk ((w.alloc (.cells #[.int .i64 0, .int .i64 0, .slice none 0 0] 34)).alloc (.cells #[.slice none 0 0] 36)) (w.heap.size + 1) 36 #[.slice none 0 0] := by
    have := Blk.new (w.alloc (.cells #[.int .i64 0, .int .i64 0, .slice none 0 0] 34)) 36 #[.slice none 0 0]
    rwa [alloc_size] at this
  have HR := Lib.hid hr0
  have HBM := Lib.hid hbM
  have HBT := Lib.hid hbT
  have HG0 := Lib.hid hg0
  have HS0 := Lib.hid hs0
  clear hr hr0 hbM hbT hg0 hs0
  go_enter Try.func26, Try.ntmps26
  go_wp2_with fail
  refine (l01New _ _ _ _ HR.out hn).mono ?_
  rintro e w1 ⟨g, rfl, hg, hc1, hbel⟩
  rw [HS0.out] at hg hbel
  have hle := hbel.size
  rw [HS0.out] at hle
  have HM1 := Lib.hid (HBM.out.below hbel (by omega))
  have HT1 := Lib.hid (HBT.out.below hbel (by omega))
  have HA1 := Lib.hid ((gb_below_none HG0.out (Nat.le_refl _)).trans (hbel.mono (by omega)))
  have HG := Lib.hid hg
  have HLE := Lib.hid hle
  have hcl := hc1.lt
  clear hbel hg hle
  go_wp2_with fail
  refine (l04Case g _ hc1).mono ?_
  rintro e w2 ⟨W, H, r, v, rfl, hok, hr1, hr4, ho2, hc2, hg2⟩
  have HM2 := Lib.hid (HM1.out.grown hg2 (fun e => by cases e; have := HG.out; omega))
  have HT2 := Lib.hid (HT1.out.grown hg2 (fun e => by cases e; have := HG.out; omega))
  have HA2 := Lib.hid (HA1.out.trans (gb_below hg2 HA1.out.size (by have := HG.out; omega)))
  obtain ⟨A2, c2, rfl, _⟩ := own_form ho2
  have HO2 := Lib.hid ho2
  have HF := Lib.hid (And.intro hok (And.intro hr1 hr4))
  have m0 : w2.cell? ⟨w.heap.size, 0, none⟩ = some (.int .i64 0) := HM2.out.cell 0
  have m1 : w2.cell? ⟨w.heap.size, 1, none⟩ = some (.int .i64 0) := HM2.out.cell 1
  have m2 : w2.cell? ⟨w.heap.size, 2, none⟩ = some (.slice none 0 0) := HM2.out.cell 2
  have t0 : w2.cell? ⟨w.heap.size + 1, 0, none⟩ = some (.slice none 0 0) := HT2.out.cell 0
  have f0 := HM2.out.frozen 0
  have f1 := HM2.out.frozen 1
  have f2 := HM2.out.frozen 2
  have f3 := HT2.out.frozen 0
  clear hok hr1 hr4 ho2 hc1 hc2 hg2
  go_wp2_with fail
  have kk := ((((HM2.out.set_ 0 (.int .i64 W)).set_ 1 (.int .i64 H)).set_ 2 (.slice none 0 0)).far (p := ⟨w.heap.size + 1, 0, none⟩) (by show w.heap.size ≠ w.heap.size + 1; omega) (.slice A2 (stdTab W H r).length c2))
  have tt := ((((HT2.out.far (p := ⟨w.heap.size, 0, none⟩) (by show w.heap.size + 1 ≠ w.heap.size; omega) (.int .i64 W)).far (p := ⟨w.heap.size, 1, none⟩) (by show w.heap.size + 1 ≠ w.heap.size; omega) (.int .i64 H)).far (p := ⟨w.heap.size, 2, none⟩) (by show w.heap.size + 1 ≠ w.heap.size; omega) (.slice none 0 0)).set_ 0 (.slice A2 (stdTab W H r).length c2))
  have r0 := kk.cell 0
  have r1 := kk.cell 1
  have r2 := kk.cell 2
  have r3 := tt.cell 0
  simp at r0 r1 r2 r3
  have hle := HLE.out
  have O8 := Lib.hid (own_less (ownsRow_setCell_below (ownsRow_setCell_below (ownsRow_setCell_below (ownsRow_setCell_below HO2.out (a := ⟨w.heap.size, 0, none⟩) (by show w.heap.size < _; omega) (.int .i64 W)) (a := ⟨w.heap.size, 1, none⟩) (by show w.heap.size < _; omega) (.int .i64 H)) (a := ⟨w.heap.size, 2, none⟩) (by show w.heap.size < _; omega) (.slice none 0 0)) (a := ⟨w.heap.size + 1, 0, none⟩) (by show w.heap.size + 1 < _; omega) (.slice A2 (stdTab W H r).length c2)) (b1 := w.heap.size) (by omega))
  have G8 := Lib.hid (gb_below_none (gb_setCell (gb_setS (gb_of_below HA2.out none) (i := 0) (j := 1) (k := 2) (b := w.heap.size) (Nat.le_refl _) (.int .i64 W) (.int .i64 H) (.slice none 0 0)) (p := ⟨w.heap.size + 1, 0, none⟩) (.inr (by show w.heap.size ≤ w.heap.size + 1; omega)) (.slice A2 (stdTab W H r).length c2)) (Nat.le_refl _))
  clear kk tt
  refine bodyPost_ret (v := .tuple #[.agg #[.int .i64 W, .int .i64 H, .slice none 0 0], .agg #[.slice A2 (stdTab W H r).length c2]]) (by simp [results, Try.results26, go_sem, r0, r1, r2, r3]) rfl ⟨W, H, r, _, rfl, HF.out.1, HF.out.2.1, HF.out.2.2, O8.out, G8.out⟩
end Go.Proofs.Ytecaehkckamhkaa
