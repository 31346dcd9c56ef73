/- What is proved here: the laws' helpers for meshes (size, copy, compare, mark); only the marked row and new blocks are written; what the laws' count of a verdict and their copy of it return; nothing of the program; what the laws' helpers on verdicts return: equal verdicts are equal, marks and what is held; nothing of the program; the laws' helpers for tables (size, copy, compare, mark); only the marked row and new blocks are written; small facts on a law's mesh, table and verdict as blocks, and on the copies that it hands to the program; nothing of the program; what the model's NodeAt returns, for all arguments; only new blocks are written; what the model's NextNode, Opposite, PortName and its test of a channel return, for all arguments; only new blocks are written; what the model's search in a list returns, for all arguments; nothing is written; what the model's MeshOk, its search in a list and its test of a channel of a mesh return, for all arguments; only new blocks are written; what the model's test of a channel of a mesh returns, for all arguments; only new blocks are written; what the model's test of a table's size returns, for all arguments; only new blocks are written; what the model's walk of a table returns for a table of the right size; only new blocks are written; what holds of the two boxes that the model's functions on tables lay; what the model's TableOk returns, for all arguments; only new blocks are written; the model's TableOk with its answer named, and a small fact on draws; only new blocks are written; what 'append' yields where a whole slice of dependencies is appended onto a row of the call's own, and what the library's copy of such a slice is; nothing of the program; the model's comparison of two dependencies, and what it makes of an ascending list and one dependency: the same list if it is there, else a new list with it at its place; only new blocks are written; what the model says of a list of dependencies, of successors, and what its ShiftDepends and MergeDepends return; only new blocks are written; small facts on a list of dependencies of the call's own; nothing of the program; what the model's DependsOf returns, for all arguments; only new blocks are written; what the model's IsOrder and RisesAlong return, for all arguments; only new blocks are written; what the model's search of an element in a list of dependencies returns, for all arguments; nothing is written; what the model's IsCycle returns, for all arguments; only new blocks are written; whether the model finds that a verdict proves itself; only new blocks are written; what the program's IsOrder returns, for all arguments; only new blocks are written. -/
import Derived.Test.YtidilfakganooaaDoorZC
import Derived.Deep.AppendSrc
import Derived.Laws.StructEq
import Derived.Deep.RegionHeld3
section
namespace Go.Proofs.YtidilfakganooaaDoor
open Go.ChangeShapes Go.WideShapes Go.ChangeAt Go.RowKit
set_option linter.unusedVariables false

theorem gb_two {a w : World} {row : Option Nat} {b i j : Nat} (h : a.grownBy w row) (hb : a.heap.size ≤ b) (x y : Value) : a.grownBy ((w.setCell ⟨b, i, none⟩ x).setCell ⟨b, j, none⟩ y) row :=
  gb_setCell (gb_setCell h (.inr hb) x) (.inr hb) y
theorem gb_three {a w : World} {row : Option Nat} {b i j k : Nat} (h : a.grownBy w row) (hb : a.heap.size ≤ b) (x y z : Value) : a.grownBy (((w.setCell ⟨b, i, none⟩ x).setCell ⟨b, j, none⟩ y).setCell ⟨b, k, none⟩ z) row :=
  gb_setCell (gb_two h hb x y) (.inr hb) z

/-- A new mesh with the same fields. -/
def NewMesh (W H : Int) (L : List Int) (w : World) (e : Ending) (w' : World) : Prop :=
  ∃ g, e = .returned (.agg #[.int .i64 W, .int .i64 H, .slice (some ⟨g, 0, none⟩) L.length L.length]) ∧ w'.ownsRow w.heap.size 3 1 (.slice (some ⟨g, 0, none⟩) L.length L.length) L.length (intsV L) ∧ Below w.heap.size w w'

theorem lawsSzMesh (W H : Int) (A : Option Addr) (n cap : Nat) (m : Int) (w : World) (hn : n ≤ 9223372036854775807) (hm0 : 0 ≤ m) (hm1 : m ≤ 1048576) :
    Calls Tryd.prog 11 #[.agg #[.int .i64 W, .int .i64 H, .slice A n cap], .int .i64 m] w fun e w' => e = .returned (.int .i64 (if m < (n : Int) then -1 else m - n)) ∧ w.grownBy w' none := by
  by_cases hlt : m < (n : Int)
  · go_enter Tryd.func11, Tryd.ntmps11
    go_wp2_with fail
    refine (lawsSzI A n cap m _ hn hm0 hm1).mono ?_
    rintro e w1 ⟨rfl, rfl⟩
    rw [if_pos hlt]
    go_wp2_with fail
    go_ret
    exact ⟨rfl, gb_alloc (gb_refl _ _) _⟩
  · go_enter Tryd.func11, Tryd.ntmps11
    go_wp2_with fail
    refine (lawsSzI A n cap m _ hn hm0 hm1).mono ?_
    rintro e w1 ⟨rfl, rfl⟩
    rw [if_neg (by omega)]
    go_wp2_with fail
    go_ret
    exact ⟨rfl, gb_alloc (gb_refl _ _) _⟩

theorem lawsEqGrid (W H : Int) (w : World) :
    Calls Tryd.prog 39 #[.agg #[.int .i64 W, .int .i64 H], .agg #[.int .i64 W, .int .i64 H]] w (RetB true w) := by
  go_enter Tryd.func39, Tryd.ntmps39
  go_wp2_with fail
  go_ret
  exact ⟨rfl, gb_alloc (gb_alloc (gb_refl _ _) _) _⟩

theorem lawsToMesh (W H : Int) (A : Option Addr) (n cap : Nat) (L : List Int) (w : World) (h : IntAt w w.heap.size A n L) (hn : n ≤ 1048576) :
    Calls Tryd.prog 15 #[.agg #[.int .i64 W, .int .i64 H, .slice A n cap]] w (NewMesh W H L w) := by
  have HI := Lib.hid h
  clear h
  go_enter Tryd.func15, Tryd.ntmps15
  go_wp2_with fail
  refine (lawsToGrid W H _).mono ?_
  rintro e w1 ⟨rfl, hg1⟩
  have k1 := (((Blk.new w 41 _).alloc _).alloc _).grown hg1 (by simp)
  have k2 := ((Blk.new _ 37 _).alloc _).grown hg1 (by simp)
  have k3 := (Blk.new _ 37 _).grown hg1 (by simp)
  simp only [alloc_size] at k2 k3
  have hs1 : w.heap.size + 3 ≤ w1.heap.size := by have := hg1.size; simp only [alloc_size] at this; omega
  have HB1 := Lib.hid (gb_below_none (gb_trans (gb_alloc (gb_alloc (gb_alloc (gb_refl w none) _) _) _) hg1) (Nat.le_refl _))
  have K2 := Lib.hid k2
  have K3 := Lib.hid k3
  have a2 : w1.cell? ⟨w.heap.size, 2, none⟩ = some (.slice A n cap) := k1.cell 2
  have a30 : w1.cell? ⟨w.heap.size + 1 + 1, 0, none⟩ = some (.int .i64 0) := k3.cell 0
  have a31 : w1.cell? ⟨w.heap.size + 1 + 1, 1, none⟩ = some (.int .i64 0) := k3.cell 1
  have f30 := k3.frozen 0
  have f31 := k3.frozen 1
  clear hg1 k1 k2 k3
  go_wp2_with fail
  have K3x := (K3.out.set_ 0 (.int .i64 W)).set_ 1 (.int .i64 H)
  have K2x := (K2.out.far (p := ⟨w.heap.size + 1 + 1, 0, none⟩) (by simp) (.int .i64 W)).far (p := ⟨w.heap.size + 1 + 1, 1, none⟩) (by simp) (.int .i64 H)
  have hbx := gb_below_none (gb_two (i := 0) (j := 1) (b := w.heap.size + 1 + 1) (gb_of_below HB1.out none) (by omega) (.int .i64 W) (.int .i64 H)) (Nat.le_refl _)
  have hsx : ((w1.setCell ⟨w.heap.size + 1 + 1, 0, none⟩ (.int .i64 W)).setCell ⟨w.heap.size + 1 + 1, 1, none⟩ (.int .i64 H)).heap.size = w1.heap.size := by simp [World.setCell]
  simp at K3x
  clear K2 K3 HB1 a2 a30 a31 f30 f31
  generalize (w1.setCell ⟨w.heap.size + 1 + 1, 0, none⟩ (.int .i64 W)).setCell ⟨w.heap.size + 1 + 1, 1, none⟩ (.int .i64 H) = wx at *
  have hix : IntAt wx wx.heap.size A n L := (HI.out.below hbx).more (by omega)
  refine (lawsToIntS A n cap L wx hix hn).mono ?_
  rintro e w2 ⟨g, rfl, o2, b2⟩
  have k3 := K3x.below b2 (by omega)
  have k2 := K2x.below b2 (by omega)
  have HB2 := Lib.hid (hbx.trans (b2.mono hbx.size))
  have HK2 := Lib.hid k2
  have HS := Lib.hid (show w.heap.size + 1 + 1 < wx.heap.size by omega)
  have hgl := o2.lt g rfl
  have HO := Lib.hid o2
  have a30 : w2.cell? ⟨w.heap.size + 1 + 1, 0, none⟩ = some (.int .i64 W) := k3.cell 0
  have a31 : w2.cell? ⟨w.heap.size + 1 + 1, 1, none⟩ = some (.int .i64 H) := k3.cell 1
  have a32 : w2.cell? ⟨w.heap.size + 1 + 1, 2, none⟩ = some (.slice none 0 0) := k3.cell 2
  have f32 := k3.frozen 2
  have a20 : w2.cell? ⟨w.heap.size + 1, 0, none⟩ = some (.int .i64 0) := k2.cell 0
  have a21 : w2.cell? ⟨w.heap.size + 1, 1, none⟩ = some (.int .i64 0) := k2.cell 1
  have a22 : w2.cell? ⟨w.heap.size + 1, 2, none⟩ = some (.slice none 0 0) := k2.cell 2
  have f20 := k2.frozen 0
  have f21 := k2.frozen 1
  have f22 := k2.frozen 2
  clear K3x K2x hbx hix b2 o2 k3 k2 hs1
  go_wp2_with fail
  have kk := (((HK2.out.far (p := ⟨w.heap.size + 1 + 1, 2, none⟩) (by simp) (.slice (some ⟨g, 0, none⟩) L.length L.length)).set_ 0 (.int .i64 W)).set_ 1 (.int .i64 H)).set_ 2 (.slice (some ⟨g, 0, none⟩) L.length L.length)
  have d0 := kk.cell 0
  have d1 := kk.cell 1
  have d2 := kk.cell 2
  simp at d0 d1 d2
  refine bodyPost_ret (v := .agg #[.int .i64 W, .int .i64 H, .slice (some ⟨g, 0, none⟩) L.length L.length]) (by simp [results, Tryd.results15, go_sem, d0, d1, d2]) rfl ⟨g, rfl, ?_, ?_⟩
  · exact own_less (ownsRow_setCell_below (ownsRow_setCell_below (ownsRow_setCell_below (ownsRow_setCell_below HO.out HS.out _) (by show w.heap.size + 1 < _; have := HS.out; omega) _) (by show w.heap.size + 1 < _; have := HS.out; omega) _) (by show w.heap.size + 1 < _; have := HS.out; omega) _) (by have := HS.out; omega)
  · exact gb_below_none (gb_three (gb_setCell (gb_of_below HB2.out none) (.inr (by show w.heap.size ≤ w.heap.size + 1 + 1; omega)) _) (by omega) _ _ _) (Nat.le_refl _)

/-- eqMesh of two meshes with the same fields. -/
theorem lawsEqMesh (W H : Int) (A1 A2 : Option Addr) (n c1 c2 B1 B2 : Nat) (L : List Int) (w : World) (h1 : IntAt w B1 A1 n L) (h2 : IntAt w B2 A2 n L) (hB1 : B1 ≤ w.heap.size) (hB2 : B2 ≤ w.heap.size) (hn : n ≤ 1000000000) :
    Calls Tryd.prog 19 #[.agg #[.int .i64 W, .int .i64 H, .slice A1 n c1], .agg #[.int .i64 W, .int .i64 H, .slice A2 n c2]] w (RetB true w) := by
  have H1 := Lib.hid h1
  have H2 := Lib.hid h2
  clear h1 h2
  go_enter Tryd.func19, Tryd.ntmps19
  go_wp2_with fail
  refine (lawsEqGrid W H _).mono ?_
  rintro e w1 ⟨rfl, hg1⟩
  have k1 := ((Blk.new w 37 _).alloc _).grown hg1 (by simp)
  have k2 := (Blk.new _ 37 _).grown hg1 (by simp)
  simp only [alloc_size] at k2
  have a12 : w1.cell? ⟨w.heap.size, 2, none⟩ = some (.slice A1 n c1) := k1.cell 2
  have a22 : w1.cell? ⟨w.heap.size + 1, 2, none⟩ = some (.slice A2 n c2) := k2.cell 2
  have hg := gb_trans (gb_alloc (gb_alloc (gb_refl w none) _) _) hg1
  have HG := Lib.hid hg
  have i1 := H1.out.none hB1 hg
  have i2 := H2.out.none hB2 hg
  clear hg1 k1 k2 hg
  go_wp2_with fail
  refine (lawsEqI A1 A2 n c1 c2 B1 B2 L _ i1 i2 hn).mono ?_
  rintro e w2 ⟨rfl, hg2⟩
  have HG2 := Lib.hid (gb_trans HG.out hg2)
  clear hg2 i1 i2
  go_wp2_with fail
  go_ret
  exact ⟨rfl, HG2.out⟩
end Go.Proofs.YtidilfakganooaaDoor
end

section
namespace Go.Proofs.YtidilfakganooaaDoor
open Go.ChangeShapes Go.WideShapes Go.ChangeAt Go.RowKit
set_option linter.unusedVariables false
set_option maxRecDepth 20000

theorem lawsSzVerdict (z : Int) (AR AC : Option Addr) (nR cR nC cC : Nat) (m : Int) (w : World) (hR : nR ≤ 9223372036854775807) (hC : nC ≤ 9223372036854775807) (hm0 : 0 ≤ m) (hm1 : m ≤ 1048576) :
    Calls Tryd.prog 13 #[.agg #[.int .i64 z, .slice AR nR cR, .slice AC nC cC], .int .i64 m] w fun e w' => e = .returned (.int .i64 (if m < (nR : Int) + (nC : Int) then -1 else m - nR - nC)) ∧ w.grownBy w' none := by
  by_cases hlt : m < (nR : Int)
  · go_enter Tryd.func13, Tryd.ntmps13
    go_wp2_with fail
    refine (lawsSzI AR nR cR m _ hR hm0 hm1).mono ?_
    rintro e w1 ⟨rfl, rfl⟩
    rw [if_pos hlt]
    go_wp2_with fail
    go_ret
    exact ⟨rfl, gb_alloc (gb_refl _ _) _⟩
  · by_cases hlt2 : m - nR < (nC : Int)
    · go_enter Tryd.func13, Tryd.ntmps13
      go_wp2_with fail
      refine (lawsSzI AR nR cR m _ hR hm0 hm1).mono ?_
      rintro e w1 ⟨rfl, rfl⟩
      rw [if_neg (by omega)]
      go_wp2_with fail
      refine (lawsSzI AC nC cC (m - nR) _ hC (by omega) (by omega)).mono ?_
      rintro e w1 ⟨rfl, rfl⟩
      rw [if_pos (by omega)]
      go_wp2_with fail
      go_ret
      exact ⟨rfl, gb_alloc (gb_refl _ _) _⟩
    · go_enter Tryd.func13, Tryd.ntmps13
      go_wp2_with fail
      refine (lawsSzI AR nR cR m _ hR hm0 hm1).mono ?_
      rintro e w1 ⟨rfl, rfl⟩
      rw [if_neg (by omega)]
      go_wp2_with fail
      refine (lawsSzI AC nC cC (m - nR) _ hC (by omega) (by omega)).mono ?_
      rintro e w1 ⟨rfl, rfl⟩
      rw [if_neg (by omega)]
      go_wp2_with fail
      go_ret
      exact ⟨rfl, gb_alloc (gb_refl _ _) _⟩

theorem lawsToVerdict (z : Int) (AR AC : Option Addr) (nR cR nC cC : Nat) (R C : List Int) (w : World) (hr : IntAt w w.heap.size AR nR R) (hc : IntAt w w.heap.size AC nC C) (hnR : nR ≤ 1048576) (hnC : nC ≤ 1048576) :
    Calls Tryd.prog 17 #[.agg #[.int .i64 z, .slice AR nR cR, .slice AC nC cC]] w (NewV ⟨z, R, C⟩ w) := by
  have HR := Lib.hid hr
  have HC := Lib.hid hc
  clear hr hc
  go_enter Tryd.func17, Tryd.ntmps17
  go_wp2_with fail
  have k1 := ((Blk.new w 43 #[.int .i64 z, .slice AR nR cR, .slice AC nC cC]).alloc (.cells #[.int .i64 0, .slice none 0 0, .slice none 0 0] 34)).alloc (.cells #[.int .i64 z, .slice none 0 0, .slice none 0 0] 34)
  have k2 := (Blk.new (w.alloc (.cells #[.int .i64 z, .slice AR nR cR, .slice AC nC cC] 43)) 34 #[.int .i64 0, .slice none 0 0, .slice none 0 0]).alloc (.cells #[.int .i64 z, .slice none 0 0, .slice none 0 0] 34)
  have k3 := Blk.new ((w.alloc (.cells #[.int .i64 z, .slice AR nR cR, .slice AC nC cC] 43)).alloc (.cells #[.int .i64 0, .slice none 0 0, .slice none 0 0] 34)) 34 #[.int .i64 z, .slice none 0 0, .slice none 0 0]
  have hg := gb_alloc (gb_alloc (gb_alloc (gb_refl w none) (.cells #[.int .i64 z, .slice AR nR cR, .slice AC nC cC] 43)) (.cells #[.int .i64 0, .slice none 0 0, .slice none 0 0] 34)) (.cells #[.int .i64 z, .slice none 0 0, .slice none 0 0] 34)
  have hsx : (((w.alloc (.cells #[.int .i64 z, .slice AR nR cR, .slice AC nC cC] 43)).alloc (.cells #[.int .i64 0, .slice none 0 0, .slice none 0 0] 34)).alloc (.cells #[.int .i64 z, .slice none 0 0, .slice none 0 0] 34)).heap.size = w.heap.size + 3 := by simp only [alloc_size]
  simp only [alloc_size] at k2 k3
  generalize (((w.alloc (.cells #[.int .i64 z, .slice AR nR cR, .slice AC nC cC] 43)).alloc (.cells #[.int .i64 0, .slice none 0 0, .slice none 0 0] 34)).alloc (.cells #[.int .i64 z, .slice none 0 0, .slice none 0 0] 34)) = wx at *
  have hbx := gb_below_none hg (Nat.le_refl _)
  have ir : IntAt wx wx.heap.size AR nR R := (HR.out.none (Nat.le_refl _) hg).more hg.size
  refine (lawsToIntS AR nR cR R wx ir hnR).mono ?_
  rintro e w2 ⟨g, rfl, o2, b2⟩
  have j1 := k1.below b2 (by omega)
  have j2 := k2.below b2 (by omega)
  have j3 := k3.below b2 (by omega)
  have J1 := Lib.hid j1
  have J2 := Lib.hid j2
  have J3 := Lib.hid j3
  have O2 := Lib.hid o2
  have HS := Lib.hid hsx
  have HB2 := Lib.hid (hbx.trans (b2.mono hbx.size))
  have a12 : w2.cell? ⟨w.heap.size, 2, none⟩ = some (.slice AC nC cC) := j1.cell 2
  have a31 : w2.cell? ⟨w.heap.size + 1 + 1, 1, none⟩ = some (.slice none 0 0) := j3.cell 1
  have f31 := j3.frozen 1
  clear k1 k2 k3 hg hsx hbx ir o2 b2 j1 j2 j3
  go_wp2_with fail
  have y2 := J2.out.far (p := ⟨w.heap.size + 1 + 1, 1, none⟩) (by simp) (.slice (some ⟨g, 0, none⟩) R.length R.length)
  have y3 := J3.out.set_ 1 (.slice (some ⟨g, 0, none⟩) R.length R.length)
  have hs2x := HS.out
  have oy := ownsRow_setCell_below (a := ⟨w.heap.size + 1 + 1, 1, none⟩) O2.out (by show w.heap.size + 1 + 1 < _; omega) (.slice (some ⟨g, 0, none⟩) R.length R.length)
  have hby := gb_below_none (gb_setCell (gb_of_below HB2.out none) (p := ⟨w.heap.size + 1 + 1, 1, none⟩) (.inr (by show w.heap.size ≤ w.heap.size + 1 + 1; omega)) (.slice (some ⟨g, 0, none⟩) R.length R.length)) (Nat.le_refl _)
  have hsy : (w2.setCell ⟨w.heap.size + 1 + 1, 1, none⟩ (.slice (some ⟨g, 0, none⟩) R.length R.length)).heap.size = w2.heap.size := by simp [World.setCell]
  have hgy := O2.out.lt g rfl
  simp at y3
  clear J1 J2 J3 O2 HB2 a12 a31 f31
  generalize w2.setCell ⟨w.heap.size + 1 + 1, 1, none⟩ (.slice (some ⟨g, 0, none⟩) R.length R.length) = wy at *
  have iy : IntAt wy wy.heap.size AC nC C := (HC.out.below hby).more (by have := hby.size; omega)
  refine (lawsToIntS AC nC cC C wy iy hnC).mono ?_
  rintro e w3 ⟨g2, rfl, o3, b3⟩
  have z2 := y2.below b3 (by omega)
  have z3 := y3.below b3 (by omega)
  have hg2 := o3.lt g2 rfl
  have Z2 := Lib.hid z2
  have OR := Lib.hid (own_below oy b3)
  have OC := Lib.hid o3
  have HB3 := Lib.hid (hby.trans (b3.mono hby.size))
  have HN := Lib.hid (show g < g2 ∧ w.heap.size + 1 + 1 < wx.heap.size ∧ w.heap.size + 1 + 1 < wy.heap.size by omega)
  have a30 : w3.cell? ⟨w.heap.size + 1 + 1, 0, none⟩ = some (.int .i64 z) := z3.cell 0
  have a31 : w3.cell? ⟨w.heap.size + 1 + 1, 1, none⟩ = some (.slice (some ⟨g, 0, none⟩) R.length R.length) := z3.cell 1
  have a32 : w3.cell? ⟨w.heap.size + 1 + 1, 2, none⟩ = some (.slice none 0 0) := z3.cell 2
  have f32 := z3.frozen 2
  have a20 : w3.cell? ⟨w.heap.size + 1, 0, none⟩ = some (.int .i64 0) := z2.cell 0
  have a21 : w3.cell? ⟨w.heap.size + 1, 1, none⟩ = some (.slice none 0 0) := z2.cell 1
  have a22 : w3.cell? ⟨w.heap.size + 1, 2, none⟩ = some (.slice none 0 0) := z2.cell 2
  have f20 := z2.frozen 0
  have f21 := z2.frozen 1
  have f22 := z2.frozen 2
  clear y2 y3 oy hby hsy hgy iy o3 b3 z2 z3 hg2 hs2x
  go_wp2_with fail
  have kk := (((Z2.out.far (p := ⟨w.heap.size + 1 + 1, 2, none⟩) (by simp) (.slice (some ⟨g2, 0, none⟩) C.length C.length)).set_ 0 (.int .i64 z)).set_ 1 (.slice (some ⟨g, 0, none⟩) R.length R.length)).set_ 2 (.slice (some ⟨g2, 0, none⟩) C.length C.length)
  have d0 := kk.cell 0
  have d1 := kk.cell 1
  have d2 := kk.cell 2
  simp at d0 d1 d2
  have hn := HN.out
  refine bodyPost_ret (v := .agg #[.int .i64 z, .slice (some ⟨g, 0, none⟩) R.length R.length, .slice (some ⟨g2, 0, none⟩) C.length C.length]) (by simp [results, Tryd.results17, go_sem, d0, d1, d2]) rfl ⟨_, _, rfl, ⟨?_, ?_, ?_⟩, ?_⟩
  · exact own_less (ownsRow_setCell_below (ownsRow_setCell_below (ownsRow_setCell_below (ownsRow_setCell_below OR.out hn.2.1 _) (by show w.heap.size + 1 < _; omega) _) (by show w.heap.size + 1 < _; omega) _) (by show w.heap.size + 1 < _; omega) _) (by omega)
  · exact own_less (ownsRow_setCell_below (ownsRow_setCell_below (ownsRow_setCell_below (ownsRow_setCell_below OC.out hn.2.2 _) (by show w.heap.size + 1 < _; omega) _) (by show w.heap.size + 1 < _; omega) _) (by show w.heap.size + 1 < _; omega) _) (by omega)
  · intro j e e2
    have h1 : g = j := Option.some.inj e
    have h2 : g2 = j := Option.some.inj e2
    omega
  · exact gb_below_none (gb_three (gb_setCell (gb_of_below HB3.out none) (.inr (by show w.heap.size ≤ w.heap.size + 1 + 1; omega)) _) (by omega) _ _ _) (Nat.le_refl _)
end Go.Proofs.YtidilfakganooaaDoor
end

section
namespace Go.Proofs.YtidilfakganooaaDoor
open Go.ChangeShapes Go.WideShapes Go.ChangeAt Go.RowKit
set_option linter.unusedVariables false
set_option maxRecDepth 20000

theorem new_at2 (w : World) (o o2 : Obj) (t : TypeId) (cs : Array Value) : Blk ((w.alloc o).alloc (.cells cs t)) (w.heap.size + 1) t cs := by
  have h := Blk.new (w.alloc o) t cs
  rw [alloc_size] at h
  exact h
theorem lawsEqVerdict (z : Int) (vr1 vc1 vr2 vc2 : Value) (b1 b2 : Nat) (R C : List Int) (w : World) (h1 : VRow w b1 vr1 vc1 R.length C.length R C) (h2 : VRow w b2 vr2 vc2 R.length C.length R C) (hR : R.length ≤ 1000000000) (hC : C.length ≤ 1000000000) :
    Calls Tryd.prog 21 #[.agg #[.int .i64 z, vr1, vc1], .agg #[.int .i64 z, vr2, vc2]] w (RetB true w) := by
  obtain ⟨A1, c1, rfl, _⟩ := own_form h1.r
  obtain ⟨A2, c2, rfl, _⟩ := own_form h1.c
  obtain ⟨A3, c3, rfl, _⟩ := own_form h2.r
  obtain ⟨A4, c4, rfl, _⟩ := own_form h2.c
  have hg := gb_alloc (gb_alloc (gb_refl w none) (.cells #[.int .i64 z, .slice A1 R.length c1, .slice A2 C.length c2] 34)) (.cells #[.int .i64 z, .slice A3 R.length c3, .slice A4 C.length c4] 34)
  have H1 := Lib.hid (h1.gb hg)
  have H2 := Lib.hid (h2.gb hg)
  have HB1 := Lib.hid ((Blk.new w 34 #[.int .i64 z, .slice A1 R.length c1, .slice A2 C.length c2]).alloc (.cells #[.int .i64 z, .slice A3 R.length c3, .slice A4 C.length c4] 34))
  have HB2 := Lib.hid (new_at2 w (.cells #[.int .i64 z, .slice A1 R.length c1, .slice A2 C.length c2] 34) (.cells #[] 3) 34 #[.int .i64 z, .slice A3 R.length c3, .slice A4 C.length c4])
  have HG := Lib.hid hg
  clear h1 h2 hg
  go_enter Tryd.func21, Tryd.ntmps21
  go_wp2_with fail
  refine (lawsEqOwn _ _ b1 b2 R _ H1.out.r H2.out.r hR).mono ?_
  rintro e w2 ⟨rfl, hg2⟩
  have HG2 := Lib.hid (gb_trans HG.out hg2)
  have H12 := Lib.hid (H1.out.gb hg2)
  have H22 := Lib.hid (H2.out.gb hg2)
  have e0 : w2.cell? ⟨w.heap.size, 2, none⟩ = some (.slice A2 C.length c2) := (HB1.out.grown hg2 (by simp)).cell 2
  have e1 : w2.cell? ⟨w.heap.size + 1, 2, none⟩ = some (.slice A4 C.length c4) := (HB2.out.grown hg2 (by simp)).cell 2
  clear hg2
  go_wp2_with fail
  refine (lawsEqOwn _ _ b1 b2 C _ H12.out.c H22.out.c hC).mono ?_
  rintro e w3 ⟨rfl, hg3⟩
  have HG3 := Lib.hid (gb_trans HG2.out hg3)
  clear hg3 e0 e1
  go_wp2_with fail
  go_ret
  exact ⟨rfl, HG3.out⟩
end Go.Proofs.YtidilfakganooaaDoor
end

section
namespace Go.Proofs.YtidilfakganooaaDoor
open Go.ChangeShapes Go.WideShapes Go.ChangeAt Go.RowKit
set_option linter.unusedVariables false

/-- A new table with the same ports. -/
def NewTab (P : List Int) (w : World) (e : Ending) (w' : World) : Prop :=
  ∃ g, e = .returned (.agg #[.slice (some ⟨g, 0, none⟩) P.length P.length]) ∧ w'.ownsRow w.heap.size 3 1 (.slice (some ⟨g, 0, none⟩) P.length P.length) P.length (intsV P) ∧ Below w.heap.size w w'

theorem lawsSzTable (A : Option Addr) (n cap : Nat) (m : Int) (w : World) (hn : n ≤ 9223372036854775807) (hm0 : 0 ≤ m) (hm1 : m ≤ 1048576) :
    Calls Tryd.prog 12 #[.agg #[.slice A n cap], .int .i64 m] w fun e w' => e = .returned (.int .i64 (if m < (n : Int) then -1 else m - n)) ∧ w.grownBy w' none := by
  by_cases hlt : m < (n : Int)
  · go_enter Tryd.func12, Tryd.ntmps12
    go_wp2_with fail
    refine (lawsSzI A n cap m _ hn hm0 hm1).mono ?_
    rintro e w1 ⟨rfl, rfl⟩
    rw [if_pos hlt]
    go_wp2_with fail
    go_ret
    exact ⟨rfl, gb_alloc (gb_refl _ _) _⟩
  · go_enter Tryd.func12, Tryd.ntmps12
    go_wp2_with fail
    refine (lawsSzI A n cap m _ hn hm0 hm1).mono ?_
    rintro e w1 ⟨rfl, rfl⟩
    rw [if_neg (by omega)]
    go_wp2_with fail
    go_ret
    exact ⟨rfl, gb_alloc (gb_refl _ _) _⟩

theorem lawsToTable (A : Option Addr) (n cap : Nat) (P : List Int) (w : World) (h : IntAt w w.heap.size A n P) (hn : n ≤ 1048576) :
    Calls Tryd.prog 16 #[.agg #[.slice A n cap]] w (NewTab P w) := by
  have hg := gb_alloc (gb_alloc (gb_alloc (gb_refl w none) (.cells #[.slice A n cap] 42)) (.cells #[.slice none 0 0] 30)) (.cells #[.slice none 0 0] 30)
  have H3 := Lib.hid ((h.none (Nat.le_refl _) hg).more hg.size)
  have HG := Lib.hid hg
  have k2 := ((Blk.new (w.alloc (.cells #[.slice A n cap] 42)) 30 #[.slice none 0 0]).alloc (.cells #[.slice none 0 0] 30))
  have k3 := Blk.new ((w.alloc (.cells #[.slice A n cap] 42)).alloc (.cells #[.slice none 0 0] 30)) 30 #[.slice none 0 0]
  simp only [alloc_size] at k2 k3
  have K2 := Lib.hid k2
  have K3 := Lib.hid k3
  have hs3 : (((w.alloc (.cells #[.slice A n cap] 42)).alloc (.cells #[.slice none 0 0] 30)).alloc (.cells #[.slice none 0 0] 30)).heap.size = w.heap.size + 3 := by simp only [alloc_size]
  have HS3 := Lib.hid hs3
  clear h hg k2 k3 hs3
  go_enter Tryd.func16, Tryd.ntmps16
  go_wp2_with fail
  refine (lawsToIntS A n cap P _ H3.out hn).mono ?_
  rintro e w2 ⟨g, rfl, o2, b2⟩
  have k3 := K3.out.below b2 (by rw [HS3.out]; omega)
  have k2 := K2.out.below b2 (by rw [HS3.out]; omega)
  have HK2 := Lib.hid k2
  have HB2 := Lib.hid ((gb_below_none HG.out (Nat.le_refl _)).trans (b2.mono HG.out.size))
  have HO := Lib.hid o2
  have a30 : w2.cell? ⟨w.heap.size + 1 + 1, 0, none⟩ = some (.slice none 0 0) := k3.cell 0
  have f30 := k3.frozen 0
  have a20 : w2.cell? ⟨w.heap.size + 1, 0, none⟩ = some (.slice none 0 0) := k2.cell 0
  have f20 := k2.frozen 0
  clear o2 b2 k2 k3
  go_wp2_with fail
  have kk := ((HK2.out.far (p := ⟨w.heap.size + 1 + 1, 0, none⟩) (by simp) (.slice (some ⟨g, 0, none⟩) P.length P.length)).set_ 0 (.slice (some ⟨g, 0, none⟩) P.length P.length))
  have d0 := kk.cell 0
  simp at d0
  have hgl := HO.out.lt g rfl
  rw [HS3.out] at hgl
  refine bodyPost_ret (v := .agg #[.slice (some ⟨g, 0, none⟩) P.length P.length]) (by simp [results, Tryd.results16, go_sem, d0]) rfl ⟨g, rfl, ?_, ?_⟩
  · exact own_less (ownsRow_setCell_below (ownsRow_setCell_below HO.out (by rw [HS3.out]; show w.heap.size + 1 + 1 < _; omega) _) (by rw [HS3.out]; show w.heap.size + 1 < _; omega) _) (by rw [HS3.out]; omega)
  · exact gb_below_none (gb_setCell (gb_setCell (gb_of_below HB2.out none) (.inr (by show w.heap.size ≤ w.heap.size + 1 + 1; omega)) _) (.inr (by show w.heap.size ≤ w.heap.size + 1; omega)) _) (Nat.le_refl _)

/-- eqTable of two tables with the same ports. -/
theorem lawsEqTable (A1 A2 : Option Addr) (n c1 c2 B1 B2 : Nat) (P : List Int) (w : World) (h1 : IntAt w B1 A1 n P) (h2 : IntAt w B2 A2 n P) (hB1 : B1 ≤ w.heap.size) (hB2 : B2 ≤ w.heap.size) (hn : n ≤ 1000000000) :
    Calls Tryd.prog 20 #[.agg #[.slice A1 n c1], .agg #[.slice A2 n c2]] w (RetB true w) := by
  have hg := gb_alloc (gb_alloc (gb_refl w none) (.cells #[.slice A1 n c1] 30)) (.cells #[.slice A2 n c2] 30)
  have H1 := Lib.hid (h1.none hB1 hg)
  have H2 := Lib.hid (h2.none hB2 hg)
  have HG := Lib.hid hg
  clear h1 h2 hg
  go_enter Tryd.func20, Tryd.ntmps20
  go_wp2_with fail
  refine (lawsEqI A1 A2 n c1 c2 B1 B2 P _ H1.out H2.out hn).mono ?_
  rintro e w2 ⟨rfl, hg2⟩
  have HG2 := Lib.hid (gb_trans HG.out hg2)
  clear hg2
  go_wp2_with fail
  go_ret
  exact ⟨rfl, HG2.out⟩
end Go.Proofs.YtidilfakganooaaDoor
end

section
namespace Go.Proofs.YtidilfakganooaaDoor
open Go.ChangeShapes Go.WideShapes Go.ChangeAt Go.RowKit
set_option linter.unusedVariables false
set_option maxRecDepth 20000

/-- A law's mesh, table and verdict as blocks. -/
def pbW (W H : Int) (A A2 AR AC : Option Addr) (n cap n2 c2 : Nat) (z : Int) (nR cR nC cC : Nat) (w : World) : World := ((w.alloc (.cells (meshC W H A n cap) 41)).alloc (.cells #[.slice A2 n2 c2] 42)).alloc (.cells #[.int .i64 z, .slice AR nR cR, .slice AC nC cC] 43)
structure PB (W H : Int) (A A2 AR AC : Option Addr) (n cap n2 c2 : Nat) (z : Int) (nR cR nC cC : Nat) (w wr : World) : Prop where
  m : Blk wr w.heap.size 41 (meshC W H A n cap)
  t : Blk wr (w.heap.size + 1) 42 #[.slice A2 n2 c2]
  v : Blk wr (w.heap.size + 2) 43 #[.int .i64 z, .slice AR nR cR, .slice AC nC cC]
  g : w.grownBy wr none
section
variable {W H z : Int} {A A2 AR AC : Option Addr} {n cap n2 c2 nR cR nC cC : Nat} {w wr w' : World}
theorem PB.gb (h : PB W H A A2 AR AC n cap n2 c2 z nR cR nC cC w wr) (hg : wr.grownBy w' none) : PB W H A A2 AR AC n cap n2 c2 z nR cR nC cC w w' :=
  ⟨h.m.grown hg (by simp), h.t.grown hg (by simp), h.v.grown hg (by simp), gb_trans h.g hg⟩
theorem PB.bl (h : PB W H A A2 AR AC n cap n2 c2 z nR cR nC cC w wr) (hb : Below wr.heap.size wr w') : PB W H A A2 AR AC n cap n2 c2 z nR cR nC cC w w' := h.gb (gb_of_below hb none)
theorem PB.dr (h : PB W H A A2 AR AC n cap n2 c2 z nR cR nC cC w wr) : PB W H A A2 AR AC n cap n2 c2 z nR cR nC cC w wr.drew := h.gb (gb_drew (gb_refl _ _))
theorem PB.old (h : PB W H A A2 AR AC n cap n2 c2 z nR cR nC cC w wr) : Below w.heap.size w wr := gb_below_none h.g (Nat.le_refl _)
theorem PB.at (h : PB W H A A2 AR AC n cap n2 c2 z nR cR nC cC w wr) {B : Option Addr} {k : Nat} {M : List Int} (hi : IntAt w w.heap.size B k M) : IntAt wr wr.heap.size B k M := (hi.none (Nat.le_refl _) h.g).more h.g.size
theorem pb_start (W H : Int) (A A2 AR AC : Option Addr) (n cap n2 c2 : Nat) (z : Int) (nR cR nC cC : Nat) (w : World) : PB W H A A2 AR AC n cap n2 c2 z nR cR nC cC w (pbW W H A A2 AR AC n cap n2 c2 z nR cR nC cC w) := by
  have ht := Blk.new (w.alloc (.cells (meshC W H A n cap) 41)) 42 #[.slice A2 n2 c2]
  have hv := Blk.new ((w.alloc (.cells (meshC W H A n cap) 41)).alloc (.cells #[.slice A2 n2 c2] 42)) 43 #[.int .i64 z, .slice AR nR cR, .slice AC nC cC]
  rw [alloc_size] at ht
  rw [alloc_size, alloc_size] at hv
  exact ⟨((Blk.new w 41 (meshC W H A n cap)).alloc _).alloc _, ht.alloc _, hv, gb_alloc (gb_alloc (gb_alloc (gb_refl w none) _) _) _⟩
theorem PB.first (h : (pbW W H A A2 AR AC n cap n2 c2 z nR cR nC cC w).grownBy wr none) : PB W H A A2 AR AC n cap n2 c2 z nR cR nC cC w wr := (pb_start W H A A2 AR AC n cap n2 c2 z nR cR nC cC w).gb h
end
/-- The copies in boxes b0, b1, b2. -/
structure PC (W H z : Int) (L P R C : List Int) (gm gp : Nat) (Ar : Option Addr) (cr : Nat) (Ac : Option Addr) (cc base b0 b1 b2 : Nat) (wr : World) : Prop where
  m : Blk wr b0 37 (meshC W H (some ⟨gm, 0, none⟩) L.length L.length)
  t : Blk wr b1 30 #[.slice (some ⟨gp, 0, none⟩) P.length P.length]
  v : Blk wr b2 34 #[.int .i64 z, .slice Ar R.length cr, .slice Ac C.length cc]
  om : wr.ownsRow base 3 1 (.slice (some ⟨gm, 0, none⟩) L.length L.length) L.length (intsV L)
  ot : wr.ownsRow base 3 1 (.slice (some ⟨gp, 0, none⟩) P.length P.length) P.length (intsV P)
  ov : VRow wr base (.slice Ar R.length cr) (.slice Ac C.length cc) R.length C.length R C
section
variable {W H z : Int} {L P R C : List Int} {gm gp cr cc base b0 b1 b2 : Nat} {Ar Ac : Option Addr} {wr w' : World}
theorem PC.gb (h : PC W H z L P R C gm gp Ar cr Ac cc base b0 b1 b2 wr) (hg : wr.grownBy w' none) : PC W H z L P R C gm gp Ar cr Ac cc base b0 b1 b2 w' :=
  ⟨h.m.grown hg (by simp), h.t.grown hg (by simp), h.v.grown hg (by simp), own_none h.om hg, own_none h.ot hg, h.ov.gb hg⟩
theorem PC.bl (h : PC W H z L P R C gm gp Ar cr Ac cc base b0 b1 b2 wr) (hb : Below wr.heap.size wr w') : PC W H z L P R C gm gp Ar cr Ac cc base b0 b1 b2 w' := h.gb (gb_of_below hb none)
theorem PC.dr (h : PC W H z L P R C gm gp Ar cr Ac cc base b0 b1 b2 wr) : PC W H z L P R C gm gp Ar cr Ac cc base b0 b1 b2 wr.drew := h.gb (gb_drew (gb_refl _ _))
theorem PC.atM (h : PC W H z L P R C gm gp Ar cr Ac cc base b0 b1 b2 wr) : IntAt wr wr.heap.size (some ⟨gm, 0, none⟩) L.length L := intAt_own h.om rfl (Nat.le_refl _)
theorem PC.atP (h : PC W H z L P R C gm gp Ar cr Ac cc base b0 b1 b2 wr) : IntAt wr wr.heap.size (some ⟨gp, 0, none⟩) P.length P := intAt_own h.ot rfl (Nat.le_refl _)
theorem PC.atR (h : PC W H z L P R C gm gp Ar cr Ac cc base b0 b1 b2 wr) : IntAt wr wr.heap.size Ar R.length R := intAt_own h.ov.r rfl (Nat.le_refl _)
theorem PC.atC (h : PC W H z L P R C gm gp Ar cr Ac cc base b0 b1 b2 wr) : IntAt wr wr.heap.size Ac C.length C := intAt_own h.ov.c rfl (Nat.le_refl _)
theorem PC.cap (h : PC W H z L P R C gm gp Ar cr Ac cc base b0 b1 b2 wr) : C.length ≤ cc := (own_cap h.ov.c).1
end
end Go.Proofs.YtidilfakganooaaDoor
end

section
namespace Go.Proofs.YtidilfakganooaaDoor
open Go.ChangeShapes Go.WideShapes Go.ChangeAt Go.RowKit
set_option linter.unusedVariables false

theorem specNodeAt (W H x y : Int) (w : World) :
    Calls Tryd.prog 93 #[.agg #[.int .i64 W, .int .i64 H], .int .i64 x, .int .i64 y] w (RetI (atG W H x y) none w) := by
  cases hok : okG W H with
  | true =>
    obtain ⟨hW, hH⟩ := okG_cases hok
    by_cases hx : 0 ≤ x ∧ x ≤ W - 1
    · by_cases hy : 0 ≤ y ∧ y ≤ H - 1
      · rcases hW with rfl | rfl | rfl | rfl
        all_goals
          go_enter Tryd.func93, Tryd.ntmps93
          go_wp2_with fail
          refine (specGridOk _ H _).mono ?_
          rintro e w1 ⟨rfl, hg⟩
          have hb := box_blk hg
          have c0 := hb.cell 0
          have c1 := hb.cell 1
          have Hg := Lib.hid hg
          clear hg hb
          simp at c0 c1
          rw [hok]
          go_wp2_with fail
          refine (specInV x 0 _ true (by simp; omega) _).mono ?_
          rintro e w2 ⟨rfl, rfl⟩
          go_wp2_with fail
          refine (specInV y 0 _ true (by simp; omega) _).mono ?_
          rintro e w2 ⟨rfl, rfl⟩
          go_wp2_with fail
          go_ret
          exact ⟨ret_int64 (by unfold atG; rw [if_pos ⟨hok, by omega⟩] <;> omega), box_gb Hg.out⟩
      · go_enter Tryd.func93, Tryd.ntmps93
        go_wp2_with fail
        refine (specGridOk _ H _).mono ?_
        rintro e w1 ⟨rfl, hg⟩
        have hb := box_blk hg
        have c0 := hb.cell 0
        have c1 := hb.cell 1
        have Hg := Lib.hid hg
        clear hg hb
        simp at c0 c1
        rw [hok]
        go_wp2_with fail
        refine (specInV x 0 _ true (by simp; omega) _).mono ?_
        rintro e w2 ⟨rfl, rfl⟩
        go_wp2_with fail
        refine (specInV y 0 _ false (by simp; omega) _).mono ?_
        rintro e w2 ⟨rfl, rfl⟩
        go_wp2_with fail
        go_ret
        exact ⟨ret_int64 (by unfold atG; rw [if_neg (by rintro ⟨_, _⟩; omega)]), box_gb Hg.out⟩
    · go_enter Tryd.func93, Tryd.ntmps93
      go_wp2_with fail
      refine (specGridOk _ H _).mono ?_
      rintro e w1 ⟨rfl, hg⟩
      have hb := box_blk hg
      have c0 := hb.cell 0
      have c1 := hb.cell 1
      have Hg := Lib.hid hg
      clear hg hb
      simp at c0 c1
      rw [hok]
      go_wp2_with fail
      refine (specInV x 0 _ false (by simp; omega) _).mono ?_
      rintro e w2 ⟨rfl, rfl⟩
      go_wp2_with fail
      go_ret
      exact ⟨ret_int64 (by unfold atG; rw [if_neg (by rintro ⟨_, _⟩; omega)]), box_gb Hg.out⟩
  | false =>
    go_enter Tryd.func93, Tryd.ntmps93
    go_wp2_with fail
    refine (specGridOk W H _).mono ?_
    rintro e w1 ⟨rfl, hg⟩
    rw [hok]
    go_wp2_with fail
    go_ret
    exact ⟨ret_int64 (by unfold atG; rw [if_neg (by rintro ⟨h, _⟩; rw [hok] at h; cases h)]), box_gb hg⟩
end Go.Proofs.YtidilfakganooaaDoor
end

section
namespace Go.Proofs.YtidilfakganooaaDoor
open Go.ChangeShapes Go.WideShapes Go.ChangeAt Go.RowKit
set_option linter.unusedVariables false

theorem specNodeAtV (W H x y n : Int) (h : atG W H x y = n) (w : World) :
    Calls Tryd.prog 93 #[.agg #[.int .i64 W, .int .i64 H], .int .i64 x, .int .i64 y] w (RetI n none w) := h ▸ specNodeAt W H x y w

theorem specNextNode (W H n p : Int) (w : World) :
    Calls Tryd.prog 76 #[.agg #[.int .i64 W, .int .i64 H], .int .i64 n, .int .i64 p] w (RetI (nextG W H n p) none w) := by
  cases hh : hasG W H n with
  | true =>
    obtain ⟨hW, hH⟩ := okG_cases (hasG_ok hh).1
    obtain ⟨h0, h1⟩ := hasG_le hh
    have hq := row_wrap h0 h1 hW
    obtain ⟨a0, a1, a2, a3, a4⟩ := place_of hh
    have hW1 : 1 ≤ W := by omega
    have hW2 : W ≤ 4 := by omega
    have hH2 : H ≤ 4 := by omega
    have hN : nextG W H n p = (if p = 0 then atG W H (n % W) (n / W - 1) else if p = 1 then atG W H (n % W + 1) (n / W) else if p = 2 then atG W H (n % W) (n / W + 1) else if p = 3 then atG W H (n % W - 1) (n / W) else if p = 4 then n else -1) := by simp [nextG, hh]
    obtain ⟨x, hx⟩ : ∃ x, n % W = x := ⟨_, rfl⟩
    obtain ⟨y, hy⟩ : ∃ y, n / W = y := ⟨_, rfl⟩
    rw [hx, hy] at hN
    rw [hx] at a0 a1
    rw [hy] at a2 a3 hq
    obtain ⟨r, hr⟩ : ∃ r, nextG W H n p = r := ⟨_, rfl⟩
    rw [hr] at hN ⊢
    have hd : n.tdiv W = y := by rw [Int.tdiv_eq_ediv_of_nonneg h0]; exact hy
    clear a4 hW hH hr hq
    by_cases p0 : p = 0
    · subst p0
      simp at hN
      go_enter Tryd.func76, Tryd.ntmps76
      go_wp2_with fail
      refine (specHas W H n _).mono ?_
      rintro e w1 ⟨rfl, hg⟩
      have hb := box_blk hg
      have c0 := hb.cell 0
      have c1 := hb.cell 1
      have Hg := Lib.hid (box_gb hg)
      clear hg hb
      simp at c0 c1
      rw [hh]
      go_wp2_with fail
      simp only [hx]
      refine (specNodeAtV W H (x) (y - 1) r hN.symm _).mono ?_
      rintro e w2 ⟨rfl, hg2⟩
      have Hg2 := Lib.hid hg2
      clear hg2
      go_wp2_with fail
      go_ret
      exact ⟨ret_int64 hN.symm, gb_trans Hg.out Hg2.out⟩
    by_cases p1 : p = 1
    · subst p1
      simp at hN
      go_enter Tryd.func76, Tryd.ntmps76
      go_wp2_with fail
      refine (specHas W H n _).mono ?_
      rintro e w1 ⟨rfl, hg⟩
      have hb := box_blk hg
      have c0 := hb.cell 0
      have c1 := hb.cell 1
      have Hg := Lib.hid (box_gb hg)
      clear hg hb
      simp at c0 c1
      rw [hh]
      go_wp2_with fail
      simp only [hx]
      refine (specNodeAtV W H (x + 1) (y) r hN.symm _).mono ?_
      rintro e w2 ⟨rfl, hg2⟩
      have Hg2 := Lib.hid hg2
      clear hg2
      go_wp2_with fail
      go_ret
      exact ⟨ret_int64 hN.symm, gb_trans Hg.out Hg2.out⟩
    by_cases p2 : p = 2
    · subst p2
      simp at hN
      go_enter Tryd.func76, Tryd.ntmps76
      go_wp2_with fail
      refine (specHas W H n _).mono ?_
      rintro e w1 ⟨rfl, hg⟩
      have hb := box_blk hg
      have c0 := hb.cell 0
      have c1 := hb.cell 1
      have Hg := Lib.hid (box_gb hg)
      clear hg hb
      simp at c0 c1
      rw [hh]
      go_wp2_with fail
      simp only [hx]
      refine (specNodeAtV W H (x) (y + 1) r hN.symm _).mono ?_
      rintro e w2 ⟨rfl, hg2⟩
      have Hg2 := Lib.hid hg2
      clear hg2
      go_wp2_with fail
      go_ret
      exact ⟨ret_int64 hN.symm, gb_trans Hg.out Hg2.out⟩
    by_cases p3 : p = 3
    · subst p3
      simp at hN
      go_enter Tryd.func76, Tryd.ntmps76
      go_wp2_with fail
      refine (specHas W H n _).mono ?_
      rintro e w1 ⟨rfl, hg⟩
      have hb := box_blk hg
      have c0 := hb.cell 0
      have c1 := hb.cell 1
      have Hg := Lib.hid (box_gb hg)
      clear hg hb
      simp at c0 c1
      rw [hh]
      go_wp2_with fail
      simp only [hx]
      refine (specNodeAtV W H (x - 1) (y) r hN.symm _).mono ?_
      rintro e w2 ⟨rfl, hg2⟩
      have Hg2 := Lib.hid hg2
      clear hg2
      go_wp2_with fail
      go_ret
      exact ⟨ret_int64 hN.symm, gb_trans Hg.out Hg2.out⟩
    by_cases p4 : p = 4
    · subst p4
      simp at hN
      go_enter Tryd.func76, Tryd.ntmps76
      go_wp2_with fail
      refine (specHas W H n _).mono ?_
      rintro e w1 ⟨rfl, hg⟩
      have hb := box_blk hg
      have c0 := hb.cell 0
      have c1 := hb.cell 1
      have Hg := Lib.hid (box_gb hg)
      clear hg hb
      simp at c0 c1
      rw [hh]
      go_wp2_with fail
      go_ret
      exact ⟨ret_int64 hN.symm, Hg.out⟩
    simp [p0, p1, p2, p3, p4] at hN
    have q0 : (p == 0) = false := by simpa using p0
    have q1 : (p == 1) = false := by simpa using p1
    have q2 : (p == 2) = false := by simpa using p2
    have q3 : (p == 3) = false := by simpa using p3
    have q4 : (p == 4) = false := by simpa using p4
    clear p0 p1 p2 p3 p4
    · skip
      go_enter Tryd.func76, Tryd.ntmps76
      go_wp2_with fail
      refine (specHas W H n _).mono ?_
      rintro e w1 ⟨rfl, hg⟩
      have hb := box_blk hg
      have c0 := hb.cell 0
      have c1 := hb.cell 1
      have Hg := Lib.hid (box_gb hg)
      clear hg hb
      simp at c0 c1
      rw [hh]
      go_wp2_with fail
      go_ret
      exact ⟨ret_int64 hN.symm, Hg.out⟩
  | false =>
    go_enter Tryd.func76, Tryd.ntmps76
    go_wp2_with fail
    refine (specHas W H n _).mono ?_
    rintro e w1 ⟨rfl, hg⟩
    rw [hh]
    go_wp2_with fail
    go_ret
    exact ⟨ret_int64 (by simp [nextG, hh]), box_gb hg⟩

theorem specNextNodeV (W H n p r : Int) (h : nextG W H n p = r) (w : World) :
    Calls Tryd.prog 76 #[.agg #[.int .i64 W, .int .i64 H], .int .i64 n, .int .i64 p] w (RetI r none w) := h ▸ specNextNode W H n p w
theorem specNodeCountV (W H k : Int) (h : countG W H = k) (w : World) :
    Calls Tryd.prog 50 #[.agg #[.int .i64 W, .int .i64 H]] w (RetI k none w) := h ▸ specNodeCount W H w

theorem specLeads (W H c : Int) (w : World) :
    Calls Tryd.prog 91 #[.agg #[.int .i64 W, .int .i64 H], .int .i64 c] w (RetB (leadsG W H c) w) := by
  obtain ⟨k, hk⟩ : ∃ k, countG W H = k := ⟨_, rfl⟩
  obtain ⟨hk0, hk1⟩ := countG_le W H
  rw [hk] at hk0 hk1
  have hL : leadsG W H c = decide (0 ≤ c ∧ c < 4 * k ∧ 0 ≤ nextG W H (c / 4) (c % 4)) := by rw [leadsG, hk]
  by_cases hc : 0 ≤ c ∧ c ≤ 4 * k - 1
  · have hb : decide (0 ≤ c ∧ c ≤ 4 * k - 1) = true := decide_eq_true hc
    obtain ⟨hc0, hc1⟩ := hc
    have hcN : c ≤ 63 := by omega
    obtain ⟨r, hr⟩ : ∃ r, nextG W H (c / 4) (c % 4) = r := ⟨_, rfl⟩
    have hd : c.tdiv 4 = c / 4 := Int.tdiv_eq_ediv_of_nonneg hc0
    have hm : c.tmod 4 = c % 4 := Int.tmod_eq_emod_of_nonneg hc0
    have hL2 : leadsG W H c = decide (0 ≤ r) := by rw [hL, hr]; exact decide_eq_decide.2 ⟨fun h => h.2.2, fun h => ⟨hc0, by omega, h⟩⟩
    have HL := Lib.hid hL2
    clear hL hL2
    go_enter Tryd.func91, Tryd.ntmps91
    go_wp2_with fail
    refine (specNodeCountV W H k hk _).mono ?_
    rintro e w1 ⟨rfl, hg⟩
    have hb1 := box_blk hg
    have c0 := hb1.cell 0
    have c1 := hb1.cell 1
    have Hg := Lib.hid (box_gb hg)
    clear hg hb1
    simp at c0 c1
    go_wp2_with fail
    refine (specInV c 0 _ true hb _).mono ?_
    rintro e w2 ⟨rfl, rfl⟩
    go_wp2_with fail
    refine (specNextNodeV W H (c / 4) (c % 4) r hr _).mono ?_
    rintro e w3 ⟨rfl, hg3⟩
    have Hg3 := Lib.hid hg3
    clear hg3
    go_wp2_with fail
    go_ret
    exact ⟨ret_bool (by rw [HL.out]), gb_trans Hg.out Hg3.out⟩
  · have hb : decide (0 ≤ c ∧ c ≤ 4 * k - 1) = false := decide_eq_false hc
    have hL2 : leadsG W H c = false := by rw [hL]; exact decide_eq_false (fun h => hc ⟨h.1, by omega⟩)
    clear hc hL
    go_enter Tryd.func91, Tryd.ntmps91
    go_wp2_with fail
    refine (specNodeCountV W H k hk _).mono ?_
    rintro e w1 ⟨rfl, hg⟩
    have Hg := Lib.hid (box_gb hg)
    clear hg
    go_wp2_with fail
    refine (specInV c 0 _ false hb _).mono ?_
    rintro e w2 ⟨rfl, rfl⟩
    go_wp2_with fail
    go_ret
    exact ⟨ret_bool (by rw [hL2]), Hg.out⟩

theorem specLeadsV (W H c : Int) (b : Bool) (h : leadsG W H c = b) (w : World) :
    Calls Tryd.prog 91 #[.agg #[.int .i64 W, .int .i64 H], .int .i64 c] w (RetB b w) := h ▸ specLeads W H c w
end Go.Proofs.YtidilfakganooaaDoor
end

section
namespace Go.Proofs.YtidilfakganooaaDoor
open Go.ChangeShapes Go.WideShapes Go.ChangeAt Go.RowKit
set_option linter.unusedVariables false
set_option linter.unusedSimpArgs false

theorem specFind (A : Option Addr) (n cap B : Nat) (L : List Int) (c : Int) (w : World) (h : IntAt w B A n L) (hn : n ≤ 1000000000) :
    Calls Tryd.prog 54 #[.slice A n cap, .int .i64 c] w fun e w' => e = .returned (.bool (inG L c)) ∧ w = w' := by
  have hl := h.1
  have HI := Lib.hid h
  clear h
  go_enter Tryd.func54, Tryd.ntmps54
  go_wp2_with fail
  go_loop [5] (fun i => ∃ k : Nat, i = .int .i64 (k : Int) ∧ k ≤ n ∧ ∀ j, j < k → L.getD j 0 ≠ c) (fun i => n - (intOf i).toNat)
  case atStart => exact ⟨0, rfl, Nat.zero_le _, fun j h => by omega⟩
  case round =>
    obtain ⟨k, rfl, hk, hne⟩ := hrel
    have HNE := Lib.hid hne
    clear hne
    by_cases hlt : k < n
    · obtain ⟨b, off, rfl, hb, hc⟩ := HI.out.at k hlt
      obtain ⟨x, hx⟩ : ∃ x, L.getD k 0 = x := ⟨_, rfl⟩
      rw [hx] at hc
      have HX := Lib.hid hx
      clear hx
      by_cases hxc : x = c
      · subst hxc
        go_wp2_with fail
        go_ret
        exact ⟨ret_bool (inG_yes (by omega) HX.out).symm, rfl⟩
      · have hxb : (x == c) = false := by simpa using hxc
        have HXC := Lib.hid hxc
        clear hxc
        go_wp2_with fail
        go_round
        case rel => exact ⟨k + 1, by go_num, by omega, fun j hj => by
          rcases Nat.lt_succ_iff_lt_or_eq.1 hj with h1 | rfl
          · exact HNE.out j h1
          · rw [HX.out]; exact HXC.out⟩
        case measure => simp [intOf]; omega
    · obtain rfl : k = n := by omega
      go_wp2_with fail
      go_ret
      exact ⟨ret_bool (inG_no (fun j hj => HNE.out j (by omega))).symm, rfl⟩
theorem specFindV (A : Option Addr) (n cap B : Nat) (L : List Int) (c : Int) (b : Bool) (hb : inG L c = b) (w : World) (h : IntAt w B A n L) (hn : n ≤ 1000000000) :
    Calls Tryd.prog 54 #[.slice A n cap, .int .i64 c] w fun e w' => e = .returned (.bool b) ∧ w = w' := hb ▸ specFind A n cap B L c w h hn
end Go.Proofs.YtidilfakganooaaDoor
end

section
namespace Go.Proofs.YtidilfakganooaaDoor
open Go.ChangeShapes Go.WideShapes Go.ChangeAt Go.RowKit
set_option linter.unusedVariables false
set_option linter.unusedSimpArgs false

theorem gb_undraw {a b : World} {row : Option Nat} (h : a.drew.grownBy b row) : a.grownBy b row := ⟨h.os, h.tape, h.output, h.size, h.block⟩

set_option maxHeartbeats 3200000 in
theorem specMeshOk (W H : Int) (A : Option Addr) (n cap : Nat) (L : List Int) (w : World) (h : IntAt w w.heap.size A n L) (hn : n ≤ 1000000000) :
    Calls Tryd.prog 72 #[.agg #[.int .i64 W, .int .i64 H, .slice A n cap]] w (RetB (meshG W H L) w) := by
  have hl := h.1
  have HI := Lib.hid h
  clear h
  cases hok : okG W H with
  | false =>
    go_enter Tryd.func72, Tryd.ntmps72
    go_wp2_with fail
    refine (specGridOk W H _).mono ?_
    rintro e w1 ⟨rfl, hg⟩
    rw [hok]
    go_wp2_with fail
    go_ret
    exact ⟨ret_bool (meshG_bad hok).symm, box_gb hg⟩
  | true =>
    go_enter Tryd.func72, Tryd.ntmps72
    go_wp2_with fail
    refine (specGridOk W H _).mono ?_
    rintro e w1 ⟨rfl, hg⟩
    have HM := Lib.hid (show MeshAt W H L A n cap w 0 w1 from ⟨goodTo_zero W H L, hg⟩)
    clear hg
    rw [hok]
    go_wp2_with fail
    go_loopw [3] (fun i wr => ∃ k : Nat, i = .int .i64 (k : Int) ∧ k ≤ n ∧ MeshAt W H L A n cap w k wr) (fun i _ => n - (intOf i).toNat)
    case atStart => exact ⟨0, rfl, Nat.zero_le _, HM.out⟩
    case round =>
      obtain ⟨k, rfl, hk, hgood, hg⟩ := hrel
      have HGo := Lib.hid hgood
      have HG := Lib.hid hg
      have hbk := box_blk hg
      have HBK := Lib.hid hbk
      have a0 : wr.cell? ⟨w.heap.size, 0, none⟩ = some (.int .i64 W) := hbk.cell 0
      have a1 : wr.cell? ⟨w.heap.size, 1, none⟩ = some (.int .i64 H) := hbk.cell 1
      have a2 : wr.cell? ⟨w.heap.size, 2, none⟩ = some (.slice A n cap) := hbk.cell 2
      have hia := HI.out.none (Nat.le_refl _) (box_gb hg)
      have HIA := Lib.hid hia
      clear hg hgood hbk
      by_cases hlt : k < n
      · obtain ⟨b, off, rfl, hb, hc⟩ := hia.at k hlt
        obtain ⟨x, hx⟩ : ∃ x, L.getD k 0 = x := ⟨_, rfl⟩
        rw [hx] at hc
        clear hia
        have hk0 : (0 : Int) ≤ (k : Int) := by omega
        have hk1 : (k : Int) < (n : Int) := by omega
        cases hld : leadsG W H x with
        | false =>
          have HBad := Lib.hid (meshG_no (by omega) (goodAt_lead hx hld))
          have CL := Lib.hid (fun w => specLeadsV W H x false hld w)
          clear hx hld
          go_wp2_with fail
          refine wp_region_held_drew (S := (fun w' => w'.cell? ⟨w.heap.size, 0, none⟩ = some (.int .i64 W) ∧ w'.cell? ⟨w.heap.size, 1, none⟩ = some (.int .i64 H) ∧ w'.cell? ⟨w.heap.size, 2, none⟩ = some (.slice (some ⟨b, off, none⟩) n cap) ∧ w'.cell? ⟨b, off + k, none⟩ = some (.int .i64 x))) (by kernel_rfl) (⟨a0, a1, a2, hc⟩) (fun hHeld => ?_)
          refine wpAnyH_take (i := 0) (v := ?_) rfl (by kernel_rfl) (by kernel_rfl) (by kernel_rfl) (fun _ _ _ h => h) (Or.inl ⟨by rfl, ?_⟩) (by assumption) ?_
          rotate_left
          · intro wq hSw; (try dsimp only at hSw); go_simp; (try with_reducible rfl)
          simp only [List.getElem_toArray, List.getElem_cons_succ, List.getElem_cons_zero, Act.put, List.setIfInBounds_toArray, List.set_cons_zero, List.set_cons_succ]
          refine wpAnyH_take (i := 1) (v := ?_) rfl (by kernel_rfl) (by kernel_rfl) (by kernel_rfl) (fun _ _ _ h => h) (Or.inl ⟨by rfl, ?_⟩) (by assumption) ?_
          rotate_left
          · intro wq hSw; (try dsimp only at hSw); go_simp; (try with_reducible rfl)
          simp only [List.getElem_toArray, List.getElem_cons_succ, List.getElem_cons_zero, Act.put, List.setIfInBounds_toArray, List.set_cons_zero, List.set_cons_succ]
          refine wpAnyH_take (i := 2) (v := ?_) rfl (by kernel_rfl) (by kernel_rfl) (by kernel_rfl) (fun _ _ _ h => h) (Or.inl ⟨by rfl, ?_⟩) (by assumption) ?_
          rotate_left
          · intro wq hSw; (try dsimp only at hSw); go_simp; (try with_reducible rfl)
          simp only [List.getElem_toArray, List.getElem_cons_succ, List.getElem_cons_zero, Act.put, List.setIfInBounds_toArray, List.set_cons_zero, List.set_cons_succ]
          refine wpAnyH_take (i := 3) (v := ?_) rfl (by kernel_rfl) (by kernel_rfl) (by kernel_rfl) (fun _ _ _ h => h) (Or.inl ⟨by rfl, ?_⟩) (by assumption) ?_
          rotate_left
          · intro wq hSw; (try dsimp only at hSw); go_simp; (try with_reducible rfl)
          simp only [List.getElem_toArray, List.getElem_cons_succ, List.getElem_cons_zero, Act.put, List.setIfInBounds_toArray, List.set_cons_zero, List.set_cons_succ]
          refine wpAnyH_take (i := 4) (v := ?_) rfl (by kernel_rfl) (by kernel_rfl) (by kernel_rfl) (fun _ _ _ h => h) (Or.inl ⟨by rfl, ?_⟩) (by assumption) ?_
          rotate_left
          · intro wq hSw; (try dsimp only at hSw); go_simp; (try with_reducible rfl)
          simp only [List.getElem_toArray, List.getElem_cons_succ, List.getElem_cons_zero, Act.put, List.setIfInBounds_toArray, List.set_cons_zero, List.set_cons_succ]
          refine wpAnyH_take (i := 5) (v := ?_) rfl (by kernel_rfl) (by kernel_rfl) (by kernel_rfl) (fun _ _ _ h => h) (Or.inl ⟨by rfl, ?_⟩) (by assumption) ?_
          rotate_left
          · intro wq hSw; (try dsimp only at hSw); go_simp; (try with_reducible rfl)
          simp only [List.getElem_toArray, List.getElem_cons_succ, List.getElem_cons_zero, Act.put, List.setIfInBounds_toArray, List.set_cons_zero, List.set_cons_succ]
          refine wpAnyH_take (i := 6) (v := ?_) rfl (by kernel_rfl) (by kernel_rfl) (by kernel_rfl) (fun _ _ _ h => h) (Or.inl ⟨by rfl, ?_⟩) (by assumption) ?_
          rotate_left
          · intro wq hSw; (try dsimp only at hSw); go_simp; (try with_reducible rfl)
          simp only [List.getElem_toArray, List.getElem_cons_succ, List.getElem_cons_zero, Act.put, List.setIfInBounds_toArray, List.set_cons_zero, List.set_cons_succ]
          refine wpAnyH_ready (rs := [7]) (by kernel_rfl) (by simp) ?_
          refine AllReadyH.cons rfl (fun K hK => ?_) AllReadyH.nil
          go_simp
          (with_reducible refine (CL.out _).mono ?_); rintro e w2 ⟨rfl, hg2⟩; have hg3 := gb_trans HG.out (gb_undraw hg2); have kk := box_blk hg3; have d0 : w2.cell? ⟨w.heap.size, 0, none⟩ = some (.int .i64 W) := kk.cell 0; have d1 : w2.cell? ⟨w.heap.size, 1, none⟩ = some (.int .i64 H) := kk.cell 1; have d2 : w2.cell? ⟨w.heap.size, 2, none⟩ = some (.slice (some ⟨b, off, none⟩) n cap) := kk.cell 2; have dc := (hg2.cell hc (by simp)); have HG3 := Lib.hid hg3; clear hg2 hg3 kk
          try go_wp2_with fail
          refine hK.out _ _ (⟨d0, d1, d2, dc⟩) (fun hHeld => ?_)
          clear hK K
          try simp only [List.getElem_toArray, List.getElem_cons_succ, List.getElem_cons_zero, Act.put, List.setIfInBounds_toArray, List.set_cons_zero, List.set_cons_succ]
          refine wpAnyH_take (i := 8) (v := ?_) rfl (by kernel_rfl) (by kernel_rfl) (by kernel_rfl) (fun _ _ _ h => h) (Or.inl ⟨by rfl, ?_⟩) (by assumption) ?_
          rotate_left
          · intro wq hSw; (try dsimp only at hSw); go_simp; (try with_reducible rfl)
          simp only [List.getElem_toArray, List.getElem_cons_succ, List.getElem_cons_zero, Act.put, List.setIfInBounds_toArray, List.set_cons_zero, List.set_cons_succ]
          refine wpAnyH_take (i := 9) (v := ?_) rfl (by kernel_rfl) (by kernel_rfl) (by kernel_rfl) (fun _ _ _ h => h) (Or.inl ⟨by rfl, ?_⟩) (by assumption) ?_
          rotate_left
          · intro wq hSw; (try dsimp only at hSw); go_simp; (try with_reducible rfl)
          simp only [List.getElem_toArray, List.getElem_cons_succ, List.getElem_cons_zero, Act.put, List.setIfInBounds_toArray, List.set_cons_zero, List.set_cons_succ]
          refine wpAnyH_take (i := 10) (v := undef) rfl (by kernel_rfl) (by kernel_rfl) (by kernel_rfl) (fun _ _ _ h => h) (Or.inr ⟨by rfl, rfl⟩) (by assumption) ?_
          simp only [List.getElem_toArray, List.getElem_cons_succ, List.getElem_cons_zero, Act.put, List.setIfInBounds_toArray, List.set_cons_zero, List.set_cons_succ]
          refine wpAnyH_take (i := 11) (v := undef) rfl (by kernel_rfl) (by kernel_rfl) (by kernel_rfl) (fun _ _ _ h => h) (Or.inr ⟨by rfl, rfl⟩) (by assumption) ?_
          simp only [List.getElem_toArray, List.getElem_cons_succ, List.getElem_cons_zero, Act.put, List.setIfInBounds_toArray, List.set_cons_zero, List.set_cons_succ]
          refine wpAnyH_take (i := 12) (v := undef) rfl (by kernel_rfl) (by kernel_rfl) (by kernel_rfl) (fun _ _ _ h => h) (Or.inr ⟨by rfl, rfl⟩) (by assumption) ?_
          simp only [List.getElem_toArray, List.getElem_cons_succ, List.getElem_cons_zero, Act.put, List.setIfInBounds_toArray, List.set_cons_zero, List.set_cons_succ]
          refine wpAnyH_take (i := 13) (v := undef) rfl (by kernel_rfl) (by kernel_rfl) (by kernel_rfl) (fun _ _ _ h => h) (Or.inr ⟨by rfl, rfl⟩) (by assumption) ?_
          simp only [List.getElem_toArray, List.getElem_cons_succ, List.getElem_cons_zero, Act.put, List.setIfInBounds_toArray, List.set_cons_zero, List.set_cons_succ]
          refine wpAnyH_take (i := 14) (v := undef) rfl (by kernel_rfl) (by kernel_rfl) (by kernel_rfl) (fun _ _ _ h => h) (Or.inr ⟨by rfl, rfl⟩) (by assumption) ?_
          simp only [List.getElem_toArray, List.getElem_cons_succ, List.getElem_cons_zero, Act.put, List.setIfInBounds_toArray, List.set_cons_zero, List.set_cons_succ]
          refine wpAnyH_take (i := 15) (v := undef) rfl (by kernel_rfl) (by kernel_rfl) (by kernel_rfl) (fun _ _ _ h => h) (Or.inr ⟨by rfl, rfl⟩) (by assumption) ?_
          simp only [List.getElem_toArray, List.getElem_cons_succ, List.getElem_cons_zero, Act.put, List.setIfInBounds_toArray, List.set_cons_zero, List.set_cons_succ]
          refine wpAnyH_take (i := 16) (v := undef) rfl (by kernel_rfl) (by kernel_rfl) (by kernel_rfl) (fun _ _ _ h => h) (Or.inr ⟨by rfl, rfl⟩) (by assumption) ?_
          simp only [List.getElem_toArray, List.getElem_cons_succ, List.getElem_cons_zero, Act.put, List.setIfInBounds_toArray, List.set_cons_zero, List.set_cons_succ]
          refine wpAnyH_take (i := 17) (v := undef) rfl (by kernel_rfl) (by kernel_rfl) (by kernel_rfl) (fun _ _ _ h => h) (Or.inr ⟨by rfl, rfl⟩) (by assumption) ?_
          simp only [List.getElem_toArray, List.getElem_cons_succ, List.getElem_cons_zero, Act.put, List.setIfInBounds_toArray, List.set_cons_zero, List.set_cons_succ]
          refine wpAnyH_take (i := 18) (v := undef) rfl (by kernel_rfl) (by kernel_rfl) (by kernel_rfl) (fun _ _ _ h => h) (Or.inr ⟨by rfl, rfl⟩) (by assumption) ?_
          simp only [List.getElem_toArray, List.getElem_cons_succ, List.getElem_cons_zero, Act.put, List.setIfInBounds_toArray, List.set_cons_zero, List.set_cons_succ]
          refine wpAnyH_take (i := 19) (v := undef) rfl (by kernel_rfl) (by kernel_rfl) (by kernel_rfl) (fun _ _ _ h => h) (Or.inr ⟨by rfl, rfl⟩) (by assumption) ?_
          simp only [List.getElem_toArray, List.getElem_cons_succ, List.getElem_cons_zero, Act.put, List.setIfInBounds_toArray, List.set_cons_zero, List.set_cons_succ]
          refine wpAnyH_take (i := 20) (v := undef) rfl (by kernel_rfl) (by kernel_rfl) (by kernel_rfl) (fun _ _ _ h => h) (Or.inr ⟨by rfl, rfl⟩) (by assumption) ?_
          simp only [List.getElem_toArray, List.getElem_cons_succ, List.getElem_cons_zero, Act.put, List.setIfInBounds_toArray, List.set_cons_zero, List.set_cons_succ]
          refine wpAnyH_take (i := 21) (v := undef) rfl (by kernel_rfl) (by kernel_rfl) (by kernel_rfl) (fun _ _ _ h => h) (Or.inr ⟨by rfl, rfl⟩) (by assumption) ?_
          simp only [List.getElem_toArray, List.getElem_cons_succ, List.getElem_cons_zero, Act.put, List.setIfInBounds_toArray, List.set_cons_zero, List.set_cons_succ]
          refine wpAnyH_take (i := 22) (v := undef) rfl (by kernel_rfl) (by kernel_rfl) (by kernel_rfl) (fun _ _ _ h => h) (Or.inr ⟨by rfl, rfl⟩) (by assumption) ?_
          simp only [List.getElem_toArray, List.getElem_cons_succ, List.getElem_cons_zero, Act.put, List.setIfInBounds_toArray, List.set_cons_zero, List.set_cons_succ]
          refine wpAnyH_take (i := 23) (v := undef) rfl (by kernel_rfl) (by kernel_rfl) (by kernel_rfl) (fun _ _ _ h => h) (Or.inr ⟨by rfl, rfl⟩) (by assumption) ?_
          simp only [List.getElem_toArray, List.getElem_cons_succ, List.getElem_cons_zero, Act.put, List.setIfInBounds_toArray, List.set_cons_zero, List.set_cons_succ]
          refine wpAnyH_take (i := 24) (v := undef) rfl (by kernel_rfl) (by kernel_rfl) (by kernel_rfl) (fun _ _ _ h => h) (Or.inr ⟨by rfl, rfl⟩) (by assumption) ?_
          simp only [List.getElem_toArray, List.getElem_cons_succ, List.getElem_cons_zero, Act.put, List.setIfInBounds_toArray, List.set_cons_zero, List.set_cons_succ]
          refine wpAnyH_take (i := 25) (v := undef) rfl (by kernel_rfl) (by kernel_rfl) (by kernel_rfl) (fun _ _ _ h => h) (Or.inr ⟨by rfl, rfl⟩) (by assumption) ?_
          simp only [List.getElem_toArray, List.getElem_cons_succ, List.getElem_cons_zero, Act.put, List.setIfInBounds_toArray, List.set_cons_zero, List.set_cons_succ]
          refine wpAnyH_take (i := 26) (v := ?_) rfl (by kernel_rfl) (by kernel_rfl) (by kernel_rfl) (fun _ _ _ h => h) (Or.inl ⟨by rfl, ?_⟩) (by assumption) ?_
          rotate_left
          · intro wq hSw; (try dsimp only at hSw); go_simp; (try with_reducible rfl)
          simp only [List.getElem_toArray, List.getElem_cons_succ, List.getElem_cons_zero, Act.put, List.setIfInBounds_toArray, List.set_cons_zero, List.set_cons_succ]
          refine wpAnyH_done (by kernel_rfl) ?_ _
          go_wp2_with fail
          go_ret
          exact ⟨ret_bool HBad.out.symm, box_gb HG3.out⟩
        | true =>
          have CL := Lib.hid (fun w => specLeadsV W H x true hld w)
          cases k with
          | zero =>
            have HNx := Lib.hid (goodTo_succ HGo.out (goodAt_first hx hld))
            clear hx hld
            rw [Nat.add_zero] at hc
            go_wp2_with fail
            refine wp_region_held_drew (S := (fun w' => w'.cell? ⟨w.heap.size, 0, none⟩ = some (.int .i64 W) ∧ w'.cell? ⟨w.heap.size, 1, none⟩ = some (.int .i64 H) ∧ w'.cell? ⟨w.heap.size, 2, none⟩ = some (.slice (some ⟨b, off, none⟩) n cap) ∧ w'.cell? ⟨b, off, none⟩ = some (.int .i64 x))) (by kernel_rfl) (⟨a0, a1, a2, hc⟩) (fun hHeld => ?_)
            refine wpAnyH_take (i := 0) (v := ?_) rfl (by kernel_rfl) (by kernel_rfl) (by kernel_rfl) (fun _ _ _ h => h) (Or.inl ⟨by rfl, ?_⟩) (by assumption) ?_
            rotate_left
            · intro wq hSw; (try dsimp only at hSw); go_simp; (try with_reducible rfl)
            simp only [List.getElem_toArray, List.getElem_cons_succ, List.getElem_cons_zero, Act.put, List.setIfInBounds_toArray, List.set_cons_zero, List.set_cons_succ]
            refine wpAnyH_take (i := 1) (v := ?_) rfl (by kernel_rfl) (by kernel_rfl) (by kernel_rfl) (fun _ _ _ h => h) (Or.inl ⟨by rfl, ?_⟩) (by assumption) ?_
            rotate_left
            · intro wq hSw; (try dsimp only at hSw); go_simp; (try with_reducible rfl)
            simp only [List.getElem_toArray, List.getElem_cons_succ, List.getElem_cons_zero, Act.put, List.setIfInBounds_toArray, List.set_cons_zero, List.set_cons_succ]
            refine wpAnyH_take (i := 2) (v := ?_) rfl (by kernel_rfl) (by kernel_rfl) (by kernel_rfl) (fun _ _ _ h => h) (Or.inl ⟨by rfl, ?_⟩) (by assumption) ?_
            rotate_left
            · intro wq hSw; (try dsimp only at hSw); go_simp; (try with_reducible rfl)
            simp only [List.getElem_toArray, List.getElem_cons_succ, List.getElem_cons_zero, Act.put, List.setIfInBounds_toArray, List.set_cons_zero, List.set_cons_succ]
            refine wpAnyH_take (i := 3) (v := ?_) rfl (by kernel_rfl) (by kernel_rfl) (by kernel_rfl) (fun _ _ _ h => h) (Or.inl ⟨by rfl, ?_⟩) (by assumption) ?_
            rotate_left
            · intro wq hSw; (try dsimp only at hSw); go_simp; (try with_reducible rfl)
            simp only [List.getElem_toArray, List.getElem_cons_succ, List.getElem_cons_zero, Act.put, List.setIfInBounds_toArray, List.set_cons_zero, List.set_cons_succ]
            refine wpAnyH_take (i := 4) (v := ?_) rfl (by kernel_rfl) (by kernel_rfl) (by kernel_rfl) (fun _ _ _ h => h) (Or.inl ⟨by rfl, ?_⟩) (by assumption) ?_
            rotate_left
            · intro wq hSw; (try dsimp only at hSw); go_simp; (try with_reducible rfl)
            simp only [List.getElem_toArray, List.getElem_cons_succ, List.getElem_cons_zero, Act.put, List.setIfInBounds_toArray, List.set_cons_zero, List.set_cons_succ]
            refine wpAnyH_take (i := 5) (v := ?_) rfl (by kernel_rfl) (by kernel_rfl) (by kernel_rfl) (fun _ _ _ h => h) (Or.inl ⟨by rfl, ?_⟩) (by assumption) ?_
            rotate_left
            · intro wq hSw; (try dsimp only at hSw); go_simp; (try with_reducible rfl)
            simp only [List.getElem_toArray, List.getElem_cons_succ, List.getElem_cons_zero, Act.put, List.setIfInBounds_toArray, List.set_cons_zero, List.set_cons_succ]
            refine wpAnyH_take (i := 6) (v := ?_) rfl (by kernel_rfl) (by kernel_rfl) (by kernel_rfl) (fun _ _ _ h => h) (Or.inl ⟨by rfl, ?_⟩) (by assumption) ?_
            rotate_left
            · intro wq hSw; (try dsimp only at hSw); go_simp; (try with_reducible rfl)
            simp only [List.getElem_toArray, List.getElem_cons_succ, List.getElem_cons_zero, Act.put, List.setIfInBounds_toArray, List.set_cons_zero, List.set_cons_succ]
            refine wpAnyH_ready (rs := [7]) (by kernel_rfl) (by simp) ?_
            refine AllReadyH.cons rfl (fun K hK => ?_) AllReadyH.nil
            go_simp
            (with_reducible refine (CL.out _).mono ?_); rintro e w2 ⟨rfl, hg2⟩; have hg3 := gb_trans HG.out (gb_undraw hg2); have kk := box_blk hg3; have d0 : w2.cell? ⟨w.heap.size, 0, none⟩ = some (.int .i64 W) := kk.cell 0; have d1 : w2.cell? ⟨w.heap.size, 1, none⟩ = some (.int .i64 H) := kk.cell 1; have d2 : w2.cell? ⟨w.heap.size, 2, none⟩ = some (.slice (some ⟨b, off, none⟩) n cap) := kk.cell 2; have dc := (hg2.cell hc (by simp)); have HG3 := Lib.hid hg3; clear hg2 hg3 kk
            try go_wp2_with fail
            refine hK.out _ _ (⟨d0, d1, d2, dc⟩) (fun hHeld => ?_)
            clear hK K
            try simp only [List.getElem_toArray, List.getElem_cons_succ, List.getElem_cons_zero, Act.put, List.setIfInBounds_toArray, List.set_cons_zero, List.set_cons_succ]
            refine wpAnyH_take (i := 8) (v := ?_) rfl (by kernel_rfl) (by kernel_rfl) (by kernel_rfl) (fun _ _ _ h => h) (Or.inl ⟨by rfl, ?_⟩) (by assumption) ?_
            rotate_left
            · intro wq hSw; (try dsimp only at hSw); go_simp; (try with_reducible rfl)
            simp only [List.getElem_toArray, List.getElem_cons_succ, List.getElem_cons_zero, Act.put, List.setIfInBounds_toArray, List.set_cons_zero, List.set_cons_succ]
            refine wpAnyH_take (i := 9) (v := ?_) rfl (by kernel_rfl) (by kernel_rfl) (by kernel_rfl) (fun _ _ _ h => h) (Or.inl ⟨by rfl, ?_⟩) (by assumption) ?_
            rotate_left
            · intro wq hSw; (try dsimp only at hSw); go_simp; (try with_reducible rfl)
            simp only [List.getElem_toArray, List.getElem_cons_succ, List.getElem_cons_zero, Act.put, List.setIfInBounds_toArray, List.set_cons_zero, List.set_cons_succ]
            refine wpAnyH_take (i := 10) (v := ?_) rfl (by kernel_rfl) (by kernel_rfl) (by kernel_rfl) (fun _ _ _ h => h) (Or.inl ⟨by rfl, ?_⟩) (by assumption) ?_
            rotate_left
            · intro wq hSw; (try dsimp only at hSw); go_simp; (try with_reducible rfl)
            simp only [List.getElem_toArray, List.getElem_cons_succ, List.getElem_cons_zero, Act.put, List.setIfInBounds_toArray, List.set_cons_zero, List.set_cons_succ]
            refine wpAnyH_take (i := 11) (v := ?_) rfl (by kernel_rfl) (by kernel_rfl) (by kernel_rfl) (fun _ _ _ h => h) (Or.inl ⟨by rfl, ?_⟩) (by assumption) ?_
            rotate_left
            · intro wq hSw; (try dsimp only at hSw); go_simp; (try with_reducible rfl)
            simp only [List.getElem_toArray, List.getElem_cons_succ, List.getElem_cons_zero, Act.put, List.setIfInBounds_toArray, List.set_cons_zero, List.set_cons_succ]
            refine wpAnyH_take (i := 12) (v := ?_) rfl (by kernel_rfl) (by kernel_rfl) (by kernel_rfl) (fun _ _ _ h => h) (Or.inl ⟨by rfl, ?_⟩) (by assumption) ?_
            rotate_left
            · intro wq hSw; (try dsimp only at hSw); go_simp; (try with_reducible rfl)
            simp only [List.getElem_toArray, List.getElem_cons_succ, List.getElem_cons_zero, Act.put, List.setIfInBounds_toArray, List.set_cons_zero, List.set_cons_succ]
            refine wpAnyH_take (i := 13) (v := undef) rfl (by kernel_rfl) (by kernel_rfl) (by kernel_rfl) (fun _ _ _ h => h) (Or.inr ⟨by rfl, rfl⟩) (by assumption) ?_
            simp only [List.getElem_toArray, List.getElem_cons_succ, List.getElem_cons_zero, Act.put, List.setIfInBounds_toArray, List.set_cons_zero, List.set_cons_succ]
            refine wpAnyH_take (i := 14) (v := undef) rfl (by kernel_rfl) (by kernel_rfl) (by kernel_rfl) (fun _ _ _ h => h) (Or.inr ⟨by rfl, rfl⟩) (by assumption) ?_
            simp only [List.getElem_toArray, List.getElem_cons_succ, List.getElem_cons_zero, Act.put, List.setIfInBounds_toArray, List.set_cons_zero, List.set_cons_succ]
            refine wpAnyH_take (i := 15) (v := undef) rfl (by kernel_rfl) (by kernel_rfl) (by kernel_rfl) (fun _ _ _ h => h) (Or.inr ⟨by rfl, rfl⟩) (by assumption) ?_
            simp only [List.getElem_toArray, List.getElem_cons_succ, List.getElem_cons_zero, Act.put, List.setIfInBounds_toArray, List.set_cons_zero, List.set_cons_succ]
            refine wpAnyH_take (i := 16) (v := undef) rfl (by kernel_rfl) (by kernel_rfl) (by kernel_rfl) (fun _ _ _ h => h) (Or.inr ⟨by rfl, rfl⟩) (by assumption) ?_
            simp only [List.getElem_toArray, List.getElem_cons_succ, List.getElem_cons_zero, Act.put, List.setIfInBounds_toArray, List.set_cons_zero, List.set_cons_succ]
            refine wpAnyH_take (i := 17) (v := undef) rfl (by kernel_rfl) (by kernel_rfl) (by kernel_rfl) (fun _ _ _ h => h) (Or.inr ⟨by rfl, rfl⟩) (by assumption) ?_
            simp only [List.getElem_toArray, List.getElem_cons_succ, List.getElem_cons_zero, Act.put, List.setIfInBounds_toArray, List.set_cons_zero, List.set_cons_succ]
            refine wpAnyH_take (i := 18) (v := undef) rfl (by kernel_rfl) (by kernel_rfl) (by kernel_rfl) (fun _ _ _ h => h) (Or.inr ⟨by rfl, rfl⟩) (by assumption) ?_
            simp only [List.getElem_toArray, List.getElem_cons_succ, List.getElem_cons_zero, Act.put, List.setIfInBounds_toArray, List.set_cons_zero, List.set_cons_succ]
            refine wpAnyH_take (i := 19) (v := undef) rfl (by kernel_rfl) (by kernel_rfl) (by kernel_rfl) (fun _ _ _ h => h) (Or.inr ⟨by rfl, rfl⟩) (by assumption) ?_
            simp only [List.getElem_toArray, List.getElem_cons_succ, List.getElem_cons_zero, Act.put, List.setIfInBounds_toArray, List.set_cons_zero, List.set_cons_succ]
            refine wpAnyH_take (i := 20) (v := undef) rfl (by kernel_rfl) (by kernel_rfl) (by kernel_rfl) (fun _ _ _ h => h) (Or.inr ⟨by rfl, rfl⟩) (by assumption) ?_
            simp only [List.getElem_toArray, List.getElem_cons_succ, List.getElem_cons_zero, Act.put, List.setIfInBounds_toArray, List.set_cons_zero, List.set_cons_succ]
            refine wpAnyH_take (i := 21) (v := undef) rfl (by kernel_rfl) (by kernel_rfl) (by kernel_rfl) (fun _ _ _ h => h) (Or.inr ⟨by rfl, rfl⟩) (by assumption) ?_
            simp only [List.getElem_toArray, List.getElem_cons_succ, List.getElem_cons_zero, Act.put, List.setIfInBounds_toArray, List.set_cons_zero, List.set_cons_succ]
            refine wpAnyH_take (i := 22) (v := undef) rfl (by kernel_rfl) (by kernel_rfl) (by kernel_rfl) (fun _ _ _ h => h) (Or.inr ⟨by rfl, rfl⟩) (by assumption) ?_
            simp only [List.getElem_toArray, List.getElem_cons_succ, List.getElem_cons_zero, Act.put, List.setIfInBounds_toArray, List.set_cons_zero, List.set_cons_succ]
            refine wpAnyH_take (i := 23) (v := undef) rfl (by kernel_rfl) (by kernel_rfl) (by kernel_rfl) (fun _ _ _ h => h) (Or.inr ⟨by rfl, rfl⟩) (by assumption) ?_
            simp only [List.getElem_toArray, List.getElem_cons_succ, List.getElem_cons_zero, Act.put, List.setIfInBounds_toArray, List.set_cons_zero, List.set_cons_succ]
            refine wpAnyH_take (i := 24) (v := undef) rfl (by kernel_rfl) (by kernel_rfl) (by kernel_rfl) (fun _ _ _ h => h) (Or.inr ⟨by rfl, rfl⟩) (by assumption) ?_
            simp only [List.getElem_toArray, List.getElem_cons_succ, List.getElem_cons_zero, Act.put, List.setIfInBounds_toArray, List.set_cons_zero, List.set_cons_succ]
            refine wpAnyH_take (i := 25) (v := ?_) rfl (by kernel_rfl) (by kernel_rfl) (by kernel_rfl) (fun _ _ _ h => h) (Or.inl ⟨by rfl, ?_⟩) (by assumption) ?_
            rotate_left
            · intro wq hSw; (try dsimp only at hSw); go_simp; (try with_reducible rfl)
            simp only [List.getElem_toArray, List.getElem_cons_succ, List.getElem_cons_zero, Act.put, List.setIfInBounds_toArray, List.set_cons_zero, List.set_cons_succ]
            refine wpAnyH_take (i := 26) (v := ?_) rfl (by kernel_rfl) (by kernel_rfl) (by kernel_rfl) (fun _ _ _ h => h) (Or.inl ⟨by rfl, ?_⟩) (by assumption) ?_
            rotate_left
            · intro wq hSw; (try dsimp only at hSw); go_simp; (try with_reducible rfl)
            simp only [List.getElem_toArray, List.getElem_cons_succ, List.getElem_cons_zero, Act.put, List.setIfInBounds_toArray, List.set_cons_zero, List.set_cons_succ]
            refine wpAnyH_done (by kernel_rfl) ?_ _
            go_wp2_with fail
            go_roundw
            case rel => exact ⟨1, by go_num, by omega, HNx.out, HG3.out⟩
            case measure => simp [intOf] <;> omega
          | succ j =>
            obtain ⟨b', off', hbe, _, hc2⟩ := HIA.out.at j (by omega)
            obtain ⟨rfl, rfl⟩ : b = b' ∧ off = off' := by injection hbe with h1; injection h1 with h2 h3; exact ⟨h2, h3⟩
            obtain ⟨y, hy⟩ : ∃ y, L.getD j 0 = y := ⟨_, rfl⟩
            rw [hy] at hc2
            have hga := goodAt_next hx hy hld
            have e1 : IntKind.i64.wrap ((j : Int) + 1 - 1) = (j : Int) := by rw [Int.add_sub_cancel]; exact IntWalk.i64_in _ (by omega)
            have e2 : IntKind.i64.wrap (((j + 1 : Nat) : Int) - 1) = (j : Int) := by rw [IntWalk.i64_in _ (by omega)]; omega
            have e3 : IntKind.i64.wrap (j : Int) = (j : Int) := IntWalk.i64_in _ (by omega)
            have j0 : (0 : Int) ≤ (j : Int) := by omega
            have j1 : (j : Int) < (n : Int) := by omega
            have j2 : (0 : Int) ≤ (j : Int) + 1 := by omega
            have j3 : (j : Int) + 1 < (n : Int) := by omega
            have j4 : ((j : Int) + 1).toNat = j + 1 := by omega
            by_cases hyx : y < x
            · have hle : decide (x ≤ y) = false := decide_eq_false (by omega)
              have hgd : goodAt W H L (j + 1) = true := by rw [hga]; exact decide_eq_true hyx
              have HNx := Lib.hid (goodTo_succ HGo.out hgd)
              clear hx hy hld hbe hga hgd hyx
              go_wp2_with fail
              first
              | go_region_held3 (fun w' => w'.cell? ⟨w.heap.size, 0, none⟩ = some (.int .i64 W) ∧ w'.cell? ⟨w.heap.size, 1, none⟩ = some (.int .i64 H) ∧ w'.cell? ⟨w.heap.size, 2, none⟩ = some (.slice (some ⟨b, off, none⟩) n cap) ∧ w'.cell? ⟨b, off + (j + 1), none⟩ = some (.int .i64 x) ∧ w'.cell? ⟨b, off + j, none⟩ = some (.int .i64 y))
                  (first | exact ⟨a0, a1, a2, hc, hc2⟩ | exact ⟨d0, d1, d2, dc, dc2⟩)
                  (first | (go_at_call 91; (with_reducible refine (CL.out _).mono ?_); rintro e w2 ⟨rfl, hg2⟩; have hg3 := gb_trans HG.out (gb_undraw hg2); have kk := box_blk hg3; have d0 : w2.cell? ⟨w.heap.size, 0, none⟩ = some (.int .i64 W) := kk.cell 0; have d1 : w2.cell? ⟨w.heap.size, 1, none⟩ = some (.int .i64 H) := kk.cell 1; have d2 : w2.cell? ⟨w.heap.size, 2, none⟩ = some (.slice (some ⟨b, off, none⟩) n cap) := kk.cell 2; have dc := (hg2.cell hc (by simp)); have dc2 := (hg2.cell hc2 (by simp)); have HG3 := Lib.hid hg3; clear hg2 hg3 kk) | fail)
              | fail "held"
              all_goals
                go_wp2_with fail
                go_roundw
                case rel => exact ⟨j + 2, by go_num, by omega, HNx.out, HG3.out⟩
                case measure => simp [intOf] <;> omega
            · have hle : decide (x ≤ y) = true := decide_eq_true (by omega)
              have hgd : goodAt W H L (j + 1) = false := by rw [hga]; exact decide_eq_false hyx
              have HBad := Lib.hid (meshG_no (i := j + 1) (by omega) hgd)
              clear hx hy hld hbe hga hgd hyx
              go_wp2_with fail
              first
              | go_region_held3 (fun w' => w'.cell? ⟨w.heap.size, 0, none⟩ = some (.int .i64 W) ∧ w'.cell? ⟨w.heap.size, 1, none⟩ = some (.int .i64 H) ∧ w'.cell? ⟨w.heap.size, 2, none⟩ = some (.slice (some ⟨b, off, none⟩) n cap) ∧ w'.cell? ⟨b, off + (j + 1), none⟩ = some (.int .i64 x) ∧ w'.cell? ⟨b, off + j, none⟩ = some (.int .i64 y))
                  (first | exact ⟨a0, a1, a2, hc, hc2⟩ | exact ⟨d0, d1, d2, dc, dc2⟩)
                  (first | (go_at_call 91; (with_reducible refine (CL.out _).mono ?_); rintro e w2 ⟨rfl, hg2⟩; have hg3 := gb_trans HG.out (gb_undraw hg2); have kk := box_blk hg3; have d0 : w2.cell? ⟨w.heap.size, 0, none⟩ = some (.int .i64 W) := kk.cell 0; have d1 : w2.cell? ⟨w.heap.size, 1, none⟩ = some (.int .i64 H) := kk.cell 1; have d2 : w2.cell? ⟨w.heap.size, 2, none⟩ = some (.slice (some ⟨b, off, none⟩) n cap) := kk.cell 2; have dc := (hg2.cell hc (by simp)); have dc2 := (hg2.cell hc2 (by simp)); have HG3 := Lib.hid hg3; clear hg2 hg3 kk) | fail)
              | fail "held"
              all_goals
                go_wp2_with fail
                go_ret
                exact ⟨ret_bool HBad.out.symm, box_gb HG3.out⟩
      · obtain rfl : k = n := by omega
        clear hia
        go_wp2_with fail
        go_ret
        exact ⟨ret_bool (meshG_yes hok (by rw [hl]; exact HGo.out)).symm, box_gb HG.out⟩
end Go.Proofs.YtidilfakganooaaDoor
end

section
namespace Go.Proofs.YtidilfakganooaaDoor
open Go.ChangeShapes Go.WideShapes Go.ChangeAt Go.RowKit
set_option linter.unusedVariables false

theorem specMeshOkV (W H : Int) (A : Option Addr) (n cap : Nat) (L : List Int) (b : Bool) (hb : meshG W H L = b) (w : World) (h : IntAt w w.heap.size A n L) (hn : n ≤ 1000000000) :
    Calls Tryd.prog 72 #[.agg #[.int .i64 W, .int .i64 H, .slice A n cap]] w (RetB b w) := hb ▸ specMeshOk W H A n cap L w h hn

theorem specHasCh (W H : Int) (A : Option Addr) (n cap : Nat) (L : List Int) (c : Int) (w : World) (h : IntAt w w.heap.size A n L) (hn : n ≤ 1000000000) :
    Calls Tryd.prog 75 #[.agg #[.int .i64 W, .int .i64 H, .slice A n cap], .int .i64 c] w (RetB (hasChG W H L c) w) := by
  have HI := Lib.hid h
  clear h
  cases hld : leadsG W H c with
  | false =>
    go_enter Tryd.func75, Tryd.ntmps75
    go_wp2_with fail
    refine (specLeadsV W H c false hld _).mono ?_
    rintro e w1 ⟨rfl, hg⟩
    have Hg := Lib.hid (box_gb hg)
    clear hg
    go_wp2_with fail
    go_ret
    exact ⟨ret_bool (by simp [hasChG, hld]), Hg.out⟩
  | true =>
    obtain ⟨b, hb⟩ : ∃ b, inG L c = b := ⟨_, rfl⟩
    have hr : hasChG W H L c = !b := by simp [hasChG, hld, hb]
    have HR := Lib.hid hr
    clear hr
    go_enter Tryd.func75, Tryd.ntmps75
    go_wp2_with fail
    refine (specLeadsV W H c true hld _).mono ?_
    rintro e w1 ⟨rfl, hg⟩
    have hbk := box_blk hg
    have a2 := hbk.cell 2
    simp at a2
    have hi := HI.out.none (Nat.le_refl _) (box_gb hg)
    have Hg := Lib.hid (box_gb hg)
    clear hg hbk
    go_wp2_with fail
    refine (specFindV A n cap w.heap.size L c b hb _ hi hn).mono ?_
    rintro e w2 ⟨rfl, rfl⟩
    clear hi
    go_wp2_with fail
    go_ret
    exact ⟨ret_bool (by rw [HR.out]), Hg.out⟩

theorem specHasChV (W H : Int) (A : Option Addr) (n cap : Nat) (L : List Int) (c : Int) (b : Bool) (hb : hasChG W H L c = b) (w : World) (h : IntAt w w.heap.size A n L) (hn : n ≤ 1000000000) :
    Calls Tryd.prog 75 #[.agg #[.int .i64 W, .int .i64 H, .slice A n cap], .int .i64 c] w (RetB b w) := hb ▸ specHasCh W H A n cap L c w h hn
end Go.Proofs.YtidilfakganooaaDoor
end

section
namespace Go.Proofs.YtidilfakganooaaDoor
open Go.ChangeShapes Go.WideShapes Go.ChangeAt Go.RowKit
set_option linter.unusedVariables false

theorem specSized (W H : Int) (A A2 : Option Addr) (n cap n2 c2 : Nat) (L P : List Int) (b : Bool) (hb : sizedG W H L P = b) (w : World) (h : IntAt w w.heap.size A n L) (hn : n ≤ 1000000000) (hp : P.length = n2) (hn2 : n2 ≤ 1000000000) :
    Calls Tryd.prog 49 #[.agg #[.int .i64 W, .int .i64 H, .slice A n cap], .agg #[.slice A2 n2 c2]] w (RetB b w) := by
  have HI := Lib.hid h
  clear h
  obtain ⟨k, hk⟩ : ∃ k, countG W H = k := ⟨_, rfl⟩
  obtain ⟨hk0, hk1⟩ := countG_le W H
  rw [hk] at hk0 hk1
  obtain ⟨m0, m1⟩ := sq_bounds hk0 hk1
  have hsz : sizedG W H L P = (meshG W H L && decide ((n2 : Int) = k * k)) := by rw [sizedG, hk, hp]
  have hw : wrap64 (k * k) = k * k := IntWalk.wrap64_in _ (by omega)
  have HN := Lib.hid (fun w => specNodeCountV W H k hk w)
  rw [hb] at hsz
  clear hk hk0 hk1 m0 m1 hp hb
  cases hm : meshG W H L with
  | false =>
    have HM := Lib.hid (fun w h => specMeshOkV W H A n cap L false hm w h hn)
    have hf : b = false := by rw [hsz, hm]; rfl
    have HF := Lib.hid hf
    clear hm hf hsz hw
    go_enter Tryd.func49, Tryd.ntmps49
    go_wp2_with fail
    refine (HN.out _).mono ?_
    rintro e w1 ⟨rfl, hg⟩
    obtain ⟨k1, k2, g1⟩ := box2 hg
    have a0 : w1.cell? ⟨w.heap.size, 0, none⟩ = some (.int .i64 W) := k1.cell 0
    have a1 : w1.cell? ⟨w.heap.size, 1, none⟩ = some (.int .i64 H) := k1.cell 1
    have a2 : w1.cell? ⟨w.heap.size, 2, none⟩ = some (.slice A n cap) := k1.cell 2
    have hi := (HI.out.none (Nat.le_refl _) g1).more (B' := w1.heap.size) g1.size
    have G1 := Lib.hid g1
    clear hg k1 k2 g1
    go_wp2_with fail
    refine (HM.out _ hi).mono ?_
    rintro e w2 ⟨rfl, hg2⟩
    have G2 := Lib.hid (gb_trans G1.out hg2)
    clear hg2 hi
    go_wp2_with fail
    go_ret
    exact ⟨ret_bool HF.out.symm, G2.out⟩
  | true =>
    have HM := Lib.hid (fun w h => specMeshOkV W H A n cap L true hm w h hn)
    have hf : b = decide ((n2 : Int) = k * k) := by rw [hsz, hm]; rfl
    have HF := Lib.hid hf
    have HW := Lib.hid hw
    clear hm hf hsz hw
    go_enter Tryd.func49, Tryd.ntmps49
    go_wp2_with fail
    refine (HN.out _).mono ?_
    rintro e w1 ⟨rfl, hg⟩
    obtain ⟨k1, k2, g1⟩ := box2 hg
    have a0 : w1.cell? ⟨w.heap.size, 0, none⟩ = some (.int .i64 W) := k1.cell 0
    have a1 : w1.cell? ⟨w.heap.size, 1, none⟩ = some (.int .i64 H) := k1.cell 1
    have a2 : w1.cell? ⟨w.heap.size, 2, none⟩ = some (.slice A n cap) := k1.cell 2
    have hi := (HI.out.none (Nat.le_refl _) g1).more (B' := w1.heap.size) g1.size
    have G1 := Lib.hid g1
    have K2 := Lib.hid k2
    clear hg k1 k2 g1
    go_wp2_with fail
    refine (HM.out _ hi).mono ?_
    rintro e w2 ⟨rfl, hg2⟩
    have b0 : w2.cell? ⟨w.heap.size + 1, 0, none⟩ = some (.slice A2 n2 c2) := (K2.out.grown hg2 (by simp)).cell 0
    have G2 := Lib.hid (gb_trans G1.out hg2)
    clear hg2 hi a0 a1 a2
    go_wp2_with fail
    go_ret
    exact ⟨ret_bool (by rw [HF.out]; simp only [HW.out]; rfl), G2.out⟩
end Go.Proofs.YtidilfakganooaaDoor
end

section
namespace Go.Proofs.YtidilfakganooaaDoor
open Go.ChangeShapes Go.WideShapes Go.ChangeAt Go.RowKit
set_option linter.unusedVariables false
set_option maxRecDepth 20000

/-- A mesh and a table as blocks. -/
def twoB (W H : Int) (A A2 : Option Addr) (n cap n2 c2 : Nat) (w : World) : World := (w.alloc (.cells (meshC W H A n cap) 37)).alloc (.cells #[.slice A2 n2 c2] 30)
section
variable {W H : Int} {A A2 : Option Addr} {n cap n2 c2 : Nat} {w wr : World}
theorem twoB_size : (twoB W H A A2 n cap n2 c2 w).heap.size = w.heap.size + 2 := by unfold twoB; rw [alloc_size, alloc_size]
theorem twoB_below : Below w.heap.size w (twoB W H A A2 n cap n2 c2 w) := ((Below.refl _ _).alloc (Nat.le_refl _) _).alloc (by rw [alloc_size]; omega) _
theorem twoB_mesh (h : Below (w.heap.size + 2) (twoB W H A A2 n cap n2 c2 w) wr) : Blk wr w.heap.size 37 (meshC W H A n cap) :=
  ((Blk.new w 37 (meshC W H A n cap)).alloc _).below h (by omega)
theorem twoB_table (h : Below (w.heap.size + 2) (twoB W H A A2 n cap n2 c2 w) wr) : Blk wr (w.heap.size + 1) 30 #[.slice A2 n2 c2] := by
  have := Blk.new (w.alloc (.cells (meshC W H A n cap) 37)) 30 #[.slice A2 n2 c2]
  rw [alloc_size] at this
  exact this.below h (by omega)
theorem twoB_old (h : Below (w.heap.size + 2) (twoB W H A A2 n cap n2 c2 w) wr) : Below w.heap.size w wr :=
  twoB_below.trans (h.mono (by omega))
theorem twoB_le (h : Below (w.heap.size + 2) (twoB W H A A2 n cap n2 c2 w) wr) : w.heap.size + 2 ≤ wr.heap.size := by have := h.size; rw [twoB_size] at this; exact this
end
theorem new_nil {w wr : World} (h : Below w.heap.size w wr) : (wr.alloc (.cells #[] 3)).ownsRow w.heap.size 3 1 (.slice (some ⟨wr.heap.size, 0, none⟩) 0 0) 0 [] ∧ Below w.heap.size w (wr.alloc (.cells #[] 3)) :=
  ⟨World.ownsRow_made (base := w.heap.size) (e := 3) (size := 1) wr #[] 0 h.size (by decide) rfl, h.alloc h.size _⟩

def lenV : Value → Nat | .slice _ n _ => n | _ => 0
def WalkAt (W H : Int) (A A2 : Option Addr) (n cap n2 c2 : Nat) (w : World) (acc : List Int) (v : Value) (wr : World) : Prop :=
  wr.ownsRow (w.heap.size + 2) 3 1 v acc.length (intsV acc) ∧ Below (w.heap.size + 2) (twoB W H A A2 n cap n2 c2 w) wr

theorem WalkAt.app {W H : Int} {A A2 : Option Addr} {n cap n2 c2 : Nat} {w w3 w4 : World} {acc : List Int} {x : Int} {v v' : Value} {o : Obj} (hb : Below (w.heap.size + 2) (twoB W H A A2 n cap n2 c2 w) w3) (ho : w3.ownsRow (w.heap.size + 2) 3 1 v acc.length (intsV acc))
    (hown4 : w4.ownsRow (w.heap.size + 2) 3 1 v' (acc.length + 1) (intsV acc ++ [.int .i64 x])) (hg : (w3.alloc o).grownBy w4 v.ownBlock) :
    WalkAt W H A A2 n cap n2 c2 w (acc ++ [x]) v' w4 ∧ lenV v' = acc.length + 1 ∧ w4.cell? ⟨w.heap.size, 0, none⟩ = some (.int .i64 W) ∧ w4.cell? ⟨w.heap.size, 1, none⟩ = some (.int .i64 H) := by
  have hX : WalkAt W H A A2 n cap n2 c2 w (acc ++ [x]) v' w4 :=
    ⟨by rw [List.length_append, intsV_append]; exact hown4, (hb.alloc (twoB_le hb) _).grown hg (by have := twoB_le hb; simp; omega) (fun j hj => (ho.lt j hj).1)⟩
  refine ⟨hX, ?_, (twoB_mesh hX.2).cell 0, (twoB_mesh hX.2).cell 1⟩
  obtain ⟨A', c', rfl, _⟩ := own_form hX.1
  simp [lenV]

set_option maxHeartbeats 1600000 in
theorem specWalk (W H : Int) (A A2 : Option Addr) (n cap n2 c2 : Nat) (L P : List Int) (a z : Int) (w : World) (h : IntAt w w.heap.size A n L) (h2 : IntAt w w.heap.size A2 n2 P) (hn : n ≤ 1000000000) (hn2 : n2 ≤ 1000000000)
    (hs : sizedG W H L P = true) (ha : hasG W H a = true) (hz : hasG W H z = true) :
    Calls Tryd.prog 51 #[.agg #[.int .i64 W, .int .i64 H, .slice A n cap], .agg #[.slice A2 n2 c2], .int .i64 a, .int .i64 z] w (NewI (walkOf W H L P a z) w) := by
  obtain ⟨i0, hi, hz0, hz1, hz2⟩ := info_parts info_int
  have hp := h2.1
  have HI := Lib.hid h
  have HP := Lib.hid h2
  clear h h2
  obtain ⟨k, hk⟩ : ∃ k, countG W H = k := ⟨_, rfl⟩
  obtain ⟨hk0, hk1⟩ := countG_le W H
  rw [hk] at hk0 hk1
  have hsq := (sizedG_mesh hs).2
  rw [hp, hk] at hsq
  have HSQ := Lib.hid hsq
  have HN := Lib.hid (fun w => specNodeCountV W H k hk w)
  have HK := Lib.hid hk
  have hzz := hasG_iff.1 hz
  rw [hk] at hzz
  have HZ := Lib.hid hzz
  have HA := Lib.hid ha
  have HRS := Lib.hid (show walkOf W H L P a z = restG W H L P z [] (k.toNat + 1) a by rw [← hk]; exact (rest_start a z).symm)
  obtain ⟨res, hres⟩ : ∃ res, walkOf W H L P a z = res := ⟨_, rfl⟩
  rw [hres] at HRS ⊢
  have hown0 : ((twoB W H A A2 n cap n2 c2 w).alloc (.cells #[] 3)).ownsRow (w.heap.size + 2) 3 1 (.slice (some ⟨w.heap.size + 2, 0, none⟩) 0 0) 0 [] := by
    have := World.ownsRow_made (base := w.heap.size + 2) (e := 3) (size := 1) (twoB W H A A2 n cap n2 c2 w) #[] 0 (by rw [twoB_size]; exact Nat.le_refl _) (by decide) rfl
    rwa [twoB_size] at this
  have HO0 := Lib.hid hown0
  have HB0 := Lib.hid (show Below (w.heap.size + 2) (twoB W H A A2 n cap n2 c2 w) ((twoB W H A A2 n cap n2 c2 w).alloc (.cells #[] 3)) from (Below.refl _ _).alloc (by rw [twoB_size]; exact Nat.le_refl _) _)
  clear hk hs ha hz hsq hzz hres hown0 hp
  go_enter Tryd.func51, Tryd.ntmps51
  go_wp2_with fail
  refine (HN.out _).mono ?_
  rintro e w1 ⟨rfl, hg⟩
  have HX := Lib.hid (show WalkAt W H A A2 n cap n2 c2 w [] (.slice (some ⟨w.heap.size + 2, 0, none⟩) 0 0) w1 from
    ⟨own_none HO0.out hg, below_gb HB0.out (by rw [twoB_size]; exact Nat.le_refl _) hg⟩)
  clear hg
  go_wp2_with fail
  go_loopw [9, 11] (fun v i wr => ∃ (acc : List Int) (x : Int), i = .int .i64 x ∧ (acc.length : Int) ≤ k + 1 ∧ hasG W H x = true ∧ res = restG W H L P z acc (k.toNat + 1 - acc.length) x ∧ WalkAt W H A A2 n cap n2 c2 w acc v wr) (fun v _ _ => 17 - lenV v)
  case atStart => exact ⟨[], a, rfl, by simp; omega, HA.out, HRS.out, HX.out⟩
  case round =>
    obtain ⟨acc, x, rfl, hl, hx, hre, hown, hbel⟩ := hrel
    obtain ⟨Aq, capq, rfl, hAq⟩ := own_form hown
    have HOwn := Lib.hid hown
    have HBel := Lib.hid hbel
    have hl17 : acc.length ≤ 17 := by omega
    have tb := twoB_table hbel
    have b0 : wr.cell? ⟨w.heap.size + 1, 0, none⟩ = some (.slice A2 n2 c2) := tb.cell 0
    have hsw := twoB_le hbel
    have hbo := twoB_old hbel
    have HX := Lib.hid hx
    have HRE := Lib.hid hre
    have HAQ := Lib.hid hAq
    obtain ⟨x0, x1⟩ := hasG_iff.1 hx
    rw [HK.out] at x1
    clear hown hbel tb hx hre hAq
    by_cases hlt : (acc.length : Int) ≤ k
    · obtain ⟨t0, t1⟩ := tab_at HSQ.out x0 x1 HZ.out.1 HZ.out.2
      obtain ⟨j, hj⟩ : ∃ j : Nat, x * k + z = (j : Int) := ⟨(x * k + z).toNat, (Int.toNat_of_nonneg t0).symm⟩
      have hjn : j < n2 := by omega
      have hak := Int.mul_nonneg x0 hk0
      have hz0 := HZ.out.1
      have e1 : wrap64 (x * k) = x * k := IntWalk.wrap64_in _ (by omega)
      have e2 : wrap64 (x * k + z) = (j : Int) := by rw [hj]; exact IntWalk.wrap64_in _ (by omega)
      obtain ⟨b, off, rfl, hbB, hcell⟩ := (HP.out.below hbo).at j hjn
      obtain ⟨p, hpp⟩ : ∃ p, P.getD j 0 = p := ⟨_, rfl⟩
      rw [hpp] at hcell
      have htab : tabG (countG W H) P x z = p := by unfold tabG; rw [HK.out, hj, Int.toNat_natCast]; exact hpp
      obtain ⟨f, hf⟩ : ∃ f, k.toNat + 1 - acc.length = f + 1 := ⟨k.toNat - acc.length, by omega⟩
      have hre := HRE.out
      rw [hf] at hre
      have HF := Lib.hid hf
      have HT := Lib.hid htab
      have HRE2 := Lib.hid hre
      have HHJ := Lib.hid hj
      have x16 : x ≤ 15 := by omega
      have HBO := Lib.hid hbo
      have j0 : (0 : Int) ≤ (j : Int) := by omega
      have j1 : (j : Int) < (n2 : Int) := by omega
      clear hj hpp htab hf hre t0 t1 hak hz0 hbo
      by_cases h4 : p = 4
      · subst h4
        by_cases hxz : x = z
        · have hxb : (x != z) = false := by simpa using hxz
          have HF2 := Lib.hid (HRE2.out.trans (rest_end HT.out hxz))
          clear hxz
          go_wp2_with fail
          go_ret
          refine ⟨_, rfl, ?_, HBO.out⟩
          rw [HF2.out]
          exact own_less HOwn.out (by omega)
        · have hxb : (x != z) = true := by simpa using hxz
          have HF2 := Lib.hid (HRE2.out.trans (rest_lost HT.out hxz))
          clear hxz
          go_wp2_with fail
          go_ret
          obtain ⟨o, b⟩ := new_nil HBO.out
          refine ⟨_, rfl, ?_, b⟩
          rw [HF2.out]
          exact o
      · have h4b : (p == 4) = false := by simpa using h4
        have H4 := Lib.hid h4
        clear h4
        by_cases h03 : 0 ≤ p ∧ p ≤ 3
        · have HIN := Lib.hid (fun w => specInV p 0 3 true (decide_eq_true h03) w)
          obtain ⟨p0, p3⟩ := h03
          have hi2 := (HI.out.below HBO.out).more (B' := wr.heap.size) (by omega)
          have tm := twoB_mesh HBel.out
          have a0 : wr.cell? ⟨w.heap.size, 0, none⟩ = some (.int .i64 W) := tm.cell 0
          have a1 : wr.cell? ⟨w.heap.size, 1, none⟩ = some (.int .i64 H) := tm.cell 1
          have a2 : wr.cell? ⟨w.heap.size, 2, none⟩ = some (.slice A n cap) := tm.cell 2
          have TM := Lib.hid tm
          clear tm
          cases hc : hasChG W H L (4 * x + p) with
          | false =>
            have HC := Lib.hid (fun w h => specHasChV W H A n cap L (4 * x + p) false hc w h hn)
            have HF2 := Lib.hid (HRE2.out.trans (rest_bad HT.out H4.out (by simp [stepsG, hc])))
            clear hc
            go_wp2_with fail
            refine (HIN.out _).mono ?_
            rintro e w2 ⟨rfl, rfl⟩
            go_wp2_with fail
            refine (HC.out _ hi2).mono ?_
            rintro e w3 ⟨rfl, hg3⟩
            have G3 := Lib.hid (gb_below_none hg3 (Nat.le_trans HBO.out.size (Nat.le_refl _)))
            clear hg3 hi2
            go_wp2_with fail
            go_ret
            obtain ⟨o, b⟩ := new_nil (HBO.out.trans G3.out)
            refine ⟨_, rfl, ?_, b⟩
            rw [HF2.out]
            exact o
          | true =>
            have hst : stepsG W H L x p = true := by simp [stepsG, hc, p0, p3]
            have HC := Lib.hid (fun w h => specHasChV W H A n cap L (4 * x + p) true hc w h hn)
            have HF2 := Lib.hid (HRE2.out.trans (rest_go HT.out H4.out hst))
            have HNX := Lib.hid (step_has hst)
            obtain ⟨y, hy⟩ : ∃ y, nextG W H x p = y := ⟨_, rfl⟩
            rw [hy] at HF2 HNX
            have HNN := Lib.hid (fun w => specNextNodeV W H x p y hy w)
            clear hc hst hy
            go_wp2_with fail
            refine (HIN.out _).mono ?_
            rintro e w2 ⟨rfl, rfl⟩
            go_wp2_with fail
            refine (HC.out _ hi2).mono ?_
            rintro e w3 ⟨rfl, hg3⟩
            have G3 := Lib.hid hg3
            have hown1 := own_none HOwn.out hg3
            have hsz1 : w.heap.size + 2 ≤ w3.heap.size := Nat.le_trans hsw hg3.size
            have b3' := Lib.hid (show ∀ u ∈ [Value.int .i64 (4 * x + p)], u.oneCell' = true by simp [Value.oneCell'])
            have b4' := Lib.hid (show acc.length + 1 ≤ maxLen by unfold maxLen; omega)
            clear hg3 hi2 a0 a1 a2 b0
            go_wp2_with (at_builtin; refine wpList_append_own _ rfl _ _ 27 rfl (w.heap.size + 2) 3 i0 (.int .i64 0) 1 8 Tryd.underlying27 hi hz0 hz1 hz2 rfl (by decide) _ acc.length _ rfl (hown1.alloc _) ⟨w3.heap.size, 0, none⟩ 1 1 [.int .i64 (4 * x + p)] rfl rfl (World.news_of_block (cs := #[.int .i64 (4 * x + p)]) (t := 3) (fr := (0, 0)) (heap_alloc_new w3 _)) b3'.out b4'.out (by omega) (by simp; omega) ?_; intro v' w4 hown4 hgrow4 _; obtain ⟨xa, xl, a0, a1⟩ := WalkAt.app (below_gb HBel.out (by rw [twoB_size]; exact Nat.le_refl _) G3.out) hown1 hown4 hgrow4; have HXA := Lib.hid xa; have HLV := Lib.hid xl; clear xa xl hown4 hgrow4)
            refine (HNN.out _).mono ?_
            rintro e w5 ⟨rfl, hg5⟩
            have G5 := Lib.hid hg5
            clear hg5 a0 a1
            go_wp2_with fail
            go_roundw
            case rel => exact ⟨acc ++ [4 * x + p], y, rfl, by simp; omega, HNX.out, by rw [HF2.out]; congr 1; have := HF.out; simp; omega, own_none HXA.out.1 G5.out, below_gb HXA.out.2 (by rw [twoB_size]; exact Nat.le_refl _) G5.out⟩
            case measure => rw [HLV.out]; simp [lenV]; omega
        · have HIN := Lib.hid (fun w => specInV p 0 3 false (decide_eq_false h03) w)
          have HF2 := Lib.hid (HRE2.out.trans (rest_bad HT.out H4.out (by simp [stepsG]; intro u v; exact absurd ⟨u, v⟩ h03)))
          clear h03
          go_wp2_with fail
          refine (HIN.out _).mono ?_
          rintro e w2 ⟨rfl, rfl⟩
          go_wp2_with fail
          go_ret
          obtain ⟨o, b⟩ := new_nil HBO.out
          refine ⟨_, rfl, ?_, b⟩
          rw [HF2.out]
          exact o
    · have hf : k.toNat + 1 - acc.length = 0 := by omega
      have hre := HRE.out
      rw [hf, rest_zero] at hre
      have HF2 := Lib.hid hre
      have HBO := Lib.hid hbo
      clear hf hre hbo
      go_wp2_with fail
      go_ret
      obtain ⟨o, b⟩ := new_nil HBO.out
      refine ⟨_, rfl, ?_, b⟩
      rw [HF2.out]
      exact o
end Go.Proofs.YtidilfakganooaaDoor
end

section
namespace Go.Proofs.YtidilfakganooaaDoor
open Go.ChangeShapes Go.WideShapes Go.ChangeAt Go.RowKit
set_option linter.unusedVariables false
set_option maxRecDepth 20000

theorem IntAt.two {w : World} {A A2 B : Option Addr} {n cap n2 c2 m : Nat} {W H : Int} {L : List Int} (h : IntAt w w.heap.size B m L) : IntAt (twoB W H A A2 n cap n2 c2 w) (twoB W H A A2 n cap n2 c2 w).heap.size B m L :=
  (h.below twoB_below).more (by rw [twoB_size]; omega)
theorem IntAt.old {w wr : World} {A A2 B : Option Addr} {n cap n2 c2 m : Nat} {W H : Int} {L : List Int} (h : IntAt w w.heap.size B m L) (hb : Below (w.heap.size + 2) (twoB W H A A2 n cap n2 c2 w) wr) : IntAt wr wr.heap.size B m L :=
  (h.below (twoB_old hb)).more (by have := twoB_le hb; omega)
theorem NewI.old {w wr w' : World} {A A2 : Option Addr} {n cap n2 c2 : Nat} {W H : Int} {L : List Int} {v : Value} (hb : Below (w.heap.size + 2) (twoB W H A A2 n cap n2 c2 w) wr) (ho : w'.ownsRow wr.heap.size 3 1 v L.length (intsV L)) (hw : Below wr.heap.size wr w') : NewI L w (.returned v) w' :=
  ⟨v, rfl, own_less ho (by have := twoB_le hb; omega), (twoB_old hb).trans (hw.mono (by have := twoB_le hb; omega))⟩
theorem below_two {w w1 : World} {A A2 : Option Addr} {n cap n2 c2 : Nat} {W H : Int} (h : (twoB W H A A2 n cap n2 c2 w).grownBy w1 none) : Below (w.heap.size + 2) (twoB W H A A2 n cap n2 c2 w) w1 := gb_below_none h (by rw [twoB_size]; exact Nat.le_refl _)
theorem below_then {w wr w1 : World} {A A2 : Option Addr} {n cap n2 c2 : Nat} {W H : Int} (hb : Below (w.heap.size + 2) (twoB W H A A2 n cap n2 c2 w) wr) (h : wr.grownBy w1 none) : Below (w.heap.size + 2) (twoB W H A A2 n cap n2 c2 w) w1 := below_gb hb (by rw [twoB_size]; exact Nat.le_refl _) h
end Go.Proofs.YtidilfakganooaaDoor
end

section
namespace Go.Proofs.YtidilfakganooaaDoor
open Go.ChangeShapes Go.WideShapes Go.ChangeAt Go.RowKit
set_option linter.unusedVariables false
set_option maxRecDepth 20000

def TabAt (W H : Int) (A A2 : Option Addr) (n cap n2 c2 : Nat) (L P : List Int) (w : World) (a b : Nat) (wr : World) : Prop :=
  pairsTo W H L P a b ∧ Below (w.heap.size + 2) (twoB W H A A2 n cap n2 c2 w) wr
theorem specTableOk (W H : Int) (A A2 : Option Addr) (n cap n2 c2 : Nat) (L P : List Int) (w : World) (h : IntAt w w.heap.size A n L) (h2 : IntAt w w.heap.size A2 n2 P) (hn : n ≤ 1000000000) (hn2 : n2 ≤ 1000000000) :
    Calls Tryd.prog 31 #[.agg #[.int .i64 W, .int .i64 H, .slice A n cap], .agg #[.slice A2 n2 c2]] w (RetB (tableG W H L P) w) := by
  have hp := h2.1
  have HI := Lib.hid h
  have HP := Lib.hid h2
  have HT := Lib.hid (show IntAt (twoB W H A A2 n cap n2 c2 w) (twoB W H A A2 n cap n2 c2 w).heap.size A n L from h.two)
  clear h h2
  cases hs : sizedG W H L P with
  | false =>
    have HS := Lib.hid (fun w h => specSized W H A A2 n cap n2 c2 L P false hs w h hn hp hn2)
    have HF := Lib.hid (tableG_unsized hs)
    clear hs
    go_enter Tryd.func31, Tryd.ntmps31
    go_wp2_with fail
    refine (HS.out _ HT.out).mono ?_
    rintro e w1 ⟨rfl, hg⟩
    have G1 := Lib.hid (box2 hg).2.2
    clear hg
    go_wp2_with fail
    go_ret
    exact ⟨ret_bool HF.out.symm, G1.out⟩
  | true =>
    have HS := Lib.hid (fun w h => specSized W H A A2 n cap n2 c2 L P true hs w h hn hp hn2)
    obtain ⟨k, hk⟩ : ∃ k, countG W H = k := ⟨_, rfl⟩
    obtain ⟨hk0, hk1⟩ := countG_le W H
    rw [hk] at hk0 hk1
    have hsq := (sizedG_mesh hs).2
    rw [hp, hk] at hsq
    have HSQ := Lib.hid hsq
    have HN := Lib.hid (fun w => specNodeCountV W H k hk w)
    have HK := Lib.hid hk
    have HSZ := Lib.hid hs
    clear hk hs hsq hp
    go_enter Tryd.func31, Tryd.ntmps31
    go_wp2_with fail
    refine (HS.out _ HT.out).mono ?_
    rintro e w1 ⟨rfl, hg⟩
    have B1 := Lib.hid (below_two hg)
    clear hg
    have a0 : w1.cell? ⟨w.heap.size, 0, none⟩ = some (.int .i64 W) := (twoB_mesh B1.out).cell 0
    have a1 : w1.cell? ⟨w.heap.size, 1, none⟩ = some (.int .i64 H) := (twoB_mesh B1.out).cell 1
    go_wp2_with fail
    refine (HN.out _).mono ?_
    rintro e w2 ⟨rfl, hg⟩
    have X2 := Lib.hid (show TabAt W H A A2 n cap n2 c2 L P w 0 0 w2 from ⟨pairs_zero, below_then B1.out hg⟩)
    clear hg a0 a1
    go_wp2_with fail
    go_loopw [6] (fun i wr => ∃ x : Nat, i = .int .i64 (x : Int) ∧ (x : Int) ≤ k ∧ TabAt W H A A2 n cap n2 c2 L P w x 0 wr) (fun i _ => 17 - (intOf i).toNat)
    case atStart => exact ⟨0, rfl, by omega, X2.out⟩
    case round =>
      obtain ⟨x, rfl, hx, hpr, hbel⟩ := hrel
      have HX := Lib.hid (show TabAt W H A A2 n cap n2 c2 L P w x 0 wr from ⟨hpr, hbel⟩)
      have BX := Lib.hid hbel
      clear hpr hbel
      by_cases hlt : (x : Int) < k
      · go_wp2_with fail
        go_loopw [7] (fun i ws => ∃ y : Nat, i = .int .i64 (y : Int) ∧ (y : Int) ≤ k ∧ TabAt W H A A2 n cap n2 c2 L P w x y ws) (fun i _ => 17 - (intOf i).toNat)
        case atStart => exact ⟨0, rfl, by omega, HX.out⟩
        case round =>
          obtain ⟨y, rfl, hy, hpr, hbel⟩ := hrel
          have HPR := Lib.hid hpr
          have BY := Lib.hid hbel
          clear hpr hbel
          by_cases hly : (y : Int) < k
          · by_cases hxy : x = y
            · subst hxy
              obtain ⟨t0, t1⟩ := tab_at HSQ.out (Int.natCast_nonneg x) hlt (Int.natCast_nonneg x) hlt
              obtain ⟨j, hj⟩ : ∃ j : Nat, (x : Int) * k + x = (j : Int) := ⟨((x : Int) * k + x).toNat, (Int.toNat_of_nonneg t0).symm⟩
              have hjn : j < n2 := by omega
              have hak := Int.mul_nonneg (Int.natCast_nonneg x) hk0
              have e1 : wrap64 ((x : Int) * k) = (x : Int) * k := IntWalk.wrap64_in _ (by omega)
              have e2 : wrap64 ((x : Int) * k + x) = (j : Int) := by rw [hj]; exact IntWalk.wrap64_in _ (by omega)
              have hold := twoB_old BY.out
              obtain ⟨b, off, rfl, hbB, hcell⟩ := (HP.out.below hold).at j hjn
              obtain ⟨p, hpp⟩ : ∃ p, P.getD j 0 = p := ⟨_, rfl⟩
              rw [hpp] at hcell
              have htab : tabG (countG W H) P x x = p := by unfold tabG; rw [HK.out, hj, Int.toNat_natCast]; exact hpp
              have hen := entry_same (W := W) (H := H) (L := L) (P := P) (a := (x : Int))
              rw [htab] at hen
              have j0 : (0 : Int) ≤ (j : Int) := by omega
              have j1 : (j : Int) < (n2 : Int) := by omega
              have b0 : wr.cell? ⟨w.heap.size + 1, 0, none⟩ = some (.slice (some ⟨b, off, none⟩) n2 c2) := (twoB_table BY.out).cell 0
              by_cases h4 : p = 4
              · have hb4 : (p != 4) = false := by simpa using h4
                have HE := Lib.hid (pairs_next HPR.out (hen.trans (decide_eq_true h4)))
                clear hj hpp htab hen h4 t0 t1 hak hold
                go_wp2_with fail
                go_roundw
                case rel => exact ⟨x + 1, by go_num, by omega, HE.out, BY.out⟩
                case measure => simp [intOf]; omega
              · have hb4 : (p != 4) = true := by simpa using h4
                have HE := Lib.hid (tableG_no (W := W) (H := H) (L := L) (P := P) (a := x) (b := x) (by rw [HK.out]; exact hlt) (by rw [HK.out]; exact hlt) (hen.trans (decide_eq_false h4)))
                clear hj hpp htab hen h4 t0 t1 hak hold
                go_wp2_with fail
                go_ret
                exact ⟨ret_bool HE.out.symm, gb_of_below (twoB_old BY.out) none⟩
            · have hb1 : ((x : Int) == (y : Int)) = false := by simp; omega
              have hb2 : ((x : Int) != (y : Int)) = true := by simp; omega
              have hax : hasG W H (x : Int) = true := hasG_iff.2 ⟨by omega, by rw [HK.out]; exact hlt⟩
              have hay : hasG W H (y : Int) = true := hasG_iff.2 ⟨by omega, by rw [HK.out]; exact hly⟩
              have HWK := Lib.hid (fun w h h2 => specWalk W H A A2 n cap n2 c2 L P x y w h h2 hn hn2 HSZ.out hax hay)
              have hen := entry_two (W := W) (H := H) (L := L) (P := P) (a := (x : Int)) (b := (y : Int)) (by omega)
              have HEN := Lib.hid hen
              have a0 : wr.cell? ⟨w.heap.size, 0, none⟩ = some (.int .i64 W) := (twoB_mesh BY.out).cell 0
              have a1 : wr.cell? ⟨w.heap.size, 1, none⟩ = some (.int .i64 H) := (twoB_mesh BY.out).cell 1
              have a2 : wr.cell? ⟨w.heap.size, 2, none⟩ = some (.slice A n cap) := (twoB_mesh BY.out).cell 2
              have b0 : wr.cell? ⟨w.heap.size + 1, 0, none⟩ = some (.slice A2 n2 c2) := (twoB_table BY.out).cell 0
              have hi2 := HI.out.old BY.out
              have hp2 := HP.out.old BY.out
              clear hen hax hay
              go_wp2_with fail
              refine (HWK.out _ hi2 hp2).mono ?_
              rintro e w4 ⟨v, rfl, o4, b4⟩
              obtain ⟨A4, c4, rfl, _⟩ := own_form o4
              have B4 := Lib.hid (below_then BY.out (gb_of_below b4 none))
              obtain ⟨wl, hwl⟩ : ∃ q, walkOf W H L P x y = q := ⟨_, rfl⟩
              rw [hwl] at HEN
              have hlen : wl.length ≤ 16 := by rw [← hwl]; exact walkOf_len _ _
              clear o4 b4 hi2 hp2 a0 a1 a2 b0
              rw [hwl]
              clear hwl
              cases wl with
              | nil =>
                have HE := Lib.hid (tableG_no (W := W) (H := H) (L := L) (P := P) (a := x) (b := y) (by rw [HK.out]; exact hlt) (by rw [HK.out]; exact hly) (HEN.out.trans rfl))
                simp only [List.length_nil]
                go_wp2_with fail
                go_ret
                exact ⟨ret_bool HE.out.symm, gb_of_below (twoB_old B4.out) none⟩
              | cons c cs =>
                have HE := Lib.hid (pairs_next HPR.out (HEN.out.trans rfl))
                obtain ⟨q, hq⟩ : ∃ q, (c :: cs).length = q := ⟨_, rfl⟩
                have hq0 : ((q : Int) == 0) = false := by rw [← hq]; simp; omega
                rw [hq] at hlen ⊢
                clear hq
                go_wp2_with fail
                go_roundw
                case rel => exact ⟨y + 1, by go_num, by omega, HE.out, B4.out⟩
                case measure => simp [intOf]; omega
          · obtain ⟨e1, e2⟩ : (y : Int) = k ∧ True := ⟨by omega, trivial⟩
            have HE := Lib.hid (pairs_row HPR.out (by rw [HK.out]; exact e1))
            clear e1 e2
            go_wp2_with fail
            go_roundw
            case rel => exact ⟨x + 1, by go_num, by omega, HE.out, BY.out⟩
            case measure => simp [intOf]; omega
      · have hxk : (x : Int) = k := by omega
        have HE := Lib.hid (tableG_yes HSZ.out HX.out.1 (by rw [HK.out]; exact hxk))
        clear hxk
        go_wp2_with fail
        go_ret
        exact ⟨ret_bool HE.out.symm, gb_of_below (twoB_old BX.out) none⟩
end Go.Proofs.YtidilfakganooaaDoor
end

section
namespace Go.Proofs.YtidilfakganooaaDoor
open Go.ChangeShapes Go.WideShapes Go.ChangeAt Go.RowKit
set_option linter.unusedVariables false

theorem specTableOkV (W H : Int) (A A2 : Option Addr) (n cap n2 c2 : Nat) (L P : List Int) (b : Bool) (hb : tableG W H L P = b) (w : World) (h : IntAt w w.heap.size A n L) (h2 : IntAt w w.heap.size A2 n2 P) (hn : n ≤ 1000000000) (hn2 : n2 ≤ 1000000000) :
    Calls Tryd.prog 31 #[.agg #[.int .i64 W, .int .i64 H, .slice A n cap], .agg #[.slice A2 n2 c2]] w (RetB b w) := hb ▸ specTableOk W H A A2 n cap n2 c2 L P w h h2 hn hn2
theorem below_undrew3 {B : Nat} {a b : World} (h : Below B a.drew b) : Below B a b := ⟨h.os, h.tape, h.output, h.size, h.block⟩
end Go.Proofs.YtidilfakganooaaDoor
end

section
namespace Go.Proofs.YtidilfakganooaaDoor
open Go.ChangeShapes Go.WideShapes Go.ChangeAt Go.RowKit
set_option linter.unusedVariables false

theorem depAt_news {w : World} {B n b off : Nat} {D : List Dep} (h : DepAt w B (some ⟨b, off, none⟩) n D) : ∀ j u, (depV D)[j]? = some u → w.cell? ((⟨b, off, none⟩ : Addr).add j) = some u := fun j u hu => by
  have hj := (List.getElem?_eq_some_iff.1 hu).1
  rw [depV_length] at hj
  have hl := h.1
  obtain ⟨b', off', hA, _, hc⟩ := h.2 (by omega)
  obtain ⟨rfl, rfl⟩ : b = b' ∧ off = off' := by injection hA with h1; injection h1 with h2 h3; exact ⟨h2, h3⟩
  obtain ⟨h1, h2⟩ := depV_at D (j / 2) (by omega)
  obtain ⟨c1, c2⟩ := hc (j / 2) (by omega)
  rw [Addr.add_lit]
  rcases (show j = j / 2 * 2 ∨ j = j / 2 * 2 + 1 by omega) with e | e
  · rw [e, h1] at hu
    rw [e]
    exact c1.trans hu
  · rw [e, h2] at hu
    rw [e]
    exact c2.trans hu
theorem src_deps {w : World} {B n : Nat} {A : Option Addr} {D : List Dep} (h : DepAt w B A n D) (c : Nat) : Src Tryd.prog 2 66 (.slice A n c) n (depV D) w := by
  have hl := h.1
  rcases Nat.eq_zero_or_pos n with h0 | h0
  · subst h0
    obtain rfl : D = [] := List.eq_nil_of_length_eq_zero hl
    cases A with
    | none => exact Src.ofNil w Tryd.underlying66 c
    | some a => exact Src.ofSlice w Tryd.underlying66 a 0 c [] rfl (fun j u hu => by cases hu) (fun u hu => by cases hu)
  · obtain ⟨b, off, rfl, _⟩ := h.2 h0
    exact Src.ofSlice w Tryd.underlying66 _ n c (depV D) (by rw [depV_length, hl]) (depAt_news h) (depV_one1 D)
theorem run_app_nothingD (w : World) (ty : TypeId) (base : Option Addr) (sLen sCap : Nat) (hle : sLen ≤ sCap) (x : Value) (i0 : TypeInfo) (hi : Tryd.prog.info? 97 = some i0) (h1 : i0.size = 2) (hs : Src Tryd.prog 2 66 x 0 [] w) :
    (Builtin.append_ #[66, 66] ty #[.slice base sLen sCap, x]).run Tryd.prog w = .ok (.slice base sLen sCap) w := by
  have hc := hs.cells
  rw [← h1] at hc
  cases base <;> simp [Builtin.append_, run_underlying Tryd.underlying66, sizeOf, typeInfo, hi, hs.len, hle, hc, storeCells]
theorem run_app_ownD (w : World) (ty : TypeId) (i0 : TypeInfo) (hi : Tryd.prog.info? 97 = some i0) (hz0 : i0.zero = some (.agg #[.int .i64 0, .int .i64 0])) (hz1 : i0.size = 2) (hz2 : i0.bytes = 16)
    (base n m c B : Nat) (A : Option Addr) (X L : List Dep) (v : Value) (hown : w.ownsRow base 97 2 v n (depV X)) (h : DepAt w B A m L) (hm : n + m ≤ 4000000001) (hb : base ≤ w.heap.size) :
    ∃ v' w', (Builtin.append_ #[66, 66] ty #[v, .slice A m c]).run Tryd.prog w = .ok v' w' ∧ w'.ownsRow base 97 2 v' (n + m) (depV (X ++ L)) ∧ w.grownBy w' v.ownBlock := by
  have hl := h.1
  rcases Nat.eq_zero_or_pos m with h0 | h0
  · subst h0
    obtain rfl : L = [] := List.eq_nil_of_length_eq_zero hl
    obtain ⟨A', c', rfl, _⟩ := own_form hown
    exact ⟨_, _, run_app_nothingD w ty A' n c' (own_cap hown).1 _ i0 hi hz1 (src_deps h c), by rw [List.append_nil]; exact hown, gb_refl _ _⟩
  · obtain ⟨b, off, rfl, _⟩ := h.2 h0
    obtain ⟨v', w', h1, h2, h3, _⟩ := run_append_own (P := Tryd.prog) w base 66 ty 97 i0 (.agg #[.int .i64 0, .int .i64 0]) 2 16 Tryd.underlying66 hi hz0 hz1 hz2 rfl (by decide) v n (depV X) hown ⟨b, off, none⟩ m c (depV L)
      (by rw [depV_length, hl]) (depAt_news h) (depV_one1 L) (by unfold maxLen; omega) (by omega) hb
    exact ⟨v', w', h1, by rw [depV_append]; exact h2, h3⟩
theorem wpList_app_ownD {ops : Array Oper} {rest : List Oper} {o : Oper} {a : Act} {Q : Exit → Act → World → Prop} (w : World) (hgd : o.guard = none) (s x : Operand)
    (ho : o.op = .call { callee := .builtin .append, args := #[s, x], argTypes := #[66, 66] })
    (i0 : TypeInfo) (hi : Tryd.prog.info? 97 = some i0) (hz0 : i0.zero = some (.agg #[.int .i64 0, .int .i64 0])) (hz1 : i0.size = 2) (hz2 : i0.bytes = 16)
    (base n m c B : Nat) (A : Option Addr) (X L : List Dep) (v : Value) (hs : a.eval s = v) (hx : a.eval x = .slice A m c) (hown : w.ownsRow base 97 2 v n (depV X)) (h : DepAt w B A m L) (hm : n + m ≤ 4000000001) (hb : base ≤ w.heap.size)
    (hk : ∀ v' w', w'.ownsRow base 97 2 v' (n + m) (depV (X ++ L)) → w.grownBy w' v.ownBlock → wpList Tryd.prog ops Q rest (a.put o.dst v') w') : wpList Tryd.prog ops Q (o :: rest) a w := by
  refine wpList_plain hgd fun K hK => ?_
  obtain ⟨v', w', hr, h2, h3⟩ := run_app_ownD w o.type i0 hi hz0 hz1 hz2 base n m c B A X L v hown h hm hb
  unfold Oper.wp execOp
  simp only [ho, resolve, invoke, builtin, Sem.run_bind, Sem.run_pure, Result.andThen_ok, List.map_toArray, List.map_cons, List.map_nil, hs, hx, hr]
  exact hK _ _ (hk v' w' h2 h3)
/-- The same onto a list that is not nil: nor is what it becomes. -/
theorem wpList_app_ownN {ops : Array Oper} {rest : List Oper} {o : Oper} {a : Act} {Q : Exit → Act → World → Prop} (w : World) (hgd : o.guard = none) (s x : Operand)
    (ho : o.op = .call { callee := .builtin .append, args := #[s, x], argTypes := #[66, 66] })
    (i0 : TypeInfo) (hi : Tryd.prog.info? 97 = some i0) (hz0 : i0.zero = some (.agg #[.int .i64 0, .int .i64 0])) (hz1 : i0.size = 2) (hz2 : i0.bytes = 16)
    (base n m c B g c0 : Nat) (A : Option Addr) (X L : List Dep) (hs : a.eval s = .slice (some ⟨g, 0, none⟩) n c0) (hx : a.eval x = .slice A m c) (hown : w.ownsRow base 97 2 (.slice (some ⟨g, 0, none⟩) n c0) n (depV X)) (h : DepAt w B A m L) (hm : n + m ≤ 4000000001) (hb : base ≤ w.heap.size)
    (hk : ∀ g' c' w', w'.ownsRow base 97 2 (.slice (some ⟨g', 0, none⟩) (n + m) c') (n + m) (depV (X ++ L)) → w.grownBy w' (some g) → wpList Tryd.prog ops Q rest (a.put o.dst (.slice (some ⟨g', 0, none⟩) (n + m) c')) w') : wpList Tryd.prog ops Q (o :: rest) a w := by
  refine wpList_plain hgd fun K hK => ?_
  have key : ∃ g' c' w', (Builtin.append_ #[66, 66] o.type #[.slice (some ⟨g, 0, none⟩) n c0, .slice A m c]).run Tryd.prog w = .ok (.slice (some ⟨g', 0, none⟩) (n + m) c') w' ∧ w'.ownsRow base 97 2 (.slice (some ⟨g', 0, none⟩) (n + m) c') (n + m) (depV (X ++ L)) ∧ w.grownBy w' (some g) := by
    rcases Nat.eq_zero_or_pos m with h0 | h0
    · subst h0
      obtain rfl : L = [] := List.eq_nil_of_length_eq_zero h.1
      exact ⟨g, c0, w, run_app_nothingD w o.type _ n c0 (own_cap hown).1 _ i0 hi hz1 (src_deps h c), by rw [List.append_nil]; exact hown, gb_refl _ _⟩
    · obtain ⟨v', w', hr, h2, h3⟩ := run_app_ownD w o.type i0 hi hz0 hz1 hz2 base n m c B A X L _ hown h hm hb
      obtain ⟨A', c', rfl, hA⟩ := own_form h2
      obtain ⟨g', rfl⟩ := hA (by omega)
      exact ⟨g', c', w', hr, h2, h3⟩
  obtain ⟨g', c', w', hr, h2, h3⟩ := key
  unfold Oper.wp execOp
  simp only [ho, resolve, invoke, builtin, Sem.run_bind, Sem.run_pure, Result.andThen_ok, List.map_toArray, List.map_cons, List.map_nil, hs, hx, hr]
  exact hK _ _ (hk g' c' w' h2 h3)
/-- An empty row of the call's own. -/
theorem own_madeD (w : World) {base : Nat} (hb : base ≤ w.heap.size) : (w.alloc (.cells #[] 97)).ownsRow base 97 2 (.slice (some ⟨w.heap.size, 0, none⟩) 0 0) 0 (depV []) :=
  World.ownsRow_made (base := base) (e := 97) (size := 2) w #[] 0 hb (by decide) rfl
theorem own_emptyD {D : List Dep} (h : D = []) {w wr : World} (hb : Below w.heap.size w wr) : (wr.alloc (.cells #[] 97)).ownsRow w.heap.size 97 2 (.slice (some ⟨wr.heap.size, 0, none⟩) 0 0) D.length (depV D) ∧ Below w.heap.size w (wr.alloc (.cells #[] 97)) := by
  subst h
  exact ⟨own_madeD wr hb.size, hb.alloc hb.size _⟩
/-- The first k elements of a slice, and those behind. -/
theorem DepAt.take {w : World} {B n : Nat} {A : Option Addr} {D : List Dep} (h : DepAt w B A n D) {k : Nat} (hk : k ≤ n) : DepAt w B A k (D.take k) := ⟨by have := h.1; simp; omega, fun h0 => by
  obtain ⟨b, off, hA, hb, hc⟩ := h.2 (by omega)
  refine ⟨b, off, hA, hb, fun j hj => ?_⟩
  have e : atD (D.take k) j = atD D j := by simp [atD, List.getD_eq_getElem?_getD, List.getElem?_take_of_lt hj]
  rw [e]
  exact hc j (by omega)⟩
theorem DepAt.drop {w : World} {B n b off : Nat} {D : List Dep} (h : DepAt w B (some ⟨b, off, Option.none⟩) n D) {k : Nat} (hk : k ≤ n) : DepAt w B (some ⟨b, off + k * 2, Option.none⟩) (n - k) (D.drop k) := ⟨by have := h.1; simp; omega, fun h0 => by
  obtain ⟨b', off', hA, hb, hc⟩ := h.2 (by omega)
  obtain ⟨rfl, rfl⟩ : b = b' ∧ off = off' := by injection hA with h1; injection h1 with h2 h3; exact ⟨h2, h3⟩
  refine ⟨b, off + k * 2, rfl, hb, fun j hj => ?_⟩
  have e : atD (D.drop k) j = atD D (k + j) := by simp [atD, List.getD_eq_getElem?_getD, List.getElem?_drop]
  rw [e, show off + k * 2 + j * 2 = off + (k + j) * 2 by omega]
  exact hc (k + j) (by omega)⟩
theorem gb_made {w w' : World} {t : TypeId} (h : (w.alloc (.cells #[] t)).grownBy w' (some w.heap.size)) : w.grownBy w' none :=
  ⟨h.os, h.tape, h.output, by have := h.size; simp at this; omega, fun i hi _ => (h.block i (by simp; omega) (fun e => by have := Option.some.inj e; omega)).trans (Below.heap_alloc w _ i hi)⟩
end Go.Proofs.YtidilfakganooaaDoor
end

section
namespace Go.Proofs.YtidilfakganooaaDoor
open Go.ChangeShapes Go.WideShapes Go.ChangeAt Go.RowKit
set_option linter.unusedVariables false
set_option maxRecDepth 20000

theorem gb_drP {a b : World} {row : Option Nat} (h : a.drew.grownBy b row) : a.grownBy b row := ⟨h.os, h.tape, h.output, h.size, h.block⟩
theorem specLess (a b : Dep) (w : World) : Calls Tryd.prog 77 #[.agg #[.int .i64 a.1, .int .i64 a.2], .agg #[.int .i64 b.1, .int .i64 b.2]] w (RetB (ltD a b) w) := by
  obtain ⟨r, hr⟩ : ∃ r, ltD a b = r := ⟨_, rfl⟩
  rw [hr]
  obtain ⟨a1, a2⟩ := a
  obtain ⟨b1, b2⟩ := b
  have hr2 : r = decide (a1 < b1 ∨ a1 = b1 ∧ a2 < b2) := hr.symm
  clear hr
  by_cases h1 : a1 < b1
  · have HR := Lib.hid (show r = true by rw [hr2]; exact decide_eq_true (.inl h1))
    clear hr2
    go_enter Tryd.func77, Tryd.ntmps77
    go_wp2_with fail
    go_ret
    exact ⟨ret_bool (by rw [HR.out]), gb_alloc (gb_alloc (gb_refl _ _) _) _⟩
  · by_cases h2 : a1 = b1
    · by_cases h3 : a2 < b2
      · have HR := Lib.hid (show r = true by rw [hr2]; exact decide_eq_true (.inr ⟨h2, h3⟩))
        clear hr2
        go_enter Tryd.func77, Tryd.ntmps77
        go_wp2_with fail
        go_ret
        exact ⟨ret_bool (by rw [HR.out]), gb_alloc (gb_alloc (gb_refl _ _) _) _⟩
      · have HR := Lib.hid (show r = false by rw [hr2]; exact decide_eq_false (by omega))
        clear hr2
        go_enter Tryd.func77, Tryd.ntmps77
        go_wp2_with fail
        go_ret
        exact ⟨ret_bool (by rw [HR.out]), gb_alloc (gb_alloc (gb_refl _ _) _) _⟩
    · have HR := Lib.hid (show r = false by rw [hr2]; exact decide_eq_false (by omega))
      clear hr2
      go_enter Tryd.func77, Tryd.ntmps77
      go_wp2_with fail
      go_ret
      exact ⟨ret_bool (by rw [HR.out]), gb_alloc (gb_alloc (gb_refl _ _) _) _⟩
/-- A list of the caller's own that is not nil, or a new one. -/
def PutN (base : Nat) (D : List Dep) (w : World) (e : Ending) (w' : World) : Prop :=
  ∃ g c, e = .returned (.slice (some ⟨g, 0, none⟩) D.length c) ∧ w'.ownsRow base 97 2 (.slice (some ⟨g, 0, none⟩) D.length c) D.length (depV D) ∧ w.grownBy w' none
/-- From the end, the place k has been reached. -/
def downD (D : List Dep) (d : Dep) (k : Nat) : Prop := k ≤ D.length ∧ ∀ t, k ≤ t → t < D.length → ltD d (atD D t) = true
theorem down_put {D : List Dep} (hD : ascD D) {d : Dep} {k : Nat} (h : downD D d k) (h1 : ∀ m, k = m + 1 → ltD d (atD D m) = false ∧ atD D m ≠ d) : insD D d = D.take k ++ d :: D.drop k := by
  have key : ∀ t, t < k → ltD (atD D t) d = true := fun t ht => by
    obtain ⟨m, rfl⟩ : ∃ m, k = m + 1 := ⟨k - 1, by omega⟩
    obtain ⟨h2, h3⟩ := h1 m rfl
    have h4 : ltD (atD D m) d = true := ltD_tri h2 (fun e => h3 e.symm)
    rcases Nat.lt_or_eq_of_le (Nat.le_of_lt_succ ht) with h5 | h5
    · exact ltD_trans (asc_at hD h5 (by have := h.1; omega)) h4
    · rw [h5]; exact h4
  have hlow : lowN D d = k := lowN_of h.1 key (fun hk => ltD_asymm (h.2 k (Nat.le_refl _) hk))
  have hn : d ∉ D := fun hd => by
    obtain ⟨h2, h3⟩ := (there_iff hD).1 hd
    rw [hlow] at h2 h3
    have := h.2 k (Nat.le_refl _) h2
    rw [h3, ltD_irrefl] at this
    cases this
  rw [ins_new hn, putD, hlow]
theorem down_next {D : List Dep} {d : Dep} {m : Nat} (h : downD D d (m + 1)) (h1 : ltD d (atD D m) = true) : downD D d m :=
  ⟨by have := h.1; omega, fun t h2 h3 => by
    rcases Nat.lt_or_eq_of_le h2 with h4 | h4
    · exact h.2 t h4 h3
    · rw [← h4]; exact h1⟩

theorem run_neD {x d : Dep} (h : x ≠ d) (w : World) : (binOp .eql 97 (.agg #[.int .i64 x.1, .int .i64 x.2]) (.agg #[.int .i64 d.1, .int .i64 d.2])).run Tryd.prog w = .ok (.bool false) w := by
  have hst : Tryd.prog.stoodInHeld 97 = false := by kernel_rfl
  by_cases h1 : x.1 = d.1
  · have h2 : ¬ x.2 = d.2 := fun e => h (Prod.ext h1 e)
    simp [go_sem, Tryd.underlying97, Tryd.underlying3, hst, h1, h2]
  · simp [go_sem, Tryd.underlying97, Tryd.underlying3, hst, h1]
theorem gb_un {a b : World} {m : Nat} {row : Option Nat} (h : (a.drewN m).grownBy b row) : a.grownBy b row := ⟨h.os, h.tape, h.output, h.size, h.block⟩
theorem own_castD {w : World} {base n k : Nat} {v : Value} {X Y : List Value} (h : w.ownsRow base 97 2 v n X) (hk : n = k) (hx : X = Y) : w.ownsRow base 97 2 v k Y := by subst hk; subst hx; exact h
theorem put_ret {R : List Dep} {w w4 : World} {base B : Nat} {v : Value} {k : Nat} {X : List Dep} (hR : R = X) (hk : k = X.length) (h0 : 0 < k) (hb : base ≤ B) (ho : w4.ownsRow B 97 2 v k (depV X)) (hg : w.grownBy w4 none) : PutN base R w (.returned v) w4 := by
  subst hR
  subst hk
  obtain ⟨A, c, rfl, hA⟩ := own_form ho
  obtain ⟨g, rfl⟩ := hA h0
  exact ⟨g, c, rfl, own_less ho hb, hg⟩

theorem put_there {D R : List Dep} {w w4 : World} {base n g cap : Nat} (hR : D = R) (hl : D.length = n) (hbase : base ≤ w.heap.size) (ho : w.ownsRow base 97 2 (.slice (some ⟨g, 0, none⟩) n cap) n (depV D)) (hg : w.grownBy w4 none) : PutN base R w (.returned (.slice (some ⟨g, 0, none⟩) n cap)) w4 := by
  subst hR
  subst hl
  exact ⟨g, cap, rfl, own_none ho hg, hg⟩
theorem specPut (base n g cap : Nat) (D : List Dep) (d : Dep) (hD : ascD D) (w : World) (h : w.ownsRow base 97 2 (.slice (some ⟨g, 0, none⟩) n cap) n (depV D)) (hbase : base ≤ w.heap.size) (hn : n ≤ 2000000000) :
    Calls Tryd.prog 52 #[.slice (some ⟨g, 0, none⟩) n cap, .agg #[.int .i64 d.1, .int .i64 d.2]] w (PutN base (insD D d) w) := by
  obtain ⟨i0, hi, hz0, hz1, hz2⟩ := info_parts info_dep
  have hl := own_dep_length h
  have HL := Lib.hid hl
  have HO := Lib.hid h
  have HI := Lib.hid (depAt_own h (Nat.le_refl w.heap.size))
  obtain ⟨hcap, hcap2⟩ := own_cap h
  have c63 : cap ≤ 9223372036854775807 := by unfold maxLen at hcap2; omega
  have BG := Lib.hid (boxD_gb d w)
  have BB := Lib.hid (boxD_blk d w)
  have HLT := Lib.hid (fun (a b : Dep) w => specLess a b w)
  have HDP := Lib.hid (fun k (hk : downD D d k) h1 => down_put hD hk h1)
  have HTH := Lib.hid (fun (m : Nat) (hm : m < n) (e : atD D m = d) => ins_there (D := D) (d := d) (by rw [← e]; exact atD_mem (by omega)))
  obtain ⟨R, hR⟩ : ∃ R, insD D d = R := ⟨_, rfl⟩
  rw [hR] at HDP HTH
  rw [hR]
  have b2 := Lib.hid (show ∀ u ∈ [Value.int .i64 d.1, Value.int .i64 d.2], u.oneCell' = true by simp [Value.oneCell'])
  clear h hD hR hcap2
  go_enter Tryd.func52, Tryd.ntmps52
  go_wp2_with fail
  go_loopw [5] (fun i wr => ∃ k : Nat, i = .int .i64 (k : Int) ∧ k ≤ n ∧ downD D d k ∧ (boxD d w).grownBy wr none) (fun i _ => (intOf i).toNat)
  case atStart => exact ⟨n, rfl, Nat.le_refl _, ⟨by omega, fun t h1 h2 => by omega⟩, gb_refl _ _⟩
  case round =>
    obtain ⟨k, rfl, hk, hs, hg⟩ := hrel
    have HS := Lib.hid hs
    have HG := Lib.hid hg
    have HS1 := Lib.hid (show w.heap.size + 1 ≤ wr.heap.size by have := hg.size; rw [boxD, alloc_size] at this; exact this)
    have bb := BB.out.grown hg (by simp)
    have t0 : wr.cell? ⟨w.heap.size, 0, none⟩ = some (.int .i64 d.1) := bb.cell 0
    have t1 : wr.cell? ⟨w.heap.size, 1, none⟩ = some (.int .i64 d.2) := bb.cell 1
    have BBR := Lib.hid bb
    have HAIR := Lib.hid (HI.out.none (Nat.le_refl _) (gb_trans BG.out hg))
    have HK := Lib.hid hk
    clear bb hs hg
    by_cases h0 : k = 0
    · have H0 := Lib.hid h0
      have hd : decide (0 < k) = false := decide_eq_false (by omega)
      have HR := Lib.hid (HDP.out k HS.out (fun m e => by omega))
      have HAI := HAIR
      have HSW := Lib.hid (show w.heap.size ≤ wr.heap.size by have := HS1.out; omega)
      have BBW := BBR
      have GWS := Lib.hid (gb_refl wr none)
      clear h0 BBR HAIR
      by_cases hck : cap = k
      · have HCK := Lib.hid (show n - k = 0 by omega)
        have HDN := Lib.hid (show D.drop k = [] by rw [List.drop_eq_nil_iff]; omega)
        go_wp2_with fail
        go_quiet (fail)
        go_wp2_with fail
        go_quiet (fail)
        go_wp2_with (first
          | (at_builtin; refine wpList_app_ownD _ rfl (.tmp 34) (.tmp 37) rfl i0 hi hz0 hz1 hz2 wr.heap.size 0 k _ w.heap.size _ [] (D.take k) _ rfl rfl (own_madeD _ (Nat.le_refl _)) ((HAI.out.none HSW.out (gb_alloc (gb_drewN (gb_refl _ none) _) _)).take HK.out) (by omega) (by simp) ?_; intro v1 wA ho2 hg2; have HG3 := Lib.hid (gb_un (gb_made hg2)); have HS2 := Lib.hid HG3.out.size; have bb2 := BBW.out.grown HG3.out (by simp); have t2 : wA.cell? ⟨w.heap.size, 0, none⟩ = some (.int .i64 d.1) := bb2.cell 0; have t3 : wA.cell? ⟨w.heap.size, 1, none⟩ = some (.int .i64 d.2) := bb2.cell 1; have O2 := Lib.hid (own_castD ho2 (Nat.zero_add k) (congrArg depV (List.nil_append _))); clear ho2 hg2 bb2)
          | (at_builtin; refine wpList_append_own _ rfl (.tmp 39) (.tmp 41) 66 rfl wr.heap.size 97 i0 (.agg #[.int .i64 0, .int .i64 0]) 2 16 Tryd.underlying66 hi hz0 hz1 hz2 rfl (by decide) _ k _ rfl (O2.out.alloc _) ⟨wA.heap.size, 0, none⟩ 1 1 [.int .i64 d.1, .int .i64 d.2] rfl rfl (World.news_of_block (cs := #[.int .i64 d.1, .int .i64 d.2]) (t := 97) (fr := (0, 0)) (heap_alloc_new wA _)) b2.out (by unfold maxLen; omega) (by omega) (by have := HS2.out; simp; omega) ?_; intro v3 wB ho3 hg3 _; have B3 := Lib.hid (show Below wr.heap.size wr wB from (((gb_below_none HG3.out (Nat.le_refl _)).alloc HS2.out _).grown hg3 (by have := HS2.out; simp; omega) (fun q hq => (O2.out.lt q hq).1))); have O3 := Lib.hid (own_castD ho3 rfl (show depV (D.take k) ++ [Value.int .i64 d.1, Value.int .i64 d.2] = depV (D.take k ++ [d]) by rw [depV_append]; rfl)); clear ho3 hg3 t2 t3)
          | (at_builtin; refine wpList_app_ownD _ rfl (.tmp 43) (.tmp 46) rfl i0 hi hz0 hz1 hz2 wr.heap.size (k + 1) (n - k) _ w.heap.size _ (D.take k ++ [d]) (D.drop k) _ rfl rfl O3.out (by first | (have h5 := (HAI.out.below (B3.out.mono HSW.out)).drop HK.out; rw [Nat.zero_add] at h5; exact h5) | (have h5 := HDN.out; simp only [HCK.out, h5]; exact DepAt.nil _ _ _)) (by omega) B3.out.size ?_; intro v4 wC ho4 hg4; have O4 := Lib.hid ho4; have G4 := Lib.hid (gb_of_below (B3.out.grown hg4 B3.out.size (fun q hq => (O3.out.lt q hq).1)) none); clear ho4 hg4))
        go_ret
        exact put_ret (HR.out.trans (by simp)) (by simp [HL.out]; omega) (by omega) (Nat.le_trans hbase HSW.out) O4.out (gb_trans (gb_trans BG.out HG.out) (gb_trans GWS.out G4.out))
      · have HCK := Lib.hid hck
        have HDN := Lib.hid hck
        go_wp2_with fail
        go_quiet (fail)
        go_wp2_with fail
        go_quiet (fail)
        go_wp2_with (first
          | (at_builtin; refine wpList_app_ownD _ rfl (.tmp 34) (.tmp 37) rfl i0 hi hz0 hz1 hz2 wr.heap.size 0 k _ w.heap.size _ [] (D.take k) _ rfl rfl (own_madeD _ (Nat.le_refl _)) ((HAI.out.none HSW.out (gb_alloc (gb_drewN (gb_refl _ none) _) _)).take HK.out) (by omega) (by simp) ?_; intro v1 wA ho2 hg2; have HG3 := Lib.hid (gb_un (gb_made hg2)); have HS2 := Lib.hid HG3.out.size; have bb2 := BBW.out.grown HG3.out (by simp); have t2 : wA.cell? ⟨w.heap.size, 0, none⟩ = some (.int .i64 d.1) := bb2.cell 0; have t3 : wA.cell? ⟨w.heap.size, 1, none⟩ = some (.int .i64 d.2) := bb2.cell 1; have O2 := Lib.hid (own_castD ho2 (Nat.zero_add k) (congrArg depV (List.nil_append _))); clear ho2 hg2 bb2)
          | (at_builtin; refine wpList_append_own _ rfl (.tmp 39) (.tmp 41) 66 rfl wr.heap.size 97 i0 (.agg #[.int .i64 0, .int .i64 0]) 2 16 Tryd.underlying66 hi hz0 hz1 hz2 rfl (by decide) _ k _ rfl (O2.out.alloc _) ⟨wA.heap.size, 0, none⟩ 1 1 [.int .i64 d.1, .int .i64 d.2] rfl rfl (World.news_of_block (cs := #[.int .i64 d.1, .int .i64 d.2]) (t := 97) (fr := (0, 0)) (heap_alloc_new wA _)) b2.out (by unfold maxLen; omega) (by omega) (by have := HS2.out; simp; omega) ?_; intro v3 wB ho3 hg3 _; have B3 := Lib.hid (show Below wr.heap.size wr wB from (((gb_below_none HG3.out (Nat.le_refl _)).alloc HS2.out _).grown hg3 (by have := HS2.out; simp; omega) (fun q hq => (O2.out.lt q hq).1))); have O3 := Lib.hid (own_castD ho3 rfl (show depV (D.take k) ++ [Value.int .i64 d.1, Value.int .i64 d.2] = depV (D.take k ++ [d]) by rw [depV_append]; rfl)); clear ho3 hg3 t2 t3)
          | (at_builtin; refine wpList_app_ownD _ rfl (.tmp 43) (.tmp 46) rfl i0 hi hz0 hz1 hz2 wr.heap.size (k + 1) (n - k) _ w.heap.size _ (D.take k ++ [d]) (D.drop k) _ rfl rfl O3.out (by first | (have h5 := (HAI.out.below (B3.out.mono HSW.out)).drop HK.out; rw [Nat.zero_add] at h5; exact h5) | (have h5 := HDN.out; simp only [HCK.out, h5]; exact DepAt.nil _ _ _)) (by omega) B3.out.size ?_; intro v4 wC ho4 hg4; have O4 := Lib.hid ho4; have G4 := Lib.hid (gb_of_below (B3.out.grown hg4 B3.out.size (fun q hq => (O3.out.lt q hq).1)) none); clear ho4 hg4))
        go_ret
        exact put_ret (HR.out.trans (by simp)) (by simp [HL.out]; omega) (by omega) (Nat.le_trans hbase HSW.out) O4.out (gb_trans (gb_trans BG.out HG.out) (gb_trans GWS.out G4.out))
    · obtain ⟨m, hm⟩ : ∃ m, k = m + 1 := ⟨k - 1, by omega⟩
      obtain ⟨_, _, hA, _, c0, c1⟩ := HAIR.out.at m (by omega)
      injection hA with hA
      injection hA with hA1 hA2
      subst hA1
      subst hA2
      rw [Nat.zero_add] at c0 c1
      obtain ⟨x, hx⟩ : ∃ x, atD D m = x := ⟨_, rfl⟩
      rw [hx] at c0 c1
      have HX := Lib.hid hx
      have HM := Lib.hid hm
      have m0 : (0 : Int) ≤ (m : Int) := by omega
      have m1 : (m : Int) < (n : Int) := by omega
      have e2 : IntKind.i64.wrap ((k : Int) - 1) = (m : Int) := by rw [IntWalk.i64_in _ (by omega)]; omega
      have hd : decide (0 < k) = true := decide_eq_true (by omega)
      have hpos : (0 : Int) < (k : Int) := by omega
      cases hlt : ltD d x with
      | true =>
        have HL2 := Lib.hid (fun w => show Calls Tryd.prog 77 #[.agg #[.int .i64 d.1, .int .i64 d.2], .agg #[.int .i64 x.1, .int .i64 x.2]] w (RetB true w) from hlt ▸ HLT.out d x w)
        have HNX := Lib.hid (show downD D d m from down_next (by have := HS.out; rw [HM.out] at this; exact this) (by rw [HX.out]; exact hlt))
        clear hx hlt h0 hm
        go_wp2_with fail
        go_region_held3 (fun w' => w'.cell? ⟨w.heap.size, 0, none⟩ = some (.int .i64 d.1) ∧ w'.cell? ⟨w.heap.size, 1, none⟩ = some (.int .i64 d.2) ∧ w'.cell? ⟨g, m * 2, none⟩ = some (.int .i64 x.1) ∧ w'.cell? ⟨g, m * 2 + 1, none⟩ = some (.int .i64 x.2))
          (first | exact ⟨t0, t1, c0, c1⟩ | exact ⟨d0, d1, d2, d3⟩ | fail)
          (first
            | (go_at_call 77; (with_reducible refine (HL2.out _).mono ?_); rintro e w4 ⟨rfl, hg4⟩; have h4 := gb_drP hg4; have d0 := h4.cell t0 (by simp); have d1 := h4.cell t1 (by simp); have d2 := h4.cell c0 (by simp); have d3 := h4.cell c1 (by simp); have G4 := Lib.hid (gb_trans HG.out h4); clear h4 hg4)
            | fail)
        all_goals
          clear d0 d1 d2 d3 t0 t1 c0 c1 hd hpos e2
          go_wp2_with fail
          go_roundw
          case rel => exact ⟨m, by have := HM.out; go_num, by have := HM.out; omega, HNX.out, G4.out⟩
          case measure => have := HM.out; simp [intOf]; omega
      | false =>
        by_cases hxd : x = d
        · subst hxd
          have HL2 := Lib.hid (fun w => show Calls Tryd.prog 77 #[.agg #[.int .i64 x.1, .int .i64 x.2], .agg #[.int .i64 x.1, .int .i64 x.2]] w (RetB false w) from hlt ▸ HLT.out x x w)
          have HR := Lib.hid (HTH.out m (by omega) hx)
          clear hx hlt h0 hm
          go_wp2_with fail
          go_region_held3 (fun w' => w'.cell? ⟨w.heap.size, 0, none⟩ = some (.int .i64 x.1) ∧ w'.cell? ⟨w.heap.size, 1, none⟩ = some (.int .i64 x.2) ∧ w'.cell? ⟨g, m * 2, none⟩ = some (.int .i64 x.1) ∧ w'.cell? ⟨g, m * 2 + 1, none⟩ = some (.int .i64 x.2))
            (first | exact ⟨t0, t1, c0, c1⟩ | exact ⟨d0, d1, d2, d3⟩ | fail)
            (first
              | (go_at_call 77; (with_reducible refine (HL2.out _).mono ?_); rintro e w4 ⟨rfl, hg4⟩; have h4 := gb_drP hg4; have d0 := h4.cell t0 (by simp); have d1 := h4.cell t1 (by simp); have d2 := h4.cell c0 (by simp); have d3 := h4.cell c1 (by simp); have G4 := Lib.hid (gb_trans BG.out (gb_trans HG.out h4)); clear h4 hg4)
              | fail)
          all_goals
            clear t0 t1 c0 c1
            go_wp2_with fail
            go_quiet (fail)
            go_wp2_with fail
            go_ret
            exact put_there HR.out.symm HL.out hbase HO.out (gb_drewN G4.out _)
        · have HL2 := Lib.hid (fun w => show Calls Tryd.prog 77 #[.agg #[.int .i64 d.1, .int .i64 d.2], .agg #[.int .i64 x.1, .int .i64 x.2]] w (RetB false w) from hlt ▸ HLT.out d x w)
          have heq := run_neD hxd
          have HR := Lib.hid (HDP.out k HS.out (fun m' e => by obtain rfl : m' = m := (by omega); exact ⟨by rw [hx]; exact hlt, by rw [hx]; exact hxd⟩))
          clear hx hlt h0 hxd hm
          go_wp2_with fail
          go_region_held3 (fun w' => w'.cell? ⟨w.heap.size, 0, none⟩ = some (.int .i64 d.1) ∧ w'.cell? ⟨w.heap.size, 1, none⟩ = some (.int .i64 d.2) ∧ w'.cell? ⟨g, m * 2, none⟩ = some (.int .i64 x.1) ∧ w'.cell? ⟨g, m * 2 + 1, none⟩ = some (.int .i64 x.2))
            (first | exact ⟨t0, t1, c0, c1⟩ | exact ⟨d0, d1, d2, d3⟩ | fail)
            (first
              | (go_at_call 77; (with_reducible refine (HL2.out _).mono ?_); rintro e w4 ⟨rfl, hg4⟩; have h4 := gb_drP hg4; have d0 := h4.cell t0 (by simp); have d1 := h4.cell t1 (by simp); have d2 := h4.cell c0 (by simp); have d3 := h4.cell c1 (by simp); have G4 := Lib.hid h4; clear h4 hg4)
              | fail)
          all_goals
            have HAI := Lib.hid (HAIR.out.none (by have := HS1.out; omega) G4.out)
            have HSW := Lib.hid (show w.heap.size ≤ w4.heap.size by have := HS1.out; have := G4.out.size; omega)
            have BBW := Lib.hid (BBR.out.grown G4.out (by simp))
            have GWS := G4
            clear t0 t1 c0 c1
            by_cases hck : cap = k
            · have HCK := Lib.hid (show n - k = 0 by omega)
              have HDN := Lib.hid (show D.drop k = [] by rw [List.drop_eq_nil_iff]; omega)
              go_wp2_with fail
              go_quiet (fail)
              go_wp2_with (first
                | (at_builtin; refine wpList_app_ownD _ rfl (.tmp 34) (.tmp 37) rfl i0 hi hz0 hz1 hz2 w4.heap.size 0 k _ w.heap.size _ [] (D.take k) _ rfl rfl (own_madeD _ (Nat.le_refl _)) ((HAI.out.none HSW.out (gb_alloc (gb_drewN (gb_refl _ none) _) _)).take HK.out) (by omega) (by simp) ?_; intro v1 wA ho2 hg2; have HG3 := Lib.hid (gb_un (gb_made hg2)); have HS2 := Lib.hid HG3.out.size; have bb2 := BBW.out.grown HG3.out (by simp); have t2 : wA.cell? ⟨w.heap.size, 0, none⟩ = some (.int .i64 d.1) := bb2.cell 0; have t3 : wA.cell? ⟨w.heap.size, 1, none⟩ = some (.int .i64 d.2) := bb2.cell 1; have O2 := Lib.hid (own_castD ho2 (Nat.zero_add k) (congrArg depV (List.nil_append _))); clear ho2 hg2 bb2)
                | (at_builtin; refine wpList_append_own _ rfl (.tmp 39) (.tmp 41) 66 rfl w4.heap.size 97 i0 (.agg #[.int .i64 0, .int .i64 0]) 2 16 Tryd.underlying66 hi hz0 hz1 hz2 rfl (by decide) _ k _ rfl (O2.out.alloc _) ⟨wA.heap.size, 0, none⟩ 1 1 [.int .i64 d.1, .int .i64 d.2] rfl rfl (World.news_of_block (cs := #[.int .i64 d.1, .int .i64 d.2]) (t := 97) (fr := (0, 0)) (heap_alloc_new wA _)) b2.out (by unfold maxLen; omega) (by omega) (by have := HS2.out; simp; omega) ?_; intro v3 wB ho3 hg3 _; have B3 := Lib.hid (show Below w4.heap.size w4 wB from (((gb_below_none HG3.out (Nat.le_refl _)).alloc HS2.out _).grown hg3 (by have := HS2.out; simp; omega) (fun q hq => (O2.out.lt q hq).1))); have O3 := Lib.hid (own_castD ho3 rfl (show depV (D.take k) ++ [Value.int .i64 d.1, Value.int .i64 d.2] = depV (D.take k ++ [d]) by rw [depV_append]; rfl)); clear ho3 hg3 t2 t3)
                | (at_builtin; refine wpList_app_ownD _ rfl (.tmp 43) (.tmp 46) rfl i0 hi hz0 hz1 hz2 w4.heap.size (k + 1) (n - k) _ w.heap.size _ (D.take k ++ [d]) (D.drop k) _ rfl rfl O3.out (by first | (have h5 := (HAI.out.below (B3.out.mono HSW.out)).drop HK.out; rw [Nat.zero_add] at h5; exact h5) | (have h5 := HDN.out; simp only [HCK.out, h5]; exact DepAt.nil _ _ _)) (by omega) B3.out.size ?_; intro v4 wC ho4 hg4; have O4 := Lib.hid ho4; have G4 := Lib.hid (gb_of_below (B3.out.grown hg4 B3.out.size (fun q hq => (O3.out.lt q hq).1)) none); clear ho4 hg4))
              go_ret
              exact put_ret (HR.out.trans (by simp)) (by simp [HL.out]; omega) (by omega) (Nat.le_trans hbase HSW.out) O4.out (gb_trans (gb_trans BG.out HG.out) (gb_trans GWS.out G4.out))
            · have HCK := Lib.hid hck
              have HDN := Lib.hid hck
              go_wp2_with fail
              go_quiet (fail)
              go_wp2_with (first
                | (at_builtin; refine wpList_app_ownD _ rfl (.tmp 34) (.tmp 37) rfl i0 hi hz0 hz1 hz2 w4.heap.size 0 k _ w.heap.size _ [] (D.take k) _ rfl rfl (own_madeD _ (Nat.le_refl _)) ((HAI.out.none HSW.out (gb_alloc (gb_drewN (gb_refl _ none) _) _)).take HK.out) (by omega) (by simp) ?_; intro v1 wA ho2 hg2; have HG3 := Lib.hid (gb_un (gb_made hg2)); have HS2 := Lib.hid HG3.out.size; have bb2 := BBW.out.grown HG3.out (by simp); have t2 : wA.cell? ⟨w.heap.size, 0, none⟩ = some (.int .i64 d.1) := bb2.cell 0; have t3 : wA.cell? ⟨w.heap.size, 1, none⟩ = some (.int .i64 d.2) := bb2.cell 1; have O2 := Lib.hid (own_castD ho2 (Nat.zero_add k) (congrArg depV (List.nil_append _))); clear ho2 hg2 bb2)
                | (at_builtin; refine wpList_append_own _ rfl (.tmp 39) (.tmp 41) 66 rfl w4.heap.size 97 i0 (.agg #[.int .i64 0, .int .i64 0]) 2 16 Tryd.underlying66 hi hz0 hz1 hz2 rfl (by decide) _ k _ rfl (O2.out.alloc _) ⟨wA.heap.size, 0, none⟩ 1 1 [.int .i64 d.1, .int .i64 d.2] rfl rfl (World.news_of_block (cs := #[.int .i64 d.1, .int .i64 d.2]) (t := 97) (fr := (0, 0)) (heap_alloc_new wA _)) b2.out (by unfold maxLen; omega) (by omega) (by have := HS2.out; simp; omega) ?_; intro v3 wB ho3 hg3 _; have B3 := Lib.hid (show Below w4.heap.size w4 wB from (((gb_below_none HG3.out (Nat.le_refl _)).alloc HS2.out _).grown hg3 (by have := HS2.out; simp; omega) (fun q hq => (O2.out.lt q hq).1))); have O3 := Lib.hid (own_castD ho3 rfl (show depV (D.take k) ++ [Value.int .i64 d.1, Value.int .i64 d.2] = depV (D.take k ++ [d]) by rw [depV_append]; rfl)); clear ho3 hg3 t2 t3)
                | (at_builtin; refine wpList_app_ownD _ rfl (.tmp 43) (.tmp 46) rfl i0 hi hz0 hz1 hz2 w4.heap.size (k + 1) (n - k) _ w.heap.size _ (D.take k ++ [d]) (D.drop k) _ rfl rfl O3.out (by first | (have h5 := (HAI.out.below (B3.out.mono HSW.out)).drop HK.out; rw [Nat.zero_add] at h5; exact h5) | (have h5 := HDN.out; simp only [HCK.out, h5]; exact DepAt.nil _ _ _)) (by omega) B3.out.size ?_; intro v4 wC ho4 hg4; have O4 := Lib.hid ho4; have G4 := Lib.hid (gb_of_below (B3.out.grown hg4 B3.out.size (fun q hq => (O3.out.lt q hq).1)) none); clear ho4 hg4))
              go_ret
              exact put_ret (HR.out.trans (by simp)) (by simp [HL.out]; omega) (by omega) (Nat.le_trans hbase HSW.out) O4.out (gb_trans (gb_trans BG.out HG.out) (gb_trans GWS.out G4.out))
end Go.Proofs.YtidilfakganooaaDoor
end

section
namespace Go.Proofs.YtidilfakganooaaDoor
open Go.ChangeShapes Go.WideShapes Go.ChangeAt Go.RowKit
set_option linter.unusedVariables false
set_option maxRecDepth 20000

set_option maxHeartbeats 1600000 in
theorem specDependsOk (A : Option Addr) (n cap : Nat) (D : List Dep) (w : World) (h : DepAt w w.heap.size A n D) (hn : n ≤ 4000000000) :
    Calls Tryd.prog 53 #[.slice A n cap] w (RetB (okD D) w) := by
  have HI := Lib.hid h
  have hl := h.1
  have HR := Lib.hid (fun (x : Int) (b : Bool) (hb : decide (0 ≤ x ∧ x ≤ 127) = b) w => specInV x 0 127 b hb w)
  have HC := Lib.hid (fun (a b : Dep) w => specLess a b w)
  have HYES := Lib.hid (okD_iff (D := D)).2
  have HNO := Lib.hid (fun k hk (h : stepD D k = false) => okD_not (D := D) (k := k) hk h)
  obtain ⟨b, hb⟩ : ∃ b, okD D = b := ⟨_, rfl⟩
  rw [hb] at HYES HNO
  rw [hb]
  clear h hb
  go_enter Tryd.func53, Tryd.ntmps53
  go_wp2_with fail
  go_loopw [3] (fun i wr => ∃ k : Nat, i = .int .i64 (k : Int) ∧ k ≤ n ∧ (∀ j, j < k → stepD D j = true) ∧ w.grownBy wr none) (fun i _ => n - (intOf i).toNat)
  case atStart => exact ⟨0, rfl, Nat.zero_le _, fun j hj => by omega, gb_refl _ _⟩
  case round =>
    obtain ⟨k, rfl, hk, hs, hg⟩ := hrel
    have HS := Lib.hid hs
    have HG := Lib.hid hg
    have hai := HI.out.none (Nat.le_refl _) hg
    clear hs hg
    by_cases hlt : k < n
    · obtain ⟨b1, off, rfl, hb1, c0, c1⟩ := hai.at k hlt
      obtain ⟨x, hx⟩ : ∃ x, atD D k = x := ⟨_, rfl⟩
      rw [hx] at c0 c1
      have HAI := Lib.hid hai
      have k0 : (0 : Int) ≤ (k : Int) := by omega
      have k1 : (k : Int) < (n : Int) := by omega
      have hin : inD x = (decide (0 ≤ x.1 ∧ x.1 ≤ 127) && decide (0 ≤ x.2 ∧ x.2 ≤ 127)) := by
        unfold inD
        rw [← Bool.decide_and]
        exact decide_eq_decide.2 (by omega)
      clear hai
      cases hi1 : decide (0 ≤ x.1 ∧ x.1 ≤ 127) with
      | false =>
        have hst : stepD D k = false := by unfold stepD; rw [hx, hin, hi1, Bool.false_and, Bool.false_and]
        have HB := Lib.hid (HNO.out k (by omega) hst)
        have HR1 := Lib.hid (fun w => HR.out x.1 false hi1 w)
        clear hin hi1 hst hx
        go_wp2_with fail
        go_quiet (first
          | (with_reducible refine Calls.quiet_of_same (still_of (HR1.out _))))
        go_wp2_with fail
        go_ret
        exact ⟨ret_bool HB.out.symm, gb_drewN HG.out _⟩
      | true =>
        cases hi2 : decide (0 ≤ x.2 ∧ x.2 ≤ 127) with
        | false =>
          have hst : stepD D k = false := by unfold stepD; rw [hx, hin, hi1, hi2, Bool.true_and, Bool.false_and]
          have HB := Lib.hid (HNO.out k (by omega) hst)
          have HR1 := Lib.hid (fun w => HR.out x.1 true hi1 w)
          have HR2 := Lib.hid (fun w => HR.out x.2 false hi2 w)
          clear hin hi1 hi2 hst hx
          go_wp2_with fail
          go_quiet (first
            | (with_reducible refine Calls.quiet_of_same (still_of (HR1.out _)))
            | (with_reducible refine Calls.quiet_of_same (still_of (HR2.out _))))
          go_wp2_with fail
          go_ret
          exact ⟨ret_bool HB.out.symm, gb_drewN HG.out _⟩
        | true =>
          have HR1 := Lib.hid (fun w => HR.out x.1 true hi1 w)
          have HR2 := Lib.hid (fun w => HR.out x.2 true hi2 w)
          have hinx : inD x = true := by rw [hin, hi1, hi2]; rfl
          by_cases h0 : k = 0
          · have hst : stepD D k = true := by unfold stepD; rw [hx, hinx, h0]; rfl
            have HST := Lib.hid hst
            have H0 := Lib.hid h0
            have hd : decide (0 < k) = false := decide_eq_false (by omega)
            clear hin hinx hi1 hi2 hst hx h0
            go_wp2_with fail
            go_quiet (first
              | (with_reducible refine Calls.quiet_of_same (still_of (HR1.out _)))
              | (with_reducible refine Calls.quiet_of_same (still_of (HR2.out _))))
            go_wp2_with fail
            go_roundw
            case rel => exact ⟨k + 1, by go_num, by omega, fun j hj => by have h0 := H0.out; obtain rfl : j = k := (by omega); exact HST.out, gb_drewN HG.out _⟩
            case measure => simp [intOf]; omega
          · obtain ⟨m, hm⟩ : ∃ m, k = m + 1 := ⟨k - 1, by omega⟩
            obtain ⟨_, _, hA, _, e0, e1⟩ := HAI.out.at m (by omega)
            injection hA with hA
            injection hA with hA1 hA2
            subst hA1
            subst hA2
            obtain ⟨y, hy⟩ : ∃ y, atD D m = y := ⟨_, rfl⟩
            rw [hy] at e0 e1
            have m0 : (0 : Int) ≤ (m : Int) := by omega
            have m1 : (m : Int) < (n : Int) := by omega
            have e2 : IntKind.i64.wrap ((k : Int) - 1) = (m : Int) := by rw [IntWalk.i64_in _ (by omega)]; omega
            have hd : decide (0 < k) = true := decide_eq_true (by omega)
            have hpos : (0 : Int) < (k : Int) := by omega
            have HM := Lib.hid hm
            obtain ⟨r, hr⟩ : ∃ r, ltD y x = r := ⟨_, rfl⟩
            have HC2 := Lib.hid (fun w => show Calls _ _ _ w (RetB r w) from hr ▸ HC.out y x w)
            have hstep : stepD D k = r := by
              have e : (decide (k = 0)) = false := decide_eq_false h0
              unfold stepD
              rw [hx, hinx, e, Bool.false_or, Bool.true_and, show k - 1 = m by omega, hy, hr]
            cases r with
            | true =>
              have HST := Lib.hid hstep
              clear hin hinx hi1 hi2 hx hy hr hm hstep h0
              go_wp2_with fail
              go_region_held3 (fun w' => w'.cell? ⟨b1, off + k * 2, none⟩ = some (.int .i64 x.1) ∧ w'.cell? ⟨b1, off + k * 2 + 1, none⟩ = some (.int .i64 x.2) ∧ w'.cell? ⟨b1, off + m * 2, none⟩ = some (.int .i64 y.1) ∧ w'.cell? ⟨b1, off + m * 2 + 1, none⟩ = some (.int .i64 y.2))
                (first | exact ⟨c0, c1, e0, e1⟩ | exact ⟨d0, d1, d2, d3⟩ | fail)
                (first
                  | (go_at_call 77; (with_reducible refine (HC2.out _).mono ?_); rintro e w5 ⟨rfl, hg5⟩; have h5 := gb_drP hg5; have d0 := h5.cell c0 (by simp); have d1 := h5.cell c1 (by simp); have d2 := h5.cell e0 (by simp); have d3 := h5.cell e1 (by simp); have G5 := Lib.hid (gb_trans HG.out h5); clear h5 hg5)
                  | (go_at_call 74; (with_reducible refine (HR1.out _).mono ?_); rintro e w6 ⟨rfl, rfl⟩)
                  | (go_at_call 74; (with_reducible refine (HR2.out _).mono ?_); rintro e w7 ⟨rfl, rfl⟩)
                  | fail)
              all_goals
                clear d0 d1 d2 d3 c0 c1 e0 e1
                go_wp2_with fail
                go_roundw
                case rel => exact ⟨k + 1, by go_num, by omega, fun j hj => by rcases Nat.lt_succ_iff_lt_or_eq.1 hj with h | h; exact HS.out j h; rw [h]; exact HST.out, G5.out⟩
                case measure => simp [intOf]; omega
            | false =>
              have HB := Lib.hid (HNO.out k (by omega) hstep)
              clear hin hinx hi1 hi2 hx hy hr hm hstep h0
              go_wp2_with fail
              go_region_held3 (fun w' => w'.cell? ⟨b1, off + k * 2, none⟩ = some (.int .i64 x.1) ∧ w'.cell? ⟨b1, off + k * 2 + 1, none⟩ = some (.int .i64 x.2) ∧ w'.cell? ⟨b1, off + m * 2, none⟩ = some (.int .i64 y.1) ∧ w'.cell? ⟨b1, off + m * 2 + 1, none⟩ = some (.int .i64 y.2))
                (first | exact ⟨c0, c1, e0, e1⟩ | exact ⟨d0, d1, d2, d3⟩ | fail)
                (first
                  | (go_at_call 77; (with_reducible refine (HC2.out _).mono ?_); rintro e w5 ⟨rfl, hg5⟩; have h5 := gb_drP hg5; have d0 := h5.cell c0 (by simp); have d1 := h5.cell c1 (by simp); have d2 := h5.cell e0 (by simp); have d3 := h5.cell e1 (by simp); have G5 := Lib.hid (gb_trans HG.out h5); clear h5 hg5)
                  | (go_at_call 74; (with_reducible refine (HR1.out _).mono ?_); rintro e w6 ⟨rfl, rfl⟩)
                  | (go_at_call 74; (with_reducible refine (HR2.out _).mono ?_); rintro e w7 ⟨rfl, rfl⟩)
                  | fail)
              all_goals
                clear d0 d1 d2 d3 c0 c1 e0 e1
                go_wp2_with fail
                go_ret
                exact ⟨ret_bool HB.out.symm, G5.out⟩
    · obtain rfl : k = n := by omega
      have HB := Lib.hid (HYES.out (fun j hj => HS.out j (by omega)))
      clear hai
      go_wp2_with fail
      go_ret
      exact ⟨ret_bool HB.out.symm, HG.out⟩
end Go.Proofs.YtidilfakganooaaDoor
end

section
namespace Go.Proofs.YtidilfakganooaaDoor
open Go.ChangeShapes Go.WideShapes Go.ChangeAt Go.RowKit
set_option linter.unusedVariables false
set_option maxRecDepth 20000

/-- A list that is not nil, in a block of the call's own from B on. -/
def DvAt (B : Nat) (w0 : World) (D : List Dep) (v : Value) (wr : World) : Prop :=
  (∃ g c, v = .slice (some ⟨g, 0, none⟩) D.length c) ∧ wr.ownsRow B 97 2 v D.length (depV D) ∧ B ≤ w0.heap.size ∧ Below B w0 wr
section
variable {B : Nat} {w0 wr w' : World} {D D' : List Dep} {v v' : Value}
theorem DvAt.gb (h : DvAt B w0 D v wr) (hg : wr.grownBy w' none) : DvAt B w0 D v w' := ⟨h.1, own_none h.2.1 hg, h.2.2.1, below_gb h.2.2.2 h.2.2.1 hg⟩
theorem DvAt.put {e : Ending} (h : DvAt B w0 D v wr) (hp : PutN B D' wr e w') : ∃ v', e = .returned v' ∧ DvAt B w0 D' v' w' ∧ wr.grownBy w' none := by
  obtain ⟨g, c, rfl, ho, hg⟩ := hp
  exact ⟨_, rfl, ⟨⟨g, c, rfl⟩, ho, h.2.2.1, below_gb h.2.2.2 h.2.2.1 hg⟩, hg⟩
theorem DvAt.start (w0 : World) (hB : B ≤ w0.heap.size) : DvAt B w0 [] (.slice (some ⟨w0.heap.size, 0, none⟩) 0 0) (w0.alloc (.cells #[] 97)) :=
  ⟨⟨_, _, rfl⟩, own_madeD w0 hB, hB, (Below.refl _ _).alloc hB _⟩
theorem DvAt.le (h : DvAt B w0 D v wr) : B ≤ wr.heap.size := Nat.le_trans h.2.2.1 h.2.2.2.size
end
end Go.Proofs.YtidilfakganooaaDoor
end

section
namespace Go.Proofs.YtidilfakganooaaDoor
open Go.ChangeShapes Go.WideShapes Go.ChangeAt Go.RowKit
set_option linter.unusedVariables false
set_option maxRecDepth 20000

/-- The list so far, above the boxes of the mesh and the table. -/
def DsS (W H : Int) (A A2 : Option Addr) (n cap n2 c2 : Nat) (w : World) (D : List Dep) (v : Value) (wr : World) : Prop := DvAt (w.heap.size + 2) (twoB W H A A2 n cap n2 c2 w) D v wr
section
variable {W H : Int} {A A2 : Option Addr} {n cap n2 c2 : Nat} {w wr w' : World} {D D' : List Dep} {v v' : Value}
theorem DsS.gb (h : DsS W H A A2 n cap n2 c2 w D v wr) (hg : wr.grownBy w' none) : DsS W H A A2 n cap n2 c2 w D v w' := DvAt.gb h hg
theorem DsS.cells (h : DsS W H A A2 n cap n2 c2 w D v wr) : wr.cell? ⟨w.heap.size, 0, none⟩ = some (.int .i64 W) ∧ wr.cell? ⟨w.heap.size, 1, none⟩ = some (.int .i64 H) ∧ wr.cell? ⟨w.heap.size, 2, none⟩ = some (.slice A n cap) ∧ wr.cell? ⟨w.heap.size + 1, 0, none⟩ = some (.slice A2 n2 c2) :=
  ⟨(twoB_mesh h.2.2.2).cell 0, (twoB_mesh h.2.2.2).cell 1, (twoB_mesh h.2.2.2).cell 2, (twoB_table h.2.2.2).cell 0⟩
theorem DsS.new (h : DsS W H A A2 n cap n2 c2 w D v wr) {E : List Dep} (hE : D = E) : NewD E w (.returned v) wr := by
  subst hE
  exact ⟨v, rfl, own_less h.2.1 (by omega), twoB_old h.2.2.2⟩
end

set_option maxHeartbeats 1600000 in
theorem specDependsOf (W H : Int) (A A2 : Option Addr) (n cap n2 c2 : Nat) (L P : List Int) (w : World) (h : IntAt w w.heap.size A n L) (h2 : IntAt w w.heap.size A2 n2 P) (hn : n ≤ 1000000000) (hn2 : n2 ≤ 1000000000) :
    Calls Tryd.prog 32 #[.agg #[.int .i64 W, .int .i64 H, .slice A n cap], .agg #[.slice A2 n2 c2]] w (NewD (depG W H L P) w) := by
  have X0 := Lib.hid (show DsS W H A A2 n cap n2 c2 w [] _ _ from DvAt.start (B := w.heap.size + 2) (twoB W H A A2 n cap n2 c2 w) (by rw [twoB_size]; exact Nat.le_refl _))
  rw [twoB_size] at X0
  have HI := Lib.hid h
  have HP := Lib.hid h2
  have HT := Lib.hid (h.old X0.out.2.2.2)
  have HT2 := Lib.hid (h2.old X0.out.2.2.2)
  clear h h2
  cases ht : tableG W H L P with
  | false =>
    have HS := Lib.hid (fun w h h2 => specTableOkV W H A A2 n cap n2 c2 L P false ht w h h2 hn hn2)
    have HF := Lib.hid (depG_no ht)
    clear ht
    go_enter Tryd.func32, Tryd.ntmps32
    go_wp2_with fail
    refine (HS.out _ HT.out HT2.out).mono ?_
    rintro e w1 ⟨rfl, hg⟩
    have X1 := Lib.hid (X0.out.gb hg)
    clear hg
    go_wp2_with fail
    go_ret
    exact X1.out.new HF.out.symm
  | true =>
    have HS := Lib.hid (fun w h h2 => specTableOkV W H A A2 n cap n2 c2 L P true ht w h h2 hn hn2)
    have HF := Lib.hid (depG_yes ht)
    obtain ⟨k, hk⟩ : ∃ k, countG W H = k := ⟨_, rfl⟩
    obtain ⟨hk0, hk1⟩ := countG_le W H
    have hsq := sq_int W H
    have hsq2 := sqG_le (W := W) (H := H)
    rw [hk] at hk0 hk1 hsq
    obtain ⟨m0, m1⟩ := sq_bounds hk0 hk1
    have HSQ := Lib.hid hsq
    have hw : wrap64 (k * k) = k * k := IntWalk.wrap64_in _ (by omega)
    have HN := Lib.hid (fun w => specNodeCountV W H k hk w)
    have HK := Lib.hid hk
    have HSZ := Lib.hid (tableG_sized ht)
    clear hk ht hsq
    go_enter Tryd.func32, Tryd.ntmps32
    go_wp2_with fail
    refine (HS.out _ HT.out HT2.out).mono ?_
    rintro e w1 ⟨rfl, hg⟩
    have X1 := Lib.hid (X0.out.gb hg)
    obtain ⟨a0, a1, a2, a3⟩ := X1.out.cells
    clear hg
    go_wp2_with fail
    refine (HN.out _).mono ?_
    rintro e w2 ⟨rfl, hg⟩
    have X2 := Lib.hid (show DsS W H A A2 n cap n2 c2 w (allD W H L P 0) _ w2 from X1.out.gb hg)
    clear hg a0 a1 a2 a3
    go_wp2_with fail
    go_loopw [5, 7] (fun v i wr => ∃ x : Nat, i = .int .i64 (x : Int) ∧ (x : Int) ≤ k * k ∧ DsS W H A A2 n cap n2 c2 w (allD W H L P x) v wr) (fun _ i _ => 257 - (intOf i).toNat)
    case atStart => exact ⟨0, rfl, by omega, X2.out⟩
    case round =>
      obtain ⟨x, rfl, hx, hxx⟩ := hrel
      have X3 := Lib.hid hxx
      obtain ⟨gv0, cv0, rfl⟩ := hxx.1
      clear hxx
      by_cases hlt : (x : Int) < k * k
      · obtain ⟨hax, hay⟩ := pair_at (W := W) (H := H) (i := x) (by have := HSQ.out; omega)
        have hk1' : 1 ≤ k := by
          rcases Int.lt_or_le k 1 with h | h
          · have : k = 0 := by omega
            subst this; omega
          · exact h
        obtain ⟨u, hu⟩ : ∃ u, (x : Int) / countG W H = u := ⟨_, rfl⟩
        obtain ⟨y, hy⟩ : ∃ y, (x : Int) % countG W H = y := ⟨_, rfl⟩
        obtain ⟨R, hR⟩ : ∃ R, pairW W H L P x = R := ⟨_, rfl⟩
        have hRN := pairW_len (W := W) (H := H) (L := L) (P := P) x
        have HAN := Lib.hid (allD_next hR)
        have HASC := Lib.hid (fun j => insAll_asc (allD_asc (W := W) (H := H) (L := L) (P := P) x) (wayD R j))
        have HLEN := Lib.hid (fun j hj => ins_len (W := W) (H := H) (L := L) (P := P) (k := x) (j := j) (R := R) (by have := HSQ.out; omega) hj)
        rw [hR] at hRN
        have hRw : walkOf W H L P u y = R := by rw [← hR, pairW, hu, hy]
        rw [hu] at hax
        rw [hy] at hay
        have hu15 := hasG_le hax
        have hy15 := hasG_le hay
        rw [HK.out] at hu hy
        have q1 : (x : Int).tdiv k = u := by rw [Int.tdiv_eq_ediv_of_nonneg (by omega)]; exact hu
        have q2 : (x : Int).tmod k = y := by rw [Int.tmod_eq_emod_of_nonneg (by omega)]; exact hy
        have q3 : IntKind.i64.wrap u = u := IntWalk.i64_in _ (by omega)
        have q4 : IntKind.i64.wrap y = y := IntWalk.i64_in _ (by omega)
        have q5 : (k == 0) = false := by simp; omega
        have q6 : k ≠ 0 := by omega
        have HWK := Lib.hid (fun w h h2 => hRw ▸ specWalk W H A A2 n cap n2 c2 L P u y w h h2 hn hn2 HSZ.out hax hay)
        obtain ⟨a0, a1, a2, a3⟩ := X3.out.cells
        have HI2 : Hid (IntAt wr.drew wr.drew.heap.size A n L) := (HI.out.old X3.out.2.2.2 : IntAt wr wr.heap.size A n L)
        have HP2 : Hid (IntAt wr.drew wr.drew.heap.size A2 n2 P) := (HP.out.old X3.out.2.2.2 : IntAt wr wr.heap.size A2 n2 P)
        obtain ⟨N, hN⟩ : ∃ N, R.length = N := ⟨_, rfl⟩
        have HN2 := Lib.hid hN
        obtain ⟨D, hD⟩ : ∃ D, allD W H L P x = D := ⟨_, rfl⟩
        rw [hD] at X3 HAN HASC HLEN
        rw [hD]
        have HLE := Lib.hid (show w.heap.size + 2 ≤ wr.heap.size from X3.out.le)
        clear hax hay hu hy hR hRw hD
        go_wp2_with fail
        go_region_held3 (fun w' => w'.cell? ⟨w.heap.size, 0, none⟩ = some (.int .i64 W) ∧ w'.cell? ⟨w.heap.size, 1, none⟩ = some (.int .i64 H) ∧ w'.cell? ⟨w.heap.size, 2, none⟩ = some (.slice A n cap) ∧ w'.cell? ⟨w.heap.size + 1, 0, none⟩ = some (.slice A2 n2 c2))
          (first | exact ⟨a0, a1, a2, a3⟩ | exact ⟨d0, d1, d2, d3⟩)
          (first
            | (go_at_call 51; (with_reducible refine (HWK.out _ HI2.out HP2.out).mono ?_); rintro e w4 ⟨v, rfl, o4, b4⟩; have X4 := Lib.hid (X3.out.gb (gb_of_below (below_undrew3 b4) none)); obtain ⟨d0, d1, d2, d3⟩ := X4.out.cells; have O4 := Lib.hid (own_less o4 HLE.out); obtain ⟨AR, capR, rfl, har⟩ := own_form o4; have HAR := Lib.hid har; clear o4 b4 har; rw [hN])
            | fail)
        all_goals
          have X6 := Lib.hid (show DsS W H A A2 n cap n2 c2 w (insAll D (wayD R 0)) _ w4 from X4.out)
          rw [hN] at O4 HAR hRN
          clear d0 d1 d2 d3 hN X4 q1 q2 q3 q4 q5 q6 a0 a1 a2 a3
          go_wp2_with fail
          go_loopw [5, 9] (fun v i ws => ∃ j : Nat, i = .int .i64 ((j : Int) + 1) ∧ j ≤ N - 1 ∧ DsS W H A A2 n cap n2 c2 w (insAll D (wayD R j)) v ws ∧ ws.ownsRow (w.heap.size + 2) 3 1 (.slice AR N capR) N (intsV R)) (fun _ i _ => 17 - (intOf i).toNat)
          case atStart => exact ⟨0, rfl, Nat.zero_le _, X6.out, O4.out⟩
          case round =>
            obtain ⟨j, rfl, hj, hx, ho⟩ := hrel
            have X7 := Lib.hid hx
            have O7 := Lib.hid ho
            obtain ⟨gv, cv, rfl⟩ := hx.1
            clear hx ho
            by_cases hlt3 : j + 1 < N
            · have hl3 : (j : Int) + 1 < (N : Int) := by omega
              obtain ⟨gr, hgr⟩ := HAR.out (by omega)
              subst hgr
              obtain ⟨x1, hx1⟩ : ∃ z, R.getD j 0 = z := ⟨_, rfl⟩
              obtain ⟨x2, hx2⟩ : ∃ z, R.getD (j + 1) 0 = z := ⟨_, rfl⟩
              have c1 := ints_cell O7.out j x1 (by rw [← hx1, List.getD, List.getElem?_eq_getElem (by rw [HN2.out]; omega)]; rfl) HN2.out
              have c2' := ints_cell O7.out (j + 1) x2 (by rw [← hx2, List.getD, List.getElem?_eq_getElem (by rw [HN2.out]; omega)]; rfl) HN2.out
              have hwn := Lib.hid (ins_way (D := D) hx1 hx2)
              obtain ⟨E, hE⟩ : ∃ E, insAll D (wayD R j) = E := ⟨_, rfl⟩
              have hEA := HASC.out j
              have hEL := HLEN.out j (by omega)
              rw [hE] at X7 hwn hEA hEL
              rw [hE]
              have HA := Lib.hid (fun (w' : World) (h : w'.ownsRow (w.heap.size + 2) 97 2 (.slice (some ⟨gv, 0, none⟩) E.length cv) E.length (depV E)) (hb : w.heap.size + 2 ≤ w'.heap.size) => specPut (w.heap.size + 2) E.length gv cv E (x1, x2) hEA w' h hb (by omega))
              obtain ⟨m, hm⟩ : ∃ m : Nat, j + 1 = m := ⟨_, rfl⟩
              have hmi : (j : Int) + 1 = (m : Int) := by omega
              rw [hm] at c2'
              have j0 : (0 : Int) ≤ (j : Int) := by omega
              have j1 : (j : Int) < (N : Int) := by omega
              have j2 : (0 : Int) ≤ (m : Int) := by omega
              have j3 : (m : Int) < (N : Int) := by omega
              have e2 : IntKind.i64.wrap ((m : Int) - 1) = (j : Int) := by rw [IntWalk.i64_in _ (by omega)]; omega
              have HMM := Lib.hid (And.intro hm hlt3)
              rw [hmi]
              clear hx1 hx2 hl3 hlt3 hmi hm hE hEA hEL
              go_wp2_with fail
              go_region_held3 (fun w' => w'.cell? ⟨gr, j, none⟩ = some (.int .i64 x1) ∧ w'.cell? ⟨gr, m, none⟩ = some (.int .i64 x2))
                (first | exact ⟨c1, c2'⟩ | exact ⟨d1, d2⟩ | fail)
                (first
                  | (go_at_call 52; (with_reducible refine (HA.out _ ?_ ?_).mono ?_); exact own_none X7.out.2.1 (gb_drew (gb_refl _ _)); exact X7.out.le; rintro e w7 ⟨g7, q7, rfl, ho7, hg7⟩; have d1 := (gb_drP hg7).cell c1 (by simp); have d2 := (gb_drP hg7).cell c2' (by simp))
                  | fail)
              all_goals
                have X8 := Lib.hid (show DsS W H A A2 n cap n2 c2 w (insAll D (wayD R (j + 1))) _ w7 from ⟨⟨g7, q7, by rw [← hwn.out]⟩, by rw [← hwn.out]; exact ho7, X7.out.2.2.1, below_gb X7.out.2.2.2 X7.out.2.2.1 (gb_drP hg7)⟩)
                have O8 := Lib.hid (own_none O7.out (gb_drP hg7))
                clear ho7 hg7 d1 d2 c1 c2'
                go_wp2_with fail
                go_roundw
                case rel => exact ⟨j + 1, by have hm := HMM.out.1; go_num, by have := HMM.out.2; omega, X8.out, O8.out⟩
                case measure => have hm := HMM.out; simp [intOf]; omega
            · obtain rfl : j = N - 1 := by omega
              have hl3 : ¬ ((N - 1 : Nat) : Int) + 1 < (N : Int) := by omega
              have X8 := Lib.hid (show DsS W H A A2 n cap n2 c2 w (allD W H L P (x + 1)) _ _ from by
                rw [← HAN.out, HN2.out]
                exact X7.out)
              clear X7 O7
              go_wp2_with fail
              go_roundw
              case rel => exact ⟨x + 1, by go_num, by omega, X8.out⟩
              case measure => simp [intOf]; omega
      · have hxk : x = sqG W H := by have := HSQ.out; omega
        have HR := Lib.hid (show allD W H L P x = depG W H L P by rw [HF.out, hxk])
        clear hxk
        go_wp2_with fail
        go_ret
        exact X3.out.new HR.out
end Go.Proofs.YtidilfakganooaaDoor
end

section
namespace Go.Proofs.YtidilfakganooaaDoor
open Go.ChangeShapes Go.WideShapes Go.ChangeAt Go.RowKit
set_option linter.unusedVariables false
set_option maxRecDepth 20000

set_option maxHeartbeats 1600000 in
theorem specIsOrder (A AR : Option Addr) (n cap nR cR : Nat) (D : List Dep) (R : List Int) (w : World) (h : DepAt w w.heap.size A n D) (hR : IntAt w w.heap.size AR nR R) (hn : n ≤ 1000000000) (hnR : nR ≤ 1000000000) :
    Calls Tryd.prog 33 #[.slice A n cap, .slice AR nR cR] w (RetB (isOrdO D R) w) := by
  have hl := h.1
  have hRl := hR.1
  have HI := Lib.hid h
  have HR := Lib.hid hR
  have HOK := Lib.hid (specDependsOk A n cap D w h (by omega))
  clear h hR
  cases hok : okD D with
  | false =>
    rw [isOrdO_bad hok]
    rw [hok] at HOK
    clear hok
    go_enter Tryd.func33, Tryd.ntmps33
    go_wp2_with fail
    refine HOK.out.mono ?_
    rintro e w1 ⟨rfl, hg1⟩
    have G1 := Lib.hid hg1
    clear hg1
    go_wp2_with fail
    go_ret
    exact ⟨rfl, G1.out⟩
  | true =>
    by_cases h128 : nR = 128
    · have HIN := Lib.hid (fun k (hk : k < D.length) => inD_iff.1 (okD_in hok (atD_mem hk)))
      have HYES := Lib.hid (fun (h3 : ∀ r : Nat, r < 128 → inG R (r : Int) = true) h4 => isOrdO_of hok (hRl.trans h128) h3 h4)
      have HLA := Lib.hid (fun (r : Nat) (hr : r < 128) h => isOrdO_lack (D := D) (R := R) (r := r) hr h)
      have HFA := Lib.hid (fun i hi h => isOrdO_fall (D := D) (R := R) (i := i) hi h)
      obtain ⟨b, hb⟩ : ∃ b, isOrdO D R = b := ⟨_, rfl⟩
      rw [hb] at HYES HLA HFA
      rw [hb]
      rw [hok] at HOK
      have HF := Lib.hid (fun (r : Nat) (b : Bool) (hb : inG R (r : Int) = b) B (w : World) (h : IntAt w B AR 128 R) => specFindV AR 128 cR B R (r : Int) b hb w h (by omega))
      subst h128
      clear hok hb
      go_enter Tryd.func33, Tryd.ntmps33
      go_wp2_with fail
      refine HOK.out.mono ?_
      rintro e w1 ⟨rfl, hg1⟩
      have G1 := Lib.hid hg1
      clear hg1
      go_wp2_with fail
      go_loopw [5] (fun i wr => ∃ r : Nat, i = .int .i64 (r : Int) ∧ r ≤ 128 ∧ (∀ j : Nat, j < r → inG R (j : Int) = true) ∧ w.grownBy wr none) (fun i _ => 128 - (intOf i).toNat)
      case atStart => exact ⟨0, rfl, Nat.zero_le _, fun j h => by omega, G1.out⟩
      case round =>
        obtain ⟨r, rfl, hr, hall, hg⟩ := hrel
        have HA := Lib.hid hall
        have HG := Lib.hid hg
        clear hall hg
        by_cases hlt : r < 128
        · cases hf : inG R (r : Int) with
          | false =>
            have HB := Lib.hid (HLA.out r hlt hf)
            have HF2 := Lib.hid (fun B w h => HF.out r false hf B w h)
            clear hf
            go_wp2_with fail
            refine (HF2.out _ _ (HR.out.none (Nat.le_refl _) HG.out)).mono ?_
            rintro e w2 ⟨rfl, rfl⟩
            go_wp2_with fail
            go_ret
            exact ⟨ret_bool HB.out.symm, HG.out⟩
          | true =>
            have HB := Lib.hid hf
            have HF2 := Lib.hid (fun B w h => HF.out r true hf B w h)
            clear hf
            go_wp2_with fail
            refine (HF2.out _ _ (HR.out.none (Nat.le_refl _) HG.out)).mono ?_
            rintro e w2 ⟨rfl, rfl⟩
            go_wp2_with fail
            go_roundw
            case rel => exact ⟨r + 1, by go_num, by omega, fun j hj => by rcases Nat.lt_succ_iff_lt_or_eq.1 hj with h | h; exact HA.out j h; rw [h]; exact HB.out, HG.out⟩
            case measure => simp [intOf]; omega
        · obtain rfl : r = 128 := by omega
          go_wp2_with fail
          simp only [show ((128 : Nat) : Int) = 128 from rfl]
          go_loopw [6] (fun i wr => ∃ k : Nat, i = .int .i64 (k : Int) ∧ k ≤ n ∧ (∀ j, j < k → riseO D R j = true) ∧ w.grownBy wr none) (fun i _ => n - (intOf i).toNat)
          case atStart => exact ⟨0, rfl, Nat.zero_le _, fun j h => by omega, HG.out⟩
          case round =>
            obtain ⟨k, rfl, hk, hall, hg⟩ := hrel
            have HS := Lib.hid hall
            have HG2 := Lib.hid hg
            clear hall hg
            by_cases hlt2 : k < n
            · obtain ⟨b1, off, rfl, hb1, c0, c1⟩ := (HI.out.none (Nat.le_refl _) HG2.out).at k hlt2
              obtain ⟨x, hx⟩ : ∃ x, atD D k = x := ⟨_, rfl⟩
              obtain ⟨x0, x1, x2, x3⟩ := HIN.out k (by omega)
              rw [hx] at c0 c1 x0 x1 x2 x3
              obtain ⟨m, hm⟩ : ∃ m : Nat, x.1 = (m : Int) := ⟨x.1.toNat, by omega⟩
              obtain ⟨q, hq⟩ : ∃ q : Nat, x.2 = (q : Int) := ⟨x.2.toNat, by omega⟩
              rw [hm] at c0 x0 x1
              rw [hq] at c1 x2 x3
              obtain ⟨b2, off2, rfl, hb2, e0⟩ := (HR.out.none (Nat.le_refl _) HG2.out).at m (by omega)
              obtain ⟨b3, off3, hA3, hb3, e1⟩ := (HR.out.none (Nat.le_refl _) HG2.out).at q (by omega)
              injection hA3 with hA
              injection hA with hA1 hA2
              subst hA1
              subst hA2
              obtain ⟨y, hy⟩ : ∃ y, R.getD m 0 = y := ⟨_, rfl⟩
              obtain ⟨z, hz⟩ : ∃ z, R.getD q 0 = z := ⟨_, rfl⟩
              rw [hy] at e0
              rw [hz] at e1
              have hh : riseO D R k = decide (y < z) := by unfold riseO; rw [hx, hm, hq, Int.toNat_natCast, Int.toNat_natCast, hy, hz]
              have k0 : (0 : Int) ≤ (k : Int) := by omega
              have k1 : (k : Int) < (n : Int) := by omega
              have m0 : (0 : Int) ≤ (m : Int) := by omega
              have m1 : (m : Int) < 128 := by omega
              have q0 : (0 : Int) ≤ (q : Int) := by omega
              have q1 : (q : Int) < 128 := by omega
              clear hx hm hq hy hz
              by_cases hyz : y < z
              · have HB := Lib.hid (hh.trans (decide_eq_true hyz))
                have hge : ¬ z ≤ y := by omega
                clear hh
                go_wp2_with fail
                go_quiet (fail)
                go_wp2_with fail
                go_roundw
                case rel => exact ⟨k + 1, by go_num, by omega, fun j hj => by rcases Nat.lt_succ_iff_lt_or_eq.1 hj with h | h; exact HS.out j h; rw [h]; exact HB.out, gb_drewN HG2.out _⟩
                case measure => simp [intOf]; omega
              · have HB := Lib.hid (HFA.out k (by omega) (hh.trans (decide_eq_false hyz)))
                have hge : z ≤ y := by omega
                clear hh
                go_wp2_with fail
                go_quiet (fail)
                go_wp2_with fail
                go_ret
                exact ⟨ret_bool HB.out.symm, gb_drewN HG2.out _⟩
            · obtain rfl : k = n := by omega
              have HB := Lib.hid (HYES.out (fun r hr => HA.out r hr) (fun j hj => HS.out j (by omega)))
              go_wp2_with fail
              go_ret
              exact ⟨ret_bool HB.out.symm, HG2.out⟩
    · rw [isOrdO_len (fun e => h128 (hRl.symm.trans e))]
      have hne : ((nR : Int) != 128) = true := by simpa using (fun e : (nR : Int) = 128 => h128 (by omega))
      rw [hok] at HOK
      clear hok
      go_enter Tryd.func33, Tryd.ntmps33
      go_wp2_with fail
      refine HOK.out.mono ?_
      rintro e w1 ⟨rfl, hg1⟩
      have G1 := Lib.hid hg1
      clear hg1
      go_wp2_with fail
      go_ret
      exact ⟨rfl, G1.out⟩
end Go.Proofs.YtidilfakganooaaDoor
end

section
namespace Go.Proofs.YtidilfakganooaaDoor
open Go.ChangeShapes Go.WideShapes Go.ChangeAt Go.RowKit
set_option linter.unusedVariables false
set_option maxRecDepth 20000

theorem specHasD (A : Option Addr) (n cap B : Nat) (D : List Dep) (x y : Int) (b : Bool) (hb : hasD D x y = b) (w : World) (h : DepAt w B A n D) (hn : n ≤ 1000000000) :
    Calls Tryd.prog 55 #[.slice A n cap, .int .i64 x, .int .i64 y] w fun e w' => e = .returned (.bool b) ∧ w = w' := by
  have hl := h.1
  have HI := Lib.hid h
  have HYES := Lib.hid (fun i hi h1 h2 => hb.symm.trans (has_yes (D := D) (x := x) (y := y) (i := i) hi h1 h2))
  have HNO := Lib.hid (fun h => hb.symm.trans (has_no (D := D) (x := x) (y := y) h))
  clear h hb
  go_enter Tryd.func55, Tryd.ntmps55
  go_wp2_with fail
  go_loop [7] (fun i => ∃ k : Nat, i = .int .i64 (k : Int) ∧ k ≤ n ∧ ∀ j, j < k → ¬ ((atD D j).1 = x ∧ (atD D j).2 = y)) (fun i => n - (intOf i).toNat)
  case atStart => exact ⟨0, rfl, Nat.zero_le _, fun j h => by omega⟩
  case round =>
    obtain ⟨k, rfl, hk, hne⟩ := hrel
    have HNE := Lib.hid hne
    clear hne
    by_cases hlt : k < n
    · obtain ⟨b1, off, rfl, hb1, c0, c1⟩ := HI.out.at k hlt
      obtain ⟨d, hd⟩ : ∃ d, atD D k = d := ⟨_, rfl⟩
      rw [hd] at c0 c1
      obtain ⟨p, q⟩ := d
      have k0 : (0 : Int) ≤ (k : Int) := by omega
      have k1 : (k : Int) < (n : Int) := by omega
      by_cases hp : p = x
      · by_cases hq : q = y
        · have HB := Lib.hid (HYES.out k (by omega) (by rw [hd]; exact hp) (by rw [hd]; exact hq))
          clear hd
          subst hp
          subst hq
          go_wp2_with fail
          go_ret
          exact ⟨ret_bool HB.out.symm, rfl⟩
        · have HB := Lib.hid (show ¬ ((atD D k).1 = x ∧ (atD D k).2 = y) by rw [hd]; exact fun e => hq e.2)
          have hqb : (q == y) = false := by simpa using hq
          clear hd
          subst hp
          go_wp2_with fail
          go_round
          case rel => exact ⟨k + 1, by go_num, by omega, fun j hj => by rcases Nat.lt_succ_iff_lt_or_eq.1 hj with h | h; exact HNE.out j h; rw [h]; exact HB.out⟩
          case measure => simp [intOf]; omega
      · have HB := Lib.hid (show ¬ ((atD D k).1 = x ∧ (atD D k).2 = y) by rw [hd]; exact fun e => hp e.1)
        have hpb : (p == x) = false := by simpa using hp
        clear hd
        go_wp2_with fail
        go_round
        case rel => exact ⟨k + 1, by go_num, by omega, fun j hj => by rcases Nat.lt_succ_iff_lt_or_eq.1 hj with h | h; exact HNE.out j h; rw [h]; exact HB.out⟩
        case measure => simp [intOf]; omega
    · obtain rfl : k = n := by omega
      have HB := Lib.hid (HNO.out (fun j hj => HNE.out j (by omega)))
      go_wp2_with fail
      go_ret
      exact ⟨ret_bool HB.out.symm, rfl⟩
end Go.Proofs.YtidilfakganooaaDoor
end

section
namespace Go.Proofs.YtidilfakganooaaDoor
open Go.ChangeShapes Go.WideShapes Go.ChangeAt Go.RowKit
set_option linter.unusedVariables false
set_option maxRecDepth 20000

/-- The place behind k, around the end. -/
theorem around (k n : Nat) (hn : 0 < n) : Int.tmod ((k : Int) + 1) (n : Int) = (((k + 1) % n : Nat) : Int) := by
  rw [show (k : Int) + 1 = ((k + 1 : Nat) : Int) from by omega, Int.tmod_eq_emod_of_nonneg (by omega)]
  rfl
set_option maxHeartbeats 1600000 in
theorem specIsCycle (A AC : Option Addr) (n cap nC cC : Nat) (D : List Dep) (C : List Int) (w : World) (h : DepAt w w.heap.size A n D) (hC : IntAt w w.heap.size AC nC C) (hcc : nC ≤ cC) (hn : n ≤ 1000000000) (hnC : nC ≤ 1000000000) :
    Calls Tryd.prog 34 #[.slice A n cap, .slice AC nC cC] w (RetB (isCycG D C) w) := by
  have hl := h.1
  have hCl := hC.1
  have HI := Lib.hid h
  have HC := Lib.hid hC
  have HOK := Lib.hid (specDependsOk A n cap D w h (by omega))
  clear h hC
  cases hok : okD D with
  | false =>
    rw [isCyc_bad hok]
    rw [hok] at HOK
    clear hok
    go_enter Tryd.func34, Tryd.ntmps34
    go_wp2_with fail
    refine HOK.out.mono ?_
    rintro e w1 ⟨rfl, hg1⟩
    have G1 := Lib.hid hg1
    clear hg1
    go_wp2_with fail
    go_ret
    exact ⟨rfl, G1.out⟩
  | true =>
    have HYES := Lib.hid (fun h => isCyc_yes (D := D) (C := C) hok h)
    have HNO := Lib.hid (fun (i : Nat) (hi : i < C.length) h => isCyc_no (D := D) (C := C) (i := i) hi h)
    have HAT := Lib.hid (fun i => show cycAt D C i = (!inG (C.take i) (C.getD i 0) && hasD D (C.getD i 0) (C.getD ((i + 1) % nC) 0)) by unfold cycAt; rw [hCl])
    obtain ⟨b, hb⟩ : ∃ b, isCycG D C = b := ⟨_, rfl⟩
    rw [hb] at HYES HNO
    rw [hb]
    rw [hok] at HOK
    have HF := Lib.hid (fun (A : Option Addr) (k : Nat) (hk : k ≤ nC) (x : Int) (b : Bool) (hb : inG (C.take k) x = b) B (w : World) (h : IntAt w B A k (C.take k)) => specFindV A k cC B (C.take k) x b hb w h (by omega))
    have HH := Lib.hid (fun (A : Option Addr) (x y : Int) (b : Bool) (hb : hasD D x y = b) B (w : World) (h : DepAt w B A n D) => specHasD A n cap B D x y b hb w h hn)
    clear hok hb
    go_enter Tryd.func34, Tryd.ntmps34
    go_wp2_with fail
    refine HOK.out.mono ?_
    rintro e w1 ⟨rfl, hg1⟩
    have G1 := Lib.hid hg1
    clear hg1
    go_wp2_with fail
    go_loopw [5] (fun i wr => ∃ k : Nat, i = .int .i64 (k : Int) ∧ k ≤ nC ∧ (∀ j : Nat, j < k → cycAt D C j = true) ∧ w.grownBy wr none) (fun i _ => nC - (intOf i).toNat)
    case atStart => exact ⟨0, rfl, Nat.zero_le _, fun j h => by omega, G1.out⟩
    case round =>
      obtain ⟨k, rfl, hk, hall, hg⟩ := hrel
      have HA := Lib.hid hall
      have HG := Lib.hid hg
      clear hall hg
      by_cases hlt : k < nC
      · have HCW := Lib.hid (HC.out.none (Nat.le_refl _) HG.out)
        have HIW := Lib.hid (HI.out.none (Nat.le_refl _) HG.out)
        obtain ⟨b1, off, rfl, hb1, c0⟩ := HCW.out.at k hlt
        obtain ⟨q, hq⟩ : ∃ q, (k + 1) % nC = q := ⟨_, rfl⟩
        have hqn : q < nC := by rw [← hq]; exact Nat.mod_lt _ (by omega)
        obtain ⟨_, _, hA, _, c1⟩ := HCW.out.at q hqn
        injection hA with hA
        injection hA with hA1 hA2
        subst hA1
        subst hA2
        obtain ⟨x, hx⟩ : ∃ x, C.getD k 0 = x := ⟨_, rfl⟩
        obtain ⟨y, hy⟩ : ∃ y, C.getD q 0 = y := ⟨_, rfl⟩
        have hat := HAT.out k
        rw [hq, hx, hy] at hat
        rw [hx] at c0
        rw [hy] at c1
        have k0 : (0 : Int) ≤ (k : Int) := by omega
        have k1 : (k : Int) < (nC : Int) := by omega
        have k2 : (k : Int) ≤ (cC : Int) := by omega
        have q0 : (0 : Int) ≤ (q : Int) := by omega
        have q1 : (q : Int) < (nC : Int) := by omega
        have r0 := around k nC (by omega)
        rw [hq] at r0
        have r1 : IntKind.i64.wrap ((k : Int) + 1) = (k : Int) + 1 := IntWalk.i64_in _ (by omega)
        have r2 : IntKind.i64.wrap (q : Int) = (q : Int) := IntWalk.i64_in _ (by omega)
        have r3 : ¬ nC = 0 := by omega
        have ht := HCW.out.take (Nat.le_of_lt hlt)
        have HT : Hid (IntAt wr.drew w.heap.size (some ⟨b1, off, none⟩) k (C.take k)) := ht
        have HD : Hid (DepAt wr.drew w.heap.size A n D) := HIW.out
        clear ht
        cases hin : inG (C.take k) x with
        | true =>
          have HF2 := Lib.hid (fun B w h => HF.out (some ⟨b1, off, none⟩) k hk x true hin B w h)
          have HB := Lib.hid (HNO.out k (by omega) (by rw [hat, hin]; rfl))
          clear hin hat hx hy hq
          go_wp2_with fail
          go_quiet (first
            | (refine Calls.quiet_of_same (still_of (HF2.out _ _ HT.out))))
          go_wp2_with fail
          go_ret
          exact ⟨ret_bool HB.out.symm, gb_drewN HG.out _⟩
        | false =>
          have HF2 := Lib.hid (fun B w h => HF.out (some ⟨b1, off, none⟩) k hk x false hin B w h)
          cases hha : hasD D x y with
          | true =>
            have HH2 := Lib.hid (fun B w h => HH.out A x y true hha B w h)
            have HB := Lib.hid (show cycAt D C k = true by rw [hat, hin, hha]; rfl)
            clear hin hat hx hy hq hha
            go_wp2_with fail
            go_quiet (first
              | (refine Calls.quiet_of_same (still_of (HF2.out _ _ HT.out)))
              | (refine Calls.quiet_of_same (still_of (HH2.out _ _ HD.out))))
            go_wp2_with fail
            go_roundw
            case rel => exact ⟨k + 1, by go_num, by omega, fun j hj => by rcases Nat.lt_succ_iff_lt_or_eq.1 hj with h | h; exact HA.out j h; rw [h]; exact HB.out, gb_drewN HG.out _⟩
            case measure => simp [intOf]; omega
          | false =>
            have HH2 := Lib.hid (fun B w h => HH.out A x y false hha B w h)
            have HB := Lib.hid (HNO.out k (by omega) (by rw [hat, hin, hha]; rfl))
            clear hin hat hx hy hq hha
            go_wp2_with fail
            go_quiet (first
              | (refine Calls.quiet_of_same (still_of (HF2.out _ _ HT.out)))
              | (refine Calls.quiet_of_same (still_of (HH2.out _ _ HD.out))))
            go_wp2_with fail
            go_ret
            exact ⟨ret_bool HB.out.symm, gb_drewN HG.out _⟩
      · obtain rfl : k = nC := by omega
        have HB := Lib.hid (HYES.out (fun i hi => HA.out i (by omega)))
        rw [hCl] at HB
        by_cases h0 : 0 < k
        · have hp : (0 : Int) < (k : Int) := by omega
          have HB2 := Lib.hid (HB.out.trans (decide_eq_true h0))
          clear HB
          go_wp2_with fail
          go_ret
          exact ⟨ret_bool HB2.out.symm, HG.out⟩
        · have hp : ¬ (0 : Int) < (k : Int) := by omega
          have HB2 := Lib.hid (HB.out.trans (decide_eq_false h0))
          clear HB
          go_wp2_with fail
          go_ret
          exact ⟨ret_bool HB2.out.symm, HG.out⟩
end Go.Proofs.YtidilfakganooaaDoor
end

section
namespace Go.Proofs.YtidilfakganooaaDoor
open Go.ChangeShapes Go.WideShapes Go.ChangeAt Go.RowKit
set_option linter.unusedVariables false
set_option maxRecDepth 20000

theorem beq_nat0 (n : Nat) : ((n : Int) == 0) = decide (n = 0) := by
  rw [Bool.eq_iff_iff]
  simp
set_option maxHeartbeats 3200000 in
theorem specProves (W H : Int) (A A2 AR AC : Option Addr) (n cap n2 c2 nR cR nC cC : Nat) (L P : List Int) (v : Verd) (w : World) (h : IntAt w w.heap.size A n L) (h2 : IntAt w w.heap.size A2 n2 P) (hR : IntAt w w.heap.size AR nR v.ranks) (hC : IntAt w w.heap.size AC nC v.cycle) (hn : n ≤ 1000000000) (hn2 : n2 ≤ 1000000000) (hnR : nR ≤ 1000000000) (hnC : nC ≤ 1000000000) (hcc : nC ≤ cC) :
    Calls Tryd.prog 14 #[.agg #[.int .i64 W, .int .i64 H, .slice A n cap], .agg #[.slice A2 n2 c2], .agg #[.int .i64 v.code, .slice AR nR cR, .slice AC nC cC]] w (RetB (provesG W H L P v) w) := by
  obtain ⟨z, R, C⟩ := v
  simp only at hR hC ⊢
  have hRl := hR.1
  have hCl := hC.1
  have X0 := Lib.hid (vdAt_start (W := W) (H := H) (A := A) (A2 := A2) (n := n) (cap := cap) (n2 := n2) (c2 := c2) #[.int .i64 z, .slice AR nR cR, .slice AC nC cC] w)
  have HT := Lib.hid h
  have HT2 := Lib.hid h2
  have HR := Lib.hid hR
  have HC := Lib.hid hC
  have HDP := Lib.hid (fun w h h2 => specDependsOf W H A A2 n cap n2 c2 L P w h h2 hn hn2)
  have HDL := Lib.hid (depG_len (W := W) (H := H) (L := L) (P := P))
  obtain ⟨t, ht⟩ : ∃ t, tableG W H L P = t := ⟨_, rfl⟩
  have HS := Lib.hid (fun w h h2 => specTableOkV W H A A2 n cap n2 c2 L P t ht w h h2 hn hn2)
  obtain ⟨r, hr⟩ : ∃ r, provesG W H L P ⟨z, R, C⟩ = r := ⟨_, rfl⟩
  have P0 := Lib.hid (fun (h : z = 0) => show r = (!t && decide (nR = 0) && decide (nC = 0)) by rw [← hr, proves_bad (v := ⟨z, R, C⟩) h, ht, hRl, hCl])
  have P1 := Lib.hid (fun (h : z = 1) => show r = (t && isOrdO (depG W H L P) R && decide (nC = 0)) by rw [← hr, proves_safe (v := ⟨z, R, C⟩) h, ht, hCl])
  have P2 := Lib.hid (fun (h : z = 2) => show r = (t && isCycG (depG W H L P) C && decide (nR = 0)) by rw [← hr, proves_cyc (v := ⟨z, R, C⟩) h, ht, hRl])
  have P3 := Lib.hid (fun (h0 : z ≠ 0) (h1 : z ≠ 1) (h2 : z ≠ 2) => show r = false by rw [← hr, proves_no (v := ⟨z, R, C⟩) h0 h1 h2])
  rw [hr]
  obtain ⟨D, hD⟩ : ∃ D, depG W H L P = D := ⟨_, rfl⟩
  rw [hD] at HDP HDL P1 P2
  have HO := Lib.hid (fun A n cap w h hR hn => specIsOrder A AR n cap nR cR D R w h hR hn hnR)
  have HY := Lib.hid (fun A n cap w h hC hn => specIsCycle A AC n cap nC cC D C w h hC hcc hn hnC)
  clear h h2 hR hC ht hr hD hRl hCl
  go_enter Tryd.func14, Tryd.ntmps14
  go_wp2_with fail
  refine (HS.out _ ((HT.out.none (Nat.le_refl _) X0.out.g).more X0.out.g.size) ((HT2.out.none (Nat.le_refl _) X0.out.g).more X0.out.g.size)).mono ?_
  rintro e w1 ⟨rfl, hg⟩
  have X1 := Lib.hid (X0.out.gb hg)
  have m0 : w1.cell? ⟨w.heap.size, 0, none⟩ = some (.int .i64 W) := X1.out.m.cell 0
  have m1 : w1.cell? ⟨w.heap.size, 1, none⟩ = some (.int .i64 H) := X1.out.m.cell 1
  have m2 : w1.cell? ⟨w.heap.size, 2, none⟩ = some (.slice A n cap) := X1.out.m.cell 2
  have m3 : w1.cell? ⟨w.heap.size + 1, 0, none⟩ = some (.slice A2 n2 c2) := X1.out.t.cell 0
  clear hg
  go_wp2_with fail
  refine (HDP.out _ ((HT.out.none (Nat.le_refl _) X1.out.g).more X1.out.g.size) ((HT2.out.none (Nat.le_refl _) X1.out.g).more X1.out.g.size)).mono ?_
  rintro e w2 ⟨vd, rfl, od, bd⟩
  have X2 := Lib.hid (X1.out.gb (gb_of_below bd none))
  obtain ⟨Ad, cd, rfl, _⟩ := own_form od
  have HD := Lib.hid (depAt_own (B := w2.heap.size) od (Nat.le_refl _))
  obtain ⟨nd, hnd⟩ : ∃ nd, D.length = nd := ⟨_, rfl⟩
  rw [hnd] at HD HDL
  have HR2 := Lib.hid ((HR.out.none (Nat.le_refl _) X2.out.g).more X2.out.g.size)
  have HC2 := Lib.hid ((HC.out.none (Nat.le_refl _) X2.out.g).more X2.out.g.size)
  have v0 : w2.cell? ⟨w.heap.size + 2, 0, none⟩ = some (.int .i64 z) := X2.out.v.cell 0
  have v1 : w2.cell? ⟨w.heap.size + 2, 1, none⟩ = some (.slice AR nR cR) := X2.out.v.cell 1
  have v2 : w2.cell? ⟨w.heap.size + 2, 2, none⟩ = some (.slice AC nC cC) := X2.out.v.cell 2
  rw [hnd]
  clear od bd hnd m0 m1 m2 m3
  by_cases z0 : z = 0
  · have Q := Lib.hid (P0.out z0)
    subst z0
    cases t with
    | true =>
      have hr := Lib.hid (show r = false by rw [Q.out]; rfl)
      go_wp2_with fail
      go_ret
      exact ⟨ret_bool hr.out.symm, X2.out.g⟩
    | false =>
      by_cases hr0 : nR = 0
      · have hr := Lib.hid (show r = decide (nC = 0) by rw [Q.out, hr0]; rfl)
        subst hr0
        go_wp2_with fail
        go_ret
        exact ⟨ret_bool ((beq_nat0 nC).trans hr.out.symm), X2.out.g⟩
      · have hr := Lib.hid (show r = false by rw [Q.out, decide_eq_false hr0]; rfl)
        go_wp2_with fail
        go_ret
        exact ⟨ret_bool hr.out.symm, X2.out.g⟩
  · by_cases z1 : z = 1
    · have Q := Lib.hid (P1.out z1)
      subst z1
      clear z0
      cases t with
      | false =>
        have hr := Lib.hid (show r = false by rw [Q.out]; rfl)
        go_wp2_with fail
        go_ret
        exact ⟨ret_bool hr.out.symm, X2.out.g⟩
      | true =>
        go_wp2_with fail
        refine (HO.out Ad nd cd _ HD.out HR2.out (by have := HDL.out; omega)).mono ?_
        rintro e w3 ⟨rfl, hg3⟩
        have X3 := Lib.hid (X2.out.gb hg3)
        have u2 : w3.cell? ⟨w.heap.size + 2, 2, none⟩ = some (.slice AC nC cC) := X3.out.v.cell 2
        clear hg3 v0 v1 v2
        cases ho : isOrdO D R with
        | false =>
          have hr := Lib.hid (show r = false by rw [Q.out, ho]; rfl)
          clear ho
          go_wp2_with fail
          go_ret
          exact ⟨ret_bool hr.out.symm, X3.out.g⟩
        | true =>
          have hr := Lib.hid (show r = decide (nC = 0) by rw [Q.out, ho]; rfl)
          clear ho
          go_wp2_with fail
          go_ret
          exact ⟨ret_bool ((beq_nat0 nC).trans hr.out.symm), X3.out.g⟩
    · by_cases z2 : z = 2
      · have Q := Lib.hid (P2.out z2)
        subst z2
        clear z0 z1
        cases t with
        | false =>
          have hr := Lib.hid (show r = false by rw [Q.out]; rfl)
          go_wp2_with fail
          go_ret
          exact ⟨ret_bool hr.out.symm, X2.out.g⟩
        | true =>
          go_wp2_with fail
          refine (HY.out Ad nd cd _ HD.out HC2.out (by have := HDL.out; omega)).mono ?_
          rintro e w3 ⟨rfl, hg3⟩
          have X3 := Lib.hid (X2.out.gb hg3)
          have u1 : w3.cell? ⟨w.heap.size + 2, 1, none⟩ = some (.slice AR nR cR) := X3.out.v.cell 1
          clear hg3 v0 v1 v2
          cases ho : isCycG D C with
          | false =>
            have hr := Lib.hid (show r = false by rw [Q.out, ho]; rfl)
            clear ho
            go_wp2_with fail
            go_ret
            exact ⟨ret_bool hr.out.symm, X3.out.g⟩
          | true =>
            have hr := Lib.hid (show r = decide (nR = 0) by rw [Q.out, ho]; rfl)
            clear ho
            go_wp2_with fail
            go_ret
            exact ⟨ret_bool ((beq_nat0 nR).trans hr.out.symm), X3.out.g⟩
      · have hr := Lib.hid (P3.out z0 z1 z2)
        have b0 : (z == 0) = false := beq_eq_false_iff_ne.2 z0
        have b1 : (z == 1) = false := beq_eq_false_iff_ne.2 z1
        have b2 : (z == 2) = false := beq_eq_false_iff_ne.2 z2
        go_wp2_with fail
        go_ret
        exact ⟨ret_bool hr.out.symm, X2.out.g⟩
end Go.Proofs.YtidilfakganooaaDoor
end

section
namespace Go.Proofs.YtidilfakganooaaDoor
open Go.ChangeShapes Go.WideShapes Go.ChangeAt Go.RowKit
set_option linter.unusedVariables false
set_option maxRecDepth 20000

set_option maxHeartbeats 1600000 in
theorem implIsOrder (A AR : Option Addr) (n cap nR cR : Nat) (D : List Dep) (R : List Int) (w : World) (h : DepAt w w.heap.size A n D) (hR : IntAt w w.heap.size AR nR R) (hn : n ≤ 1000000000) (hnR : nR ≤ 1000000000) :
    Calls Tryd.prog 37 #[.slice A n cap, .slice AR nR cR] w (RetB (isOrdO D R) w) := by
  have hl := h.1
  have hRl := hR.1
  have HI := Lib.hid h
  have HR := Lib.hid hR
  have HOK := Lib.hid (implDependsOk A n cap D w h (by omega))
  clear h hR
  cases hok : okD D with
  | false =>
    rw [isOrdO_bad hok]
    rw [hok] at HOK
    clear hok
    go_enter Tryd.func37, Tryd.ntmps37
    go_wp2_with fail
    refine HOK.out.mono ?_
    rintro e w1 ⟨rfl, hg1⟩
    have G1 := Lib.hid hg1
    clear hg1
    go_wp2_with fail
    go_ret
    exact ⟨rfl, G1.out⟩
  | true =>
    by_cases h128 : nR = 128
    · have HIN := Lib.hid (fun k (hk : k < D.length) => inD_iff.1 (okD_in hok (atD_mem hk)))
      have HYES := Lib.hid (fun (h3 : ∀ r : Nat, r < 128 → inG R (r : Int) = true) h4 => isOrdO_of hok (hRl.trans h128) h3 h4)
      have HLA := Lib.hid (fun (r : Nat) (hr : r < 128) h => isOrdO_lack (D := D) (R := R) (r := r) hr h)
      have HFA := Lib.hid (fun i hi h => isOrdO_fall (D := D) (R := R) (i := i) hi h)
      obtain ⟨b, hb⟩ : ∃ b, isOrdO D R = b := ⟨_, rfl⟩
      rw [hb] at HYES HLA HFA
      rw [hb]
      rw [hok] at HOK
      have HF := Lib.hid (fun (r : Nat) (b : Bool) (hb : inG R (r : Int) = b) B (w : World) (h : IntAt w B AR 128 R) => implContains AR 128 cR B R (r : Int) b hb w h (by omega))
      subst h128
      clear hok hb
      go_enter Tryd.func37, Tryd.ntmps37
      go_wp2_with fail
      refine HOK.out.mono ?_
      rintro e w1 ⟨rfl, hg1⟩
      have G1 := Lib.hid hg1
      clear hg1
      go_wp2_with fail
      go_loopw [16] (fun i wr => ∃ r : Nat, i = .int .i64 (r : Int) ∧ r ≤ 128 ∧ (∀ j : Nat, j < r → inG R (j : Int) = true) ∧ w.grownBy wr none) (fun i _ => 128 - (intOf i).toNat)
      case atStart => exact ⟨0, rfl, Nat.zero_le _, fun j h => by omega, G1.out⟩
      case round =>
        obtain ⟨r, rfl, hr, hall, hg⟩ := hrel
        have HA := Lib.hid hall
        have HG := Lib.hid hg
        clear hall hg
        by_cases hlt : r < 128
        · cases hf : inG R (r : Int) with
          | false =>
            have HB := Lib.hid (HLA.out r hlt hf)
            have HF2 := Lib.hid (fun B w h => HF.out r false hf B w h)
            clear hf
            go_wp2_with fail
            refine (HF2.out _ _ (HR.out.none (Nat.le_refl _) HG.out)).mono ?_
            rintro e w2 ⟨rfl, rfl⟩
            go_wp2_with fail
            go_ret
            exact ⟨ret_bool HB.out.symm, HG.out⟩
          | true =>
            have HB := Lib.hid hf
            have HF2 := Lib.hid (fun B w h => HF.out r true hf B w h)
            clear hf
            go_wp2_with fail
            refine (HF2.out _ _ (HR.out.none (Nat.le_refl _) HG.out)).mono ?_
            rintro e w2 ⟨rfl, rfl⟩
            go_wp2_with fail
            go_roundw
            case rel => exact ⟨r + 1, by go_num, by omega, fun j hj => by rcases Nat.lt_succ_iff_lt_or_eq.1 hj with h | h; exact HA.out j h; rw [h]; exact HB.out, HG.out⟩
            case measure => simp [intOf]; omega
        · obtain rfl : r = 128 := by omega
          go_wp2_with fail
          simp only [show ((128 : Nat) : Int) = 128 from rfl]
          go_loopw [26] (fun i wr => ∃ k : Nat, i = .int .i64 (k : Int) ∧ k ≤ n ∧ (∀ j, j < k → riseO D R j = true) ∧ w.grownBy wr none) (fun i _ => n - (intOf i).toNat)
          case atStart => exact ⟨0, rfl, Nat.zero_le _, fun j h => by omega, HG.out⟩
          case round =>
            obtain ⟨k, rfl, hk, hall, hg⟩ := hrel
            have HS := Lib.hid hall
            have HG2 := Lib.hid hg
            clear hall hg
            by_cases hlt2 : k < n
            · obtain ⟨b1, off, rfl, hb1, c0, c1⟩ := (HI.out.none (Nat.le_refl _) HG2.out).at k hlt2
              obtain ⟨x, hx⟩ : ∃ x, atD D k = x := ⟨_, rfl⟩
              obtain ⟨x0, x1, x2, x3⟩ := HIN.out k (by omega)
              rw [hx] at c0 c1 x0 x1 x2 x3
              obtain ⟨m, hm⟩ : ∃ m : Nat, x.1 = (m : Int) := ⟨x.1.toNat, by omega⟩
              obtain ⟨q, hq⟩ : ∃ q : Nat, x.2 = (q : Int) := ⟨x.2.toNat, by omega⟩
              rw [hm] at c0 x0 x1
              rw [hq] at c1 x2 x3
              obtain ⟨b2, off2, rfl, hb2, e0⟩ := (HR.out.none (Nat.le_refl _) HG2.out).at m (by omega)
              obtain ⟨b3, off3, hA3, hb3, e1⟩ := (HR.out.none (Nat.le_refl _) HG2.out).at q (by omega)
              injection hA3 with hA
              injection hA with hA1 hA2
              subst hA1
              subst hA2
              obtain ⟨y, hy⟩ : ∃ y, R.getD m 0 = y := ⟨_, rfl⟩
              obtain ⟨z, hz⟩ : ∃ z, R.getD q 0 = z := ⟨_, rfl⟩
              rw [hy] at e0
              rw [hz] at e1
              have hh : riseO D R k = decide (y < z) := by unfold riseO; rw [hx, hm, hq, Int.toNat_natCast, Int.toNat_natCast, hy, hz]
              have k0 : (0 : Int) ≤ (k : Int) := by omega
              have k1 : (k : Int) < (n : Int) := by omega
              have m0 : (0 : Int) ≤ (m : Int) := by omega
              have m1 : (m : Int) < 128 := by omega
              have q0 : (0 : Int) ≤ (q : Int) := by omega
              have q1 : (q : Int) < 128 := by omega
              have hga := gb_alloc (gb_refl wr none) (.cells #[.int .i64 (m : Int), .int .i64 (q : Int)] 97)
              have GA := Lib.hid (gb_trans HG2.out hga)
              have bn := Blk.new wr 97 #[.int .i64 (m : Int), .int .i64 (q : Int)]
              have t0 : (wr.alloc (.cells #[.int .i64 (m : Int), .int .i64 (q : Int)] 97)).cell? ⟨wr.heap.size, 0, none⟩ = some (.int .i64 (m : Int)) := bn.cell 0
              have t1 : (wr.alloc (.cells #[.int .i64 (m : Int), .int .i64 (q : Int)] 97)).cell? ⟨wr.heap.size, 1, none⟩ = some (.int .i64 (q : Int)) := bn.cell 1
              have s0 := hga.cell e0 (by simp)
              have s1 := hga.cell e1 (by simp)
              clear hga bn e0 e1
              clear hx hm hq hy hz
              by_cases hyz : y < z
              · have HB := Lib.hid (hh.trans (decide_eq_true hyz))
                have hge : ¬ z ≤ y := by omega
                clear hh
                go_wp2_with fail
                go_quiet (fail)
                go_wp2_with fail
                go_roundw
                case rel => exact ⟨k + 1, by go_num, by omega, fun j hj => by rcases Nat.lt_succ_iff_lt_or_eq.1 hj with h | h; exact HS.out j h; rw [h]; exact HB.out, gb_drewN GA.out _⟩
                case measure => simp [intOf]; omega
              · have HB := Lib.hid (HFA.out k (by omega) (hh.trans (decide_eq_false hyz)))
                have hge : z ≤ y := by omega
                clear hh
                go_wp2_with fail
                go_quiet (fail)
                go_wp2_with fail
                go_ret
                exact ⟨ret_bool HB.out.symm, gb_drewN GA.out _⟩
            · obtain rfl : k = n := by omega
              have HB := Lib.hid (HYES.out (fun r hr => HA.out r hr) (fun j hj => HS.out j (by omega)))
              go_wp2_with fail
              go_ret
              exact ⟨ret_bool HB.out.symm, HG2.out⟩
    · rw [isOrdO_len (fun e => h128 (hRl.symm.trans e))]
      have hne : ((nR : Int) != 128) = true := by simpa using (fun e : (nR : Int) = 128 => h128 (by omega))
      rw [hok] at HOK
      clear hok
      go_enter Tryd.func37, Tryd.ntmps37
      go_wp2_with fail
      refine HOK.out.mono ?_
      rintro e w1 ⟨rfl, hg1⟩
      have G1 := Lib.hid hg1
      clear hg1
      go_wp2_with fail
      go_ret
      exact ⟨rfl, G1.out⟩
end Go.Proofs.YtidilfakganooaaDoor
end
