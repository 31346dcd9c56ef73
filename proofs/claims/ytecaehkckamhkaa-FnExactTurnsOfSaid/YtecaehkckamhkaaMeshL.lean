/- What is proved here: the laws' helpers for meshes (size, copy, compare, mark); only the marked row and new blocks are written. -/
import Derived.Test.YtecaehkckamhkaaIntAt
import Derived.Test.YtecaehkckamhkaaToGrid
namespace Go.Proofs.Ytecaehkckamhkaa
open Go.ChangeShapes Go.WideShapes Go.ChangeAt Go.RowKit
set_option linter.unusedVariables false

theorem gb_two {a w : World} {row : Option Nat} {b i j : Nat} (h : a.grownBy w row) (hb : a.heap.size ≤ b) (x y : Value) : a.grownBy ((w.setCell ⟨b, i, none⟩ x).setCell ⟨b, j, none⟩ y) row :=
  gb_setCell (gb_setCell h (.inr hb) x) (.inr hb) y
theorem gb_three {a w : World} {row : Option Nat} {b i j k : Nat} (h : a.grownBy w row) (hb : a.heap.size ≤ b) (x y z : Value) : a.grownBy (((w.setCell ⟨b, i, none⟩ x).setCell ⟨b, j, none⟩ y).setCell ⟨b, k, none⟩ z) row :=
  gb_setCell (gb_two h hb x y) (.inr hb) z

/-- A new mesh with the same fields. -/
def NewMesh (W H : Int) (L : List Int) (w : World) (e : Ending) (w' : World) : Prop :=
  ∃ g, e = .returned (.agg #[.int .i64 W, .int .i64 H, .slice (some ⟨g, 0, none⟩) L.length L.length]) ∧ w'.ownsRow w.heap.size 3 1 (.slice (some ⟨g, 0, none⟩) L.length L.length) L.length (intsV L) ∧ Below w.heap.size w w'

theorem lawsSzMesh (W H : Int) (A : Option Addr) (n cap : Nat) (m : Int) (w : World) (hn : n ≤ 9223372036854775807) (hm0 : 0 ≤ m) (hm1 : m ≤ 1048576) :
    Calls Try.prog 13 #[.agg #[.int .i64 W, .int .i64 H, .slice A n cap], .int .i64 m] w fun e w' => e = .returned (.int .i64 (if m < (n : Int) then -1 else m - n)) ∧ w.grownBy w' none := by
  by_cases hlt : m < (n : Int)
  · go_enter Try.func13, Try.ntmps13
    go_wp2_with fail
    refine (lawsSzI A n cap m _ hn hm0 hm1).mono ?_
    rintro e w1 ⟨rfl, rfl⟩
    rw [if_pos hlt]
    go_wp2_with fail
    go_ret
    exact ⟨rfl, gb_alloc (gb_refl _ _) _⟩
  · go_enter Try.func13, Try.ntmps13
    go_wp2_with fail
    refine (lawsSzI A n cap m _ hn hm0 hm1).mono ?_
    rintro e w1 ⟨rfl, rfl⟩
    rw [if_neg (by omega)]
    go_wp2_with fail
    go_ret
    exact ⟨rfl, gb_alloc (gb_refl _ _) _⟩

theorem lawsEqGrid (W H : Int) (w : World) :
    Calls Try.prog 64 #[.agg #[.int .i64 W, .int .i64 H], .agg #[.int .i64 W, .int .i64 H]] w (RetB true w) := by
  go_enter Try.func64, Try.ntmps64
  go_wp2_with fail
  go_ret
  exact ⟨rfl, gb_alloc (gb_alloc (gb_refl _ _) _) _⟩

theorem lawsToMesh (W H : Int) (A : Option Addr) (n cap : Nat) (L : List Int) (w : World) (h : IntAt w w.heap.size A n L) (hn : n ≤ 1048576) :
    Calls Try.prog 16 #[.agg #[.int .i64 W, .int .i64 H, .slice A n cap]] w (NewMesh W H L w) := by
  have HI := Lib.hid h
  clear h
  go_enter Try.func16, Try.ntmps16
  go_wp2_with fail
  refine (lawsToGrid W H _).mono ?_
  rintro e w1 ⟨rfl, hg1⟩
  have k1 := (((Blk.new w 26 _).alloc _).alloc _).grown hg1 (by simp)
  have k2 := ((Blk.new _ 34 _).alloc _).grown hg1 (by simp)
  have k3 := (Blk.new _ 34 _).grown hg1 (by simp)
  simp only [alloc_size] at k2 k3
  have hs1 : w.heap.size + 3 ≤ w1.heap.size := by have := hg1.size; simp only [alloc_size] at this; omega
  have HB1 := Lib.hid (gb_below_none (gb_trans (gb_alloc (gb_alloc (gb_alloc (gb_refl w none) _) _) _) hg1) (Nat.le_refl _))
  have K2 := Lib.hid k2
  have K3 := Lib.hid k3
  have a2 : w1.cell? ⟨w.heap.size, 2, none⟩ = some (.slice A n cap) := k1.cell 2
  have a30 : w1.cell? ⟨w.heap.size + 1 + 1, 0, none⟩ = some (.int .i64 0) := k3.cell 0
  have a31 : w1.cell? ⟨w.heap.size + 1 + 1, 1, none⟩ = some (.int .i64 0) := k3.cell 1
  have f30 := k3.frozen 0
  have f31 := k3.frozen 1
  clear hg1 k1 k2 k3
  go_wp2_with fail
  have K3x := (K3.out.set_ 0 (.int .i64 W)).set_ 1 (.int .i64 H)
  have K2x := (K2.out.far (p := ⟨w.heap.size + 1 + 1, 0, none⟩) (by simp) (.int .i64 W)).far (p := ⟨w.heap.size + 1 + 1, 1, none⟩) (by simp) (.int .i64 H)
  have hbx := gb_below_none (gb_two (i := 0) (j := 1) (b := w.heap.size + 1 + 1) (gb_of_below HB1.out none) (by omega) (.int .i64 W) (.int .i64 H)) (Nat.le_refl _)
  have hsx : ((w1.setCell ⟨w.heap.size + 1 + 1, 0, none⟩ (.int .i64 W)).setCell ⟨w.heap.size + 1 + 1, 1, none⟩ (.int .i64 H)).heap.size = w1.heap.size := by simp [World.setCell]
  simp at K3x
  clear K2 K3 HB1 a2 a30 a31 f30 f31
  generalize (w1.setCell ⟨w.heap.size + 1 + 1, 0, none⟩ (.int .i64 W)).setCell ⟨w.heap.size + 1 + 1, 1, none⟩ (.int .i64 H) = wx at *
  have hix : IntAt wx wx.heap.size A n L := (HI.out.below hbx).more (by omega)
  refine (lawsToIntS A n cap L wx hix hn).mono ?_
  rintro e w2 ⟨g, rfl, o2, b2⟩
  have k3 := K3x.below b2 (by omega)
  have k2 := K2x.below b2 (by omega)
  have HB2 := Lib.hid (hbx.trans (b2.mono hbx.size))
  have HK2 := Lib.hid k2
  have HS := Lib.hid (show w.heap.size + 1 + 1 < wx.heap.size by omega)
  have hgl := o2.lt g rfl
  have HO := Lib.hid o2
  have a30 : w2.cell? ⟨w.heap.size + 1 + 1, 0, none⟩ = some (.int .i64 W) := k3.cell 0
  have a31 : w2.cell? ⟨w.heap.size + 1 + 1, 1, none⟩ = some (.int .i64 H) := k3.cell 1
  have a32 : w2.cell? ⟨w.heap.size + 1 + 1, 2, none⟩ = some (.slice none 0 0) := k3.cell 2
  have f32 := k3.frozen 2
  have a20 : w2.cell? ⟨w.heap.size + 1, 0, none⟩ = some (.int .i64 0) := k2.cell 0
  have a21 : w2.cell? ⟨w.heap.size + 1, 1, none⟩ = some (.int .i64 0) := k2.cell 1
  have a22 : w2.cell? ⟨w.heap.size + 1, 2, none⟩ = some (.slice none 0 0) := k2.cell 2
  have f20 := k2.frozen 0
  have f21 := k2.frozen 1
  have f22 := k2.frozen 2
  clear K3x K2x hbx hix b2 o2 k3 k2 hs1
  go_wp2_with fail
  have kk := (((HK2.out.far (p := ⟨w.heap.size + 1 + 1, 2, none⟩) (by simp) (.slice (some ⟨g, 0, none⟩) L.length L.length)).set_ 0 (.int .i64 W)).set_ 1 (.int .i64 H)).set_ 2 (.slice (some ⟨g, 0, none⟩) L.length L.length)
  have d0 := kk.cell 0
  have d1 := kk.cell 1
  have d2 := kk.cell 2
  simp at d0 d1 d2
  refine bodyPost_ret (v := .agg #[.int .i64 W, .int .i64 H, .slice (some ⟨g, 0, none⟩) L.length L.length]) (by simp [results, Try.results16, go_sem, d0, d1, d2]) rfl ⟨g, rfl, ?_, ?_⟩
  · exact own_less (ownsRow_setCell_below (ownsRow_setCell_below (ownsRow_setCell_below (ownsRow_setCell_below HO.out HS.out _) (by show w.heap.size + 1 < _; have := HS.out; omega) _) (by show w.heap.size + 1 < _; have := HS.out; omega) _) (by show w.heap.size + 1 < _; have := HS.out; omega) _) (by have := HS.out; omega)
  · exact gb_below_none (gb_three (gb_setCell (gb_of_below HB2.out none) (.inr (by show w.heap.size ≤ w.heap.size + 1 + 1; omega)) _) (by omega) _ _ _) (Nat.le_refl _)

/-- eqMesh of two meshes with the same fields. -/
theorem lawsEqMesh (W H : Int) (A1 A2 : Option Addr) (n c1 c2 B1 B2 : Nat) (L : List Int) (w : World) (h1 : IntAt w B1 A1 n L) (h2 : IntAt w B2 A2 n L) (hB1 : B1 ≤ w.heap.size) (hB2 : B2 ≤ w.heap.size) (hn : n ≤ 1000000000) :
    Calls Try.prog 19 #[.agg #[.int .i64 W, .int .i64 H, .slice A1 n c1], .agg #[.int .i64 W, .int .i64 H, .slice A2 n c2]] w (RetB true w) := by
  have H1 := Lib.hid h1
  have H2 := Lib.hid h2
  clear h1 h2
  go_enter Try.func19, Try.ntmps19
  go_wp2_with fail
  refine (lawsEqGrid W H _).mono ?_
  rintro e w1 ⟨rfl, hg1⟩
  have k1 := ((Blk.new w 34 _).alloc _).grown hg1 (by simp)
  have k2 := (Blk.new _ 34 _).grown hg1 (by simp)
  simp only [alloc_size] at k2
  have a12 : w1.cell? ⟨w.heap.size, 2, none⟩ = some (.slice A1 n c1) := k1.cell 2
  have a22 : w1.cell? ⟨w.heap.size + 1, 2, none⟩ = some (.slice A2 n c2) := k2.cell 2
  have hg := gb_trans (gb_alloc (gb_alloc (gb_refl w none) _) _) hg1
  have HG := Lib.hid hg
  have i1 := H1.out.none hB1 hg
  have i2 := H2.out.none hB2 hg
  clear hg1 k1 k2 hg
  go_wp2_with fail
  refine (lawsEqI A1 A2 n c1 c2 B1 B2 L _ i1 i2 hn).mono ?_
  rintro e w2 ⟨rfl, hg2⟩
  have HG2 := Lib.hid (gb_trans HG.out hg2)
  clear hg2 i1 i2
  go_wp2_with fail
  go_ret
  exact ⟨rfl, HG2.out⟩

theorem lawsMarkMesh (W H : Int) (v : Value) (base n k0 : Nat) (l : List Int) (w : World) (h : w.ownsRow base 3 1 v n (intsV l)) (hk : k0 + n ≤ 1000000000) :
    Calls Try.prog 52 #[.agg #[.int .i64 W, .int .i64 H, v], .int .i64 (k0 : Int)] w fun e w' => e = .returned (.int .i64 ((k0 + n : Nat) : Int)) ∧ w'.ownsRow base 3 1 v n (intsV (marksI k0 n)) ∧ w.grownBy w' v.ownBlock := by
  obtain ⟨A, cap, rfl, ha⟩ := own_form h
  have h' := h.alloc (.cells #[.int .i64 W, .int .i64 H, .slice A n cap] 34)
  have HO := Lib.hid h'
  clear h h' ha
  go_enter Try.func52, Try.ntmps52
  go_wp2_with fail
  refine (lawsMarkI _ base n k0 l _ HO.out hk).mono ?_
  rintro e w1 ⟨rfl, o1, g1⟩
  have O1 := Lib.hid o1
  have G1 := Lib.hid (gb_trans (gb_alloc (gb_refl w _) _) g1)
  clear o1 g1
  go_wp2_with fail
  go_ret
  exact ⟨rfl, O1.out, G1.out⟩
end Go.Proofs.Ytecaehkckamhkaa
