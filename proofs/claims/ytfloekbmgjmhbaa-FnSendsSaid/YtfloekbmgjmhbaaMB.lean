/- What is proved here: the laws' helpers for meshes (size, copy, compare, mark); only the marked row and new blocks are written; the laws' sizes of networks and their comparison; only new blocks are written; when a network is valid, part by part; a network's box; nothing of the program; a packet that is sent as mathematics; nothing of the program; what the laws' marks in a list and their search for marks do; the laws' marks on a table; only the marked row and new blocks are written; the laws' helper that looks for the marks in a table's list; only new blocks are written; the laws' marks on pairs of tables and what is held of them; nothing of the program; the laws' marks on a mesh; only the marked row and new blocks are written; the laws' marks in networks; only the network's own rows and new blocks are written; sending packets one after another as mathematics: a network stays valid, its sizes; nothing of the program; the laws' copy of a packet; only new blocks are written; the laws' helpers for lists of packets: copy, compare, mark, look for the marks, count; only the marked row and new blocks are written; the laws' copies of lists of packets; only new blocks are written; what 'append' yields where a whole slice of numbers is appended: onto a row of the call's own, and onto a slice without spare memory; nothing of the program; what 'append' yields where a whole slice of records is appended onto a row of the call's own, also as a step of a region that draws its order; nothing of the program; packets that are numbered and whether the numbers of packets differ, as the model says it, for all arguments; only new blocks are written; whether the numbers of packets differ, as the model says it, for all arguments; only new blocks are written; the laws' copies of lists of lists of flits; only new blocks are written; what it means that a call yields a new network and a bool; the sizes of a new network; nothing of the program; packets that are sent into a new network as mathematics: all are taken, and their flits wait; nothing of the program; a drawn list of at most six valid packets with the Ids 1, 2, 3 and so on; only the cursor and new blocks are written; the standard tables, as mathematics: all of them are valid and minimal, and their longest walk is the diameter; nothing of the program; what the model's port of a standard table returns, for nodes that exist; only new blocks are written; two boxed arguments stay known behind a call, and the number of pairs of nodes is small; nothing of the program; what the model's standard table holds; only new blocks are written; drawn traffic: a valid grid with at least two nodes and no broken channels, two standard tables, and valid packets with the Ids 1, 2, 3 and so on; only new blocks are written; the laws' size test answers whether a draw has more than a million bytes; nothing is written; what a new list of lists of flits is; nothing of the program; the built-in copy of a whole slice into a row that was just made, and the program's copies of slices of numbers, of flits and of slices of flits; only new blocks are written; the program's clone of a network: a network of the call's own with the same contents; only new blocks are written; What is stated here: a mesh as the cells of a block, and a mesh whose first broken channels are good; nothing of the program. -/
import Derived.Test.YtfloekbmgjmhbaaMA
import Derived.Deep.RegionHeld3
import Derived.Deep.MidRow
import Derived.Deep.AppendSrc
import Derived.Deep.AppendLies
import Derived.Deep.RegionLaw
import Derived.Deep.Cut
import Derived.Laws.CopyOwn
section
namespace Go.Proofs.Ytfloekbmgjmhbaa
open Go.ChangeShapes Go.WideShapes Go.ChangeAt Go.RowKit
set_option linter.unusedVariables false

theorem gb_two {a w : World} {row : Option Nat} {b i j : Nat} (h : a.grownBy w row) (hb : a.heap.size ≤ b) (x y : Value) : a.grownBy ((w.setCell ⟨b, i, none⟩ x).setCell ⟨b, j, none⟩ y) row :=
  gb_setCell (gb_setCell h (.inr hb) x) (.inr hb) y
theorem gb_three {a w : World} {row : Option Nat} {b i j k : Nat} (h : a.grownBy w row) (hb : a.heap.size ≤ b) (x y z : Value) : a.grownBy (((w.setCell ⟨b, i, none⟩ x).setCell ⟨b, j, none⟩ y).setCell ⟨b, k, none⟩ z) row :=
  gb_setCell (gb_two h hb x y) (.inr hb) z

/-- A new mesh with the same fields. -/
def NewMesh (W H : Int) (L : List Int) (w : World) (e : Ending) (w' : World) : Prop :=
  ∃ g, e = .returned (.agg #[.int .i64 W, .int .i64 H, .slice (some ⟨g, 0, none⟩) L.length L.length]) ∧ w'.ownsRow w.heap.size 3 1 (.slice (some ⟨g, 0, none⟩) L.length L.length) L.length (intsV L) ∧ Below w.heap.size w w'

theorem lawsSzMesh (W H : Int) (A : Option Addr) (n cap : Nat) (m : Int) (w : World) (hn : n ≤ 9223372036854775807) (hm0 : 0 ≤ m) (hm1 : m ≤ 1048576) :
    Calls Try.prog 46 #[.agg #[.int .i64 W, .int .i64 H, .slice A n cap], .int .i64 m] w fun e w' => e = .returned (.int .i64 (if m < (n : Int) then -1 else m - n)) ∧ w.grownBy w' none := by
  by_cases hlt : m < (n : Int)
  · go_enter Try.func46, Try.ntmps46
    go_wp2_with fail
    refine (lawsSzI A n cap m _ hn hm0 hm1).mono ?_
    rintro e w1 ⟨rfl, rfl⟩
    rw [if_pos hlt]
    go_wp2_with fail
    go_ret
    exact ⟨rfl, gb_alloc (gb_refl _ _) _⟩
  · go_enter Try.func46, Try.ntmps46
    go_wp2_with fail
    refine (lawsSzI A n cap m _ hn hm0 hm1).mono ?_
    rintro e w1 ⟨rfl, rfl⟩
    rw [if_neg (by omega)]
    go_wp2_with fail
    go_ret
    exact ⟨rfl, gb_alloc (gb_refl _ _) _⟩

theorem lawsEqGrid (W H : Int) (w : World) :
    Calls Try.prog 96 #[.agg #[.int .i64 W, .int .i64 H], .agg #[.int .i64 W, .int .i64 H]] w (RetB true w) := by
  go_enter Try.func96, Try.ntmps96
  go_wp2_with fail
  go_ret
  exact ⟨rfl, gb_alloc (gb_alloc (gb_refl _ _) _) _⟩

theorem lawsToMesh (W H : Int) (A : Option Addr) (n cap : Nat) (L : List Int) (w : World) (h : IntAt w w.heap.size A n L) (hn : n ≤ 1048576) :
    Calls Try.prog 54 #[.agg #[.int .i64 W, .int .i64 H, .slice A n cap]] w (NewMesh W H L w) := by
  have HI := Lib.hid h
  clear h
  go_enter Try.func54, Try.ntmps54
  go_wp2_with fail
  refine (lawsToGrid W H _).mono ?_
  rintro e w1 ⟨rfl, hg1⟩
  have k1 := (((Blk.new w 51 _).alloc _).alloc _).grown hg1 (by simp)
  have k2 := ((Blk.new _ 28 _).alloc _).grown hg1 (by simp)
  have k3 := (Blk.new _ 28 _).grown hg1 (by simp)
  simp only [alloc_size] at k2 k3
  have hs1 : w.heap.size + 3 ≤ w1.heap.size := by have := hg1.size; simp only [alloc_size] at this; omega
  have HB1 := Lib.hid (gb_below_none (gb_trans (gb_alloc (gb_alloc (gb_alloc (gb_refl w none) _) _) _) hg1) (Nat.le_refl _))
  have K2 := Lib.hid k2
  have K3 := Lib.hid k3
  have a2 : w1.cell? ⟨w.heap.size, 2, none⟩ = some (.slice A n cap) := k1.cell 2
  have a30 : w1.cell? ⟨w.heap.size + 1 + 1, 0, none⟩ = some (.int .i64 0) := k3.cell 0
  have a31 : w1.cell? ⟨w.heap.size + 1 + 1, 1, none⟩ = some (.int .i64 0) := k3.cell 1
  have f30 := k3.frozen 0
  have f31 := k3.frozen 1
  clear hg1 k1 k2 k3
  go_wp2_with fail
  have K3x := (K3.out.set_ 0 (.int .i64 W)).set_ 1 (.int .i64 H)
  have K2x := (K2.out.far (p := ⟨w.heap.size + 1 + 1, 0, none⟩) (by simp) (.int .i64 W)).far (p := ⟨w.heap.size + 1 + 1, 1, none⟩) (by simp) (.int .i64 H)
  have hbx := gb_below_none (gb_two (i := 0) (j := 1) (b := w.heap.size + 1 + 1) (gb_of_below HB1.out none) (by omega) (.int .i64 W) (.int .i64 H)) (Nat.le_refl _)
  have hsx : ((w1.setCell ⟨w.heap.size + 1 + 1, 0, none⟩ (.int .i64 W)).setCell ⟨w.heap.size + 1 + 1, 1, none⟩ (.int .i64 H)).heap.size = w1.heap.size := by simp [World.setCell]
  simp at K3x
  clear K2 K3 HB1 a2 a30 a31 f30 f31
  generalize (w1.setCell ⟨w.heap.size + 1 + 1, 0, none⟩ (.int .i64 W)).setCell ⟨w.heap.size + 1 + 1, 1, none⟩ (.int .i64 H) = wx at *
  have hix : IntAt wx wx.heap.size A n L := (HI.out.below hbx).more (by omega)
  refine (lawsToIntS A n cap L wx hix hn).mono ?_
  rintro e w2 ⟨g, rfl, o2, b2⟩
  have k3 := K3x.below b2 (by omega)
  have k2 := K2x.below b2 (by omega)
  have HB2 := Lib.hid (hbx.trans (b2.mono hbx.size))
  have HK2 := Lib.hid k2
  have HS := Lib.hid (show w.heap.size + 1 + 1 < wx.heap.size by omega)
  have hgl := o2.lt g rfl
  have HO := Lib.hid o2
  have a30 : w2.cell? ⟨w.heap.size + 1 + 1, 0, none⟩ = some (.int .i64 W) := k3.cell 0
  have a31 : w2.cell? ⟨w.heap.size + 1 + 1, 1, none⟩ = some (.int .i64 H) := k3.cell 1
  have a32 : w2.cell? ⟨w.heap.size + 1 + 1, 2, none⟩ = some (.slice none 0 0) := k3.cell 2
  have f32 := k3.frozen 2
  have a20 : w2.cell? ⟨w.heap.size + 1, 0, none⟩ = some (.int .i64 0) := k2.cell 0
  have a21 : w2.cell? ⟨w.heap.size + 1, 1, none⟩ = some (.int .i64 0) := k2.cell 1
  have a22 : w2.cell? ⟨w.heap.size + 1, 2, none⟩ = some (.slice none 0 0) := k2.cell 2
  have f20 := k2.frozen 0
  have f21 := k2.frozen 1
  have f22 := k2.frozen 2
  clear K3x K2x hbx hix b2 o2 k3 k2 hs1
  go_wp2_with fail
  have kk := (((HK2.out.far (p := ⟨w.heap.size + 1 + 1, 2, none⟩) (by simp) (.slice (some ⟨g, 0, none⟩) L.length L.length)).set_ 0 (.int .i64 W)).set_ 1 (.int .i64 H)).set_ 2 (.slice (some ⟨g, 0, none⟩) L.length L.length)
  have d0 := kk.cell 0
  have d1 := kk.cell 1
  have d2 := kk.cell 2
  simp at d0 d1 d2
  refine bodyPost_ret (v := .agg #[.int .i64 W, .int .i64 H, .slice (some ⟨g, 0, none⟩) L.length L.length]) (by simp [results, Try.results54, go_sem, d0, d1, d2]) rfl ⟨g, rfl, ?_, ?_⟩
  · exact own_less (ownsRow_setCell_below (ownsRow_setCell_below (ownsRow_setCell_below (ownsRow_setCell_below HO.out HS.out _) (by show w.heap.size + 1 < _; have := HS.out; omega) _) (by show w.heap.size + 1 < _; have := HS.out; omega) _) (by show w.heap.size + 1 < _; have := HS.out; omega) _) (by have := HS.out; omega)
  · exact gb_below_none (gb_three (gb_setCell (gb_of_below HB2.out none) (.inr (by show w.heap.size ≤ w.heap.size + 1 + 1; omega)) _) (by omega) _ _ _) (Nat.le_refl _)

/-- eqMesh of two meshes with the same fields. -/
theorem lawsEqMesh (W H : Int) (A1 A2 : Option Addr) (n c1 c2 B1 B2 : Nat) (L : List Int) (w : World) (h1 : IntAt w B1 A1 n L) (h2 : IntAt w B2 A2 n L) (hB1 : B1 ≤ w.heap.size) (hB2 : B2 ≤ w.heap.size) (hn : n ≤ 1000000000) :
    Calls Try.prog 58 #[.agg #[.int .i64 W, .int .i64 H, .slice A1 n c1], .agg #[.int .i64 W, .int .i64 H, .slice A2 n c2]] w (RetB true w) := by
  have H1 := Lib.hid h1
  have H2 := Lib.hid h2
  clear h1 h2
  go_enter Try.func58, Try.ntmps58
  go_wp2_with fail
  refine (lawsEqGrid W H _).mono ?_
  rintro e w1 ⟨rfl, hg1⟩
  have k1 := ((Blk.new w 28 _).alloc _).grown hg1 (by simp)
  have k2 := (Blk.new _ 28 _).grown hg1 (by simp)
  simp only [alloc_size] at k2
  have a12 : w1.cell? ⟨w.heap.size, 2, none⟩ = some (.slice A1 n c1) := k1.cell 2
  have a22 : w1.cell? ⟨w.heap.size + 1, 2, none⟩ = some (.slice A2 n c2) := k2.cell 2
  have hg := gb_trans (gb_alloc (gb_alloc (gb_refl w none) _) _) hg1
  have HG := Lib.hid hg
  have i1 := H1.out.none hB1 hg
  have i2 := H2.out.none hB2 hg
  clear hg1 k1 k2 hg
  go_wp2_with fail
  refine (lawsEqI A1 A2 n c1 c2 B1 B2 L _ i1 i2 hn).mono ?_
  rintro e w2 ⟨rfl, hg2⟩
  have HG2 := Lib.hid (gb_trans HG.out hg2)
  clear hg2 i1 i2
  go_wp2_with fail
  go_ret
  exact ⟨rfl, HG2.out⟩
end Go.Proofs.Ytfloekbmgjmhbaa
end

section
namespace Go.Proofs.Ytfloekbmgjmhbaa
open Go.ChangeShapes Go.WideShapes Go.ChangeAt Go.RowKit
set_option linter.unusedVariables false
set_option maxRecDepth 20000

/-- What stands in a network's argument of its slices' capacities. -/
structure NetCap (y : Na) (N : Nt) : Prop where
  br : N.br.length ≤ y.br.c ∧ y.br.c ≤ maxLen
  ta : N.ta.length ≤ y.ta.c ∧ y.ta.c ≤ maxLen
  tb : N.tb.length ≤ y.tb.c ∧ y.tb.c ≤ maxLen
  bu : N.bu.length ≤ y.bu.c ∧ y.bu.c ≤ maxLen
  ow : N.ow.length ≤ y.ow.c ∧ y.ow.c ≤ maxLen
  tu : N.tu.length ≤ y.tu.c ∧ y.tu.c ≤ maxLen
  so : N.so.length ≤ y.so.c ∧ y.so.c ≤ maxLen
  ar : N.ar.length ≤ y.ar.c ∧ y.ar.c ≤ maxLen
theorem NetOwn.cap {w : World} {base E : Nat} {y : Na} {N : Nt} (h : NetOwn w base E y N) : NetCap y N := by
  obtain ⟨vb, vs, va, h⟩ := h
  exact ⟨own_cap h.br, own_cap h.ta, own_cap h.tb, own_cap h.bu.hd, own_cap h.ow, own_cap h.tu, own_cap h.so.hd, own_cap h.ar.hd⟩
def sizeN (N : Nt) : Nat := N.br.length + (N.ta.length + N.tb.length) + (N.bu.length + sumL N.bu) + N.ow.length + N.tu.length + (N.so.length + sumL N.so) + (N.ar.length + sumL N.ar)
set_option maxHeartbeats 3200000 in
theorem lawsSzNet (y : Na) (N : Nt) (m : Int) (w : World) (h : NetIn w w.heap.size y N) (hc : NetCap y N) (hm0 : 0 ≤ m) (hm1 : m ≤ 1048576) :
    Calls Try.prog 16 #[.agg #[.int .i64 N.W, .int .i64 N.H, .slice y.br.A N.br.length y.br.c, .slice y.ta.A N.ta.length y.ta.c, .slice y.tb.A N.tb.length y.tb.c, .slice y.bu.A N.bu.length y.bu.c, .slice y.ow.A N.ow.length y.ow.c, .slice y.tu.A N.tu.length y.tu.c, .slice y.so.A N.so.length y.so.c, .slice y.ar.A N.ar.length y.ar.c, .int .i64 N.ti], .int .i64 m] w fun e w' => e = .returned (.int .i64 (leftL m (sizeN N))) ∧ w.grownBy w' none := by
  have HIN := Lib.hid h
  have h9br : N.br.length ≤ 9223372036854775807 := Nat.le_trans hc.br.1 (Nat.le_trans hc.br.2 (by decide))
  have h9ta : N.ta.length ≤ 9223372036854775807 := Nat.le_trans hc.ta.1 (Nat.le_trans hc.ta.2 (by decide))
  have h9tb : N.tb.length ≤ 9223372036854775807 := Nat.le_trans hc.tb.1 (Nat.le_trans hc.tb.2 (by decide))
  have h9bu : N.bu.length ≤ 9223372036854775807 := Nat.le_trans hc.bu.1 (Nat.le_trans hc.bu.2 (by decide))
  have h9ow : N.ow.length ≤ 9223372036854775807 := Nat.le_trans hc.ow.1 (Nat.le_trans hc.ow.2 (by decide))
  have h9tu : N.tu.length ≤ 9223372036854775807 := Nat.le_trans hc.tu.1 (Nat.le_trans hc.tu.2 (by decide))
  have h9so : N.so.length ≤ 9223372036854775807 := Nat.le_trans hc.so.1 (Nat.le_trans hc.so.2 (by decide))
  have h9ar : N.ar.length ≤ 9223372036854775807 := Nat.le_trans hc.ar.1 (Nat.le_trans hc.ar.2 (by decide))
  obtain ⟨r, hr⟩ : ∃ r, leftL m (sizeN N) = r := ⟨_, rfl⟩
  rw [hr]
  have HR := Lib.hid hr
  obtain ⟨sbu, hsbu⟩ : ∃ s, sumL N.bu = s := ⟨_, rfl⟩
  obtain ⟨sso, hsso⟩ : ∃ s, sumL N.so = s := ⟨_, rfl⟩
  obtain ⟨sar, hsar⟩ : ∃ s, sumL N.ar = s := ⟨_, rfl⟩
  have HSZ : Hid (sizeN N = N.br.length + (N.ta.length + N.tb.length) + (N.bu.length + sbu) + N.ow.length + N.tu.length + (N.so.length + sso) + (N.ar.length + sar)) := Lib.hid (by rw [sizeN, hsbu, hsso, hsar])
  have GE := Lib.hid (gb_alloc (gb_refl w none) (.cells #[.int .i64 N.W, .int .i64 N.H, .slice y.br.A N.br.length y.br.c, .slice y.ta.A N.ta.length y.ta.c, .slice y.tb.A N.tb.length y.tb.c, .slice y.bu.A N.bu.length y.bu.c, .slice y.ow.A N.ow.length y.ow.c, .slice y.tu.A N.tu.length y.tu.c, .slice y.so.A N.so.length y.so.c, .slice y.ar.A N.ar.length y.ar.c, .int .i64 N.ti] 57))
  have KE := Lib.hid (Blk.new w 57 #[.int .i64 N.W, .int .i64 N.H, .slice y.br.A N.br.length y.br.c, .slice y.ta.A N.ta.length y.ta.c, .slice y.tb.A N.tb.length y.tb.c, .slice y.bu.A N.bu.length y.bu.c, .slice y.ow.A N.ow.length y.ow.c, .slice y.tu.A N.tu.length y.tu.c, .slice y.so.A N.so.length y.so.c, .slice y.ar.A N.ar.length y.ar.c, .int .i64 N.ti])
  clear h hc hr
  go_enter Try.func16, Try.ntmps16
  go_wp2_with fail
  refine (lawsSzMesh _ _ _ _ _ m _ h9br (by omega) (by omega)).mono ?_
  rintro e w1 ⟨rfl, g1⟩
  have G1 := Lib.hid (gb_trans GE.out g1)
  have K1 := Lib.hid (KE.out.grown g1 (by simp))
  clear g1
  by_cases hl0 : m < (N.br.length : Int)
  · have HE := Lib.hid (show (-1 : Int) = r by rw [← HR.out, HSZ.out, leftL, if_pos (by omega)])
    rw [if_pos hl0]
    go_wp2_with fail
    go_ret
    exact ⟨ret_int64 HE.out, G1.out⟩
  rw [if_neg hl0]
  obtain ⟨q1, hq1⟩ : ∃ q : Int, m - (N.br.length : Int) = q := ⟨_, rfl⟩
  rw [hq1]
  have hqa1 : ¬ q1 < 0 := by omega
  have ata : w1.cell? ⟨w.heap.size, 3, none⟩ = some (.slice y.ta.A N.ta.length y.ta.c) := K1.out.cell 3
  have atb : w1.cell? ⟨w.heap.size, 4, none⟩ = some (.slice y.tb.A N.tb.length y.tb.c) := K1.out.cell 4
  go_wp2_with fail
  refine (lawsSzClasses _ _ _ _ _ _ q1 _ h9ta h9tb (by omega) (by omega)).mono ?_
  rintro e w2 ⟨rfl, g2⟩
  have G2 := Lib.hid (gb_trans G1.out g2)
  have K2 := Lib.hid (K1.out.grown g2 (by simp))
  clear g2 ata atb
  by_cases hl1 : q1 < (N.ta.length : Int) + (N.tb.length : Int)
  · have HE := Lib.hid (show (-1 : Int) = r by rw [← HR.out, HSZ.out, leftL, if_pos (by omega)])
    rw [if_pos hl1]
    go_wp2_with fail
    go_ret
    exact ⟨ret_int64 HE.out, G2.out⟩
  rw [if_neg hl1]
  obtain ⟨q2, hq2⟩ : ∃ q : Int, q1 - (N.ta.length : Int) - (N.tb.length : Int) = q := ⟨_, rfl⟩
  rw [hq2]
  have hqa2 : ¬ q2 < 0 := by omega
  have abu : w2.cell? ⟨w.heap.size, 5, none⟩ = some (.slice y.bu.A N.bu.length y.bu.c) := K2.out.cell 5
  go_wp2_with fail
  refine (lawsSzFSS _ _ _ N.bu q2 _ ((HIN.out.none (Nat.le_refl _) G2.out).more G2.out.size).bu h9bu (by omega) (by omega)).mono ?_
  rintro e w3 ⟨rfl, g3⟩
  rw [hsbu]
  unfold leftL
  have G3 := Lib.hid (gb_trans G2.out g3)
  have K3 := Lib.hid (K2.out.grown g3 (by simp))
  clear g3 abu
  by_cases hl2 : q2 < ((N.bu.length + sbu : Nat) : Int)
  · have HE := Lib.hid (show (-1 : Int) = r by rw [← HR.out, HSZ.out, leftL, if_pos (by omega)])
    rw [if_pos hl2]
    go_wp2_with fail
    go_ret
    exact ⟨ret_int64 HE.out, G3.out⟩
  rw [if_neg hl2]
  obtain ⟨q3, hq3⟩ : ∃ q : Int, q2 - ((N.bu.length + sbu : Nat) : Int) = q := ⟨_, rfl⟩
  rw [hq3]
  have hqa3 : ¬ q3 < 0 := by omega
  have aow : w3.cell? ⟨w.heap.size, 6, none⟩ = some (.slice y.ow.A N.ow.length y.ow.c) := K3.out.cell 6
  go_wp2_with fail
  refine (lawsSzI _ _ _ q3 _ h9ow (by omega) (by omega)).mono ?_
  rintro e w4 ⟨rfl, rfl⟩
  clear aow
  by_cases hl3 : q3 < (N.ow.length : Int)
  · have HE := Lib.hid (show (-1 : Int) = r by rw [← HR.out, HSZ.out, leftL, if_pos (by omega)])
    rw [if_pos hl3]
    go_wp2_with fail
    go_ret
    exact ⟨ret_int64 HE.out, G3.out⟩
  rw [if_neg hl3]
  obtain ⟨q4, hq4⟩ : ∃ q : Int, q3 - (N.ow.length : Int) = q := ⟨_, rfl⟩
  rw [hq4]
  have hqa4 : ¬ q4 < 0 := by omega
  have atu : w3.cell? ⟨w.heap.size, 7, none⟩ = some (.slice y.tu.A N.tu.length y.tu.c) := K3.out.cell 7
  go_wp2_with fail
  refine (lawsSzI _ _ _ q4 _ h9tu (by omega) (by omega)).mono ?_
  rintro e w5 ⟨rfl, rfl⟩
  clear atu
  by_cases hl4 : q4 < (N.tu.length : Int)
  · have HE := Lib.hid (show (-1 : Int) = r by rw [← HR.out, HSZ.out, leftL, if_pos (by omega)])
    rw [if_pos hl4]
    go_wp2_with fail
    go_ret
    exact ⟨ret_int64 HE.out, G3.out⟩
  rw [if_neg hl4]
  obtain ⟨q5, hq5⟩ : ∃ q : Int, q4 - (N.tu.length : Int) = q := ⟨_, rfl⟩
  rw [hq5]
  have hqa5 : ¬ q5 < 0 := by omega
  have aso : w3.cell? ⟨w.heap.size, 8, none⟩ = some (.slice y.so.A N.so.length y.so.c) := K3.out.cell 8
  go_wp2_with fail
  refine (lawsSzFSS _ _ _ N.so q5 _ ((HIN.out.none (Nat.le_refl _) G3.out).more G3.out.size).so h9so (by omega) (by omega)).mono ?_
  rintro e w6 ⟨rfl, g6⟩
  rw [hsso]
  unfold leftL
  have G6 := Lib.hid (gb_trans G3.out g6)
  have K6 := Lib.hid (K3.out.grown g6 (by simp))
  clear g6 aso
  by_cases hl5 : q5 < ((N.so.length + sso : Nat) : Int)
  · have HE := Lib.hid (show (-1 : Int) = r by rw [← HR.out, HSZ.out, leftL, if_pos (by omega)])
    rw [if_pos hl5]
    go_wp2_with fail
    go_ret
    exact ⟨ret_int64 HE.out, G6.out⟩
  rw [if_neg hl5]
  obtain ⟨q6, hq6⟩ : ∃ q : Int, q5 - ((N.so.length + sso : Nat) : Int) = q := ⟨_, rfl⟩
  rw [hq6]
  have hqa6 : ¬ q6 < 0 := by omega
  have aar : w6.cell? ⟨w.heap.size, 9, none⟩ = some (.slice y.ar.A N.ar.length y.ar.c) := K6.out.cell 9
  go_wp2_with fail
  refine (lawsSzFSS _ _ _ N.ar q6 _ ((HIN.out.none (Nat.le_refl _) G6.out).more G6.out.size).ar h9ar (by omega) (by omega)).mono ?_
  rintro e w7 ⟨rfl, g7⟩
  rw [hsar]
  unfold leftL
  have G7 := Lib.hid (gb_trans G6.out g7)
  have K7 := Lib.hid (K6.out.grown g7 (by simp))
  clear g7 aar
  by_cases hl6 : q6 < ((N.ar.length + sar : Nat) : Int)
  · have HE := Lib.hid (show (-1 : Int) = r by rw [← HR.out, HSZ.out, leftL, if_pos (by omega)])
    rw [if_pos hl6]
    go_wp2_with fail
    go_ret
    exact ⟨ret_int64 HE.out, G7.out⟩
  rw [if_neg hl6]
  obtain ⟨q7, hq7⟩ : ∃ q : Int, q6 - ((N.ar.length + sar : Nat) : Int) = q := ⟨_, rfl⟩
  rw [hq7]
  have hqa7 : ¬ q7 < 0 := by omega
  have HE := Lib.hid (show q7 = r by rw [← HR.out, HSZ.out, leftL, if_neg (by omega)]; omega)
  go_wp2_with fail
  go_ret
  exact ⟨ret_int64 HE.out, G7.out⟩

structure NetSm (N : Nt) : Prop where
  br : N.br.length ≤ 1000000000
  ta : N.ta.length ≤ 1000000000
  tb : N.tb.length ≤ 1000000000
  bu : N.bu.length ≤ 1000000000
  ow : N.ow.length ≤ 1000000000
  tu : N.tu.length ≤ 1000000000
  so : N.so.length ≤ 1000000000
  ar : N.ar.length ≤ 1000000000
  sbu : sumL N.bu ≤ 1000000000
  sso : sumL N.so ≤ 1000000000
  sar : sumL N.ar ≤ 1000000000
theorem netSm_of {N : Nt} (h : sizeN N ≤ 1048576) : NetSm N := by
  unfold sizeN at h
  exact ⟨by omega, by omega, by omega, by omega, by omega, by omega, by omega, by omega, by omega, by omega, by omega⟩
set_option maxHeartbeats 3200000 in
theorem lawsEqNet (y z : Na) (N : Nt) (b1 b2 E1 E2 : Nat) (w : World) (h1 : NetOwn w b1 E1 y N) (h2 : NetOwn w b2 E2 z N) (hs : NetSm N) :
    Calls Try.prog 21 #[.agg #[.int .i64 N.W, .int .i64 N.H, .slice y.br.A N.br.length y.br.c, .slice y.ta.A N.ta.length y.ta.c, .slice y.tb.A N.tb.length y.tb.c, .slice y.bu.A N.bu.length y.bu.c, .slice y.ow.A N.ow.length y.ow.c, .slice y.tu.A N.tu.length y.tu.c, .slice y.so.A N.so.length y.so.c, .slice y.ar.A N.ar.length y.ar.c, .int .i64 N.ti], .agg #[.int .i64 N.W, .int .i64 N.H, .slice z.br.A N.br.length z.br.c, .slice z.ta.A N.ta.length z.ta.c, .slice z.tb.A N.tb.length z.tb.c, .slice z.bu.A N.bu.length z.bu.c, .slice z.ow.A N.ow.length z.ow.c, .slice z.tu.A N.tu.length z.tu.c, .slice z.so.A N.so.length z.so.c, .slice z.ar.A N.ar.length z.ar.c, .int .i64 N.ti]] w (RetB true w) := by
  have H1 := Lib.hid h1
  have H2 := Lib.hid h2
  have HS := Lib.hid hs
  have ge := gb_alloc (gb_alloc (gb_refl w none) (.cells #[.int .i64 N.W, .int .i64 N.H, .slice y.br.A N.br.length y.br.c, .slice y.ta.A N.ta.length y.ta.c, .slice y.tb.A N.tb.length y.tb.c, .slice y.bu.A N.bu.length y.bu.c, .slice y.ow.A N.ow.length y.ow.c, .slice y.tu.A N.tu.length y.tu.c, .slice y.so.A N.so.length y.so.c, .slice y.ar.A N.ar.length y.ar.c, .int .i64 N.ti] 38)) (.cells #[.int .i64 N.W, .int .i64 N.H, .slice z.br.A N.br.length z.br.c, .slice z.ta.A N.ta.length z.ta.c, .slice z.tb.A N.tb.length z.tb.c, .slice z.bu.A N.bu.length z.bu.c, .slice z.ow.A N.ow.length z.ow.c, .slice z.tu.A N.tu.length z.tu.c, .slice z.so.A N.so.length z.so.c, .slice z.ar.A N.ar.length z.ar.c, .int .i64 N.ti] 38)
  have k1 := (Blk.new w 38 #[.int .i64 N.W, .int .i64 N.H, .slice y.br.A N.br.length y.br.c, .slice y.ta.A N.ta.length y.ta.c, .slice y.tb.A N.tb.length y.tb.c, .slice y.bu.A N.bu.length y.bu.c, .slice y.ow.A N.ow.length y.ow.c, .slice y.tu.A N.tu.length y.tu.c, .slice y.so.A N.so.length y.so.c, .slice y.ar.A N.ar.length y.ar.c, .int .i64 N.ti]).alloc (.cells #[.int .i64 N.W, .int .i64 N.H, .slice z.br.A N.br.length z.br.c, .slice z.ta.A N.ta.length z.ta.c, .slice z.tb.A N.tb.length z.tb.c, .slice z.bu.A N.bu.length z.bu.c, .slice z.ow.A N.ow.length z.ow.c, .slice z.tu.A N.tu.length z.tu.c, .slice z.so.A N.so.length z.so.c, .slice z.ar.A N.ar.length z.ar.c, .int .i64 N.ti] 38)
  have k2 := Blk.new (w.alloc (.cells #[.int .i64 N.W, .int .i64 N.H, .slice y.br.A N.br.length y.br.c, .slice y.ta.A N.ta.length y.ta.c, .slice y.tb.A N.tb.length y.tb.c, .slice y.bu.A N.bu.length y.bu.c, .slice y.ow.A N.ow.length y.ow.c, .slice y.tu.A N.tu.length y.tu.c, .slice y.so.A N.so.length y.so.c, .slice y.ar.A N.ar.length y.ar.c, .int .i64 N.ti] 38)) 38 #[.int .i64 N.W, .int .i64 N.H, .slice z.br.A N.br.length z.br.c, .slice z.ta.A N.ta.length z.ta.c, .slice z.tb.A N.tb.length z.tb.c, .slice z.bu.A N.bu.length z.bu.c, .slice z.ow.A N.ow.length z.ow.c, .slice z.tu.A N.tu.length z.tu.c, .slice z.so.A N.so.length z.so.c, .slice z.ar.A N.ar.length z.ar.c, .int .i64 N.ti]
  rw [alloc_size] at k2
  have GE := Lib.hid ge
  have KE := Lib.hid k1
  have LE := Lib.hid k2
  clear h1 h2 hs ge k1 k2
  go_enter Try.func21, Try.ntmps21
  go_wp2_with fail
  refine (lawsEqMesh _ _ _ _ N.br.length _ _ _ _ N.br _ (intAt_own (H1.out.gb GE.out).br rfl (Nat.le_refl _)) (intAt_own (H2.out.gb GE.out).br rfl (Nat.le_refl _)) (Nat.le_refl _) (Nat.le_refl _) HS.out.br).mono ?_
  rintro e w1 ⟨rfl, g1⟩
  have G1 := Lib.hid (gb_trans GE.out g1)
  have K1 := Lib.hid (KE.out.grown g1 (by simp))
  have L1 := Lib.hid (LE.out.grown g1 (by simp))
  clear g1
  have ata : w1.cell? ⟨w.heap.size, 3, none⟩ = some (.slice y.ta.A N.ta.length y.ta.c) := K1.out.cell 3
  have cta : w1.cell? ⟨w.heap.size + 1, 3, none⟩ = some (.slice z.ta.A N.ta.length z.ta.c) := L1.out.cell 3
  have atb : w1.cell? ⟨w.heap.size, 4, none⟩ = some (.slice y.tb.A N.tb.length y.tb.c) := K1.out.cell 4
  have ctb : w1.cell? ⟨w.heap.size + 1, 4, none⟩ = some (.slice z.tb.A N.tb.length z.tb.c) := L1.out.cell 4
  go_wp2_with fail
  refine (lawsEqClasses _ _ _ _ _ _ N.ta N.tb _ (H1.out.gb G1.out).vrow (H2.out.gb G1.out).vrow HS.out.ta HS.out.tb).mono ?_
  rintro e w2 ⟨rfl, g2⟩
  have G2 := Lib.hid (gb_trans G1.out g2)
  have K2 := Lib.hid (K1.out.grown g2 (by simp))
  have L2 := Lib.hid (L1.out.grown g2 (by simp))
  clear g2 ata cta atb ctb
  have abu : w2.cell? ⟨w.heap.size, 5, none⟩ = some (.slice y.bu.A N.bu.length y.bu.c) := K2.out.cell 5
  have cbu : w2.cell? ⟨w.heap.size + 1, 5, none⟩ = some (.slice z.bu.A N.bu.length z.bu.c) := L2.out.cell 5
  go_wp2_with fail
  refine (lawsEqFSS _ _ N.bu.length _ _ N.bu _ ((H1.out.gb G2.out).at (Nat.le_refl _)).bu ((H2.out.gb G2.out).at (Nat.le_refl _)).bu HS.out.bu HS.out.sbu).mono ?_
  rintro e w3 ⟨rfl, g3⟩
  have G3 := Lib.hid (gb_trans G2.out g3)
  have K3 := Lib.hid (K2.out.grown g3 (by simp))
  have L3 := Lib.hid (L2.out.grown g3 (by simp))
  clear g3 abu cbu
  have aow : w3.cell? ⟨w.heap.size, 6, none⟩ = some (.slice y.ow.A N.ow.length y.ow.c) := K3.out.cell 6
  have cow : w3.cell? ⟨w.heap.size + 1, 6, none⟩ = some (.slice z.ow.A N.ow.length z.ow.c) := L3.out.cell 6
  go_wp2_with fail
  refine (lawsEqOwn _ _ _ _ N.ow _ (H1.out.gb G3.out).ow (H2.out.gb G3.out).ow HS.out.ow).mono ?_
  rintro e w4 ⟨rfl, g4⟩
  have G4 := Lib.hid (gb_trans G3.out g4)
  have K4 := Lib.hid (K3.out.grown g4 (by simp))
  have L4 := Lib.hid (L3.out.grown g4 (by simp))
  clear g4 aow cow
  have atu : w4.cell? ⟨w.heap.size, 7, none⟩ = some (.slice y.tu.A N.tu.length y.tu.c) := K4.out.cell 7
  have ctu : w4.cell? ⟨w.heap.size + 1, 7, none⟩ = some (.slice z.tu.A N.tu.length z.tu.c) := L4.out.cell 7
  go_wp2_with fail
  refine (lawsEqOwn _ _ _ _ N.tu _ (H1.out.gb G4.out).tu (H2.out.gb G4.out).tu HS.out.tu).mono ?_
  rintro e w5 ⟨rfl, g5⟩
  have G5 := Lib.hid (gb_trans G4.out g5)
  have K5 := Lib.hid (K4.out.grown g5 (by simp))
  have L5 := Lib.hid (L4.out.grown g5 (by simp))
  clear g5 atu ctu
  have aso : w5.cell? ⟨w.heap.size, 8, none⟩ = some (.slice y.so.A N.so.length y.so.c) := K5.out.cell 8
  have cso : w5.cell? ⟨w.heap.size + 1, 8, none⟩ = some (.slice z.so.A N.so.length z.so.c) := L5.out.cell 8
  go_wp2_with fail
  refine (lawsEqFSS _ _ N.so.length _ _ N.so _ ((H1.out.gb G5.out).at (Nat.le_refl _)).so ((H2.out.gb G5.out).at (Nat.le_refl _)).so HS.out.so HS.out.sso).mono ?_
  rintro e w6 ⟨rfl, g6⟩
  have G6 := Lib.hid (gb_trans G5.out g6)
  have K6 := Lib.hid (K5.out.grown g6 (by simp))
  have L6 := Lib.hid (L5.out.grown g6 (by simp))
  clear g6 aso cso
  have aar : w6.cell? ⟨w.heap.size, 9, none⟩ = some (.slice y.ar.A N.ar.length y.ar.c) := K6.out.cell 9
  have car : w6.cell? ⟨w.heap.size + 1, 9, none⟩ = some (.slice z.ar.A N.ar.length z.ar.c) := L6.out.cell 9
  go_wp2_with fail
  refine (lawsEqFSS _ _ N.ar.length _ _ N.ar _ ((H1.out.gb G6.out).at (Nat.le_refl _)).ar ((H2.out.gb G6.out).at (Nat.le_refl _)).ar HS.out.ar HS.out.sar).mono ?_
  rintro e w7 ⟨rfl, g7⟩
  have G7 := Lib.hid (gb_trans G6.out g7)
  have K7 := Lib.hid (K6.out.grown g7 (by simp))
  have L7 := Lib.hid (L6.out.grown g7 (by simp))
  clear g7 aar car
  have at1 : w7.cell? ⟨w.heap.size, 10, none⟩ = some (.int .i64 N.ti) := K7.out.cell 10
  have ct1 : w7.cell? ⟨w.heap.size + 1, 10, none⟩ = some (.int .i64 N.ti) := L7.out.cell 10
  go_wp2_with fail
  go_ret
  exact ⟨rfl, G7.out⟩
end Go.Proofs.Ytfloekbmgjmhbaa
end

section
namespace Go.Proofs.Ytfloekbmgjmhbaa
open Go.ChangeShapes Go.WideShapes Go.ChangeAt Go.RowKit
set_option linter.unusedVariables false

section
variable {N : Nt}
theorem nk_cls (h : clsOk N.W N.H N.br N.ta N.tb = false) : netOk N = false := by rw [netOk, h]; rfl
theorem nk_size (h : sizesN N = false) : netOk N = false := by rw [netOk, h, Bool.false_and, Bool.and_false]
theorem nk_buf {i : Nat} (hi : i < N.bu.length) (h : bufOk N.W N.H i (N.bu.getD i []) (N.ow.getD i 0) = false) : netOk N = false := by
  have h1 : (List.range N.bu.length).all (fun i => bufOk N.W N.H i (N.bu.getD i []) (N.ow.getD i 0)) = false := by
    cases ha : (List.range N.bu.length).all (fun i => bufOk N.W N.H i (N.bu.getD i []) (N.ow.getD i 0)) with
    | false => rfl
    | true =>
      rw [List.all_eq_true] at ha
      have := ha i (List.mem_range.2 hi)
      rw [h] at this
      cases this
  rw [netOk, h1, Bool.false_and, Bool.and_false, Bool.and_false]
theorem nk_tu {i : Nat} {t : Int} (ht : N.tu[i]? = some t) (h : decide (0 ≤ t ∧ t ≤ 9) = false) : netOk N = false := by
  have h1 : N.tu.all (fun t => decide (0 ≤ t ∧ t ≤ 9)) = false := by
    cases ha : N.tu.all (fun t => decide (0 ≤ t ∧ t ≤ 9)) with
    | false => rfl
    | true =>
      rw [List.all_eq_true] at ha
      have := ha t (List.mem_of_getElem? ht)
      rw [h] at this
      cases this
  rw [netOk, h1, Bool.false_and, Bool.and_false, Bool.and_false, Bool.and_false]
theorem nk_so {i : Nat} {D : List Flt} (hD : N.so[i]? = some D) (h : srcOk N.W N.H D = false) : netOk N = false := by
  have h1 : N.so.all (srcOk N.W N.H) = false := by
    cases ha : N.so.all (srcOk N.W N.H) with
    | false => rfl
    | true =>
      rw [List.all_eq_true] at ha
      have := ha D (List.mem_of_getElem? hD)
      rw [h] at this
      cases this
  rw [netOk, h1, Bool.and_false, Bool.and_false, Bool.and_false, Bool.and_false]
theorem nk_yes (h1 : clsOk N.W N.H N.br N.ta N.tb = true) (h2 : sizesN N = true) (h3 : ∀ i, i < N.bu.length → bufOk N.W N.H i (N.bu.getD i []) (N.ow.getD i 0) = true) (h4 : ∀ (i : Nat) t, N.tu[i]? = some t → decide (0 ≤ t ∧ t ≤ 9) = true)
    (h5 : ∀ (i : Nat) D, N.so[i]? = some D → srcOk N.W N.H D = true) : netOk N = true := by
  have g3 : (List.range N.bu.length).all (fun i => bufOk N.W N.H i (N.bu.getD i []) (N.ow.getD i 0)) = true := by
    rw [List.all_eq_true]
    intro i hi
    exact h3 i (List.mem_range.1 hi)
  have g4 : N.tu.all (fun t => decide (0 ≤ t ∧ t ≤ 9)) = true := by
    rw [List.all_eq_true]
    intro t ht
    obtain ⟨i, hi, e⟩ := List.getElem_of_mem ht
    exact h4 i t (List.getElem?_eq_some_iff.2 ⟨hi, e⟩)
  have g5 : N.so.all (srcOk N.W N.H) = true := by
    rw [List.all_eq_true]
    intro D hD
    obtain ⟨i, hi, e⟩ := List.getElem_of_mem hD
    exact h5 i D (List.getElem?_eq_some_iff.2 ⟨hi, e⟩)
  rw [netOk, h1, h2, g3, g4, g5]
  rfl
theorem getD_of {α : Type} {l : List α} {i : Nat} {x d : α} (h : l[i]? = some x) : l.getD i d = x := by rw [List.getD_eq_getElem?_getD, h]; rfl
theorem buf_no1 {W H : Int} {i : Nat} {D : List Flt} {o : Int} (h : ¬ D.length ≤ 3) : bufOk W H i D o = false := by rw [bufOk, decide_eq_false h]; rfl
theorem buf_no2 {W H : Int} {i : Nat} {D : List Flt} {o : Int} (h : lstOk W H D = false) : bufOk W H i D o = false := by rw [bufOk, h, Bool.false_and, Bool.and_false]
theorem buf_no3 {W H : Int} {i : Nat} {D : List Flt} {o : Int} (h : decide (-1 ≤ o ∧ o ≤ 4) = false) : bufOk W H i D o = false := by rw [bufOk, h, Bool.false_and, Bool.and_false, Bool.and_false]
theorem buf_no4 {W H : Int} {i q : Nat} {D : List Flt} {o : Int} {x : Flt} (hx : D[q]? = some x) (h : x.cl ≠ ((i % 2 : Nat) : Int)) : bufOk W H i D o = false := by
  have h1 : (D.all fun x => decide (x.cl = ((i % 2 : Nat) : Int))) = false := by
    cases ha : D.all fun x => decide (x.cl = ((i % 2 : Nat) : Int)) with
    | false => rfl
    | true =>
      rw [List.all_eq_true] at ha
      exact absurd (of_decide_eq_true (ha x (List.mem_of_getElem? hx))) h
  rw [bufOk, h1, Bool.and_false, Bool.and_false, Bool.and_false]
theorem buf_yes {W H : Int} {i : Nat} {D : List Flt} {o : Int} (h1 : D.length ≤ 3) (h2 : lstOk W H D = true) (h3 : decide (-1 ≤ o ∧ o ≤ 4) = true) (h4 : ∀ (q : Nat) x, D[q]? = some x → x.cl = ((i % 2 : Nat) : Int)) : bufOk W H i D o = true := by
  have g4 : (D.all fun x => decide (x.cl = ((i % 2 : Nat) : Int))) = true := by
    rw [List.all_eq_true]
    intro x hx
    obtain ⟨q, hq, e⟩ := List.getElem_of_mem hx
    exact decide_eq_true (h4 q x (List.getElem?_eq_some_iff.2 ⟨hq, e⟩))
  rw [bufOk, decide_eq_true h1, h2, h3, g4]
  rfl
theorem src_no1 {W H : Int} {D : List Flt} (h : ¬ D.length ≤ 60) : srcOk W H D = false := by rw [srcOk, decide_eq_false h]; rfl
theorem src_is {W H : Int} {D : List Flt} {b : Bool} (h : D.length ≤ 60) (hl : lstOk W H D = b) : srcOk W H D = b := by rw [srcOk, decide_eq_true h, hl]; rfl
/-- A network's box, and nothing but new blocks written. -/
structure NkAt (w : World) (y : Na) (N : Nt) (wr : World) : Prop where
  g : w.grownBy wr none
  b : Blk wr w.heap.size 38 #[.int .i64 N.W, .int .i64 N.H, .slice y.br.A N.br.length y.br.c, .slice y.ta.A N.ta.length y.ta.c, .slice y.tb.A N.tb.length y.tb.c, .slice y.bu.A N.bu.length y.bu.c, .slice y.ow.A N.ow.length y.ow.c, .slice y.tu.A N.tu.length y.tu.c, .slice y.so.A N.so.length y.so.c, .slice y.ar.A N.ar.length y.ar.c, .int .i64 N.ti]
variable {w wr w' : World} {y : Na}
theorem NkAt.gb (h : NkAt w y N wr) (hg : wr.grownBy w' none) : NkAt w y N w' := ⟨gb_trans h.g hg, h.b.grown hg (by simp)⟩
theorem nkAt_start : NkAt w y N (w.alloc (.cells #[.int .i64 N.W, .int .i64 N.H, .slice y.br.A N.br.length y.br.c, .slice y.ta.A N.ta.length y.ta.c, .slice y.tb.A N.tb.length y.tb.c, .slice y.bu.A N.bu.length y.bu.c, .slice y.ow.A N.ow.length y.ow.c, .slice y.tu.A N.tu.length y.tu.c, .slice y.so.A N.so.length y.so.c, .slice y.ar.A N.ar.length y.ar.c, .int .i64 N.ti] 38)) := ⟨gb_alloc (gb_refl w none) _, Blk.new w _ _⟩
theorem NkAt.in (h : NkAt w y N wr) (hi : NetIn w w.heap.size y N) : NetIn wr wr.heap.size y N := (hi.none (Nat.le_refl _) h.g).more h.g.size
end
end Go.Proofs.Ytfloekbmgjmhbaa
end

section
namespace Go.Proofs.Ytfloekbmgjmhbaa
open Go.ChangeShapes Go.WideShapes Go.ChangeAt Go.RowKit
set_option linter.unusedVariables false

/-- The source of a packet. -/
def srcN (N : Nt) (p : Pkt) : List Flt := N.so.getD p.fr.toNat []
def sendTo (N : Nt) (p : Pkt) : Nt := {N with so := N.so.set p.fr.toNat (srcN N p ++ flitsG N.W N.H p)}
def sendOk (N : Nt) (p : Pkt) : Bool := netOk N && (pktOk N.W N.H p && decide (((srcN N p).length : Int) + p.ln ≤ 60))
def sendG (N : Nt) (p : Pkt) : Nt := if sendOk N p = true then sendTo N p else N
theorem nk_parts {N : Nt} (h : netOk N = true) : sizesN N = true := by
  cases hs : sizesN N with
  | true => rfl
  | false => rw [nk_size hs] at h; cases h
/-- The source is there. -/
theorem src_there {N : Nt} {p : Pkt} (h : netOk N = true) (hp : pktOk N.W N.H p = true) : 0 ≤ p.fr ∧ p.fr.toNat < N.so.length ∧ N.so[p.fr.toNat]? = some (srcN N p) := by
  have h1 := nk_parts h
  unfold sizesN at h1
  have h2 := of_decide_eq_true h1
  have h3 := (pktOk_iff.1 hp).2.1
  rw [hasG_iff] at h3
  have hl : p.fr.toNat < N.so.length := by omega
  refine ⟨by omega, hl, ?_⟩
  rw [srcN, List.getD_eq_getElem?_getD, List.getElem?_eq_getElem hl]
  rfl
end Go.Proofs.Ytfloekbmgjmhbaa
end

section
namespace Go.Proofs.Ytfloekbmgjmhbaa
open Go.ChangeShapes Go.WideShapes Go.ChangeAt Go.RowKit
set_option linter.unusedVariables false

def markI (k0 n j : Nat) (l : List Int) : List Int := (List.range n).map fun t => if t < j then ((k0 + t : Nat) : Int) else l.getD t 0
theorem markI_zero (k0 n : Nat) (l : List Int) (h : l.length = n) : markI k0 n 0 l = l := by
  refine List.ext_getElem (by simp [markI, h]) fun i h1 h2 => ?_
  simp [markI, List.getElem?_eq_getElem h2]
theorem markI_succ (k0 n j : Nat) (l : List Int) : (markI k0 n j l).set j ((k0 + j : Nat) : Int) = markI k0 n (j + 1) l := by
  refine List.ext_getElem (by simp [markI]) fun i h1 h2 => ?_
  rw [List.getElem_set]
  by_cases e : j = i
  · subst e; simp [markI]
  · simp only [e, if_false, markI, List.getElem_map, List.getElem_range]
    by_cases hi : i < j
    · rw [if_pos hi, if_pos (by omega)]
    · rw [if_neg hi, if_neg (by omega)]
theorem markI_length (k0 n j : Nat) (l : List Int) : (markI k0 n j l).length = n := by simp [markI]
def marksI (k0 n : Nat) : List Int := markI k0 n n []
theorem markI_all (k0 n : Nat) (l : List Int) : markI k0 n n l = marksI k0 n := by
  refine List.ext_getElem (by simp [markI, marksI]) fun i h1 h2 => ?_
  have : i < n := by simpa [markI] using h1
  simp [markI, marksI, this]
theorem marksI_get (k0 n j : Nat) (h : j < n) : (marksI k0 n).getD j 0 = ((k0 + j : Nat) : Int) := by
  rw [List.getD_eq_getElem?_getD, List.getElem?_eq_getElem (by simp [marksI, markI]; exact h)]
  simp [marksI, markI, h]
theorem marksI_length (k0 n : Nat) : (marksI k0 n).length = n := markI_length k0 n n []

theorem lawsMarkI (v : Value) (base n k0 : Nat) (l : List Int) (w : World) (h : w.ownsRow base 3 1 v n (intsV l)) (hk : k0 + n ≤ 1000000000) :
    Calls Try.prog 65 #[v, .int .i64 (k0 : Int)] w fun e w' => e = .returned (.int .i64 ((k0 + n : Nat) : Int)) ∧ w'.ownsRow base 3 1 v n (intsV (marksI k0 n)) ∧ w.grownBy w' v.ownBlock := by
  have hxl := own_ints_length h
  obtain ⟨A, cap, rfl, ha⟩ := own_form h
  have h' := h
  rw [← markI_zero k0 n l hxl] at h'
  clear h hxl
  have H0 := Lib.hid h'
  clear h'
  go_enter Try.func65, Try.ntmps65
  go_wp2_with fail
  go_loopw [1, 5] (fun q i wr => ∃ j : Nat, j ≤ n ∧ q = .int .i64 ((k0 + j : Nat) : Int) ∧ i = .int .i64 (j : Int) ∧ wr.ownsRow base 3 1 (.slice A n cap) n (intsV (markI k0 n j l)) ∧ w.grownBy wr (Value.slice A n cap).ownBlock) (fun _ i _ => n - (intOf i).toNat)
  case atStart => exact ⟨0, Nat.zero_le _, rfl, rfl, H0.out, gb_refl _ _⟩
  case round =>
    obtain ⟨j, hj, rfl, rfl, hown, hgr⟩ := hrel
    have HG := Lib.hid hgr
    clear hgr
    by_cases hlt : j < n
    · obtain ⟨g, rfl⟩ := ha (by omega)
      clear ha
      have hc := hown.cellAt j (by omega)
      rw [List.getElem?_eq_getElem (by rw [intsV_length, markI_length]; omega)] at hc
      have hf := hown.frozenAt j
      obtain ⟨hown2, hg2⟩ := hown.stored j (.int .i64 ((k0 + j : Nat) : Int))
      rw [intsV_set, markI_succ] at hown2
      have HOWN := Lib.hid hown2
      have HGG := Lib.hid (gb_trans HG.out hg2)
      clear hown hown2 hg2
      go_wp2_with fail
      go_roundw
      case rel => exact ⟨j + 1, by omega, by go_num, by go_num, HOWN.out, HGG.out⟩
      case measure => simp [intOf]; omega
    · obtain rfl : j = n := by omega
      rw [markI_all] at hown
      have HOWN := Lib.hid hown
      clear hown
      go_wp2_with fail
      go_ret
      exact ⟨rfl, HOWN.out, HG.out⟩

theorem lawsHeldI (A : Option Addr) (n cap B k0 : Nat) (w : World) (h : IntAt w B A n (marksI k0 n)) (hk : k0 + n ≤ 1000000000) :
    Calls Try.prog 69 #[.slice A n cap, .int .i64 (k0 : Int)] w fun e w' => e = .returned (.int .i64 ((k0 + n : Nat) : Int)) ∧ w.grownBy w' none := by
  have H0 := Lib.hid h
  clear h
  go_enter Try.func69, Try.ntmps69
  go_wp2_with fail
  go_loopw [1, 5] (fun q i wr => ∃ j m : Nat, j ≤ n ∧ q = .int .i64 ((k0 + j : Nat) : Int) ∧ i = .int .i64 (j : Int) ∧ wr = w.drewN m) (fun _ i _ => n - (intOf i).toNat)
  case atStart => exact ⟨0, 0, Nat.zero_le _, rfl, rfl, rfl⟩
  case round =>
    obtain ⟨j, m, hj, rfl, rfl, rfl⟩ := hrel
    by_cases hlt : j < n
    · obtain ⟨g, off, rfl, _, hc⟩ := H0.out.at j hlt
      rw [marksI_get k0 n j hlt] at hc
      go_wp2_with fail
      go_roundw
      case rel => exact ⟨j + 1, _, by omega, by go_num, by go_num, rfl⟩
      case measure => simp [intOf]; omega
    · obtain rfl : j = n := by omega
      go_wp2_with fail
      go_ret
      exact ⟨rfl, gb_drewN (gb_refl _ _) _⟩

theorem lawsHeldOwn (v : Value) (base n k0 : Nat) (w : World) (h : w.ownsRow base 3 1 v n (intsV (marksI k0 n))) (hk : k0 + n ≤ 1000000000) :
    Calls Try.prog 69 #[v, .int .i64 (k0 : Int)] w fun e w' => e = .returned (.int .i64 ((k0 + n : Nat) : Int)) ∧ w.grownBy w' none := by
  obtain ⟨A, c, rfl, _⟩ := own_form h
  exact lawsHeldI A n c _ k0 w (intAt_own h (marksI_length k0 n) (Nat.le_refl _)) hk
end Go.Proofs.Ytfloekbmgjmhbaa
end

section
namespace Go.Proofs.Ytfloekbmgjmhbaa
open Go.ChangeShapes Go.WideShapes Go.ChangeAt Go.RowKit
set_option linter.unusedVariables false

theorem lawsMarkTable (v : Value) (base n k0 : Nat) (l : List Int) (w : World) (h : w.ownsRow base 3 1 v n (intsV l)) (hk : k0 + n ≤ 1000000000) :
    Calls Try.prog 99 #[.agg #[v], .int .i64 (k0 : Int)] w fun e w' => e = .returned (.int .i64 ((k0 + n : Nat) : Int)) ∧ w'.ownsRow base 3 1 v n (intsV (marksI k0 n)) ∧ w.grownBy w' v.ownBlock := by
  obtain ⟨A, cap, rfl, ha⟩ := own_form h
  have h' := h.alloc (.cells #[.slice A n cap] 30)
  have HO := Lib.hid h'
  clear h h' ha
  go_enter Try.func99, Try.ntmps99
  go_wp2_with fail
  refine (lawsMarkI _ base n k0 l _ HO.out hk).mono ?_
  rintro e w1 ⟨rfl, o1, g1⟩
  have O1 := Lib.hid o1
  have G1 := Lib.hid (gb_trans (gb_alloc (gb_refl w _) _) g1)
  clear o1 g1
  go_wp2_with fail
  go_ret
  exact ⟨rfl, O1.out, G1.out⟩
end Go.Proofs.Ytfloekbmgjmhbaa
end

section
namespace Go.Proofs.Ytfloekbmgjmhbaa
open Go.ChangeShapes Go.WideShapes Go.ChangeAt Go.RowKit
set_option linter.unusedVariables false

theorem lawsHeldTable (v : Value) (base n k0 : Nat) (w : World) (h : w.ownsRow base 3 1 v n (intsV (marksI k0 n))) (hk : k0 + n ≤ 1000000000) :
    Calls Try.prog 101 #[.agg #[v], .int .i64 (k0 : Int)] w fun e w' => e = .returned (.int .i64 ((k0 + n : Nat) : Int)) ∧ w.grownBy w' none := by
  obtain ⟨A, cap, rfl, ha⟩ := own_form h
  have HO := Lib.hid (h.alloc (.cells #[.slice A n cap] 30))
  clear h ha
  go_enter Try.func101, Try.ntmps101
  go_wp2_with fail
  refine (lawsHeldOwn _ base n k0 _ HO.out hk).mono ?_
  rintro e w1 ⟨rfl, g1⟩
  have G1 := Lib.hid (gb_trans (gb_alloc (gb_refl w _) _) g1)
  clear g1
  have hk0 : ¬ (((k0 + n : Nat) : Int)) < 0 := by omega
  go_wp2_with fail
  go_ret
  exact ⟨rfl, G1.out⟩
theorem lawsEqTabOwn (v1 v2 : Value) (b1 b2 : Nat) (P : List Int) (w : World) (h1 : w.ownsRow b1 3 1 v1 P.length (intsV P)) (h2 : w.ownsRow b2 3 1 v2 P.length (intsV P)) (hn : P.length ≤ 1000000000) :
    Calls Try.prog 97 #[.agg #[v1], .agg #[v2]] w (RetB true w) := by
  obtain ⟨A1, c1, rfl, _⟩ := own_form h1
  obtain ⟨A2, c2, rfl, _⟩ := own_form h2
  exact lawsEqTable A1 A2 P.length c1 c2 _ _ P w (intAt_own h1 rfl (Nat.le_refl _)) (intAt_own h2 rfl (Nat.le_refl _)) (Nat.le_refl _) (Nat.le_refl _) hn
end Go.Proofs.Ytfloekbmgjmhbaa
end

section
namespace Go.Proofs.Ytfloekbmgjmhbaa
open Go.ChangeShapes Go.WideShapes Go.ChangeAt Go.RowKit
set_option linter.unusedVariables false
set_option maxRecDepth 20000

/-- The rows are marked; a world between. -/
theorem lawsMarkClasses (vr vc : Value) (base a b k0 : Nat) (R C : List Int) (w : World) (h : VRow w base vr vc a b R C) (hk : k0 + a + b ≤ 1000000000) :
    Calls Try.prog 63 #[.agg #[vr, vc], .int .i64 (k0 : Int)] w fun e w' => e = .returned (.int .i64 ((k0 + a + b : Nat) : Int)) ∧ VRow w' base vr vc a b (marksI k0 a) (marksI (k0 + a) b) ∧ ∃ w1, w1.ownsRow base 3 1 vr a (intsV (marksI k0 a)) ∧ w.grownBy w1 vr.ownBlock ∧ w1.grownBy w' vc.ownBlock := by
  obtain ⟨A1, c1, rfl, _⟩ := own_form h.r
  obtain ⟨A2, c2, rfl, _⟩ := own_form h.c
  have hg := gb_alloc (gb_refl w none) (.cells #[.slice A1 a c1, .slice A2 b c2] 32)
  have H1 := Lib.hid (h.gb hg)
  have HB1 := Lib.hid (Blk.new w 32 #[.slice A1 a c1, .slice A2 b c2])
  clear h hg
  go_enter Try.func63, Try.ntmps63
  go_wp2_with fail
  refine (lawsMarkTable _ base a k0 R _ H1.out.r (by omega)).mono ?_
  rintro e w1 ⟨rfl, o1, g1⟩
  have O1 := Lib.hid o1
  have OC := Lib.hid (row_kept H1.out.c g1 (fun j e => H1.out.ap j e))
  have e0 : w1.cell? ⟨w.heap.size, 1, none⟩ = some (.slice A2 b c2) := (HB1.out.grown g1 (fun e => own_ne H1.out.r HB1.out (by decide) e.symm)).cell 1
  have G1 := Lib.hid (gb_trans (gb_alloc (gb_refl w _) (.cells #[.slice A1 a c1, .slice A2 b c2] 32)) g1)
  clear o1 g1
  go_wp2_with fail
  refine (lawsMarkTable _ base b (k0 + a) C _ OC.out hk).mono ?_
  rintro e w2 ⟨rfl, o2, g2⟩
  have O2 := Lib.hid o2
  have OR := Lib.hid (row_kept O1.out g2 (fun j e e2 => H1.out.ap j e2 e))
  have G2 := Lib.hid g2
  clear o2 g2 e0
  go_wp2_with fail
  go_ret
  exact ⟨rfl, ⟨OR.out, O2.out, H1.out.ap⟩, w1, O1.out, G1.out, G2.out⟩
theorem lawsHeldClasses (vr vc : Value) (base a b k0 : Nat) (w : World) (h : VRow w base vr vc a b (marksI k0 a) (marksI (k0 + a) b)) (hk : k0 + a + b ≤ 1000000000) :
    Calls Try.prog 67 #[.agg #[vr, vc], .int .i64 (k0 : Int)] w fun e w' => e = .returned (.int .i64 ((k0 + a + b : Nat) : Int)) ∧ w.grownBy w' none := by
  obtain ⟨A1, c1, rfl, _⟩ := own_form h.r
  obtain ⟨A2, c2, rfl, _⟩ := own_form h.c
  have hg := gb_alloc (gb_refl w none) (.cells #[.slice A1 a c1, .slice A2 b c2] 32)
  have H1 := Lib.hid (h.gb hg)
  have HB1 := Lib.hid (Blk.new w 32 #[.slice A1 a c1, .slice A2 b c2])
  have HG := Lib.hid hg
  have k1 : (0 : Int) ≤ ((k0 + a : Nat) : Int) := by omega
  have k2 : (0 : Int) ≤ ((k0 + a + b : Nat) : Int) := by omega
  have k3 : ¬ ((k0 + a : Nat) : Int) < 0 := by omega
  have k4 : ¬ ((k0 + a + b : Nat) : Int) < 0 := by omega
  clear h hg
  go_enter Try.func67, Try.ntmps67
  go_wp2_with fail
  refine (lawsHeldTable _ base a k0 _ H1.out.r (by omega)).mono ?_
  rintro e w1 ⟨rfl, g1⟩
  have H2 := Lib.hid (H1.out.gb g1)
  have e0 : w1.cell? ⟨w.heap.size, 1, none⟩ = some (.slice A2 b c2) := (HB1.out.grown g1 (by simp)).cell 1
  have G1 := Lib.hid (gb_trans HG.out g1)
  clear g1
  go_wp2_with fail
  refine (lawsHeldTable _ base b (k0 + a) _ H2.out.c hk).mono ?_
  rintro e w2 ⟨rfl, g2⟩
  have G2 := Lib.hid (gb_trans G1.out g2)
  clear g2 e0
  go_wp2_with fail
  go_ret
  exact ⟨rfl, G2.out⟩
end Go.Proofs.Ytfloekbmgjmhbaa
end

section
namespace Go.Proofs.Ytfloekbmgjmhbaa
open Go.ChangeShapes Go.WideShapes Go.ChangeAt Go.RowKit
set_option linter.unusedVariables false

theorem lawsMarkMesh (W H : Int) (v : Value) (base n k0 : Nat) (l : List Int) (w : World) (h : w.ownsRow base 3 1 v n (intsV l)) (hk : k0 + n ≤ 1000000000) :
    Calls Try.prog 62 #[.agg #[.int .i64 W, .int .i64 H, v], .int .i64 (k0 : Int)] w fun e w' => e = .returned (.int .i64 ((k0 + n : Nat) : Int)) ∧ w'.ownsRow base 3 1 v n (intsV (marksI k0 n)) ∧ w.grownBy w' v.ownBlock := by
  obtain ⟨A, cap, rfl, ha⟩ := own_form h
  have h' := h.alloc (.cells #[.int .i64 W, .int .i64 H, .slice A n cap] 28)
  have HO := Lib.hid h'
  clear h h' ha
  go_enter Try.func62, Try.ntmps62
  go_wp2_with fail
  refine (lawsMarkI _ base n k0 l _ HO.out hk).mono ?_
  rintro e w1 ⟨rfl, o1, g1⟩
  have O1 := Lib.hid o1
  have G1 := Lib.hid (gb_trans (gb_alloc (gb_refl w _) _) g1)
  clear o1 g1
  go_wp2_with fail
  go_ret
  exact ⟨rfl, O1.out, G1.out⟩
end Go.Proofs.Ytfloekbmgjmhbaa
end

section
namespace Go.Proofs.Ytfloekbmgjmhbaa
open Go.ChangeShapes Go.WideShapes Go.ChangeAt Go.RowKit
set_option linter.unusedVariables false
set_option maxRecDepth 20000

def markSz (N : Nt) : Nat := N.br.length + (N.ta.length + N.tb.length) + sumL N.bu * 5 + N.ow.length + N.tu.length + sumL N.so * 5 + sumL N.ar * 5
def marksN (k0 : Nat) (N : Nt) : Nt := ⟨N.W, N.H, marksI k0 N.br.length, marksI (k0 + N.br.length) N.ta.length, marksI (k0 + N.br.length + N.ta.length) N.tb.length, marksFF (k0 + N.br.length + N.ta.length + N.tb.length) N.bu,
  marksI (k0 + N.br.length + N.ta.length + N.tb.length + sumL N.bu * 5) N.ow.length, marksI (k0 + N.br.length + N.ta.length + N.tb.length + sumL N.bu * 5 + N.ow.length) N.tu.length,
  marksFF (k0 + N.br.length + N.ta.length + N.tb.length + sumL N.bu * 5 + N.ow.length + N.tu.length) N.so, marksFF (k0 + N.br.length + N.ta.length + N.tb.length + sumL N.bu * 5 + N.ow.length + N.tu.length + sumL N.so * 5) N.ar, N.ti⟩
theorem markSz_le {N : Nt} (h : sizeN N ≤ 1048576) : markSz N ≤ 5242880 := by unfold sizeN at h; unfold markSz; omega
theorem Stp.blk {vs : List Value} {w a : World} {g : Nat} {t : TypeId} {cs : Array Value} (h : Stp vs w a) (hb : Blk w g t cs) (hne : ∀ (i : Nat) v, vs[i]? = some v → v.ownBlock ≠ some g) : Blk a g t cs := (h.block g hb.lt hne).trans hb
set_option maxHeartbeats 3200000 in
theorem lawsMarkNet (y : Na) (N : Nt) (base E k0 : Nat) (w : World) (h : NetOwn w base E y N) (hk : k0 + markSz N ≤ 1000000000) :
    Calls Try.prog 22 #[.agg #[.int .i64 N.W, .int .i64 N.H, .slice y.br.A N.br.length y.br.c, .slice y.ta.A N.ta.length y.ta.c, .slice y.tb.A N.tb.length y.tb.c, .slice y.bu.A N.bu.length y.bu.c, .slice y.ow.A N.ow.length y.ow.c, .slice y.tu.A N.tu.length y.tu.c, .slice y.so.A N.so.length y.so.c, .slice y.ar.A N.ar.length y.ar.c, .int .i64 N.ti], .int .i64 (k0 : Int)] w fun e w' => e = .returned (.int .i64 ((k0 + markSz N : Nat) : Int)) ∧ NetOwn w' base E y (marksN k0 N) ∧ Chg base E w w' := by
  obtain ⟨vb, vs, va, h⟩ := h
  unfold markSz at hk
  have nbbr := Lib.hid (show (.slice y.br.A N.br.length y.br.c : Value).ownBlock ≠ some w.heap.size from fun e => absurd (h.br.lt _ e).2 (Nat.lt_irrefl _))
  have nbta := Lib.hid (show (.slice y.ta.A N.ta.length y.ta.c : Value).ownBlock ≠ some w.heap.size from fun e => absurd (h.ta.lt _ e).2 (Nat.lt_irrefl _))
  have nbtb := Lib.hid (show (.slice y.tb.A N.tb.length y.tb.c : Value).ownBlock ≠ some w.heap.size from fun e => absurd (h.tb.lt _ e).2 (Nat.lt_irrefl _))
  have nbow := Lib.hid (show (.slice y.ow.A N.ow.length y.ow.c : Value).ownBlock ≠ some w.heap.size from fun e => absurd (h.ow.lt _ e).2 (Nat.lt_irrefl _))
  have nbtu := Lib.hid (show (.slice y.tu.A N.tu.length y.tu.c : Value).ownBlock ≠ some w.heap.size from fun e => absurd (h.tu.lt _ e).2 (Nat.lt_irrefl _))
  have nbbu := Lib.hid (show ∀ (i : Nat) v, vb[i]? = some v → v.ownBlock ≠ some w.heap.size from fun i v hv e => absurd (h.bu.fam.lt hv e).2 (Nat.lt_irrefl _))
  have nbso := Lib.hid (show ∀ (i : Nat) v, vs[i]? = some v → v.ownBlock ≠ some w.heap.size from fun i v hv e => absurd (h.so.fam.lt hv e).2 (Nat.lt_irrefl _))
  have nbar := Lib.hid (show ∀ (i : Nat) v, va[i]? = some v → v.ownBlock ≠ some w.heap.size from fun i v hv e => absurd (h.ar.fam.lt hv e).2 (Nat.lt_irrefl _))
  have X0 := Lib.hid (h.gb (gb_alloc (gb_refl w none) (.cells #[.int .i64 N.W, .int .i64 N.H, .slice y.br.A N.br.length y.br.c, .slice y.ta.A N.ta.length y.ta.c, .slice y.tb.A N.tb.length y.tb.c, .slice y.bu.A N.bu.length y.bu.c, .slice y.ow.A N.ow.length y.ow.c, .slice y.tu.A N.tu.length y.tu.c, .slice y.so.A N.so.length y.so.c, .slice y.ar.A N.ar.length y.ar.c, .int .i64 N.ti] 38)))
  have C0 := Lib.hid ((Chg.refl base E w).al (.cells #[.int .i64 N.W, .int .i64 N.H, .slice y.br.A N.br.length y.br.c, .slice y.ta.A N.ta.length y.ta.c, .slice y.tb.A N.tb.length y.tb.c, .slice y.bu.A N.bu.length y.bu.c, .slice y.ow.A N.ow.length y.ow.c, .slice y.tu.A N.tu.length y.tu.c, .slice y.so.A N.so.length y.so.c, .slice y.ar.A N.ar.length y.ar.c, .int .i64 N.ti] 38))
  have KE := Lib.hid (Blk.new w 38 #[.int .i64 N.W, .int .i64 N.H, .slice y.br.A N.br.length y.br.c, .slice y.ta.A N.ta.length y.ta.c, .slice y.tb.A N.tb.length y.tb.c, .slice y.bu.A N.bu.length y.bu.c, .slice y.ow.A N.ow.length y.ow.c, .slice y.tu.A N.tu.length y.tu.c, .slice y.so.A N.so.length y.so.c, .slice y.ar.A N.ar.length y.ar.c, .int .i64 N.ti])
  clear h
  go_enter Try.func22, Try.ntmps22
  go_wp2_with fail
  refine (lawsMarkMesh _ _ _ base N.br.length k0 N.br _ X0.out.br (by omega)).mono ?_
  rintro e w1 ⟨rfl, o1, g1⟩
  have X1 := Lib.hid (X0.out.setBr (L := marksI k0 N.br.length) (marksI_length _ _) g1 (by rw [marksI_length]; exact o1))
  have C1 := Lib.hid (C0.out.row g1 (fun j hj => X0.out.brE j hj))
  have K1 := Lib.hid (KE.out.grown g1 (Ne.symm nbbr.out))
  clear o1 g1
  obtain ⟨k1, hk1⟩ : ∃ k : Nat, k0 + N.br.length = k := ⟨_, rfl⟩
  rw [hk1]
  have ata : w1.cell? ⟨w.heap.size, 3, none⟩ = some (.slice y.ta.A N.ta.length y.ta.c) := K1.out.cell 3
  have atb : w1.cell? ⟨w.heap.size, 4, none⟩ = some (.slice y.tb.A N.tb.length y.tb.c) := K1.out.cell 4
  go_wp2_with fail
  refine (lawsMarkClasses _ _ base N.ta.length N.tb.length k1 N.ta N.tb _ X1.out.vrow (by omega)).mono ?_
  rintro e w2 ⟨rfl, v2, wm, o2, g2, h2⟩
  have X2 := Lib.hid ((X1.out.setTa (L := marksI k1 N.ta.length) (marksI_length _ _) g2 (by rw [marksI_length]; exact o2)).setTb (L := marksI (k1 + N.ta.length) N.tb.length) (marksI_length _ _) h2 (by rw [marksI_length]; exact v2.c))
  have C2 := Lib.hid ((C1.out.row g2 (fun j hj => X1.out.taE j hj)).row h2 (fun j hj => X1.out.tbE j hj))
  have K2 := Lib.hid ((K1.out.grown g2 (Ne.symm nbta.out)).grown h2 (Ne.symm nbtb.out))
  clear v2 o2 g2 h2
  clear ata atb
  obtain ⟨k2, hk2⟩ : ∃ k : Nat, k1 + N.ta.length + N.tb.length = k := ⟨_, rfl⟩
  rw [hk2]
  have abu : w2.cell? ⟨w.heap.size, 5, none⟩ = some (.slice y.bu.A N.bu.length y.bu.c) := K2.out.cell 5
  go_wp2_with fail
  refine (lawsMarkFSS _ base k2 vb N.bu _ X2.out.bu (by omega)).mono ?_
  rintro e w3 ⟨rfl, o3, g3⟩
  have X3 := Lib.hid (X2.out.setBu (DD := marksFF k2 N.bu) (markFF_length _ _ _) g3 o3.fam)
  have C3 := Lib.hid (C2.out.trans (g3.chg (fun i v k hv hk => X2.out.buF i v k hv hk)))
  have K3 := Lib.hid (g3.blk K2.out nbbu.out)
  clear o3 g3
  clear abu
  obtain ⟨k3, hk3⟩ : ∃ k : Nat, k2 + sumL N.bu * 5 = k := ⟨_, rfl⟩
  rw [hk3]
  have aow : w3.cell? ⟨w.heap.size, 6, none⟩ = some (.slice y.ow.A N.ow.length y.ow.c) := K3.out.cell 6
  go_wp2_with fail
  refine (lawsMarkI _ base N.ow.length k3 N.ow _ X3.out.ow (by omega)).mono ?_
  rintro e w4 ⟨rfl, o4, g4⟩
  have X4 := Lib.hid (X3.out.setOw (L := marksI k3 N.ow.length) (marksI_length _ _) g4 (by rw [marksI_length]; exact o4))
  have C4 := Lib.hid (C3.out.row g4 (fun j hj => X3.out.owE j hj))
  have K4 := Lib.hid (K3.out.grown g4 (Ne.symm nbow.out))
  clear o4 g4
  clear aow
  obtain ⟨k4, hk4⟩ : ∃ k : Nat, k3 + N.ow.length = k := ⟨_, rfl⟩
  rw [hk4]
  have atu : w4.cell? ⟨w.heap.size, 7, none⟩ = some (.slice y.tu.A N.tu.length y.tu.c) := K4.out.cell 7
  go_wp2_with fail
  refine (lawsMarkI _ base N.tu.length k4 N.tu _ X4.out.tu (by omega)).mono ?_
  rintro e w5 ⟨rfl, o5, g5⟩
  have X5 := Lib.hid (X4.out.setTu (L := marksI k4 N.tu.length) (marksI_length _ _) g5 (by rw [marksI_length]; exact o5))
  have C5 := Lib.hid (C4.out.row g5 (fun j hj => X4.out.tuE j hj))
  have K5 := Lib.hid (K4.out.grown g5 (Ne.symm nbtu.out))
  clear o5 g5
  clear atu
  obtain ⟨k5, hk5⟩ : ∃ k : Nat, k4 + N.tu.length = k := ⟨_, rfl⟩
  rw [hk5]
  have aso : w5.cell? ⟨w.heap.size, 8, none⟩ = some (.slice y.so.A N.so.length y.so.c) := K5.out.cell 8
  go_wp2_with fail
  refine (lawsMarkFSS _ base k5 vs N.so _ X5.out.so (by omega)).mono ?_
  rintro e w6 ⟨rfl, o6, g6⟩
  have X6 := Lib.hid (X5.out.setSo (DD := marksFF k5 N.so) (markFF_length _ _ _) g6 o6.fam)
  have C6 := Lib.hid (C5.out.trans (g6.chg (fun i v k hv hk => X5.out.soF i v k hv hk)))
  have K6 := Lib.hid (g6.blk K5.out nbso.out)
  clear o6 g6
  clear aso
  obtain ⟨k6, hk6⟩ : ∃ k : Nat, k5 + sumL N.so * 5 = k := ⟨_, rfl⟩
  rw [hk6]
  have aar : w6.cell? ⟨w.heap.size, 9, none⟩ = some (.slice y.ar.A N.ar.length y.ar.c) := K6.out.cell 9
  go_wp2_with fail
  refine (lawsMarkFSS _ base k6 va N.ar _ X6.out.ar (by omega)).mono ?_
  rintro e w7 ⟨rfl, o7, g7⟩
  have X7 := Lib.hid (X6.out.setAr (DD := marksFF k6 N.ar) (markFF_length _ _ _) g7 o7.fam)
  have C7 := Lib.hid (C6.out.trans (g7.chg (fun i v k hv hk => X6.out.arF i v k hv hk)))
  have K7 := Lib.hid (g7.blk K6.out nbar.out)
  clear o7 g7
  clear aar
  obtain ⟨k7, hk7⟩ : ∃ k : Nat, k6 + sumL N.ar * 5 = k := ⟨_, rfl⟩
  rw [hk7]
  have HX := Lib.hid (show k0 + markSz N = k7 by unfold markSz; omega)
  have HK1 := Lib.hid hk1
  have HK2 := Lib.hid hk2
  have HK3 := Lib.hid hk3
  have HK4 := Lib.hid hk4
  have HK5 := Lib.hid hk5
  have HK6 := Lib.hid hk6
  have HK7 := Lib.hid hk7
  clear hk1 hk2 hk3 hk4 hk5 hk6 hk7 hk
  go_wp2_with fail
  go_ret
  refine ⟨by rw [HX.out]; rfl, ⟨vb, vs, va, ?_⟩, C7.out⟩
  have hx := X7.out
  have q1 := HK1.out
  have q2 := HK2.out
  have q3 := HK3.out
  have q4 := HK4.out
  have q5 := HK5.out
  have q6 := HK6.out
  have q7 := HK7.out
  subst q1 q2 q3 q4 q5 q6 q7
  exact hx
end Go.Proofs.Ytfloekbmgjmhbaa
end

section
namespace Go.Proofs.Ytfloekbmgjmhbaa
open Go.ChangeShapes Go.WideShapes Go.ChangeAt Go.RowKit
set_option linter.unusedVariables false

theorem flitsG_ok {W H : Int} {p : Pkt} (hp : pktOk W H p = true) : lstOk W H (flitsG W H p) = true := by
  rw [lstOk, List.all_eq_true]
  intro x hx
  rw [flitsG_yes hp, flitsTo, List.mem_map] at hx
  obtain ⟨i, _, rfl⟩ := hx
  obtain ⟨_, _, h3, _, h5, _⟩ := pktOk_iff.1 hp
  rw [fltOk, Bool.and_eq_true]
  exact ⟨h3, decide_eq_true h5⟩
theorem flitsG_length {W H : Int} {p : Pkt} (hp : pktOk W H p = true) : ((flitsG W H p).length : Int) = p.ln := by
  have h := (pktOk_iff.1 hp).2.2.2.2.2
  rw [flitsG_yes hp]
  simp [flitsTo]
  omega
theorem sendOk_iff {N : Nt} {p : Pkt} : sendOk N p = true ↔ netOk N = true ∧ pktOk N.W N.H p = true ∧ ((srcN N p).length : Int) + p.ln ≤ 60 := by
  rw [sendOk, Bool.and_eq_true, Bool.and_eq_true, decide_eq_true_eq]
theorem netOk_send {N : Nt} {p : Pkt} (h : sendOk N p = true) : netOk (sendTo N p) = true := by
  obtain ⟨h1, h2, h3⟩ := sendOk_iff.1 h
  obtain ⟨hf0, hfl, hsrc⟩ := src_there h1 h2
  have hl := flitsG_length h2
  have hk := flitsG_ok h2
  unfold netOk at h1 ⊢
  simp only [Bool.and_eq_true] at h1 ⊢
  obtain ⟨g1, g2, g3, g4, g5⟩ := h1
  refine ⟨g1, ?_, g3, g4, ?_⟩
  · unfold sizesN at g2 ⊢
    have := of_decide_eq_true g2
    exact decide_eq_true (by simp only [sendTo, List.length_set]; exact this)
  · rw [List.all_eq_true] at g5 ⊢
    intro D hD
    rcases List.mem_or_eq_of_mem_set hD with h4 | rfl
    · exact g5 D h4
    · have h5 := g5 _ (List.mem_of_getElem? hsrc)
      rw [srcOk, Bool.and_eq_true] at h5 ⊢
      refine ⟨decide_eq_true (by rw [List.length_append]; omega), ?_⟩
      have h6 := h5.2
      rw [lstOk, List.all_eq_true] at h6 hk ⊢
      intro x hx
      rcases List.mem_append.1 hx with h7 | h7
      · exact h6 x h7
      · exact hk x h7
theorem sendG_yes {N : Nt} {p : Pkt} (h : sendOk N p = true) : sendG N p = sendTo N p := if_pos h
theorem sendG_no {N : Nt} {p : Pkt} (h : sendOk N p = false) : sendG N p = N := if_neg (by rw [h]; decide)
theorem netOk_sendG (N : Nt) (p : Pkt) : netOk (sendG N p) = netOk N := by
  cases h : sendOk N p with
  | false => rw [sendG_no h]
  | true => rw [sendG_yes h, netOk_send h, (sendOk_iff.1 h).1]
/-- One source more or less: the sum of the lengths. -/
theorem sumL_set : ∀ {LL : List (List Flt)} {i : Nat} {X Y : List Flt}, LL[i]? = some X → sumL (LL.set i Y) + X.length = sumL LL + Y.length := by
  intro LL
  induction LL with
  | nil => intro i X Y h; simp at h
  | cons a t ih =>
    intro i X Y h
    cases i with
    | zero =>
      rw [List.getElem?_cons_zero] at h
      obtain rfl := Option.some.inj h
      simp only [List.set_cons_zero, sumL, List.map_cons, List.sum_cons]
      omega
    | succ i =>
      rw [List.getElem?_cons_succ] at h
      have := ih (Y := Y) h
      simp only [List.set_cons_succ, sumL, List.map_cons, List.sum_cons] at this ⊢
      omega
theorem sumL_send {N : Nt} {p : Pkt} (h1 : netOk N = true) (h2 : pktOk N.W N.H p = true) : (sumL (sendTo N p).so : Int) = sumL N.so + p.ln := by
  obtain ⟨_, _, hsrc⟩ := src_there h1 h2
  have h := sumL_set (Y := srcN N p ++ flitsG N.W N.H p) hsrc
  have hl := flitsG_length h2
  rw [List.length_append] at h
  simp only [sendTo]
  omega
/-- A network like another one, but for its sources, which are as many and hold at most k flits more. -/
structure NetLike (N R : Nt) (k : Nat) : Prop where
  W : R.W = N.W
  H : R.H = N.H
  br : R.br = N.br
  ta : R.ta = N.ta
  tb : R.tb = N.tb
  bu : R.bu = N.bu
  ow : R.ow = N.ow
  tu : R.tu = N.tu
  so : R.so.length = N.so.length
  ar : R.ar = N.ar
  ti : R.ti = N.ti
  s : sumL R.so ≤ sumL N.so + k
theorem like_refl (N : Nt) : NetLike N N 0 := ⟨rfl, rfl, rfl, rfl, rfl, rfl, rfl, rfl, rfl, rfl, rfl, Nat.le_refl _⟩
theorem NetLike.trans {N R S : Nt} {k j : Nat} (h : NetLike N R k) (g : NetLike R S j) : NetLike N S (k + j) :=
  ⟨g.W.trans h.W, g.H.trans h.H, g.br.trans h.br, g.ta.trans h.ta, g.tb.trans h.tb, g.bu.trans h.bu, g.ow.trans h.ow, g.tu.trans h.tu, g.so.trans h.so, g.ar.trans h.ar, g.ti.trans h.ti, by have := h.s; have := g.s; omega⟩
theorem like_sendG (N : Nt) (p : Pkt) : NetLike N (sendG N p) 5 := by
  cases h : sendOk N p with
  | false =>
    rw [sendG_no h]
    exact ⟨rfl, rfl, rfl, rfl, rfl, rfl, rfl, rfl, rfl, rfl, rfl, by omega⟩
  | true =>
    obtain ⟨h1, h2, h3⟩ := sendOk_iff.1 h
    have h4 := sumL_send h1 h2
    have h5 := (pktOk_iff.1 h2).2.2.2.2.2
    rw [sendG_yes h]
    exact ⟨rfl, rfl, rfl, rfl, rfl, rfl, rfl, rfl, by simp [sendTo], rfl, rfl, by omega⟩
theorem NetLike.sm {N R : Nt} {k : Nat} (h : NetLike N R k) (hs : sizeN N ≤ 1048576) (hk : k ≤ 200) : NetSm R ∧ markSz R ≤ 6000000 := by
  have h1 := h.s
  unfold sizeN at hs
  refine ⟨⟨by rw [h.br]; omega, by rw [h.ta]; omega, by rw [h.tb]; omega, by rw [h.bu]; omega, by rw [h.ow]; omega, by rw [h.tu]; omega, by rw [h.so]; omega, by rw [h.ar]; omega, by rw [h.bu]; omega, by omega, by rw [h.ar]; omega⟩, ?_⟩
  unfold markSz
  rw [h.br, h.ta, h.tb, h.bu, h.ow, h.tu, h.ar]
  omega
/-- Packets sent one after another, and how many were taken. -/
def sendsP (N : Nt) (D : List Pkt) : Nt × Nat := D.foldl (fun s p => (sendG s.1 p, s.2 + if sendOk s.1 p = true then 1 else 0)) (N, 0)
theorem sendsP_nil (N : Nt) : sendsP N [] = (N, 0) := rfl
theorem sendsP_snoc (N : Nt) (D : List Pkt) (p : Pkt) : sendsP N (D ++ [p]) = (sendG (sendsP N D).1 p, (sendsP N D).2 + if sendOk (sendsP N D).1 p = true then 1 else 0) := by
  rw [sendsP, List.foldl_append]
  rfl
theorem sendsP_next {N : Nt} {D : List Pkt} {k : Nat} {p : Pkt} (h : D[k]? = some p) : sendsP N (D.take (k + 1)) = (sendG (sendsP N (D.take k)).1 p, (sendsP N (D.take k)).2 + if sendOk (sendsP N (D.take k)).1 p = true then 1 else 0) := by
  have : D.take (k + 1) = D.take k ++ [p] := by rw [List.take_add_one, h]; rfl
  rw [this, sendsP_snoc]
theorem sendsP_take (N : Nt) (D : List Pkt) (k : Nat) : netOk (sendsP N (D.take k)).1 = netOk N ∧ NetLike N (sendsP N (D.take k)).1 (5 * k) ∧ (sendsP N (D.take k)).2 ≤ k := by
  induction k with
  | zero => exact ⟨rfl, like_refl N, Nat.le_refl _⟩
  | succ k ih =>
    by_cases hk : k < D.length
    · obtain ⟨p, hp⟩ : ∃ p, D[k]? = some p := ⟨_, List.getElem?_eq_getElem hk⟩
      rw [sendsP_next hp]
      refine ⟨?_, ?_, ?_⟩
      · simp only [netOk_sendG]; exact ih.1
      · have := ih.2.1.trans (like_sendG _ p)
        exact this
      · have := ih.2.2
        simp only
        split <;> omega
    · have e : D.take (k + 1) = D.take k := by rw [List.take_of_length_le (by omega), List.take_of_length_le (by omega)]
      rw [e]
      refine ⟨ih.1, ?_, by have := ih.2.2; omega⟩
      have h := ih.2.1
      exact ⟨h.W, h.H, h.br, h.ta, h.tb, h.bu, h.ow, h.tu, h.so, h.ar, h.ti, by have := h.s; omega⟩
theorem netOk_so {N : Nt} {f : Nat} {D : List Flt} (h : netOk N = true) (hD : N.so[f]? = some D) : D.length ≤ 60 := by
  cases hs : srcOk N.W N.H D with
  | false => rw [nk_so hD hs] at h; cases h
  | true =>
    rw [srcOk, Bool.and_eq_true] at hs
    exact of_decide_eq_true hs.1
def allOk (N : Nt) (D : List Pkt) : Bool := netOk N && decide (D.length ≤ 40)
def sendAllG (N : Nt) (D : List Pkt) : Nt := if allOk N D = true then (sendsP N D).1 else N
def sentG (N : Nt) (D : List Pkt) : Int := if allOk N D = true then ((sendsP N D).2 : Int) else -1
theorem like_sendAll (N : Nt) (D : List Pkt) : NetLike N (sendAllG N D) 200 := by
  unfold sendAllG
  split
  · rename_i h
    rw [allOk, Bool.and_eq_true, decide_eq_true_eq] at h
    have h1 := (sendsP_take N D D.length).2.1
    rw [List.take_length] at h1
    exact ⟨h1.W, h1.H, h1.br, h1.ta, h1.tb, h1.bu, h1.ow, h1.tu, h1.so, h1.ar, h1.ti, by have := h1.s; omega⟩
  · exact ⟨rfl, rfl, rfl, rfl, rfl, rfl, rfl, rfl, rfl, rfl, rfl, by omega⟩
end Go.Proofs.Ytfloekbmgjmhbaa
end

section
namespace Go.Proofs.Ytfloekbmgjmhbaa
open Go.ChangeShapes Go.WideShapes Go.ChangeAt Go.RowKit
set_option linter.unusedVariables false
set_option maxRecDepth 20000

theorem lawsToPacket (p : Pkt) (w : World) :
    Calls Try.prog 19 #[pktX p] w fun e w' => e = .returned (pktX p) ∧ w.grownBy w' none := by
  unfold pktX
  go_enter Try.func19, Try.ntmps19
  go_wp2_with fail
  refine bodyPost_ret (v := .agg #[.int .i64 p.id, .int .i64 p.fr, .int .i64 p.to, .int .i64 p.cl, .int .i64 p.ln]) (by simp [results, Try.results19, go_sem]) rfl ⟨rfl, ?_⟩
  exact gb_alloc (gb_alloc (gb_alloc (gb_refl _ _) _) _) _
end Go.Proofs.Ytfloekbmgjmhbaa
end

section
namespace Go.Proofs.Ytfloekbmgjmhbaa
open Go.ChangeShapes Go.WideShapes Go.ChangeAt Go.RowKit
set_option linter.unusedVariables false
set_option maxRecDepth 20000

theorem gb_drP {a b : World} {row : Option Nat} (h : a.drew.grownBy b row) : a.grownBy b row := ⟨h.os, h.tape, h.output, h.size, h.block⟩
def pkt0 : Pkt := ⟨0, 0, 0, 0, 0⟩
def atP (D : List Pkt) (k : Nat) : Pkt := D.getD k pkt0
theorem atP_get {D : List Pkt} {k : Nat} (h : k < D.length) : D[k]? = some (atP D k) := by
  rw [atP, List.getD_eq_getElem?_getD, List.getElem?_eq_getElem h]
  rfl
theorem atP_of {D : List Pkt} {k : Nat} {x : Pkt} (h : D[k]? = some x) : atP D k = x := by
  rw [atP, List.getD_eq_getElem?_getD, h]
  rfl
theorem info_pkt : (Try.prog.info? 44).map (fun i => (i.zero, i.size, i.bytes)) = some (some (pktX pkt0), 5, 40) := by kernel_rfl
theorem lawsEqPacket (x : Pkt) (w : World) :
    Calls Try.prog 70 #[pktX x, pktX x] w (RetB true w) := by
  unfold pktX
  go_enter Try.func70, Try.ntmps70
  go_wp2_with fail
  go_ret
  exact ⟨rfl, gb_alloc (gb_alloc (gb_refl _ _) _) _⟩
theorem lawsSzP (A : Option Addr) (n cap : Nat) (m : Int) (w : World) (hn : n ≤ 9223372036854775807) (hm0 : 0 ≤ m) (hm1 : m ≤ 1048576) :
    Calls Try.prog 24 #[.slice A n cap, .int .i64 m] w fun e w' => e = .returned (.int .i64 (if m < (n : Int) then -1 else m - n)) ∧ w.grownBy w' none := by
  by_cases hlt : m < (n : Int)
  · go_enter Try.func24, Try.ntmps24
    go_wp2_with fail
    go_ret
    exact ⟨ret_int64 (by (repeat' split) <;> first | rfl | omega), gb_refl _ _⟩
  · go_enter Try.func24, Try.ntmps24
    go_wp2_with fail
    go_ret
    exact ⟨ret_int64 (by (repeat' split) <;> first | rfl | omega), gb_refl _ _⟩

/-- The five cells of a record. -/
theorem pkt_five {w : World} {b o : Nat} {x : Pkt} (h : ∀ j v, (pktC x)[j]? = some v → w.cell? ⟨b, o + j, none⟩ = some v) :
    w.cell? ⟨b, o, none⟩ = some (.int .i64 x.id) ∧ w.cell? ⟨b, o + 1, none⟩ = some (.int .i64 x.fr) ∧ w.cell? ⟨b, o + 2, none⟩ = some (.int .i64 x.to) ∧ w.cell? ⟨b, o + 3, none⟩ = some (.int .i64 x.cl) ∧ w.cell? ⟨b, o + 4, none⟩ = some (.int .i64 x.ln) :=
  ⟨h 0 _ rfl, h 1 _ rfl, h 2 _ rfl, h 3 _ rfl, h 4 _ rfl⟩
theorem lawsEqPS (A1 A2 : Option Addr) (n c1 c2 : Nat) (D : List Pkt) (w : World) (h1 : RecAt 5 pktC w w.heap.size A1 n D) (h2 : RecAt 5 pktC w w.heap.size A2 n D) (hn : n ≤ 1000000000) :
    Calls Try.prog 27 #[.slice A1 n c1, .slice A2 n c2] w (RetB true w) := by
  have H1 := Lib.hid h1
  have H2 := Lib.hid h2
  have HE := Lib.hid (fun x w => lawsEqPacket x w)
  clear h1 h2
  go_enter Try.func27, Try.ntmps27
  go_wp2_with fail
  go_loopw [5] (fun i wr => ∃ k : Nat, i = .int .i64 (k : Int) ∧ k ≤ n ∧ w.grownBy wr none) (fun i _ => n - (intOf i).toNat)
  case atStart => exact ⟨0, rfl, Nat.zero_le _, gb_refl _ _⟩
  case round =>
    obtain ⟨k, rfl, hk, hg⟩ := hrel
    have HG := Lib.hid hg
    by_cases hlt : k < n
    · obtain ⟨g1, o1, x, rfl, _, hx, ha⟩ := (H1.out.none (Nat.le_refl _) hg).at k hlt
      obtain ⟨g2, o2, y, rfl, _, hy, hb⟩ := (H2.out.none (Nat.le_refl _) hg).at k hlt
      obtain rfl : x = y := by rw [hx] at hy; exact Option.some.inj hy
      obtain ⟨a0, a1, a2, a3, a4⟩ := pkt_five ha
      obtain ⟨b0, b1, b2, b3, b4⟩ := pkt_five hb
      have k0 : (0 : Int) ≤ (k : Int) := by omega
      have k1 : (k : Int) < (n : Int) := by omega
      clear hx hy ha hb hg
      go_wp2_with fail
      go_region_held3 (fun w' => w'.cell? ⟨g1, o1 + k * 5, none⟩ = some (.int .i64 x.id) ∧ w'.cell? ⟨g1, o1 + k * 5 + 1, none⟩ = some (.int .i64 x.fr) ∧ w'.cell? ⟨g1, o1 + k * 5 + 2, none⟩ = some (.int .i64 x.to) ∧ w'.cell? ⟨g1, o1 + k * 5 + 3, none⟩ = some (.int .i64 x.cl) ∧ w'.cell? ⟨g1, o1 + k * 5 + 4, none⟩ = some (.int .i64 x.ln) ∧ w'.cell? ⟨g2, o2 + k * 5, none⟩ = some (.int .i64 x.id) ∧ w'.cell? ⟨g2, o2 + k * 5 + 1, none⟩ = some (.int .i64 x.fr) ∧ w'.cell? ⟨g2, o2 + k * 5 + 2, none⟩ = some (.int .i64 x.to) ∧ w'.cell? ⟨g2, o2 + k * 5 + 3, none⟩ = some (.int .i64 x.cl) ∧ w'.cell? ⟨g2, o2 + k * 5 + 4, none⟩ = some (.int .i64 x.ln))
        (first | exact ⟨a0, a1, a2, a3, a4, b0, b1, b2, b3, b4⟩ | exact ⟨d0, d1, d2, d3, d4, e0, e1, e2, e3, e4⟩ | fail)
        (first
          | (go_at_call 70; (with_reducible refine (HE.out x _).mono ?_); rintro e w4 ⟨rfl, hg4⟩; have h4 := gb_drP hg4; have d0 := h4.cell a0 (by simp); have d1 := h4.cell a1 (by simp); have d2 := h4.cell a2 (by simp); have d3 := h4.cell a3 (by simp); have d4 := h4.cell a4 (by simp); have e0 := h4.cell b0 (by simp); have e1 := h4.cell b1 (by simp); have e2 := h4.cell b2 (by simp); have e3 := h4.cell b3 (by simp); have e4 := h4.cell b4 (by simp); have G4 := Lib.hid (gb_trans HG.out h4); clear h4 hg4)
          | fail)
      all_goals
        clear d0 d1 d2 d3 d4 e0 e1 e2 e3 e4 a0 a1 a2 a3 a4 b0 b1 b2 b3 b4
        go_wp2_with fail
        go_roundw
        case rel => exact ⟨k + 1, by go_num, by omega, G4.out⟩
        case measure => simp [intOf]; omega
    · obtain rfl : k = n := by omega
      clear hg
      go_wp2_with fail
      go_ret
      exact ⟨rfl, HG.out⟩
theorem lawsEqOwnP (v1 v2 : Value) (b1 b2 : Nat) (D : List Pkt) (w : World) (h1 : w.ownsRow b1 44 5 v1 D.length (recV pktC D)) (h2 : w.ownsRow b2 44 5 v2 D.length (recV pktC D)) (hn : D.length ≤ 1000000000) :
    Calls Try.prog 27 #[v1, v2] w (RetB true w) := by
  obtain ⟨A1, c1, rfl, _⟩ := own_form h1
  obtain ⟨A2, c2, rfl, _⟩ := own_form h2
  exact lawsEqPS A1 A2 D.length c1 c2 D w (recAt_own pktL (by decide) h1 (Nat.le_refl _)) (recAt_own pktL (by decide) h2 (Nat.le_refl _)) hn
end Go.Proofs.Ytfloekbmgjmhbaa
end

section
namespace Go.Proofs.Ytfloekbmgjmhbaa
open Go.ChangeShapes Go.WideShapes Go.ChangeAt Go.RowKit
set_option linter.unusedVariables false
set_option maxRecDepth 20000

theorem pktV_set5 : ∀ (D : List Pkt) (k : Nat) (x : Pkt), ((((((recV pktC D).set (k * 5) (.int .i64 x.id)).set (k * 5 + 1) (.int .i64 x.fr)).set (k * 5 + 2) (.int .i64 x.to)).set (k * 5 + 3) (.int .i64 x.cl)).set (k * 5 + 4) (.int .i64 x.ln)) = recV pktC (D.set k x)
  | [], k, x => by simp [recV]
  | d :: D, 0, x => rfl
  | d :: D, k + 1, x => by
    have ih := pktV_set5 D k x
    have e0 : (k + 1) * 5 = k * 5 + 1 + 1 + 1 + 1 + 1 := by omega
    have e1 : (k + 1) * 5 + 1 = k * 5 + 1 + 1 + 1 + 1 + 1 + 1 := by omega
    have e2 : (k + 1) * 5 + 2 = k * 5 + 2 + 1 + 1 + 1 + 1 + 1 := by omega
    have e3 : (k + 1) * 5 + 3 = k * 5 + 3 + 1 + 1 + 1 + 1 + 1 := by omega
    have e4 : (k + 1) * 5 + 4 = k * 5 + 4 + 1 + 1 + 1 + 1 + 1 := by omega
    rw [e4, e3, e2, e1, e0, recV_cons, List.set_cons_succ, recV_cons, ← ih]
    simp only [pktC, List.cons_append, List.nil_append, List.set_cons_succ]
theorem rep_appendP {α : Type} (n : Nat) (x : α) : List.replicate (n + 1) x = x :: List.replicate n x := rfl
theorem madePkts (n : Nat) : (madeCells (pktX pkt0).cells (n * 5)).toList = recV pktC (List.replicate n pkt0) := by
  apply List.ext_getElem?
  intro j
  by_cases hj : j < n * 5
  · have hk : j / 5 < n := Nat.div_lt_of_lt_mul (by omega)
    have h1 : (List.replicate n pkt0)[j / 5]? = some pkt0 := by simp [hk]
    have hm : j % 5 < 5 := Nat.mod_lt _ (by decide)
    have h2 : (pktC pkt0)[j % 5]? = some ((pktC pkt0)[j % 5]'(by simpa [pktC] using hm)) := List.getElem?_eq_getElem _
    have h3 := recV_at pktL (List.replicate n pkt0) (j / 5) (j % 5) pkt0 _ h1 h2
    rw [show j / 5 * 5 + j % 5 = j by omega] at h3
    rw [h3]
    have hc : j % 5 = 0 ∨ j % 5 = 1 ∨ j % 5 = 2 ∨ j % 5 = 3 ∨ j % 5 = 4 := by omega
    rcases hc with h | h | h | h | h <;> simp [madeCells, pkt0, Value.cells, pktC, hj, h]
  · rw [List.getElem?_eq_none (by simp [madeCells]; omega), List.getElem?_eq_none (by rw [recV_length pktL]; simp; omega)]
/-- The first k records of D, then zeros. -/
def fillP (D : List Pkt) (n k : Nat) : List Pkt := (List.range n).map fun t => if t < k then atP D t else pkt0
theorem fillP_zero (D : List Pkt) (n : Nat) : fillP D n 0 = List.replicate n pkt0 := by
  refine List.ext_getElem (by simp [fillP]) fun i h1 h2 => ?_
  simp [fillP]
theorem fillP_next (D : List Pkt) (n k : Nat) (x : Pkt) (h : D[k]? = some x) : (fillP D n k).set k x = fillP D n (k + 1) := by
  have hx := atP_of h
  refine List.ext_getElem (by simp [fillP]) fun i h1 h2 => ?_
  rw [List.getElem_set]
  by_cases e : k = i
  · subst e; simp [fillP, hx]
  · simp only [e, if_false, fillP, List.getElem_map, List.getElem_range]
    by_cases hi : i < k
    · rw [if_pos hi, if_pos (by omega)]
    · rw [if_neg hi, if_neg (by omega)]
theorem fillP_length (D : List Pkt) (n k : Nat) : (fillP D n k).length = n := by simp [fillP]
theorem fillP_all (D : List Pkt) (n : Nat) (h : D.length = n) : fillP D n n = D := by
  refine List.ext_getElem? fun i => ?_
  by_cases hi : i < n
  · rw [List.getElem?_eq_getElem (by rw [fillP_length]; exact hi), atP_get (by omega)]
    simp [fillP, hi]
  · rw [List.getElem?_eq_none (by rw [fillP_length]; omega), List.getElem?_eq_none (by omega)]
/-- A new row that holds the records of D. -/
def NewPks (D : List Pkt) (w : World) (e : Ending) (w' : World) : Prop :=
  ∃ g, e = .returned (.slice (some ⟨g, 0, none⟩) D.length D.length) ∧ w'.ownsRow w.heap.size 44 5 (.slice (some ⟨g, 0, none⟩) D.length D.length) D.length (recV pktC D) ∧ Below w.heap.size w w'
def FillP (w : World) (n : Nat) (D : List Pkt) (k : Nat) (v : Value) (wr : World) : Prop := wr.ownsRow w.heap.size 44 5 v n (recV pktC (fillP D n k)) ∧ Below w.heap.size w wr
theorem there_ownP {w : World} {base g n cap : Nat} {D : List Pkt} (h : w.ownsRow base 44 5 (.slice (some ⟨g, 0, none⟩) n cap) n (recV pktC D)) {k : Nat} (hk : k < n) : w.there g (k * 5) 5 := fun j hj => by
  have hl := h.1
  refine ⟨?_, h.frozenAt _⟩
  rw [h.cellAt (k * 5 + j) (by omega), List.getElem?_eq_getElem (by omega)]
  rfl
theorem stored_ownP {w : World} {base g n cap : Nat} {D : List Pkt} (h : w.ownsRow base 44 5 (.slice (some ⟨g, 0, none⟩) n cap) n (recV pktC D)) (k : Nat) (x : Pkt) :
    (w.setCells g (k * 5) [.int .i64 x.id, .int .i64 x.fr, .int .i64 x.to, .int .i64 x.cl, .int .i64 x.ln]).ownsRow base 44 5 (.slice (some ⟨g, 0, none⟩) n cap) n (recV pktC (D.set k x)) ∧ w.grownBy (w.setCells g (k * 5) [.int .i64 x.id, .int .i64 x.fr, .int .i64 x.to, .int .i64 x.cl, .int .i64 x.ln]) (some g) := by
  obtain ⟨h1, g1⟩ := h.stored (k * 5) (.int .i64 x.id)
  obtain ⟨h2, g2⟩ := h1.stored (k * 5 + 1) (.int .i64 x.fr)
  obtain ⟨h3, g3⟩ := h2.stored (k * 5 + 2) (.int .i64 x.to)
  obtain ⟨h4, g4⟩ := h3.stored (k * 5 + 3) (.int .i64 x.cl)
  obtain ⟨h5, g5⟩ := h4.stored (k * 5 + 4) (.int .i64 x.ln)
  rw [pktV_set5] at h5
  exact ⟨h5, gb_trans g1 (gb_trans g2 (gb_trans g3 (gb_trans g4 g5)))⟩

set_option maxHeartbeats 1600000 in
theorem lawsToPktS (A : Option Addr) (n cap : Nat) (D : List Pkt) (w : World) (h : RecAt 5 pktC w w.heap.size A n D) (hn : n ≤ 1048576) :
    Calls Try.prog 26 #[.slice A n cap] w (NewPks D w) := by
  obtain ⟨i0, hi, hz0, hz1, hz2⟩ := info_parts info_pkt
  have hl := h.1
  have HI := Lib.hid h
  have HT := Lib.hid (fun (x : Pkt) w => show Calls Try.prog 19 #[.agg #[.int .i64 x.id, .int .i64 x.fr, .int .i64 x.to, .int .i64 x.cl, .int .i64 x.ln]] w (fun e w' => e = .returned (.agg #[.int .i64 x.id, .int .i64 x.fr, .int .i64 x.to, .int .i64 x.cl, .int .i64 x.ln]) ∧ w.grownBy w' none) from lawsToPacket x w)
  clear h
  go_enter Try.func26, Try.ntmps26
  go_wp2_with (at_make; refine wpList_make_full _ rfl _ _ 33 rfl w.heap.size 44 i0 (pktX pkt0) 5 Try.underlying33 hi hz0 hz1 .i64 .i64 _ _ n rfl rfl (by omega) (by omega) (by rw [hz2]; omega) (by unfold maxLen; omega) (Nat.le_refl _) ?_; intro w0 hown0 hgrow0)
  have hz : (madeCells (pktX pkt0).cells (n * 5)).toList = recV pktC (fillP D n 0) := by rw [fillP_zero]; exact madePkts n
  have X : FillP w n D 0 (.slice (some ⟨w.heap.size, 0, none⟩) n n) w0 := ⟨by rw [← hz]; exact hown0, gb_below_none hgrow0 (Nat.le_refl _)⟩
  have HX := Lib.hid X
  clear X hz hown0 hgrow0
  go_loopw [4] (fun i wr => ∃ k : Nat, k ≤ n ∧ i = .int .i64 (k : Int) ∧ FillP w n D k (.slice (some ⟨w.heap.size, 0, none⟩) n n) wr) (fun i _ => n - (intOf i).toNat)
  case atStart => exact ⟨0, Nat.zero_le _, rfl, HX.out⟩
  case round =>
    obtain ⟨k, hk, rfl, hown, hbel⟩ := hrel
    have HB := Lib.hid hbel
    have HO := Lib.hid hown
    by_cases hlt : k < n
    · obtain ⟨b, off, x, rfl, hbB, hx, hc⟩ := (HI.out.below hbel).at k hlt
      obtain ⟨c0, c1, c2, c3, c4⟩ := pkt_five hc
      have k0 : (0 : Int) ≤ (k : Int) := by omega
      have k1 : (k : Int) < (n : Int) := by omega
      have HF := Lib.hid (fillP_next D n k x hx)
      clear hown hbel hx hc
      go_wp2_with fail
      refine (HT.out x _).mono ?_
      rintro e w4 ⟨rfl, hg4⟩
      have O4 := Lib.hid (own_none HO.out hg4)
      have B4 := Lib.hid (below_gb HB.out (Nat.le_refl _) hg4)
      have hsz5 : (#[.int .i64 x.id, .int .i64 x.fr, .int .i64 x.to, .int .i64 x.cl, .int .i64 x.ln] : Array Value).size = 5 := rfl
      have HTH := Lib.hid (show w4.there w.heap.size (k * 5) (#[.int .i64 x.id, .int .i64 x.fr, .int .i64 x.to, .int .i64 x.cl, .int .i64 x.ln] : Array Value).size by rw [hsz5]; exact there_ownP O4.out hlt)
      clear hg4 c0 c1 c2 c3 c4 hsz5
      go_wp2_with (refine wpList_store_mid rfl 44 (.tmp 21) (.tmp 20) rfl w.heap.size (k * 5) #[.int .i64 x.id, .int .i64 x.fr, .int .i64 x.to, .int .i64 x.cl, .int .i64 x.ln] ?_ ?_ ?_ ?_ ?_ ?_; rfl; rfl; exact HTH.out; (rw [hi]; simp [hz1]); (simp [Value.oneCell']))
      have X5 := Lib.hid (show FillP w n D (k + 1) (.slice (some ⟨w.heap.size, 0, none⟩) n n) (w4.setCells w.heap.size (k * 5) [.int .i64 x.id, .int .i64 x.fr, .int .i64 x.to, .int .i64 x.cl, .int .i64 x.ln]) from by
        obtain ⟨h1, h2⟩ := stored_ownP O4.out k x
        rw [HF.out] at h1
        exact ⟨h1, B4.out.grown h2 B4.out.size (fun j e => by cases e; exact Nat.le_refl _)⟩)
      go_roundw
      case rel => exact ⟨k + 1, by omega, by go_num, X5.out⟩
      case measure => simp [intOf]; omega
    · obtain rfl : k = n := by omega
      have HO := Lib.hid hown
      clear hown hbel
      go_wp2_with fail
      go_ret
      refine ⟨w.heap.size, by rw [hl]; rfl, ?_, HB.out⟩
      have h3 := HO.out
      rw [fillP_all D k hl] at h3
      rw [hl]
      exact h3
end Go.Proofs.Ytfloekbmgjmhbaa
end

section
namespace Go.Proofs.Ytfloekbmgjmhbaa
open Go.ChangeShapes Go.WideShapes Go.ChangeAt Go.RowKit
set_option linter.unusedVariables false

theorem intsV_at {L : List Int} {j : Nat} {u : Value} (h : (intsV L)[j]? = some u) : ∃ x, L[j]? = some x ∧ u = .int .i64 x := by
  unfold intsV at h
  rw [List.getElem?_map] at h
  cases hx : L[j]? with
  | none => rw [hx] at h; cases h
  | some x => rw [hx] at h; exact ⟨x, rfl, (Option.some.inj h).symm⟩
theorem intsV_one (L : List Int) : ∀ u ∈ intsV L, u.oneCell' = true := fun u hu => by
  obtain ⟨x, _, rfl⟩ := List.mem_map.1 hu
  rfl
theorem intAt_news {w : World} {B n b off : Nat} {L : List Int} (h : IntAt w B (some ⟨b, off, none⟩) n L) : ∀ j u, (intsV L)[j]? = some u → w.cell? ((⟨b, off, none⟩ : Addr).add j) = some u := fun j u hu => by
  obtain ⟨x, hx, rfl⟩ := intsV_at hu
  have hj : j < L.length := by
    rcases Nat.lt_or_ge j L.length with h1 | h1
    · exact h1
    · rw [List.getElem?_eq_none h1] at hx; cases hx
  have hl := h.1
  obtain ⟨b', off', hA, _, hc⟩ := h.2 (by omega)
  obtain ⟨rfl, rfl⟩ : b = b' ∧ off = off' := by injection hA with h1; injection h1 with h2 h3; exact ⟨h2, h3⟩
  rw [Addr.add_lit]
  exact hc j x hx
theorem src_ints {w : World} {B n : Nat} {A : Option Addr} {L : List Int} (h : IntAt w B A n L) (c : Nat) : Src Try.prog 1 26 (.slice A n c) n (intsV L) w := by
  have hl := h.1
  rcases Nat.eq_zero_or_pos n with h0 | h0
  · subst h0
    obtain rfl : L = [] := List.eq_nil_of_length_eq_zero hl
    cases A with
    | none => exact Src.ofNil w Try.underlying26 c
    | some a => exact Src.ofSlice w Try.underlying26 a 0 c [] rfl (fun j u hu => by cases hu) (fun u hu => by cases hu)
  · obtain ⟨b, off, rfl, _⟩ := h.2 h0
    exact Src.ofSlice w Try.underlying26 _ n c (intsV L) (by rw [intsV_length, hl]; omega) (intAt_news h) (intsV_one L)
theorem run_app_nothing (w : World) (ty : TypeId) (base : Option Addr) (sLen sCap : Nat) (hle : sLen ≤ sCap) (x : Value) (i0 : TypeInfo) (hi : Try.prog.info? 3 = some i0) (h1 : i0.size = 1) (hs : Src Try.prog 1 26 x 0 [] w) :
    (Builtin.append_ #[26, 26] ty #[.slice base sLen sCap, x]).run Try.prog w = .ok (.slice base sLen sCap) w := by
  have hc := hs.cells
  rw [← h1] at hc
  cases base <;> simp [Builtin.append_, run_underlying Try.underlying26, sizeOf, typeInfo, hi, hs.len, hle, hc, storeCells]

/-- Onto a row of the call's own. -/
theorem run_app_own (w : World) (ty : TypeId) (i0 : TypeInfo) (hi : Try.prog.info? 3 = some i0) (hz0 : i0.zero = some (.int .i64 0)) (hz1 : i0.size = 1) (hz2 : i0.bytes = 8)
    (base n m c B : Nat) (A : Option Addr) (X L : List Int) (v : Value) (hown : w.ownsRow base 3 1 v n (intsV X)) (h : IntAt w B A m L) (hm : n + m ≤ 1000000000) (hb : base ≤ w.heap.size) :
    ∃ v' w', (Builtin.append_ #[26, 26] ty #[v, .slice A m c]).run Try.prog w = .ok v' w' ∧ w'.ownsRow base 3 1 v' (n + m) (intsV (X ++ L)) ∧ w.grownBy w' v.ownBlock := by
  have hl := h.1
  rcases Nat.eq_zero_or_pos m with h0 | h0
  · subst h0
    obtain rfl : L = [] := List.eq_nil_of_length_eq_zero hl
    obtain ⟨A', c', rfl, _⟩ := own_form hown
    exact ⟨_, _, run_app_nothing w ty A' n c' (own_cap hown).1 _ i0 hi hz1 (src_ints h c), by rw [List.append_nil]; exact hown, gb_refl _ _⟩
  · obtain ⟨b, off, rfl, _⟩ := h.2 h0
    obtain ⟨v', w', h1, h2, h3, _⟩ := run_append_own (P := Try.prog) w base 26 ty 3 i0 (.int .i64 0) 1 8 Try.underlying26 hi hz0 hz1 hz2 rfl (by decide) v n (intsV X) hown ⟨b, off, none⟩ m c (intsV L)
      (by rw [intsV_length, hl]; omega) (intAt_news h) (intsV_one L) (by unfold maxLen; omega) (by omega) hb
    exact ⟨v', w', h1, by rw [intsV_append]; exact h2, h3⟩
theorem wpList_app_own {ops : Array Oper} {rest : List Oper} {o : Oper} {a : Act} {Q : Exit → Act → World → Prop} (w : World) (hgd : o.guard = none) (s x : Operand)
    (ho : o.op = .call { callee := .builtin .append, args := #[s, x], argTypes := #[26, 26] })
    (i0 : TypeInfo) (hi : Try.prog.info? 3 = some i0) (hz0 : i0.zero = some (.int .i64 0)) (hz1 : i0.size = 1) (hz2 : i0.bytes = 8)
    (base n m c B : Nat) (A : Option Addr) (X L : List Int) (v : Value) (hs : a.eval s = v) (hx : a.eval x = .slice A m c) (hown : w.ownsRow base 3 1 v n (intsV X)) (h : IntAt w B A m L) (hm : n + m ≤ 1000000000) (hb : base ≤ w.heap.size)
    (hk : ∀ v' w', w'.ownsRow base 3 1 v' (n + m) (intsV (X ++ L)) → w.grownBy w' v.ownBlock → wpList Try.prog ops Q rest (a.put o.dst v') w') : wpList Try.prog ops Q (o :: rest) a w := by
  refine wpList_plain hgd fun K hK => ?_
  obtain ⟨v', w', hr, h2, h3⟩ := run_app_own w o.type i0 hi hz0 hz1 hz2 base n m c B A X L v hown h hm hb
  unfold Oper.wp execOp
  simp only [ho, resolve, invoke, builtin, Sem.run_bind, Sem.run_pure, Result.andThen_ok, List.map_toArray, List.map_cons, List.map_nil, hs, hx, hr]
  exact hK _ _ (hk v' w' h2 h3)

/-- Onto a slice that has no spare memory. -/
theorem run_app_cut (w : World) (ty : TypeId) (i0 : TypeInfo) (hi : Try.prog.info? 3 = some i0) (hz0 : i0.zero = some (.int .i64 0)) (hz1 : i0.size = 1) (hz2 : i0.bytes = 8)
    (n m c B B2 : Nat) (A A2 : Option Addr) (X L : List Int) (hX : IntAt w B A n X) (h : IntAt w B2 A2 m L) (hm : n + m ≤ 1000000000) (hB : B ≤ w.heap.size) :
    ∃ A' c' w', (Builtin.append_ #[26, 26] ty #[.slice A n n, .slice A2 m c]).run Try.prog w = .ok (.slice A' (n + m) c') w' ∧ IntAt w' w'.heap.size A' (n + m) (X ++ L) ∧ w.grownBy w' none := by
  have hl := h.1
  have hlX := hX.1
  rcases Nat.eq_zero_or_pos m with h0 | h0
  · subst h0
    obtain rfl : L = [] := List.eq_nil_of_length_eq_zero hl
    exact ⟨A, n, w, run_app_nothing w ty A n n (Nat.le_refl _) _ i0 hi hz1 (src_ints h c), by rw [List.append_nil]; exact hX.more hB, gb_refl _ _⟩
  · have hold : (Builtin.firstCells i0.size n (.slice A n n)).run Try.prog w.drew = .ok (intsV X).toArray w.drew := by
      have := (src_ints hX n).cellsD
      rwa [← hz1] at this
    have hsrc := src_ints h c
    rw [← hz1] at hsrc
    have hr := run_append_grow_src (P := Try.prog) w 26 26 ty 3 i0 (.int .i64 0) Try.underlying26 hi hz0 A n n (intsV X) hold (.slice A2 m c) m (intsV L) hsrc (by omega) (by omega) (growslice_fits (by omega) (by rw [hz2]; omega))
    have hge := grownCap_ge w (n + m) n 3
    have hcm : grownCap w (n + m) n 3 ≤ maxLen := grownCap_le_maxLen w (n + m) n 3 (by unfold maxLen; omega)
    refine ⟨_, _, _, hr, ⟨by rw [List.length_append]; omega, fun _ => ⟨w.heap.size, 0, rfl, by simp, fun k x hx => ?_⟩⟩, ⟨rfl, rfl, rfl, by simp, fun k hk _ => Below.heap_alloc w.drew _ k hk⟩⟩
    have hk : k < (X ++ L).length := by
      rcases Nat.lt_or_ge k (X ++ L).length with h1 | h1
      · exact h1
      · rw [List.getElem?_eq_none h1] at hx; cases hx
    have hcell : (intsV X ++ intsV L)[k]? = some (.int .i64 x) := by rw [← intsV_append]; unfold intsV; rw [List.getElem?_map, hx]; rfl
    rw [Nat.zero_add]
    refine (World.cell?_alloc_new w.drew _ _ k).trans ?_
    rw [Array.getElem?_append_left (by simp [intsV_length] at hk ⊢; exact hk), List.getElem?_toArray]
    exact hcell
theorem wpList_app_cut {ops : Array Oper} {rest : List Oper} {o : Oper} {a : Act} {Q : Exit → Act → World → Prop} (w : World) (hgd : o.guard = none) (s x : Operand)
    (ho : o.op = .call { callee := .builtin .append, args := #[s, x], argTypes := #[26, 26] })
    (i0 : TypeInfo) (hi : Try.prog.info? 3 = some i0) (hz0 : i0.zero = some (.int .i64 0)) (hz1 : i0.size = 1) (hz2 : i0.bytes = 8)
    (n m c B B2 : Nat) (A A2 : Option Addr) (X L : List Int) (hs : a.eval s = .slice A n n) (hx : a.eval x = .slice A2 m c) (hX : IntAt w B A n X) (h : IntAt w B2 A2 m L) (hm : n + m ≤ 1000000000) (hB : B ≤ w.heap.size)
    (hk : ∀ A' c' w', IntAt w' w'.heap.size A' (n + m) (X ++ L) → w.grownBy w' none → wpList Try.prog ops Q rest (a.put o.dst (.slice A' (n + m) c')) w') : wpList Try.prog ops Q (o :: rest) a w := by
  refine wpList_plain hgd fun K hK => ?_
  obtain ⟨A', c', w', hr, h2, h3⟩ := run_app_cut w o.type i0 hi hz0 hz1 hz2 n m c B B2 A A2 X L hX h hm hB
  unfold Oper.wp execOp
  simp only [ho, resolve, invoke, builtin, Sem.run_bind, Sem.run_pure, Result.andThen_ok, List.map_toArray, List.map_cons, List.map_nil, hs, hx, hr]
  exact hK _ _ (hk A' c' w' h2 h3)
end Go.Proofs.Ytfloekbmgjmhbaa
end

section
namespace Go.Proofs.Ytfloekbmgjmhbaa
open Go.ChangeShapes Go.WideShapes Go.ChangeAt Go.RowKit
set_option linter.unusedVariables false

/-- Numbers: a step of a region. -/
theorem step_app_own {ops : Array Oper} {o : Oper} {a : Act} {K : Act → World → Prop} {Q : Exit → Act → World → Prop} {F : Prop} (w : World) (hgd : o.guard = none) (s x : Operand)
    (ho : o.op = .call { callee := .builtin .append, args := #[s, x], argTypes := #[26, 26] })
    (i0 : TypeInfo) (hi : Try.prog.info? 3 = some i0) (hz0 : i0.zero = some (.int .i64 0)) (hz1 : i0.size = 1) (hz2 : i0.bytes = 8)
    (base n m c B : Nat) (A : Option Addr) (X L : List Int) (v : Value) (hs : a.eval s = v) (hx : a.eval x = .slice A m c) (hown : w.ownsRow base 3 1 v n (intsV X)) (h : IntAt w B A m L) (hm : n + m ≤ 1000000000) (hb : base ≤ w.heap.size)
    (hk : ∀ v' w', w'.ownsRow base 3 1 v' (n + m) (intsV (X ++ L)) → w.grownBy w' v.ownBlock → K (a.put o.dst v') w') :
    if Region.wanted o (yielded ops a.tmps) = true then Oper.wp Try.prog o a w K Q else F := by
  have hw : Region.wanted o (yielded ops a.tmps) = true := by simp [Region.wanted, hgd]
  rw [if_pos hw]
  obtain ⟨v', w', hr, h2, h3⟩ := run_app_own w o.type i0 hi hz0 hz1 hz2 base n m c B A X L v hown h hm hb
  unfold Oper.wp execOp
  simp only [ho, resolve, invoke, builtin, Sem.run_bind, Sem.run_pure, Result.andThen_ok, List.map_toArray, List.map_cons, List.map_nil, hs, hx, hr]
  exact hk v' w' h2 h3
/-- Numbers: a step of a region that also tells where the result lies. -/
theorem step_app_at {ops : Array Oper} {o : Oper} {a : Act} {K : Act → World → Prop} {Q : Exit → Act → World → Prop} {F : Prop} (w : World) (hgd : o.guard = none) (s x : Operand)
    (ho : o.op = .call { callee := .builtin .append, args := #[s, x], argTypes := #[26, 26] })
    (i0 : TypeInfo) (hi : Try.prog.info? 3 = some i0) (hz0 : i0.zero = some (.int .i64 0)) (hz1 : i0.size = 1) (hz2 : i0.bytes = 8)
    (base n m c B : Nat) (A : Option Addr) (X L : List Int) (v : Value) (hs : a.eval s = v) (hx : a.eval x = .slice A m c) (hown : w.ownsRow base 3 1 v n (intsV X)) (h : IntAt w B A m L) (hm : n + m ≤ 1000000000) (hb : base ≤ w.heap.size)
    (hk : ∀ v' w', w'.ownsRow base 3 1 v' (n + m) (intsV (X ++ L)) → w.grownBy w' v.ownBlock → (∀ b, v'.ownBlock = some b → v.ownBlock = some b ∨ b = w.heap.size) → K (a.put o.dst v') w') :
    if Region.wanted o (yielded ops a.tmps) = true then Oper.wp Try.prog o a w K Q else F := by
  have hw : Region.wanted o (yielded ops a.tmps) = true := by simp [Region.wanted, hgd]
  rw [if_pos hw]
  have key : ∃ v' w', (Builtin.append_ #[26, 26] o.type #[v, .slice A m c]).run Try.prog w = .ok v' w' ∧ w'.ownsRow base 3 1 v' (n + m) (intsV (X ++ L)) ∧ w.grownBy w' v.ownBlock ∧ ∀ b, v'.ownBlock = some b → v.ownBlock = some b ∨ b = w.heap.size := by
    have hl := h.1
    rcases Nat.eq_zero_or_pos m with h0 | h0
    · subst h0
      obtain rfl : L = [] := List.eq_nil_of_length_eq_zero hl
      obtain ⟨A', c', rfl, _⟩ := own_form hown
      exact ⟨_, _, run_app_nothing w o.type A' n c' (own_cap hown).1 _ i0 hi hz1 (src_ints h c), by rw [List.append_nil]; exact hown, gb_refl _ _, fun b hb => .inl hb⟩
    · obtain ⟨b, off, rfl, _⟩ := h.2 h0
      obtain ⟨v', w', h1, h2, h3, _, h5⟩ := run_append_own_at (P := Try.prog) w base 26 o.type 3 i0 (.int .i64 0) 1 8 Try.underlying26 hi hz0 hz1 hz2 rfl (by decide) v n (intsV X) hown ⟨b, off, none⟩ m c (intsV L)
        (by rw [intsV_length, hl]; omega) (intAt_news h) (intsV_one L) (by unfold maxLen; omega) (by omega) hb
      refine ⟨v', w', h1, by rw [intsV_append]; exact h2, h3, fun q hq => ?_⟩
      rcases h5 with h5 | h5
      · exact .inl (by rw [← h5]; exact hq)
      · right
        rw [h5] at hq
        exact (Option.some.inj hq).symm
  obtain ⟨v', w', hr, h2, h3, h4⟩ := key
  unfold Oper.wp execOp
  simp only [ho, resolve, invoke, builtin, Sem.run_bind, Sem.run_pure, Result.andThen_ok, List.map_toArray, List.map_cons, List.map_nil, hs, hx, hr]
  exact hk v' w' h2 h3 h4
section
variable {α : Type} {z bytes : Nat} {c : α → List Value} {T e : TypeId} {zv : Value}
theorem rec_news (hL : Lay z c) (hz : 0 < z) {w : World} {B n b off : Nat} {D : List α} (h : RecAt z c w B (some ⟨b, off, none⟩) n D) : ∀ j u, (recV c D)[j]? = some u → w.cell? ((⟨b, off, none⟩ : Addr).add j) = some u := fun j u hu => by
  obtain ⟨x, hx, hv⟩ := recV_of hL hz D hu
  have hj := (List.getElem?_eq_some_iff.1 hx).1
  obtain ⟨b', off', hA, _, hc⟩ := h.2 (by have h2 : 0 < D.length := Nat.lt_of_le_of_lt (Nat.zero_le _) hj; rw [h.1] at h2; exact h2)
  obtain ⟨rfl, rfl⟩ : b = b' ∧ off = off' := by injection hA with h1; injection h1 with h2 h3; exact ⟨h2, h3⟩
  rw [Addr.add_lit]
  have := hc (j / z) x hx (j % z) u hv
  rw [show off + j / z * z + j % z = off + j by rw [Nat.add_assoc, Nat.mul_comm, Nat.div_add_mod]] at this
  exact this
theorem src_rec (hL : Lay z c) (hz : 0 < z) (hT : Try.prog.underlying T = some (.slice e)) {w : World} {B n : Nat} {A : Option Addr} {D : List α} (h : RecAt z c w B A n D) (cc : Nat) : Src Try.prog z T (.slice A n cc) n (recV c D) w := by
  have hl := h.1
  rcases Nat.eq_zero_or_pos n with h0 | h0
  · subst h0
    obtain rfl : D = [] := List.eq_nil_of_length_eq_zero hl
    cases A with
    | none => exact Src.ofNil w hT cc
    | some a => exact Src.ofSlice w hT a 0 cc [] (by simp) (fun j u hu => by cases hu) (fun u hu => by cases hu)
  · obtain ⟨b, off, rfl, _⟩ := h.2 h0
    exact Src.ofSlice w hT _ n cc (recV c D) (by rw [recV_length hL, hl]) (rec_news hL hz h) (recV_one hL D)
theorem run_app_nothingR (hT : Try.prog.underlying T = some (.slice e)) (w : World) (ty : TypeId) (base : Option Addr) (sLen sCap : Nat) (hle : sLen ≤ sCap) (x : Value) (i0 : TypeInfo) (hi : Try.prog.info? e = some i0) (h1 : i0.size = z) (hs : Src Try.prog z T x 0 [] w) :
    (Builtin.append_ #[T, T] ty #[.slice base sLen sCap, x]).run Try.prog w = .ok (.slice base sLen sCap) w := by
  have hc := hs.cells
  rw [← h1] at hc
  cases base <;> simp [Builtin.append_, run_underlying hT, sizeOf, typeInfo, hi, hs.len, hle, hc, storeCells]
theorem run_app_ownR (hL : Lay z c) (hz : 0 < z) (hT : Try.prog.underlying T = some (.slice e)) (w : World) (ty : TypeId) (i0 : TypeInfo) (hi : Try.prog.info? e = some i0) (hz0 : i0.zero = some zv) (hz1 : i0.size = z) (hz2 : i0.bytes = bytes) (hzs : zv.cells.size = z) (hby : bytes ≤ 1000)
    (base n m cc B : Nat) (A : Option Addr) (X D : List α) (v : Value) (hown : w.ownsRow base e z v n (recV c X)) (h : RecAt z c w B A m D) (hm : n + m ≤ 1000000000) (hb : base ≤ w.heap.size) :
    ∃ v' w', (Builtin.append_ #[T, T] ty #[v, .slice A m cc]).run Try.prog w = .ok v' w' ∧ w'.ownsRow base e z v' (n + m) (recV c (X ++ D)) ∧ w.grownBy w' v.ownBlock := by
  have hl := h.1
  rcases Nat.eq_zero_or_pos m with h0 | h0
  · subst h0
    obtain rfl : D = [] := List.eq_nil_of_length_eq_zero hl
    obtain ⟨A', c', rfl, _⟩ := own_form hown
    exact ⟨_, _, run_app_nothingR hT w ty A' n c' (own_cap hown).1 _ i0 hi hz1 (src_rec hL hz hT h cc), by rw [List.append_nil]; exact hown, gb_refl _ _⟩
  · obtain ⟨b, off, rfl, _⟩ := h.2 h0
    obtain ⟨v', w', h1, h2, h3, _⟩ := run_append_own (P := Try.prog) w base T ty e i0 zv z bytes hT hi hz0 hz1 hz2 hzs hz v n (recV c X) hown ⟨b, off, none⟩ m cc (recV c D)
      (by rw [recV_length hL, hl]) (rec_news hL hz h) (recV_one hL D) (by unfold maxLen; omega) (by
        have h4 : (n + m) * bytes ≤ 1000000000 * 1000 := Nat.mul_le_mul hm hby
        omega) hb
    exact ⟨v', w', h1, by rw [recV_append]; exact h2, h3⟩
theorem wpList_app_ownR {ops : Array Oper} {rest : List Oper} {o : Oper} {a : Act} {Q : Exit → Act → World → Prop} (hL : Lay z c) (hz : 0 < z) (hT : Try.prog.underlying T = some (.slice e)) (w : World) (hgd : o.guard = none) (s x : Operand)
    (ho : o.op = .call { callee := .builtin .append, args := #[s, x], argTypes := #[T, T] })
    (i0 : TypeInfo) (hi : Try.prog.info? e = some i0) (hz0 : i0.zero = some zv) (hz1 : i0.size = z) (hz2 : i0.bytes = bytes) (hzs : zv.cells.size = z) (hby : bytes ≤ 1000)
    (base n m cc B : Nat) (A : Option Addr) (X D : List α) (v : Value) (hs : a.eval s = v) (hx : a.eval x = .slice A m cc) (hown : w.ownsRow base e z v n (recV c X)) (h : RecAt z c w B A m D) (hm : n + m ≤ 1000000000) (hb : base ≤ w.heap.size)
    (hk : ∀ v' w', w'.ownsRow base e z v' (n + m) (recV c (X ++ D)) → w.grownBy w' v.ownBlock → wpList Try.prog ops Q rest (a.put o.dst v') w') : wpList Try.prog ops Q (o :: rest) a w := by
  refine wpList_plain hgd fun K hK => ?_
  obtain ⟨v', w', hr, h2, h3⟩ := run_app_ownR hL hz hT w o.type i0 hi hz0 hz1 hz2 hzs hby base n m cc B A X D v hown h hm hb
  unfold Oper.wp execOp
  simp only [ho, resolve, invoke, builtin, Sem.run_bind, Sem.run_pure, Result.andThen_ok, List.map_toArray, List.map_cons, List.map_nil, hs, hx, hr]
  exact hK _ _ (hk v' w' h2 h3)
theorem step_app_ownR {ops : Array Oper} {o : Oper} {a : Act} {K : Act → World → Prop} {Q : Exit → Act → World → Prop} {F : Prop} (hL : Lay z c) (hz : 0 < z) (hT : Try.prog.underlying T = some (.slice e)) (w : World) (hgd : o.guard = none) (s x : Operand)
    (ho : o.op = .call { callee := .builtin .append, args := #[s, x], argTypes := #[T, T] })
    (i0 : TypeInfo) (hi : Try.prog.info? e = some i0) (hz0 : i0.zero = some zv) (hz1 : i0.size = z) (hz2 : i0.bytes = bytes) (hzs : zv.cells.size = z) (hby : bytes ≤ 1000)
    (base n m cc B : Nat) (A : Option Addr) (X D : List α) (v : Value) (hs : a.eval s = v) (hx : a.eval x = .slice A m cc) (hown : w.ownsRow base e z v n (recV c X)) (h : RecAt z c w B A m D) (hm : n + m ≤ 1000000000) (hb : base ≤ w.heap.size)
    (hk : ∀ v' w', w'.ownsRow base e z v' (n + m) (recV c (X ++ D)) → w.grownBy w' v.ownBlock → K (a.put o.dst v') w') :
    if Region.wanted o (yielded ops a.tmps) = true then Oper.wp Try.prog o a w K Q else F := by
  have hw : Region.wanted o (yielded ops a.tmps) = true := by simp [Region.wanted, hgd]
  rw [if_pos hw]
  obtain ⟨v', w', hr, h2, h3⟩ := run_app_ownR hL hz hT w o.type i0 hi hz0 hz1 hz2 hzs hby base n m cc B A X D v hown h hm hb
  unfold Oper.wp execOp
  simp only [ho, resolve, invoke, builtin, Sem.run_bind, Sem.run_pure, Result.andThen_ok, List.map_toArray, List.map_cons, List.map_nil, hs, hx, hr]
  exact hk v' w' h2 h3
/-- Records: a step of a region that also tells where the result lies. -/
theorem step_app_atR {ops : Array Oper} {o : Oper} {a : Act} {K : Act → World → Prop} {Q : Exit → Act → World → Prop} {F : Prop} (hL : Lay z c) (hz : 0 < z) (hT : Try.prog.underlying T = some (.slice e)) (w : World) (hgd : o.guard = none) (s x : Operand)
    (ho : o.op = .call { callee := .builtin .append, args := #[s, x], argTypes := #[T, T] })
    (i0 : TypeInfo) (hi : Try.prog.info? e = some i0) (hz0 : i0.zero = some zv) (hz1 : i0.size = z) (hz2 : i0.bytes = bytes) (hzs : zv.cells.size = z) (hby : bytes ≤ 1000)
    (base n m cc B : Nat) (A : Option Addr) (X D : List α) (v : Value) (hs : a.eval s = v) (hx : a.eval x = .slice A m cc) (hown : w.ownsRow base e z v n (recV c X)) (h : RecAt z c w B A m D) (hm : n + m ≤ 1000000000) (hb : base ≤ w.heap.size)
    (hk : ∀ v' w', w'.ownsRow base e z v' (n + m) (recV c (X ++ D)) → w.grownBy w' v.ownBlock → (∀ b, v'.ownBlock = some b → v.ownBlock = some b ∨ b = w.heap.size) → K (a.put o.dst v') w') :
    if Region.wanted o (yielded ops a.tmps) = true then Oper.wp Try.prog o a w K Q else F := by
  have hw : Region.wanted o (yielded ops a.tmps) = true := by simp [Region.wanted, hgd]
  rw [if_pos hw]
  have key : ∃ v' w', (Builtin.append_ #[T, T] o.type #[v, .slice A m cc]).run Try.prog w = .ok v' w' ∧ w'.ownsRow base e z v' (n + m) (recV c (X ++ D)) ∧ w.grownBy w' v.ownBlock ∧ ∀ b, v'.ownBlock = some b → v.ownBlock = some b ∨ b = w.heap.size := by
    have hl := h.1
    rcases Nat.eq_zero_or_pos m with h0 | h0
    · subst h0
      obtain rfl : D = [] := List.eq_nil_of_length_eq_zero hl
      obtain ⟨A', c', rfl, _⟩ := own_form hown
      exact ⟨_, _, run_app_nothingR hT w o.type A' n c' (own_cap hown).1 _ i0 hi hz1 (src_rec hL hz hT h cc), by rw [List.append_nil]; exact hown, gb_refl _ _, fun b hb => .inl hb⟩
    · obtain ⟨b, off, rfl, _⟩ := h.2 h0
      obtain ⟨v', w', h1, h2, h3, _, h5⟩ := run_append_own_at (P := Try.prog) w base T o.type e i0 zv z bytes hT hi hz0 hz1 hz2 hzs hz v n (recV c X) hown ⟨b, off, none⟩ m cc (recV c D)
        (by rw [recV_length hL, hl]) (rec_news hL hz h) (recV_one hL D) (by unfold maxLen; omega) (by
          have h4 : (n + m) * bytes ≤ 1000000000 * 1000 := Nat.mul_le_mul hm hby
          omega) hb
      refine ⟨v', w', h1, by rw [recV_append]; exact h2, h3, fun q hq => ?_⟩
      rcases h5 with h5 | h5
      · exact .inl (by rw [← h5]; exact hq)
      · right
        rw [h5] at hq
        exact (Option.some.inj hq).symm
  obtain ⟨v', w', hr, h2, h3, h4⟩ := key
  unfold Oper.wp execOp
  simp only [ho, resolve, invoke, builtin, Sem.run_bind, Sem.run_pure, Result.andThen_ok, List.map_toArray, List.map_cons, List.map_nil, hs, hx, hr]
  exact hk v' w' h2 h3 h4
end
end Go.Proofs.Ytfloekbmgjmhbaa
end

section
namespace Go.Proofs.Ytfloekbmgjmhbaa
open Go.ChangeShapes Go.WideShapes Go.ChangeAt Go.RowKit
set_option linter.unusedVariables false
set_option maxRecDepth 20000

def numP (p : Pkt) (i : Nat) : Pkt := ⟨((i + 1 : Nat) : Int), p.fr, p.to, p.cl, p.ln⟩
def numTo (D : List Pkt) (k : Nat) : List Pkt := (List.range D.length).map fun t => if t < k then numP (atP D t) t else atP D t
def numG (D : List Pkt) : List Pkt := numTo D D.length
theorem numTo_length (D : List Pkt) (k : Nat) : (numTo D k).length = D.length := by simp [numTo]
theorem numG_length (D : List Pkt) : (numG D).length = D.length := numTo_length _ _
theorem numTo_zero (D : List Pkt) : numTo D 0 = D := by
  refine List.ext_getElem (by simp [numTo]) fun i h1 h2 => ?_
  simp only [numTo, List.getElem_map, List.getElem_range, Nat.not_lt_zero, if_false]
  have := atP_get h2
  rw [List.getElem?_eq_getElem h2] at this
  exact (Option.some.inj this).symm
theorem numTo_next (D : List Pkt) (k : Nat) (hk : k < D.length) : (numTo D k).set k (numP (atP D k) k) = numTo D (k + 1) := by
  refine List.ext_getElem (by simp [numTo]) fun i h1 h2 => ?_
  rw [List.getElem_set]
  by_cases e : k = i
  · subst e; simp [numTo]
  · simp only [e, if_false, numTo, List.getElem_map, List.getElem_range]
    by_cases hi : i < k
    · rw [if_pos hi, if_pos (by omega)]
    · rw [if_neg hi, if_neg (by omega)]
theorem numTo_at (D : List Pkt) {k : Nat} (hk : k < D.length) : (numTo D k)[k]? = some (atP D k) := by simp [numTo, hk]
theorem pktV_id : ∀ (D : List Pkt) (k : Nat) (p : Pkt) (x : Int), D[k]? = some p → (recV pktC D).set (k * 5) (.int .i64 x) = recV pktC (D.set k ⟨x, p.fr, p.to, p.cl, p.ln⟩)
  | [], k, p, x, h => by simp at h
  | q :: D, 0, p, x, h => by
    have e : q = p := by simpa using h
    subst e
    rw [recV_cons, List.set_cons_zero, recV_cons]
    rfl
  | q :: D, k + 1, p, x, h => by
    have ih := pktV_id D k p x (by simpa using h)
    rw [recV_cons, List.set_cons_succ, recV_cons, ← ih, show (k + 1) * 5 = (pktC q).length + k * 5 by rw [pktL.len]; omega, List.set_append_right _ _ (by omega)]
    simp
/-- A new list of packets. -/
def NewPL (D : List Pkt) (w : World) (e : Ending) (w' : World) : Prop :=
  ∃ v, e = .returned v ∧ w'.ownsRow w.heap.size 44 5 v D.length (recV pktC D) ∧ Below w.heap.size w w'
set_option maxHeartbeats 1600000 in
theorem specNumberPackets (A : Option Addr) (n cap : Nat) (D : List Pkt) (w : World) (h : RecAt 5 pktC w w.heap.size A n D) (hn : n ≤ 1000000000) :
    Calls Try.prog 25 #[.slice A n cap] w (NewPL (numG D) w) := by
  obtain ⟨j0, hj, jz0, jz1, jz2⟩ := info_parts info_pkt
  have hl := h.1
  have hg1 := gb_alloc (gb_refl w none) (.cells #[] 44)
  have HR1 := Lib.hid (h.none (Nat.le_refl _) hg1)
  have HO1 := Lib.hid (World.ownsRow_made (base := w.heap.size) (e := 44) (size := 5) w #[] 0 (Nat.le_refl _) (by decide) rfl)
  have N1 := Lib.hid (show 0 + n ≤ 1000000000 by omega)
  have SZ1 := Lib.hid (show w.heap.size ≤ (w.alloc (.cells #[] 44)).heap.size by rw [alloc_size]; omega)
  have HB1 := Lib.hid ((Below.refl w.heap.size w).alloc (Nat.le_refl _) (.cells #[] 44))
  have HL := Lib.hid hl
  clear h hg1
  go_enter Try.func25, Try.ntmps25
  go_wp2_with (at_builtin; refine wpList_app_ownR pktL (by decide) Try.underlying33 _ rfl _ _ rfl j0 hj jz0 jz1 jz2 rfl (by decide) w.heap.size 0 n cap _ _ [] D (.slice (some ⟨w.heap.size, 0, none⟩) 0 0) rfl rfl HO1.out HR1.out N1.out SZ1.out ?_; intro v1 w1 hown1 hgrow1; rw [Nat.zero_add, List.nil_append] at hown1; obtain ⟨A1, c1, rfl, ha1⟩ := own_form hown1; have O1 := Lib.hid hown1; have B1 := Lib.hid (HB1.out.grown hgrow1 SZ1.out (fun j e1 => by simp [Value.ownBlock] at e1; omega)); clear hown1 hgrow1)
  have O2 := Lib.hid (show w1.ownsRow w.heap.size 44 5 (.slice A1 n c1) n (recV pktC (numTo D 0)) by rw [numTo_zero]; exact O1.out)
  clear O1
  go_loopw [4] (fun i wr => ∃ k : Nat, i = .int .i64 (k : Int) ∧ k ≤ n ∧ wr.ownsRow w.heap.size 44 5 (.slice A1 n c1) n (recV pktC (numTo D k)) ∧ Below w.heap.size w wr) (fun i _ => n - (intOf i).toNat)
  case atStart => exact ⟨0, rfl, Nat.zero_le _, O2.out, B1.out⟩
  case round =>
    obtain ⟨k, rfl, hk, ho, hb⟩ := hrel
    have HO := Lib.hid ho
    have HB := Lib.hid hb
    by_cases hlt : k < n
    · obtain ⟨g, rfl⟩ := ha1 (by omega)
      have k0 : (0 : Int) ≤ (k : Int) := by omega
      have k1 : (k : Int) < (n : Int) := by omega
      have e1 : IntKind.i64.wrap ((k : Int) + 1) = ((k + 1 : Nat) : Int) := by rw [IntWalk.i64_in _ (by omega)]; omega
      have hkD : k < D.length := by omega
      have hlen : (recV pktC (numTo D k)).length = n * 5 := by rw [recV_length pktL, numTo_length]; omega
      have hc := ho.cellAt (k * 5) (by omega)
      have hx := recV_at pktL (numTo D k) k 0 (atP D k) (.int .i64 (atP D k).id) (numTo_at D hkD) rfl
      rw [Nat.add_zero] at hx
      rw [hx] at hc
      have hf := ho.frozenAt (k * 5)
      obtain ⟨o2, g2⟩ := ho.stored (k * 5) (.int .i64 ((k + 1 : Nat) : Int))
      rw [pktV_id _ _ _ _ (numTo_at D hkD), show (⟨((k + 1 : Nat) : Int), (atP D k).fr, (atP D k).to, (atP D k).cl, (atP D k).ln⟩ : Pkt) = numP (atP D k) k from rfl, numTo_next D k hkD] at o2
      have O2 := Lib.hid o2
      have B2 := Lib.hid (hb.grown g2 hb.size (fun j e => by cases e; exact (ho.lt _ rfl).1))
      clear ho hb hx hlen o2 g2 hkD
      go_wp2_with fail
      go_roundw
      case rel => exact ⟨k + 1, by go_num, by omega, O2.out, B2.out⟩
      case measure => simp [intOf]; omega
    · obtain rfl : k = n := by omega
      clear ho hb
      go_wp2_with fail
      go_ret
      exact ⟨_, rfl, by rw [numG_length, HL.out]; have := HO.out; rw [numG, HL.out]; exact this, HB.out⟩
end Go.Proofs.Ytfloekbmgjmhbaa
end

section
namespace Go.Proofs.Ytfloekbmgjmhbaa
open Go.ChangeShapes Go.WideShapes Go.ChangeAt Go.RowKit
set_option linter.unusedVariables false
set_option maxRecDepth 20000

def idsG (D : List Pkt) : Bool := (List.range D.length).all fun i => (List.range i).all fun k => decide ((atP D i).id ≠ (atP D k).id)
theorem ids_no {D : List Pkt} {i k : Nat} (hi : i < D.length) (hk : k < i) (h : (atP D i).id = (atP D k).id) : idsG D = false := by
  cases ha : idsG D with
  | false => rfl
  | true =>
    rw [idsG, List.all_eq_true] at ha
    have h1 := ha i (List.mem_range.2 hi)
    rw [List.all_eq_true] at h1
    exact absurd h (of_decide_eq_true (h1 k (List.mem_range.2 hk)))
theorem ids_yes {D : List Pkt} (h : ∀ i, i < D.length → ∀ k, k < i → (atP D i).id ≠ (atP D k).id) : idsG D = true := by
  rw [idsG, List.all_eq_true]
  intro i hi
  rw [List.all_eq_true]
  intro k hk
  exact decide_eq_true (h i (List.mem_range.1 hi) k (List.mem_range.1 hk))
set_option maxHeartbeats 1600000 in
theorem specIdsDistinct (A : Option Addr) (n cap : Nat) (D : List Pkt) (w : World) (h : RecAt 5 pktC w w.heap.size A n D) (hn : n ≤ 1000000000) :
    Calls Try.prog 30 #[.slice A n cap] w (RetB (idsG D) w) := by
  have HI := Lib.hid h
  have hl := h.1
  have HNO := Lib.hid (fun i k hi hk h => ids_no (D := D) (i := i) (k := k) hi hk h)
  have HYES := Lib.hid (ids_yes (D := D))
  obtain ⟨r, hr⟩ : ∃ r, idsG D = r := ⟨_, rfl⟩
  rw [hr] at HNO HYES
  rw [hr]
  clear h hr
  go_enter Try.func30, Try.ntmps30
  go_wp2_with fail
  go_loopw [3] (fun i wr => ∃ a : Nat, i = .int .i64 (a : Int) ∧ a ≤ n ∧ (∀ i, i < a → ∀ k, k < i → (atP D i).id ≠ (atP D k).id) ∧ w.grownBy wr none) (fun i _ => n - (intOf i).toNat)
  case atStart => exact ⟨0, rfl, Nat.zero_le _, fun i hi => by omega, gb_refl _ _⟩
  case round =>
    obtain ⟨a, rfl, ha, hall, hg⟩ := hrel
    have HALL := Lib.hid hall
    have HG := Lib.hid hg
    clear hall hg
    by_cases hlt : a < n
    · have l1 : (a : Int) < (n : Int) := by omega
      go_wp2_with fail
      go_loopw [4] (fun i wr => ∃ b : Nat, i = .int .i64 (b : Int) ∧ b ≤ a ∧ (∀ k, k < b → (atP D a).id ≠ (atP D k).id) ∧ w.grownBy wr none) (fun i _ => a - (intOf i).toNat)
      case atStart => exact ⟨0, rfl, Nat.zero_le _, fun k hk => by omega, HG.out⟩
      case round =>
        obtain ⟨b, rfl, hb, hall, hg⟩ := hrel
        have HAB := Lib.hid hall
        have HG2 := Lib.hid hg
        by_cases hlb : b < a
        · have l2 : (b : Int) < (a : Int) := by omega
          obtain ⟨g, o, x, rfl, _, hx, hxc⟩ := (HI.out.none (Nat.le_refl _) hg).at a hlt
          obtain ⟨g', o', y, hA, _, hy, hyc⟩ := (HI.out.none (Nat.le_refl _) hg).at b (by omega)
          simp at hA
          obtain ⟨rfl, rfl⟩ := hA
          obtain ⟨c0, _, _, _, _⟩ := pkt_five hxc
          obtain ⟨d0, _, _, _, _⟩ := pkt_five hyc
          have HXA := Lib.hid (atP_of hx)
          have HYB := Lib.hid (atP_of hy)
          have k0 : (0 : Int) ≤ (a : Int) := by omega
          have k1 : (a : Int) < (n : Int) := by omega
          have k2 : (0 : Int) ≤ (b : Int) := by omega
          have k3 : (b : Int) < (n : Int) := by omega
          obtain ⟨u, hu⟩ : ∃ u, x.id = u := ⟨_, rfl⟩
          obtain ⟨v, hv⟩ : ∃ v, y.id = v := ⟨_, rfl⟩
          rw [hu] at c0
          rw [hv] at d0
          have HU := Lib.hid hu
          have HV := Lib.hid hv
          clear hall hg hx hy hxc hyc hu hv
          by_cases huv : u = v
          · have HR := Lib.hid (HNO.out a b (by omega) hlb (by rw [HXA.out, HYB.out, HU.out, HV.out]; exact huv))
            subst huv
            go_wp2_with fail
            go_region_law (first | fail)
            all_goals
              go_wp2_with fail
              go_ret
              exact ⟨ret_bool HR.out.symm, gb_drew HG2.out⟩
          · have HUV := Lib.hid huv
            have e1 : (u == v) = false := beq_eq_false_iff_ne.2 huv
            go_wp2_with fail
            go_region_law (first | fail)
            all_goals
              go_wp2_with fail
              go_roundw
              case rel => exact ⟨b + 1, by go_num, by omega, fun k hk => by
                rcases Nat.lt_or_ge k b with h1 | h1
                · exact HAB.out k h1
                · obtain rfl : k = b := by omega
                  rw [HXA.out, HYB.out, HU.out, HV.out]
                  exact HUV.out, gb_drew HG2.out⟩
              case measure => simp [intOf]; omega
        · obtain rfl : b = a := by omega
          have l2 : ¬ (b : Int) < (b : Int) := by omega
          clear hall hg
          go_wp2_with fail
          go_roundw
          case rel => exact ⟨b + 1, by go_num, by omega, fun i hi k hk => by
            rcases Nat.lt_or_ge i b with h1 | h1
            · exact HALL.out i h1 k hk
            · obtain rfl : i = b := by omega
              exact HAB.out k hk, HG2.out⟩
          case measure => simp [intOf]; omega
    · obtain rfl : a = n := by omega
      have l1 : ¬ (a : Int) < (a : Int) := by omega
      have HR := Lib.hid (HYES.out (fun i hi => HALL.out i (by omega)))
      go_wp2_with fail
      go_ret
      exact ⟨ret_bool HR.out.symm, HG.out⟩
end Go.Proofs.Ytfloekbmgjmhbaa
end

section
namespace Go.Proofs.Ytfloekbmgjmhbaa
open Go.ChangeShapes Go.WideShapes Go.ChangeAt Go.RowKit
set_option linter.unusedVariables false
set_option maxRecDepth 20000

theorem info_fss : (Try.prog.info? 91).map (fun i => (i.zero, i.size, i.bytes)) = some (some (.slice none 0 0), 1, 24) := by kernel_rfl
theorem made_nils (n : Nat) : (madeCells (Value.slice none 0 0).cells (n * 1)).toList = List.replicate n (.slice none 0 0) := by
  apply List.ext_getElem?
  intro j
  by_cases hj : j < n
  · simp [madeCells, Value.cells, hj, Nat.mod_one]
  · rw [List.getElem?_eq_none (by simp [madeCells]; omega), List.getElem?_eq_none (by simp; omega)]
theorem set_rep {α : Type} (vs : List α) (x u : α) (n : Nat) (h : vs.length < n) : (vs ++ List.replicate (n - vs.length) x).set vs.length u = (vs ++ [u]) ++ List.replicate (n - (vs ++ [u]).length) x := by
  obtain ⟨m, hm⟩ : ∃ m, n - vs.length = m + 1 := ⟨n - vs.length - 1, by omega⟩
  rw [List.set_append_right _ _ (Nat.le_refl _), Nat.sub_self, hm, List.replicate_succ, List.set_cons_zero, List.length_append, List.length_singleton, show n - (vs.length + 1) = m by omega, List.append_assoc]
  rfl
/-- A new list of lists. -/
def NewFSS (DD : List (List Flt)) (w : World) (e : Ending) (w' : World) : Prop :=
  ∃ g vs, e = .returned (.slice (some ⟨g, 0, none⟩) DD.length DD.length) ∧ Fams 91 120 5 fltC w' w.heap.size (.slice (some ⟨g, 0, none⟩) DD.length DD.length) vs DD ∧ Below w.heap.size w w'

set_option maxHeartbeats 3200000 in
theorem lawsToFSS (A : Option Addr) (n cap : Nat) (DD : List (List Flt)) (w : World) (h : RecsAt 5 fltC w w.heap.size A n DD) (hn : n ≤ 1048576) (hs : sumL DD ≤ 1048576) :
    Calls Try.prog 56 #[.slice A n cap] w (NewFSS DD w) := by
  obtain ⟨i0, hi, hz0, hz1, hz2⟩ := info_parts info_fss
  have hl := h.1
  have HI := Lib.hid h
  clear h
  go_enter Try.func56, Try.ntmps56
  go_wp2_with (at_make; refine wpList_make_full _ rfl _ _ 36 rfl w.heap.size 91 i0 (.slice none 0 0) 1 Try.underlying36 hi hz0 hz1 .i64 .i64 _ _ n rfl rfl (by omega) (by omega) (by rw [hz2]; omega) (by unfold maxLen; omega) (Nat.le_refl _) ?_; intro w0 hown0 hgrow0)
  rw [made_nils] at hown0
  have HO := Lib.hid hown0
  have HB := Lib.hid (gb_below_none hgrow0 (Nat.le_refl _))
  clear hown0 hgrow0
  go_loopw [4] (fun i wr => ∃ (k : Nat) (vs : List Value), k ≤ n ∧ i = .int .i64 (k : Int) ∧ vs.length = k ∧ wr.ownsRow w.heap.size 91 1 (.slice (some ⟨w.heap.size, 0, none⟩) n n) n (vs ++ List.replicate (n - vs.length) (.slice none 0 0)) ∧ Fam 120 5 fltC wr w.heap.size vs (DD.take k) ∧ Below w.heap.size w wr) (fun i _ => n - (intOf i).toNat)
  case atStart => exact ⟨0, [], Nat.zero_le _, rfl, rfl, by simpa using HO.out, by rw [List.take_zero]; exact Fam.nil _ _, HB.out⟩
  case round =>
    obtain ⟨k, vs, hk, rfl, hvl, ho, hf, hbel⟩ := hrel
    have HO1 := Lib.hid ho
    have HF1 := Lib.hid hf
    have HB1 := Lib.hid hbel
    by_cases hlt : k < n
    · obtain ⟨b, off, D, A', c', rfl, hb, hD, hc, _, hr⟩ := (HI.out.below hbel).at k hlt
      have hat := sumL_at hD
      have hsz := hbel.size
      have HT := Lib.hid (lawsToFltS A' D.length c' D wr (hr.more hsz) (by omega))
      have k0 : (0 : Int) ≤ (k : Int) := by omega
      have k1 : (k : Int) < (n : Int) := by omega
      have HDD := Lib.hid (show DD.take (k + 1) = DD.take k ++ [D] by
        have hkD := (List.getElem?_eq_some_iff.1 hD).1
        have e : DD[k] = D := (List.getElem?_eq_some_iff.1 hD).2
        rw [List.take_succ_eq_append_getElem hkD, e])
      have HVL := Lib.hid hvl
      have HS := Lib.hid hsz
      clear ho hf hbel hD hat hr hvl
      go_wp2_with fail
      refine HT.out.mono ?_
      rintro e w4 ⟨g4, rfl, o4, b4⟩
      have hb4 := gb_of_below b4 none
      have hoh := own_none HO1.out hb4
      have HF4 := Lib.hid (HF1.out.gb hb4)
      have HR4 := Lib.hid (own_less o4 HS.out)
      have HA4 := Lib.hid (show ∀ (i : Nat) u, vs[i]? = some u → Apart u (.slice (some ⟨g4, 0, none⟩) D.length D.length) from fun i u hu j h1 h2 => by
        have h3 := (HF1.out.lt hu h1).2
        have h4 := (o4.lt j h2).1
        omega)
      have HB4 := Lib.hid (HB1.out.trans (b4.mono HS.out))
      have hcell := hoh.cellAt k (by omega)
      have hlen : k < (vs ++ List.replicate (n - vs.length) (Value.slice none 0 0)).length := by have := HVL.out; simp; omega
      obtain ⟨x, hx⟩ : ∃ x, (vs ++ List.replicate (n - vs.length) (Value.slice none 0 0))[k]? = some x := ⟨_, List.getElem?_eq_getElem hlen⟩
      rw [hx] at hcell
      have hfz := hoh.frozenAt k
      obtain ⟨o5, g5⟩ := hoh.stored k (.slice (some ⟨g4, 0, none⟩) D.length D.length)
      have hset := set_rep vs (Value.slice none 0 0) (.slice (some ⟨g4, 0, none⟩) D.length D.length) n (by have := HVL.out; omega)
      rw [HVL.out] at hset
      have HRW := Lib.hid hoh
      rw [HVL.out, hset] at o5
      have HO5 := Lib.hid o5
      have HF5 := Lib.hid ((HF4.out.kept g5 (fun i v j hv hj e => by
        have hi := (List.getElem?_eq_some_iff.1 hv).1
        obtain ⟨u, hu, hou⟩ := HF4.out.get (i := i) (by rw [← HF4.out.len]; exact hi)
        rw [hv] at hu
        obtain rfl := Option.some.inj hu
        exact own_typesG HRW.out hou (by decide) (k := j) (by rw [← e]; rfl) hj)).snoc (row_keptR HR4.out g5 (fun j e1 e2 => own_typesG HRW.out HR4.out (by decide) (k := j) (by rw [← e1]; rfl) e2)) HA4.out)
      have HB5 := Lib.hid (HB4.out.grown g5 HB4.out.size (fun j e => by cases e; exact Nat.le_refl _))
      clear hb4 hoh hlen hx o4 b4 o5 g5 hset hc
      go_wp2_with fail
      go_roundw
      case rel => exact ⟨k + 1, vs ++ [.slice (some ⟨g4, 0, none⟩) D.length D.length], by omega, by go_num, by rw [List.length_append, HVL.out]; rfl, HO5.out, by rw [HDD.out]; exact HF5.out, HB5.out⟩
      case measure => simp [intOf]; omega
    · have hkn : k = n := by omega
      have HKN := Lib.hid hkn
      have HVL := Lib.hid hvl
      clear ho hf hbel hkn hvl
      go_wp2_with fail
      go_ret
      refine ⟨w.heap.size, vs, by rw [hl]; rfl, ⟨?_, ?_⟩, HB1.out⟩
      · have h9 := HO1.out
        rw [HVL.out, HKN.out, Nat.sub_self, List.replicate_zero, List.append_nil] at h9
        rw [hl]
        exact h9
      · have h9 := HF1.out
        rw [HKN.out, ← hl, List.take_length] at h9
        exact h9
end Go.Proofs.Ytfloekbmgjmhbaa
end

section
namespace Go.Proofs.Ytfloekbmgjmhbaa
open Go.ChangeShapes Go.WideShapes Go.ChangeAt Go.RowKit
set_option linter.unusedVariables false
set_option maxRecDepth 20000

/-- A new network and whether there is one. -/
def RetNet (N : Nt) (b : Bool) (w : World) (e : Ending) (w' : World) : Prop :=
  ∃ y : Na, e = .returned (.tuple #[.agg #[.int .i64 N.W, .int .i64 N.H, .slice y.br.A N.br.length y.br.c, .slice y.ta.A N.ta.length y.ta.c, .slice y.tb.A N.tb.length y.tb.c, .slice y.bu.A N.bu.length y.bu.c, .slice y.ow.A N.ow.length y.ow.c, .slice y.tu.A N.tu.length y.tu.c, .slice y.so.A N.so.length y.so.c, .slice y.ar.A N.ar.length y.ar.c, .int .i64 N.ti], .bool b]) ∧ NetOwn w' w.heap.size w'.heap.size y N ∧ Below w.heap.size w w'
theorem made_ints (n : Nat) : (madeCells (Value.int .i64 0).cells (n * 1)).toList = intsV (List.replicate n 0) := by
  apply List.ext_getElem?
  intro j
  by_cases hj : j < n
  · simp [madeCells, Value.cells, hj, Nat.mod_one, intsV]
  · rw [List.getElem?_eq_none (by simp [madeCells]; omega), List.getElem?_eq_none (by simp [intsV]; omega)]
theorem netNew_sm {W H : Int} {L P Q : List Int} (h1 : L.length ≤ 1048576) (h2 : P.length ≤ 1048576) (h3 : Q.length ≤ 1048576) : NetSm (netNewG W H L P Q) ∧ markSz (netNewG W H L P Q) ≤ 4000000 := by
  have hk := (countG_le W H).2
  unfold netNewG
  split
  · refine ⟨⟨?_, ?_, ?_, ?_, ?_, ?_, ?_, ?_, ?_, ?_, ?_⟩, ?_⟩
    all_goals simp [newNet, markSz, sumL_rep]
    all_goals omega
  · refine ⟨⟨?_, ?_, ?_, ?_, ?_, ?_, ?_, ?_, ?_, ?_, ?_⟩, ?_⟩
    all_goals simp [zeroNet, markSz, sumL]
end Go.Proofs.Ytfloekbmgjmhbaa
end

section
namespace Go.Proofs.Ytfloekbmgjmhbaa
open Go.ChangeShapes Go.WideShapes Go.ChangeAt Go.RowKit
set_option linter.unusedVariables false

/-- Valid packets with the Ids 1, 2, 3 and so on. -/
def PksOk (W H : Int) (D : List Pkt) : Prop := ∀ k p, D[k]? = some p → pktOk W H p = true ∧ p.id = ((k + 1 : Nat) : Int)
def lenTo (D : List Pkt) (k : Nat) : Int := ((D.take k).map Pkt.ln).sum
theorem lenTo_zero (D : List Pkt) : lenTo D 0 = 0 := rfl
theorem lenTo_next {D : List Pkt} {k : Nat} {p : Pkt} (h : D[k]? = some p) : lenTo D (k + 1) = lenTo D k + p.ln := by
  have : D.take (k + 1) = D.take k ++ [p] := by rw [List.take_add_one, h]; rfl
  simp [lenTo, this]
theorem PksOk.snoc {W H : Int} {D : List Pkt} {p : Pkt} (h : PksOk W H D) (hp : pktOk W H p = true) (hi : p.id = ((D.length + 1 : Nat) : Int)) : PksOk W H (D ++ [p]) := by
  intro k q hq
  rcases Nat.lt_or_ge k D.length with h1 | h1
  · rw [List.getElem?_append_left h1] at hq
    exact h k q hq
  · rw [List.getElem?_append_right h1] at hq
    have hk : k - D.length = 0 := by
      have := (List.getElem?_eq_some_iff.1 hq).1
      simp at this
      omega
    rw [hk] at hq
    simp at hq
    subst hq
    have : k = D.length := by omega
    subst this
    exact ⟨hp, hi⟩
theorem len_le {D : List Pkt} {W H : Int} (h : PksOk W H D) (k : Nat) : 0 ≤ lenTo D k ∧ lenTo D k ≤ 5 * k := by
  induction k with
  | zero => exact ⟨by rw [lenTo_zero]; omega, by rw [lenTo_zero]; omega⟩
  | succ k ih =>
    by_cases hk : k < D.length
    · obtain ⟨p, hp⟩ : ∃ p, D[k]? = some p := ⟨_, List.getElem?_eq_getElem hk⟩
      have h1 := (pktOk_iff.1 (h k p hp).1).2.2.2.2.2
      rw [lenTo_next hp]
      omega
    · have e : lenTo D (k + 1) = lenTo D k := by simp only [lenTo]; rw [List.take_of_length_le (by omega), List.take_of_length_le (by omega)]
      rw [e]
      omega
theorem mem_sum {LL : List (List Flt)} {i : Nat} {X : List Flt} (h : LL[i]? = some X) : X.length ≤ sumL LL := by
  have h1 := sumL_set (Y := []) h
  simp only [List.length_nil] at h1
  omega
/-- Packets that are sent into a new network. -/
theorem sends_new {W H : Int} {L P Q : List Int} {D : List Pkt} (hc : clsOk W H L P Q = true) (hD : PksOk W H D) (hl : D.length ≤ 6) :
    ∀ k, k ≤ D.length → (sendsP (newNet W H L P Q) (D.take k)).2 = k ∧ (sumL (sendsP (newNet W H L P Q) (D.take k)).1.so : Int) = lenTo D k := by
  intro k
  induction k with
  | zero =>
    intro _
    refine ⟨rfl, ?_⟩
    rw [lenTo_zero]
    show ((sumL (newNet W H L P Q).so : Nat) : Int) = 0
    simp [newNet, sumL_rep]
  | succ k ih =>
    intro hk
    obtain ⟨h1, h2⟩ := ih (by omega)
    obtain ⟨p, hp⟩ : ∃ p, D[k]? = some p := ⟨_, List.getElem?_eq_getElem (by omega)⟩
    obtain ⟨hok, hlike, _⟩ := sendsP_take (newNet W H L P Q) D k
    have hpk := (hD k p hp).1
    have hW : (sendsP (newNet W H L P Q) (D.take k)).1.W = W := hlike.W
    have hH : (sendsP (newNet W H L P Q) (D.take k)).1.H = H := hlike.H
    have hnk := hok.trans (newNet_ok hc)
    have hpk2 : pktOk (sendsP (newNet W H L P Q) (D.take k)).1.W (sendsP (newNet W H L P Q) (D.take k)).1.H p = true := by rw [hW, hH]; exact hpk
    obtain ⟨_, _, hsrc⟩ := src_there hnk hpk2
    have hm := mem_sum hsrc
    have hle := len_le hD k
    have hln := (pktOk_iff.1 hpk).2.2.2.2.2
    have hs : sendOk (sendsP (newNet W H L P Q) (D.take k)).1 p = true := sendOk_iff.2 ⟨hnk, hpk2, by omega⟩
    rw [sendsP_next hp]
    refine ⟨by simp only [hs, if_true, h1], ?_⟩
    simp only
    rw [sendG_yes hs, sumL_send hnk hpk2, h2, lenTo_next hp]
theorem ids_of_pks {W H : Int} {D : List Pkt} (h : PksOk W H D) : idsG D = true := ids_yes (fun i hi k hk => by
  have h1 := (h i _ (List.getElem?_eq_getElem hi)).2
  have h2 := (h k _ (List.getElem?_eq_getElem (show k < D.length by omega))).2
  rw [atP_of (List.getElem?_eq_getElem hi), atP_of (List.getElem?_eq_getElem (show k < D.length by omega)), h1, h2]
  omega)
theorem ids_of_num (D : List Pkt) : idsG (numG D) = true := ids_yes (fun i hi k hk => by
  rw [numG_length] at hi
  have key : ∀ j, j < D.length → atP (numG D) j = numP (atP D j) j := fun j hj => atP_of (by simp [numG, numTo, hj])
  rw [key i hi, key k (by omega)]
  show ((i + 1 : Nat) : Int) ≠ ((k + 1 : Nat) : Int)
  omega)
theorem small_wf {x : Int} (h0 : -1 ≤ x) (h1 : x ≤ 1000000) : (Lit.int .i64 x).wf = true := by
  have e1 : IntKind.i64.min = -9223372036854775808 := by decide
  have e2 : IntKind.i64.max = 9223372036854775807 := by decide
  simp only [Lit.wf, e1, e2, Bool.and_eq_true, decide_eq_true_eq]
  omega
theorem wf_of_pks {W H : Int} {D : List Pkt} (hW : okG W H = true) (h : PksOk W H D) : ∀ p ∈ D, wfP p := fun p hp => by
  obtain ⟨i, hi, e⟩ := List.getElem_of_mem hp
  have h1 := pktOk_iff.1 (h i p (List.getElem?_eq_some_iff.2 ⟨hi, e⟩)).1
  have h2 := hasG_iff.1 h1.2.1
  have h3 := hasG_iff.1 h1.2.2.1
  have h4 := (countG_le W H).2
  exact ⟨small_wf (by omega) (by omega), small_wf (by omega) (by omega), small_wf (by omega) (by omega), small_wf (by omega) (by omega), small_wf (by omega) (by omega)⟩
theorem wf_of_num {D : List Pkt} (h : ∀ p ∈ D, wfP p) (hl : D.length ≤ 1000) : ∀ p ∈ numG D, wfP p := fun p hp => by
  simp only [numG, numTo, List.mem_map, List.mem_range] at hp
  obtain ⟨t, ht, rfl⟩ := hp
  rw [if_pos ht]
  have h1 := h (atP D t) (by rw [atP_of (List.getElem?_eq_getElem ht)]; exact List.getElem_mem ht)
  exact ⟨small_wf (x := ((t + 1 : Nat) : Int)) (by omega) (by omega), h1.2.1, h1.2.2.1, h1.2.2.2.1, h1.2.2.2.2⟩
end Go.Proofs.Ytfloekbmgjmhbaa
end

section
namespace Go.Proofs.Ytfloekbmgjmhbaa
open Go.ChangeShapes Go.WideShapes Go.ChangeAt Go.RowKit
set_option linter.unusedVariables false
set_option maxRecDepth 20000

def DrawnPs (W H : Int) (g : Nat) (w : World) (e : Ending) (w' : World) : Prop :=
  ∃ v D, e = .returned v ∧ w'.ownsRow w.heap.size 44 5 v D.length (recV pktC D) ∧ (D.length ≤ 6 ∧ PksOk W H D) ∧ Cur w' g ∧ w.grownBy w' (some g)
/-- Where the loop stands. -/
def PsAt (w : World) (W H : Int) (g k : Nat) (D : List Pkt) (v : Value) (wr : World) : Prop :=
  D.length = k ∧ PksOk W H D ∧ wr.ownsRow w.heap.size 44 5 v k (recV pktC D) ∧ Cur wr g ∧ w.grownBy wr (some g) ∧ Blk wr w.heap.size 25 #[.int .i64 W, .int .i64 H]
theorem PsAt.cur {w wr w' : World} {W H : Int} {g k : Nat} {D : List Pkt} {v : Value} (h : PsAt w W H g k D v wr) (hg : g < w.heap.size) (hc : Cur w' g) (hgr : wr.grownBy w' (some g)) : PsAt w W H g k D v w' :=
  ⟨h.1, h.2.1, row_keptR h.2.2.1 hgr (fun j e1 e2 => by cases e1; have := (h.2.2.1.lt _ e2).1; omega), hc, gb_trans h.2.2.2.2.1 hgr, h.2.2.2.2.2.grown hgr (fun e => by cases e; omega)⟩
set_option maxHeartbeats 1600000 in
theorem l16Packets (W H : Int) (g : Nat) (w : World) (hcur : Cur w g) (hok : okG W H = true) (h2 : 2 ≤ countG W H) :
    Calls Try.prog 35 #[.pointer (some ⟨g, 0, none⟩), .agg #[.int .i64 W, .int .i64 H]] w (DrawnPs W H g w) := by
  obtain ⟨j0, hj, jz0, jz1, jz2⟩ := info_parts info_pkt
  have hgw := hcur.lt
  have hg1 := gb_alloc (gb_alloc (gb_refl w none) (.cells #[.int .i64 W, .int .i64 H] 25)) (.cells #[] 44)
  have X0 := Lib.hid (show PsAt w W H g 0 [] (.slice (some ⟨w.heap.size + 1, 0, none⟩) 0 0) ((w.alloc (.cells #[.int .i64 W, .int .i64 H] 25)).alloc (.cells #[] 44)) from
    ⟨rfl, (fun k p h => by simp at h), (by
      have := World.ownsRow_made (base := w.heap.size) (e := 44) (size := 5) (w.alloc (.cells #[.int .i64 W, .int .i64 H] 25)) #[] 0 (by rw [alloc_size]; omega) (by decide) rfl
      rw [alloc_size] at this
      exact this), hcur.grown hg1 (fun k e => by cases e), gb_of_none hg1 _, (Blk.new w _ _).alloc _⟩)
  clear hcur hg1
  go_enter Try.func35, Try.ntmps35
  go_wp2_with fail
  go_loopw [5, 6] (fun s i wr => ∃ (k : Nat) (D : List Pkt) (A : Option Addr) (c : Nat), i = .int .i64 (k : Int) ∧ k ≤ 6 ∧ s = .slice A k c ∧ PsAt w W H g k D s wr) (fun _ i _ => 7 - (intOf i).toNat)
  case atStart => exact ⟨0, [], _, _, rfl, Nat.zero_le _, rfl, X0.out⟩
  case round =>
    obtain ⟨k, D, A, c, rfl, hk, rfl, hx⟩ := hrel
    have X1 := Lib.hid hx
    have hc1 := hx.2.2.2.1
    clear hx
    go_wp2_with fail
    refine (l01Below 7 _ _ hc1).mono ?_
    rintro e w1 ⟨r, rfl, hr0, hr1, _, hc2, hg2⟩
    have hr7 := hr1 (by omega)
    have X2 := Lib.hid (X1.out.cur hgw hc2 hg2)
    clear hr1 hc1 hg2 X1
    by_cases hlt : (k : Int) < r
    · have hk6 : k < 6 := by omega
      have e1 : IntKind.i64.wrap ((k : Int) + 1) = ((k + 1 : Nat) : Int) := by rw [IntWalk.i64_in _ (by omega)]; omega
      have b0 : w1.cell? ⟨w.heap.size, 0, none⟩ = some (.int .i64 W) := X2.out.2.2.2.2.2.cell 0
      have b1 : w1.cell? ⟨w.heap.size, 1, none⟩ = some (.int .i64 H) := X2.out.2.2.2.2.2.cell 1
      clear hr7
      go_wp2_with fail
      refine (l14Packet W H ((k + 1 : Nat) : Int) g w1 hc2 hok h2 (by omega)).mono ?_
      rintro e w2 ⟨p, rfl, hp, hid, hc3, hg3⟩
      have X3 := Lib.hid (X2.out.cur hgw hc3 hg3)
      have HP := Lib.hid hp
      have HI := Lib.hid hid
      have b3' := Lib.hid (show ∀ u ∈ [Value.int .i64 p.id, .int .i64 p.fr, .int .i64 p.to, .int .i64 p.cl, .int .i64 p.ln], u.oneCell' = true by simp [Value.oneCell'])
      have b4' := Lib.hid (show k + 1 ≤ maxLen by unfold maxLen; omega)
      have HTO := Lib.hid (show recV pktC D ++ [.int .i64 p.id, .int .i64 p.fr, .int .i64 p.to, .int .i64 p.cl, .int .i64 p.ln] = recV pktC (D ++ [p]) by rw [recV_append]; simp [recV, pktC])
      have SZ := Lib.hid (show w.heap.size ≤ (w2.alloc (.cells #[.int .i64 p.id, .int .i64 p.fr, .int .i64 p.to, .int .i64 p.cl, .int .i64 p.ln] 44)).heap.size by have := X3.out.2.2.2.2.1.size; rw [alloc_size]; omega)
      have O3 := Lib.hid X3.out.2.2.1
      clear hc2 hg3 hp hid hc3 b0 b1 X2
      go_wp2_with (at_builtin; refine wpList_append_own _ rfl _ _ 33 rfl w.heap.size 44 j0 (pktX pkt0) 5 40 Try.underlying33 hj jz0 jz1 jz2 rfl (by decide) _ k _ rfl (O3.out.alloc _) ⟨w2.heap.size, 0, none⟩ 1 1 [.int .i64 p.id, .int .i64 p.fr, .int .i64 p.to, .int .i64 p.cl, .int .i64 p.ln] rfl rfl (World.news_of_block (cs := #[.int .i64 p.id, .int .i64 p.fr, .int .i64 p.to, .int .i64 p.cl, .int .i64 p.ln]) (t := 44) (fr := (0, 0)) (heap_alloc_new w2 _)) b3'.out b4'.out (by omega) SZ.out ?_; intro v' w4 hown4 hgrow4 hnb4; rw [HTO.out] at hown4; obtain ⟨A4, c4, rfl, _⟩ := own_form hown4; have O4 := Lib.hid hown4; have G4 := Lib.hid hgrow4; clear hown4 hgrow4 hnb4)
      have X4 := Lib.hid (show PsAt w W H g (k + 1) (D ++ [p]) (.slice A4 (k + 1) c4) w4 from by
        obtain ⟨x1, x2, x3, x4, x5, x6⟩ := X3.out
        have ga := gb_alloc (gb_refl w2 none) (.cells #[.int .i64 p.id, .int .i64 p.fr, .int .i64 p.to, .int .i64 p.cl, .int .i64 p.ln] 44)
        have hb : ∀ j, (Value.slice A k c).ownBlock = some j → w.heap.size ≤ j := fun j e => (x3.lt j e).1
        refine ⟨by rw [List.length_append, x1]; rfl, x2.snoc HP.out (by rw [HI.out, x1]), O4.out, (x4.grown ga (fun k e => by cases e)).grown G4.out (fun j e => by have := hb j e; omega), ?_, (x6.grown ga (by simp)).grown G4.out (fun e => own_ne x3 x6 (by decide) e.symm)⟩
        have gg := gb_trans x5 (gb_of_none ga _)
        exact ⟨G4.out.os.trans gg.os, G4.out.tape.trans gg.tape, G4.out.output.trans gg.output, Nat.le_trans gg.size G4.out.size, fun i hi hne => (G4.out.block i (Nat.lt_of_lt_of_le hi gg.size) (fun e => by have := hb i e.symm; omega)).trans (gg.block i hi hne)⟩)
      go_roundw
      case rel => exact ⟨k + 1, _, _, _, by go_num, by omega, rfl, X4.out⟩
      case measure => simp [intOf]; omega
    · clear hc2
      go_wp2_with fail
      go_ret
      have h6 := X2.out
      exact ⟨_, D, rfl, by rw [h6.1]; exact h6.2.2.1, ⟨by rw [h6.1]; exact hk, h6.2.1⟩, h6.2.2.2.1, h6.2.2.2.2.1⟩
end Go.Proofs.Ytfloekbmgjmhbaa
end

section
namespace Go.Proofs.Ytfloekbmgjmhbaa
open Go.ChangeShapes Go.WideShapes Go.ChangeAt Go.RowKit
set_option linter.unusedVariables false

def colPort (x u : Int) : Int := if u < x then 3 else 1
def rowPort (y v : Int) : Int := if v < y then 0 else 2
def mixRule (r b : Int) : Int := if r = 4 then 1 + b % 2 else r
/-- Does the rule take the column first? -/
def firstG (r x y u v : Int) : Bool := if r = 2 then decide (y = v) else if r = 3 then decide (u < x) || decide (y = v) else decide (x ≠ u)
def stdPort (W r a b : Int) : Int :=
  if a = b then 4 else if firstG (mixRule r b) (a % W) (a / W) (b % W) (b / W) then colPort (a % W) (b % W) else rowPort (a / W) (b / W)
def stdTo (W H r : Int) (k : Nat) : List Int := (List.range k).map fun i : Nat => stdPort W r ((i : Int) / countG W H) ((i : Int) % countG W H)
def stdTab (W H r : Int) : List Int := stdTo W H r (sqG W H)
def stdGood (W H r : Int) : Bool := minimalG W H [] (stdTab W H r) && decide ((mostTo W H [] (stdTab W H r) (sqG W H) : Int) = diamG W H)

theorem std_111 : stdGood 1 1 1 = true := by decide +kernel
theorem std_112 : stdGood 1 1 2 = true := by decide +kernel
theorem std_113 : stdGood 1 1 3 = true := by decide +kernel
theorem std_114 : stdGood 1 1 4 = true := by decide +kernel
theorem std_121 : stdGood 1 2 1 = true := by decide +kernel
theorem std_122 : stdGood 1 2 2 = true := by decide +kernel
theorem std_123 : stdGood 1 2 3 = true := by decide +kernel
theorem std_124 : stdGood 1 2 4 = true := by decide +kernel
theorem std_131 : stdGood 1 3 1 = true := by decide +kernel
theorem std_132 : stdGood 1 3 2 = true := by decide +kernel
theorem std_133 : stdGood 1 3 3 = true := by decide +kernel
theorem std_134 : stdGood 1 3 4 = true := by decide +kernel
theorem std_141 : stdGood 1 4 1 = true := by decide +kernel
theorem std_142 : stdGood 1 4 2 = true := by decide +kernel
theorem std_143 : stdGood 1 4 3 = true := by decide +kernel
theorem std_144 : stdGood 1 4 4 = true := by decide +kernel
theorem std_211 : stdGood 2 1 1 = true := by decide +kernel
theorem std_212 : stdGood 2 1 2 = true := by decide +kernel
theorem std_213 : stdGood 2 1 3 = true := by decide +kernel
theorem std_214 : stdGood 2 1 4 = true := by decide +kernel
theorem std_221 : stdGood 2 2 1 = true := by decide +kernel
theorem std_222 : stdGood 2 2 2 = true := by decide +kernel
theorem std_223 : stdGood 2 2 3 = true := by decide +kernel
theorem std_224 : stdGood 2 2 4 = true := by decide +kernel
theorem std_231 : stdGood 2 3 1 = true := by decide +kernel
theorem std_232 : stdGood 2 3 2 = true := by decide +kernel
theorem std_233 : stdGood 2 3 3 = true := by decide +kernel
theorem std_234 : stdGood 2 3 4 = true := by decide +kernel
theorem std_241 : stdGood 2 4 1 = true := by decide +kernel
theorem std_242 : stdGood 2 4 2 = true := by decide +kernel
theorem std_243 : stdGood 2 4 3 = true := by decide +kernel
theorem std_244 : stdGood 2 4 4 = true := by decide +kernel
theorem std_311 : stdGood 3 1 1 = true := by decide +kernel
theorem std_312 : stdGood 3 1 2 = true := by decide +kernel
theorem std_313 : stdGood 3 1 3 = true := by decide +kernel
theorem std_314 : stdGood 3 1 4 = true := by decide +kernel
theorem std_321 : stdGood 3 2 1 = true := by decide +kernel
theorem std_322 : stdGood 3 2 2 = true := by decide +kernel
theorem std_323 : stdGood 3 2 3 = true := by decide +kernel
theorem std_324 : stdGood 3 2 4 = true := by decide +kernel
theorem std_331 : stdGood 3 3 1 = true := by decide +kernel
theorem std_332 : stdGood 3 3 2 = true := by decide +kernel
theorem std_333 : stdGood 3 3 3 = true := by decide +kernel
theorem std_334 : stdGood 3 3 4 = true := by decide +kernel
theorem std_341 : stdGood 3 4 1 = true := by decide +kernel
theorem std_342 : stdGood 3 4 2 = true := by decide +kernel
theorem std_343 : stdGood 3 4 3 = true := by decide +kernel
theorem std_344 : stdGood 3 4 4 = true := by decide +kernel
theorem std_411 : stdGood 4 1 1 = true := by decide +kernel
theorem std_412 : stdGood 4 1 2 = true := by decide +kernel
theorem std_413 : stdGood 4 1 3 = true := by decide +kernel
theorem std_414 : stdGood 4 1 4 = true := by decide +kernel
theorem std_421 : stdGood 4 2 1 = true := by decide +kernel
theorem std_422 : stdGood 4 2 2 = true := by decide +kernel
theorem std_423 : stdGood 4 2 3 = true := by decide +kernel
theorem std_424 : stdGood 4 2 4 = true := by decide +kernel
theorem std_431 : stdGood 4 3 1 = true := by decide +kernel
theorem std_432 : stdGood 4 3 2 = true := by decide +kernel
theorem std_433 : stdGood 4 3 3 = true := by decide +kernel
theorem std_434 : stdGood 4 3 4 = true := by decide +kernel
theorem std_441 : stdGood 4 4 1 = true := by decide +kernel
theorem std_442 : stdGood 4 4 2 = true := by decide +kernel
theorem std_443 : stdGood 4 4 3 = true := by decide +kernel
theorem std_444 : stdGood 4 4 4 = true := by decide +kernel
theorem std_good {W H r : Int} (h : okG W H = true) (h1 : 1 ≤ r) (h4 : r ≤ 4) : stdGood W H r = true := by
  obtain ⟨hW, hH⟩ := okG_cases h
  have hr : r = 1 ∨ r = 2 ∨ r = 3 ∨ r = 4 := by omega
  clear h h1 h4
  rcases hW with rfl | rfl | rfl | rfl
  · rcases hH with rfl | rfl | rfl | rfl
    · rcases hr with rfl | rfl | rfl | rfl
      · exact std_111
      · exact std_112
      · exact std_113
      · exact std_114
    · rcases hr with rfl | rfl | rfl | rfl
      · exact std_121
      · exact std_122
      · exact std_123
      · exact std_124
    · rcases hr with rfl | rfl | rfl | rfl
      · exact std_131
      · exact std_132
      · exact std_133
      · exact std_134
    · rcases hr with rfl | rfl | rfl | rfl
      · exact std_141
      · exact std_142
      · exact std_143
      · exact std_144
  · rcases hH with rfl | rfl | rfl | rfl
    · rcases hr with rfl | rfl | rfl | rfl
      · exact std_211
      · exact std_212
      · exact std_213
      · exact std_214
    · rcases hr with rfl | rfl | rfl | rfl
      · exact std_221
      · exact std_222
      · exact std_223
      · exact std_224
    · rcases hr with rfl | rfl | rfl | rfl
      · exact std_231
      · exact std_232
      · exact std_233
      · exact std_234
    · rcases hr with rfl | rfl | rfl | rfl
      · exact std_241
      · exact std_242
      · exact std_243
      · exact std_244
  · rcases hH with rfl | rfl | rfl | rfl
    · rcases hr with rfl | rfl | rfl | rfl
      · exact std_311
      · exact std_312
      · exact std_313
      · exact std_314
    · rcases hr with rfl | rfl | rfl | rfl
      · exact std_321
      · exact std_322
      · exact std_323
      · exact std_324
    · rcases hr with rfl | rfl | rfl | rfl
      · exact std_331
      · exact std_332
      · exact std_333
      · exact std_334
    · rcases hr with rfl | rfl | rfl | rfl
      · exact std_341
      · exact std_342
      · exact std_343
      · exact std_344
  · rcases hH with rfl | rfl | rfl | rfl
    · rcases hr with rfl | rfl | rfl | rfl
      · exact std_411
      · exact std_412
      · exact std_413
      · exact std_414
    · rcases hr with rfl | rfl | rfl | rfl
      · exact std_421
      · exact std_422
      · exact std_423
      · exact std_424
    · rcases hr with rfl | rfl | rfl | rfl
      · exact std_431
      · exact std_432
      · exact std_433
      · exact std_434
    · rcases hr with rfl | rfl | rfl | rfl
      · exact std_441
      · exact std_442
      · exact std_443
      · exact std_444
theorem std_facts {W H r : Int} (h : okG W H = true) (h1 : 1 ≤ r) (h4 : r ≤ 4) : tableG W H [] (stdTab W H r) = true ∧ minimalG W H [] (stdTab W H r) = true ∧ longG W H [] (stdTab W H r) = diamG W H := by
  have hg := std_good h h1 h4
  simp only [stdGood, Bool.and_eq_true, decide_eq_true_eq] at hg
  have ht : tableG W H [] (stdTab W H r) = true := by have := hg.1; simp only [minimalG, Bool.and_eq_true] at this; exact this.1
  exact ⟨ht, hg.1, by rw [longG, if_pos ht]; exact hg.2⟩
theorem stdTo_succ (W H r : Int) (k : Nat) : stdTo W H r (k + 1) = stdTo W H r k ++ [stdPort W r ((k : Int) / countG W H) ((k : Int) % countG W H)] := by
  simp [stdTo, List.range_succ]
theorem stdTo_len (W H r : Int) (k : Nat) : (stdTo W H r k).length = k := by simp [stdTo]
theorem stdPort_le (W r a b : Int) : 0 ≤ stdPort W r a b ∧ stdPort W r a b ≤ 4 := by
  unfold stdPort colPort rowPort
  repeat' split
  all_goals omega
end Go.Proofs.Ytfloekbmgjmhbaa
end

section
namespace Go.Proofs.Ytfloekbmgjmhbaa
open Go.ChangeShapes Go.WideShapes Go.ChangeAt Go.RowKit
set_option linter.unusedVariables false
set_option linter.unusedSimpArgs false

theorem specColumn (x u : Int) (w : World) :
    Calls Try.prog 105 #[.int .i64 x, .int .i64 u] w fun e w' => e = .returned (.int .i64 (colPort x u)) ∧ w = w' := by
  by_cases h : u < x
  all_goals
    go_enter Try.func105, Try.ntmps105
    go_wp2_with fail
    go_ret
    exact ⟨ret_int64 (by simp [colPort, h]), rfl⟩
theorem specRow (y v : Int) (w : World) :
    Calls Try.prog 106 #[.int .i64 y, .int .i64 v] w fun e w' => e = .returned (.int .i64 (rowPort y v)) ∧ w = w' := by
  by_cases h : v < y
  all_goals
    go_enter Try.func106, Try.ntmps106
    go_wp2_with fail
    go_ret
    exact ⟨ret_int64 (by simp [rowPort, h]), rfl⟩

set_option maxRecDepth 100000 in
set_option maxHeartbeats 1600000 in
theorem specStdPort (W H r a b : Int) (hr1 : 1 ≤ r) (hr4 : r ≤ 4) (ha : hasG W H a = true) (hb : hasG W H b = true) (w : World) :
    Calls Try.prog 73 #[.agg #[.int .i64 W, .int .i64 H], .int .i64 r, .int .i64 a, .int .i64 b] w (RetI (stdPort W r a b) none w) := by
  obtain ⟨hW, hH⟩ := okG_cases (hasG_ok ha).1
  obtain ⟨a0, a1⟩ := hasG_le ha
  obtain ⟨b0, b1⟩ := hasG_le hb
  have qa := row_wrap a0 a1 hW
  have qb := row_wrap b0 b1 hW
  obtain ⟨res, hres⟩ : ∃ p, stdPort W r a b = p := ⟨_, rfl⟩
  rw [hres]
  have hS := hres
  unfold stdPort at hS
  obtain ⟨p1, p2, p3, p4, _⟩ := place_of ha
  obtain ⟨s1, s2, s3, s4, _⟩ := place_of hb
  obtain ⟨x, hx⟩ : ∃ x, a % W = x := ⟨_, rfl⟩
  obtain ⟨y, hy⟩ : ∃ y, a / W = y := ⟨_, rfl⟩
  obtain ⟨u, hu⟩ : ∃ u, b % W = u := ⟨_, rfl⟩
  obtain ⟨v, hv⟩ : ∃ v, b / W = v := ⟨_, rfl⟩
  rw [hx, hy, hu, hv] at hS
  have hW1 : 1 ≤ W ∧ W ≤ 4 := by omega
  have hH2 : H ≤ 4 := by omega
  obtain ⟨hWa, hWb⟩ := hW1
  have da : a.tdiv W = y := by rw [Int.tdiv_eq_ediv_of_nonneg a0]; exact hy
  have db : b.tdiv W = v := by rw [Int.tdiv_eq_ediv_of_nonneg b0]; exact hv
  have ta : a.tmod W = x := by rw [Int.tmod_eq_emod_of_nonneg a0]; exact hx
  have tb : b.tmod W = u := by rw [Int.tmod_eq_emod_of_nonneg b0]; exact hu
  rw [hx] at p1 p2
  rw [hy] at p3 p4 qa
  rw [hu] at s1 s2
  rw [hv] at s3 s4 qb
  have hWn : W ≠ 0 := by omega
  clear hW hH hres hy hv
  by_cases hab : a = b
  · have hq : (a == b) = true := by simpa using hab
    rw [if_pos hab] at hS
    have HS := Lib.hid hS
    clear hab hS da db qa qb ta tb
    go_enter Try.func73, Try.ntmps73
    go_wp2_with fail
    go_ret
    exact ⟨ret_int64 HS.out, gb_alloc (gb_refl _ _) _⟩
  · have hq : (a == b) = false := by simpa using hab
    rw [if_neg hab] at hS
    clear hab
    have hr : r = 1 ∨ r = 2 ∨ r = 3 ∨ r = 4 := by omega
    clear hr1 hr4
    rcases hr with rfl | rfl | rfl | rfl
    · by_cases hc : x = u
      · have hf : firstG (mixRule 1 b) x y u v = false := by simp [firstG, mixRule, hc]
        have hb1 : (x != u) = false := by simpa using hc
        rw [hf] at hS
        simp only [if_true, if_false, Bool.false_eq_true] at hS
        have HS := Lib.hid hS
        clear hf hS hc
        go_enter Try.func73, Try.ntmps73
        go_wp2_with fail
        refine (specRow y v _).mono ?_
        rintro e w1 ⟨rfl, rfl⟩
        go_wp2_with fail
        go_ret
        exact ⟨ret_int64 HS.out, gb_alloc (gb_refl _ _) _⟩
      · have hf : firstG (mixRule 1 b) x y u v = true := by simp [firstG, mixRule, hc]
        have hb1 : (x != u) = true := by simpa using hc
        rw [hf] at hS
        simp only [if_true] at hS
        have HS := Lib.hid hS
        clear hf hS hc
        go_enter Try.func73, Try.ntmps73
        go_wp2_with fail
        refine (specColumn x u _).mono ?_
        rintro e w1 ⟨rfl, rfl⟩
        go_wp2_with fail
        go_ret
        exact ⟨ret_int64 HS.out, gb_alloc (gb_refl _ _) _⟩
    · by_cases hc : y = v
      · have hf : firstG (mixRule 2 b) x y u v = true := by simp [firstG, mixRule, hc]
        have hb1 : (y == v) = true := by simpa using hc
        rw [hf] at hS
        simp only [if_true] at hS
        have HS := Lib.hid hS
        clear hf hS hc
        go_enter Try.func73, Try.ntmps73
        go_wp2_with fail
        refine (specColumn x u _).mono ?_
        rintro e w1 ⟨rfl, rfl⟩
        go_wp2_with fail
        go_ret
        exact ⟨ret_int64 HS.out, gb_alloc (gb_refl _ _) _⟩
      · have hf : firstG (mixRule 2 b) x y u v = false := by simp [firstG, mixRule, hc]
        have hb1 : (y == v) = false := by simpa using hc
        rw [hf] at hS
        simp only [if_true, if_false, Bool.false_eq_true] at hS
        have HS := Lib.hid hS
        clear hf hS hc
        go_enter Try.func73, Try.ntmps73
        go_wp2_with fail
        refine (specRow y v _).mono ?_
        rintro e w1 ⟨rfl, rfl⟩
        go_wp2_with fail
        go_ret
        exact ⟨ret_int64 HS.out, gb_alloc (gb_refl _ _) _⟩
    · by_cases hc : u < x
      · have hf : firstG (mixRule 3 b) x y u v = true := by simp [firstG, mixRule, hc]
        rw [hf] at hS
        simp only [if_true] at hS
        have HS := Lib.hid hS
        clear hf hS
        go_enter Try.func73, Try.ntmps73
        go_wp2_with fail
        refine (specColumn x u _).mono ?_
        rintro e w1 ⟨rfl, rfl⟩
        go_wp2_with fail
        go_ret
        exact ⟨ret_int64 HS.out, gb_alloc (gb_refl _ _) _⟩
      · have hl := hc
        clear hc
        by_cases hc : y = v
        · have hf : firstG (mixRule 3 b) x y u v = true := by simp [firstG, mixRule, hl, hc]
          have hb1 : (y == v) = true := by simpa using hc
          rw [hf] at hS
          simp only [if_true] at hS
          have HS := Lib.hid hS
          clear hf hS hc
          go_enter Try.func73, Try.ntmps73
          go_wp2_with fail
          refine (specColumn x u _).mono ?_
          rintro e w1 ⟨rfl, rfl⟩
          go_wp2_with fail
          go_ret
          exact ⟨ret_int64 HS.out, gb_alloc (gb_refl _ _) _⟩
        · have hf : firstG (mixRule 3 b) x y u v = false := by simp [firstG, mixRule, hl, hc]
          have hb1 : (y == v) = false := by simpa using hc
          rw [hf] at hS
          simp only [if_true, if_false, Bool.false_eq_true] at hS
          have HS := Lib.hid hS
          clear hf hS hc
          go_enter Try.func73, Try.ntmps73
          go_wp2_with fail
          refine (specRow y v _).mono ?_
          rintro e w1 ⟨rfl, rfl⟩
          go_wp2_with fail
          go_ret
          exact ⟨ret_int64 HS.out, gb_alloc (gb_refl _ _) _⟩
    · rcases (show b % 2 = 0 ∨ b % 2 = 1 by omega) with hpar | hpar
      · by_cases hc : x = u
        · have hf : firstG (mixRule 4 b) x y u v = false := by simp [firstG, mixRule, hpar, hc]
          have hb1 : (x != u) = false := by simpa using hc
          rw [hf] at hS
          simp only [if_true, if_false, Bool.false_eq_true] at hS
          have HS := Lib.hid hS
          clear hf hS hc
          go_enter Try.func73, Try.ntmps73
          go_wp2_with fail
          refine (specRow y v _).mono ?_
          rintro e w1 ⟨rfl, rfl⟩
          go_wp2_with fail
          go_ret
          exact ⟨ret_int64 HS.out, gb_alloc (gb_refl _ _) _⟩
        · have hf : firstG (mixRule 4 b) x y u v = true := by simp [firstG, mixRule, hpar, hc]
          have hb1 : (x != u) = true := by simpa using hc
          rw [hf] at hS
          simp only [if_true] at hS
          have HS := Lib.hid hS
          clear hf hS hc
          go_enter Try.func73, Try.ntmps73
          go_wp2_with fail
          refine (specColumn x u _).mono ?_
          rintro e w1 ⟨rfl, rfl⟩
          go_wp2_with fail
          go_ret
          exact ⟨ret_int64 HS.out, gb_alloc (gb_refl _ _) _⟩
      · by_cases hc : y = v
        · have hf : firstG (mixRule 4 b) x y u v = true := by simp [firstG, mixRule, hpar, hc]
          have hb1 : (y == v) = true := by simpa using hc
          rw [hf] at hS
          simp only [if_true] at hS
          have HS := Lib.hid hS
          clear hf hS hc
          go_enter Try.func73, Try.ntmps73
          go_wp2_with fail
          refine (specColumn x u _).mono ?_
          rintro e w1 ⟨rfl, rfl⟩
          go_wp2_with fail
          go_ret
          exact ⟨ret_int64 HS.out, gb_alloc (gb_refl _ _) _⟩
        · have hf : firstG (mixRule 4 b) x y u v = false := by simp [firstG, mixRule, hpar, hc]
          have hb1 : (y == v) = false := by simpa using hc
          rw [hf] at hS
          simp only [if_true, if_false, Bool.false_eq_true] at hS
          have HS := Lib.hid hS
          clear hf hS hc
          go_enter Try.func73, Try.ntmps73
          go_wp2_with fail
          refine (specRow y v _).mono ?_
          rintro e w1 ⟨rfl, rfl⟩
          go_wp2_with fail
          go_ret
          exact ⟨ret_int64 HS.out, gb_alloc (gb_refl _ _) _⟩
end Go.Proofs.Ytfloekbmgjmhbaa
end

section
namespace Go.Proofs.Ytfloekbmgjmhbaa
open Go.ChangeShapes Go.WideShapes Go.ChangeAt Go.RowKit
set_option linter.unusedVariables false

theorem box2 {w w1 : World} {T U : TypeId} {cs ds : Array Value} (h : ((w.alloc (.cells cs T)).alloc (.cells ds U)).grownBy w1 none) :
    Blk w1 w.heap.size T cs ∧ Blk w1 (w.heap.size + 1) U ds ∧ w.grownBy w1 none := by
  refine ⟨((Blk.new w T cs).alloc _).grown h (by simp), ?_, gb_trans (gb_alloc (gb_alloc (gb_refl _ _) _) _) h⟩
  have := (Blk.new (w.alloc (.cells cs T)) U ds).grown h (by simp)
  rwa [alloc_size] at this
theorem sq_bounds {k : Int} (h0 : 0 ≤ k) (h1 : k ≤ 16) : 0 ≤ k * k ∧ k * k ≤ 256 := by
  have e : k = (k.toNat : Int) := (Int.toNat_of_nonneg h0).symm
  have h2 : k.toNat ≤ 16 := by omega
  have h3 : k.toNat * k.toNat ≤ 16 * 16 := Nat.mul_le_mul h2 h2
  rw [e, ← Int.natCast_mul]
  omega
end Go.Proofs.Ytfloekbmgjmhbaa
end

section
namespace Go.Proofs.Ytfloekbmgjmhbaa
open Go.ChangeShapes Go.WideShapes Go.ChangeAt Go.RowKit
set_option linter.unusedVariables false

theorem gb_undraw1 {a b : World} {row : Option Nat} (h : a.drew.grownBy b row) : a.grownBy b row := ⟨h.os, h.tape, h.output, h.size, h.block⟩
/-- A new table with these entries. -/
def NewTabS (P : List Int) (w : World) (e : Ending) (w' : World) : Prop :=
  ∃ v, e = .returned (.agg #[v]) ∧ w'.ownsRow w.heap.size 3 1 v P.length (intsV P) ∧ Below w.heap.size w w'
def MakeAt (W H r : Int) (w : World) (k : Nat) (v : Value) (wr : World) : Prop :=
  Blk wr w.heap.size 25 #[.int .i64 W, .int .i64 H] ∧ Blk wr (w.heap.size + 1) 30 #[.slice none 0 0] ∧ Blk wr (w.heap.size + 1 + 1) 30 #[v] ∧
  wr.ownsRow (w.heap.size + 3) 3 1 v k (intsV (stdTo W H r k)) ∧ Below w.heap.size w wr
theorem MakeAt.app {W H r : Int} {w wr w5 : World} {k : Nat} {v v' : Value} {o : Obj} (h : MakeAt W H r w k v wr) (hg : (wr.alloc o).grownBy w5 v.ownBlock)
    (ho : w5.ownsRow (w.heap.size + 3) 3 1 v' (k + 1) (intsV (stdTo W H r k) ++ [.int .i64 (stdPort W r ((k : Int) / countG W H) ((k : Int) % countG W H))])) :
    MakeAt W H r w (k + 1) v' (w5.setCell ⟨w.heap.size + 1 + 1, 0, none⟩ v') := by
  obtain ⟨h0, h1, h2, hown, hb⟩ := h
  have hne : ∀ g, g < w.heap.size + 3 → some g ≠ v.ownBlock := fun g hg e => by have := (hown.lt g e.symm).1; omega
  refine ⟨((h0.alloc o).grown hg (hne _ (by omega))).far (by show w.heap.size ≠ w.heap.size + 1 + 1; omega) _, ((h1.alloc o).grown hg (hne _ (by omega))).far (by show w.heap.size + 1 ≠ w.heap.size + 1 + 1; omega) _, ?_, ?_, ?_⟩
  · have := ((h2.alloc o).grown hg (hne _ (by omega))).set_ 0 v'
    simpa using this
  · rw [stdTo_succ, intsV_append]
    exact ownsRow_setCell_below ho (by show w.heap.size + 1 + 1 < w.heap.size + 3; omega) _
  · have h3 := (hb.alloc hb.size o).grown hg (by have := hb.size; simp; omega) (fun j hj => by have := (hown.lt j hj).1; omega)
    exact gb_below_none (gb_setCell (gb_of_below h3 none) (.inr (by show w.heap.size ≤ w.heap.size + 1 + 1; omega)) _) (Nat.le_refl _)
theorem MakeAt.none {W H r : Int} {w wr w5 : World} {k : Nat} {v : Value} (h : MakeAt W H r w k v wr) (hg : wr.grownBy w5 none) : MakeAt W H r w k v w5 :=
  ⟨h.1.grown hg (by simp), h.2.1.grown hg (by simp), h.2.2.1.grown hg (by simp), own_none h.2.2.2.1 hg, below_gb h.2.2.2.2 (Nat.le_refl _) hg⟩

theorem specNodeCountV2 (W H k : Int) (h : countG W H = k) (w : World) :
    Calls Try.prog 72 #[.agg #[.int .i64 W, .int .i64 H]] w (RetI k none w) := h ▸ specNodeCount W H w

set_option maxRecDepth 100000 in
theorem specMake (W H r : Int) (hok : okG W H = true) (hr1 : 1 ≤ r) (hr4 : r ≤ 4) (w : World) :
    Calls Try.prog 33 #[.agg #[.int .i64 W, .int .i64 H], .int .i64 r] w (NewTabS (stdTab W H r) w) := by
  obtain ⟨i0, hi, hz0, hz1, hz2⟩ := info_parts info_int
  obtain ⟨k, hk⟩ : ∃ k, countG W H = k := ⟨_, rfl⟩
  obtain ⟨hk0, hk1⟩ := countG_le W H
  have hsq := sq_int W H
  have hsl := sq_le W H
  rw [hk] at hk0 hk1 hsq
  obtain ⟨m0, m1⟩ := sq_bounds hk0 hk1
  have HSQ := Lib.hid hsq
  have hw : wrap64 (k * k) = k * k := IntWalk.wrap64_in _ (by omega)
  have HN := Lib.hid (fun w => specNodeCountV2 W H k hk w)
  have HK := Lib.hid hk
  have hk1' : 1 ≤ k := by
    obtain ⟨hW, hH⟩ := okG_cases hok
    have hkc : k = W * H := by rw [← hk]; simp [countG, hok]
    rw [hkc]
    rcases hW with rfl | rfl | rfl | rfl <;> rcases hH with rfl | rfl | rfl | rfl <;> decide
  have HR := Lib.hid (And.intro hr1 hr4)
  have hB : MakeAt W H r w 0 (.slice none 0 0) (((w.alloc (.cells #[.int .i64 W, .int .i64 H] 25)).alloc (.cells #[.slice none 0 0] 30)).alloc (.cells #[.slice none 0 0] 30)) := by
    refine ⟨(((Blk.new w _ _).alloc _).alloc _), ?_, ?_, World.ownsRow_nil _ _ _ _, ?_⟩
    · have := Blk.new (w.alloc (.cells #[.int .i64 W, .int .i64 H] 25)) 30 #[.slice none 0 0]
      rw [alloc_size] at this
      exact this.alloc _
    · have := Blk.new ((w.alloc (.cells #[.int .i64 W, .int .i64 H] 25)).alloc (.cells #[.slice none 0 0] 30)) 30 #[.slice none 0 0]
      rw [alloc_size, alloc_size] at this
      exact this
    · exact gb_below_none (gb_alloc (gb_alloc (gb_alloc (gb_refl w none) _) _) _) (Nat.le_refl _)
  have HB := Lib.hid hB
  clear hk hsq hB hr1 hr4 hok
  go_enter Try.func33, Try.ntmps33
  go_wp2_with fail
  refine (HN.out _).mono ?_
  rintro e w1 ⟨rfl, hg⟩
  have HX := Lib.hid (HB.out.none hg)
  clear hg
  go_wp2_with fail
  go_loopw [7] (fun i wr => ∃ (x : Nat) (v : Value), i = .int .i64 (x : Int) ∧ (x : Int) ≤ k * k ∧ MakeAt W H r w x v wr) (fun i _ => 257 - (intOf i).toNat)
  case atStart => exact ⟨0, _, rfl, by omega, HX.out⟩
  case round =>
    obtain ⟨x, v, rfl, hx, hmk⟩ := hrel
    have HMK := Lib.hid hmk
    have a0 : wr.cell? ⟨w.heap.size, 0, none⟩ = some (.int .i64 W) := hmk.1.cell 0
    have a1 : wr.cell? ⟨w.heap.size, 1, none⟩ = some (.int .i64 H) := hmk.1.cell 1
    have b1 : wr.cell? ⟨w.heap.size + 1, 0, none⟩ = some (.slice none 0 0) := hmk.2.1.cell 0
    have b2 : wr.cell? ⟨w.heap.size + 1 + 1, 0, none⟩ = some v := hmk.2.2.1.cell 0
    have f1 := hmk.2.1.frozen 0
    have f2 := hmk.2.2.1.frozen 0
    by_cases hlt : (x : Int) < k * k
    · obtain ⟨hax, hay⟩ := pair_at (W := W) (H := H) (i := x) (by have := HSQ.out; omega)
      obtain ⟨u, hu⟩ : ∃ u, (x : Int) / countG W H = u := ⟨_, rfl⟩
      obtain ⟨y, hy⟩ : ∃ y, (x : Int) % countG W H = y := ⟨_, rfl⟩
      rw [hu] at hax
      rw [hy] at hay
      have hu15 := hasG_le hax
      have hy15 := hasG_le hay
      have HU := Lib.hid hu
      have HY := Lib.hid hy
      rw [HK.out] at hu hy
      have q1 : (x : Int).tdiv k = u := by rw [Int.tdiv_eq_ediv_of_nonneg (by omega)]; exact hu
      have q2 : (x : Int).tmod k = y := by rw [Int.tmod_eq_emod_of_nonneg (by omega)]; exact hy
      have q3 : IntKind.i64.wrap u = u := IntWalk.i64_in _ (by omega)
      have q4 : IntKind.i64.wrap y = y := IntWalk.i64_in _ (by omega)
      have q5 : (k == 0) = false := by simp; omega
      have q6 : k ≠ 0 := by omega
      obtain ⟨p, hp⟩ : ∃ p, stdPort W r u y = p := ⟨_, rfl⟩
      have HPT := Lib.hid (fun w => hp ▸ specStdPort W H r u y HR.out.1 HR.out.2 hax hay w)
      have HP := Lib.hid hp
      have hx257 : x + 1 ≤ maxLen := by unfold maxLen; omega
      have hx8 : (x + 1) * 8 ≤ 140737488355328 := by omega
      have c4 : ∀ z ∈ [Value.int .i64 p], z.oneCell' = true := by simp [Value.oneCell']
      clear hax hay hu hy hmk hp
      go_wp2_with fail
      go_region_law
        (first
          | (go_simp; (with_reducible refine (HPT.out _).mono ?_); rintro e w4 ⟨rfl, hg4⟩; have M4 := Lib.hid (HMK.out.none (gb_undraw1 hg4)); have d0 : w4.cell? ⟨w.heap.size, 0, none⟩ = some (.int .i64 W) := M4.out.1.cell 0; have d1 : w4.cell? ⟨w.heap.size, 1, none⟩ = some (.int .i64 H) := M4.out.1.cell 1; have d2 : w4.cell? ⟨w.heap.size + 1 + 1, 0, none⟩ = some v := M4.out.2.2.1.cell 0; have d3 : (w4.alloc (.cells #[.int .i64 p] 3)).cell? ⟨w.heap.size + 1 + 1, 0, none⟩ = some v := (M4.out.2.2.1.alloc _).cell 0; have s4 : w.heap.size + 3 ≤ (w4.alloc (.cells #[.int .i64 p] 3)).heap.size := by have := M4.out.2.2.1.lt; rw [alloc_size]; omega
             have o4 := M4.out.2.2.2.1.alloc (.cells #[.int .i64 p] 3); clear hg4; go_simp)
          | (refine step_append_lies _ (by rfl) _ _ _ (by rfl) (w.heap.size + 3) 3 i0 _ 1 8 Try.underlying26 hi hz0 hz1 hz2 rfl (by omega) v x (intsV (stdTo W H r x)) (by rfl) o4
              ⟨w4.heap.size, 0, none⟩ 1 1 [.int .i64 p] (by rfl) (by rfl) (World.news_of_block (cs := #[.int .i64 p]) (t := 3) (fr := (0, 0)) (heap_alloc_new w4 _)) c4
              (by omega) hx257 hx8 s4 (w4.heap.size + 1) (by simp) ?_; intro g cap w5 hown5 hgrow hat hltg; have M5 := Lib.hid (MakeAt.app M4.out hgrow (by rw [HU.out, HY.out, HP.out]; exact hown5)); have hne : ∀ j, j < w.heap.size + 3 → some j ≠ v.ownBlock := fun j hj e => by have := (M4.out.2.2.2.1.lt j e.symm).1; omega
             have k0 := (M4.out.1.alloc (.cells #[.int .i64 p] 3)).grown hgrow (hne _ (by omega)); have k2 := (M4.out.2.2.1.alloc (.cells #[.int .i64 p] 3)).grown hgrow (hne _ (by omega)); have e0 : w5.cell? ⟨w.heap.size, 0, none⟩ = some (.int .i64 W) := k0.cell 0; have e1 : w5.cell? ⟨w.heap.size, 1, none⟩ = some (.int .i64 H) := k0.cell 1; have e2 : w5.cell? ⟨w.heap.size + 1 + 1, 0, none⟩ = some v := k2.cell 0; have f5 := k2.frozen 0; clear k0 k2 hne hown5 hgrow hat hltg)
          | fail)
      all_goals
        go_wp2_with fail
        go_roundw
        case rel => exact ⟨x + 1, _, by go_num, by omega, M5.out⟩
        case measure => simp [intOf]; omega
    · have hxk : x = sqG W H := by have := HSQ.out; omega
      have HE := Lib.hid hxk
      obtain ⟨Av, cv, rfl, _⟩ := own_form hmk.2.2.2.1
      clear hxk
      have h1 := (hmk.2.1.set_ 0 (.slice Av x cv)).cell 0
      simp at h1
      have O := Lib.hid hmk.2.2.2.1
      have BE := Lib.hid hmk.2.2.2.2
      clear hmk
      go_wp2_with fail
      refine bodyPost_ret (v := .agg #[.slice Av x cv]) (by simp [results, Try.results33, go_sem, h1]) rfl ⟨_, rfl, ?_, ?_⟩
      · have := ownsRow_setCell_below O.out (a := ⟨w.heap.size + 1, 0, none⟩) (by show w.heap.size + 1 < w.heap.size + 3; omega) (.slice Av x cv)
        rw [stdTab, stdTo_len, ← HE.out]
        exact own_less this (by omega)
      · exact gb_below_none (gb_setCell (gb_of_below BE.out none) (.inr (by show w.heap.size ≤ w.heap.size + 1; omega)) _) (Nat.le_refl _)
end Go.Proofs.Ytfloekbmgjmhbaa
end

section
namespace Go.Proofs.Ytfloekbmgjmhbaa
open Go.ChangeShapes Go.WideShapes Go.ChangeAt Go.RowKit
set_option linter.unusedVariables false
set_option maxRecDepth 20000

/-- A mesh without broken channels, two standard tables and packets. -/
def DrawnTr (w : World) (e : Ending) (w' : World) : Prop := ∃ (W H r s : Int) (v u x : Value) (D : List Pkt), e = .returned (.tuple #[.agg #[.int .i64 W, .int .i64 H, .slice none 0 0], .agg #[v, u], x]) ∧ okG W H = true ∧ (1 ≤ r ∧ r ≤ 4 ∧ 1 ≤ s ∧ s ≤ 4) ∧
  VRow w' w.heap.size v u (stdTab W H r).length (stdTab W H s).length (stdTab W H r) (stdTab W H s) ∧ w'.ownsRow w.heap.size 44 5 x D.length (recV pktC D) ∧ (D.length ≤ 6 ∧ PksOk W H D) ∧ Below w.heap.size w w'
theorem Chg.swT {lo hi : Nat} {a b : World} (h : Chg lo hi a b) {k : Nat} (h1 : lo ≤ k) (h2 : k < hi) (i : Nat) (u : Value) : Chg lo hi a (b.setCell ⟨k, i, Option.none⟩ u) := h.st (.inr ⟨h1, h2⟩) u
theorem gbS {a w : World} {row : Option Nat} {g : Nat} (h : a.grownBy w row) (hg : a.heap.size ≤ g) (i : Nat) (u : Value) : a.grownBy (w.setCell ⟨g, i, none⟩ u) row := gb_setCell h (p := ⟨g, i, none⟩) (.inr hg) u
theorem blk_cur {w : World} {b g : Nat} {t : TypeId} {cs : Array Value} (h : Blk w b t cs) (hc : Cur w g) (ht : t ≠ 107) : some b ≠ some g := by
  intro e
  cases e
  obtain ⟨A, n, cap, i, h2, hb, _⟩ := hc
  unfold Blk at h hb
  rw [h] at hb
  injection hb with hb
  injection hb with _ h3 _
  exact ht h3
theorem VRow.box {w : World} {base a b2 b : Nat} {v u : Value} {R C : List Int} {cs : Array Value} (h : VRow w base v u a b2 R C) (hb : Blk w b 32 cs) (x y : Value) : VRow ((w.setCell ⟨b, 0, none⟩ x).setCell ⟨b, 1, none⟩ y) base v u a b2 R C := by
  have hg : w.grownBy ((w.setCell ⟨b, 0, none⟩ x).setCell ⟨b, 1, none⟩ y) (some b) := gb_setCell (gb_setCell (gb_refl _ _) (p := ⟨b, 0, none⟩) (.inl rfl) x) (p := ⟨b, 1, none⟩) (.inl rfl) y
  exact ⟨row_keptR h.r hg (fun j e1 e2 => by cases e1; exact own_ne h.r hb (by decide) e2), row_keptR h.c hg (fun j e1 e2 => by cases e1; exact own_ne h.c hb (by decide) e2), h.ap⟩
theorem cur_box {w : World} {g b : Nat} (h : Cur w g) (hb : g < b) (x y : Value) : Cur ((w.setCell ⟨b, 0, none⟩ x).setCell ⟨b, 1, none⟩ y) g := cur_far (cur_far h (p := ⟨b, 0, none⟩) hb x) (p := ⟨b, 1, none⟩) hb y
theorem cur_al {w : World} {g : Nat} (h : Cur w g) (o : Obj) : Cur (w.alloc o) g := h.grown (gb_alloc (gb_refl _ none) o) (fun k e => by cases e)
set_option maxHeartbeats 8000000 in
theorem drawTraffic (A : Option Addr) (n cap : Nat) (w : World) (hr : ByteRow w w.heap.size A n) (hn : n ≤ 1048576) :
    Calls Try.prog 8 #[.slice A n cap] w (DrawnTr w) := by
  have hg0 : w.grownBy ((w.alloc (.cells #[.int .i64 0, .int .i64 0, .slice none 0 0] 28)).alloc (.cells #[.slice none 0 0, .slice none 0 0] 32)) none := gb_alloc (gb_alloc (gb_refl w none) _) _
  have hs0 : ((w.alloc (.cells #[.int .i64 0, .int .i64 0, .slice none 0 0] 28)).alloc (.cells #[.slice none 0 0, .slice none 0 0] 32)).heap.size = w.heap.size + 2 := by rw [alloc_size, alloc_size]
  have hr0 : ByteRow ((w.alloc (.cells #[.int .i64 0, .int .i64 0, .slice none 0 0] 28)).alloc (.cells #[.slice none 0 0, .slice none 0 0] 32)) ((w.alloc (.cells #[.int .i64 0, .int .i64 0, .slice none 0 0] 28)).alloc (.cells #[.slice none 0 0, .slice none 0 0] 32)).heap.size A n := (hr.keep fun p hp => World.cell?_of_block (hg0.block p.block hp (by simp))).more (by rw [hs0]; omega)
  have hbM : Blk ((w.alloc (.cells #[.int .i64 0, .int .i64 0, .slice none 0 0] 28)).alloc (.cells #[.slice none 0 0, .slice none 0 0] 32)) w.heap.size 28 #[.int .i64 0, .int .i64 0, .slice none 0 0] := (Blk.new w _ _).alloc _
  have hbT : Blk ((w.alloc (.cells #[.int .i64 0, .int .i64 0, .slice none 0 0] 28)).alloc (.cells #[.slice none 0 0, .slice none 0 0] 32)) (w.heap.size + 1) 32 #[.slice none 0 0, .slice none 0 0] := by
    have := Blk.new (w.alloc (.cells #[.int .i64 0, .int .i64 0, .slice none 0 0] 28)) 32 #[.slice none 0 0, .slice none 0 0]
    rwa [alloc_size] at this
  clear hr
  go_enter Try.func8, Try.ntmps8
  go_wp2_with fail
  generalize (w.alloc (.cells #[.int .i64 0, .int .i64 0, .slice none 0 0] 28)).alloc (.cells #[.slice none 0 0, .slice none 0 0] 32) = w0 at *
  refine (l01New _ _ _ _ hr0 hn).mono ?_
  rintro e wa ⟨g, rfl, hg, ca, ba⟩
  have BM := Lib.hid (hbM.below ba (by omega))
  have BT := Lib.hid (hbT.below ba (by omega))
  have BA := Lib.hid ((gb_below_none hg0 (Nat.le_refl _)).trans (ba.mono (by omega)))
  have SA := Lib.hid ba.size
  have HG := Lib.hid (show w.heap.size + 2 ≤ g by omega)
  clear hbM hbT hg0 ba hr0
  go_wp2_with fail
  refine (l14Grid g _ ca).mono ?_
  rintro e wb ⟨W, H, rfl, hok, h2, cb, gb⟩
  have HOK := Lib.hid hok
  have H2 := Lib.hid h2
  have hgb : g < wb.heap.size := cb.lt
  obtain ⟨G, hG⟩ : ∃ G, wb.heap.size = G := ⟨_, rfl⟩
  have GA := gb_alloc gb (.cells #[.int .i64 W, .int .i64 H] 25)
  have HM1 := Lib.hid (BM.out.grown GA (fun e => by cases e; have := HG.out; omega))
  have HT1 := Lib.hid (BT.out.grown GA (fun e => by cases e; have := HG.out; omega))
  have hq := Blk.new wb 25 #[.int .i64 W, .int .i64 H]
  have c1 := cur_al cb (.cells #[.int .i64 W, .int .i64 H] 25)
  have B1 := Lib.hid (BA.out.trans ((gb_below (B := w.heap.size) GA (by have := SA.out; omega) (by have := HG.out; omega))))
  have hs1 : (wb.alloc (.cells #[.int .i64 W, .int .i64 H] 25)).heap.size = wb.heap.size + 1 := alloc_size _ _
  rw [hG] at hq hs1 hgb
  have c0 : (wb.alloc (.cells #[.int .i64 W, .int .i64 H] 25)).cell? ⟨G, 0, none⟩ = some (.int .i64 W) := hq.cell 0
  have c01 : (wb.alloc (.cells #[.int .i64 W, .int .i64 H] 25)).cell? ⟨G, 1, none⟩ = some (.int .i64 H) := hq.cell 1
  clear ca hok h2 cb gb GA c0 c01
  go_wp2_with fail
  try rw [hG]
  generalize wb.alloc (.cells #[.int .i64 W, .int .i64 H] 25) = w1 at *
  have HQ1 := Lib.hid hq
  have HS1 := Lib.hid (And.intro hs1 hgb)
  have HGL := Lib.hid (show g < w1.heap.size by omega)
  have G1 := Lib.hid (gb_refl w1 (some g))
  have KP := Lib.hid (show ∀ w', w1.grownBy w' (some g) → w'.cell? ⟨G, 0, none⟩ = some (.int .i64 W) ∧ w'.cell? ⟨G, 1, none⟩ = some (.int .i64 H) from fun w' hw => by
    have k := HQ1.out.grown hw (fun e => by cases e; have := HS1.out.2; omega)
    exact ⟨k.cell 0, k.cell 1⟩)
  have HC1d : Hid (Cur w1.drew g) := Lib.hid c1
  have HC1a : Hid (Cur (w1.alloc (.cells #[.slice none 0 0, .slice none 0 0] 32)).drew g) := Lib.hid (cur_al c1 (.cells #[.slice none 0 0, .slice none 0 0] 32))
  have HC1b : Hid (Cur (w1.drew.alloc (.cells #[.slice none 0 0, .slice none 0 0] 32)) g) := Lib.hid (cur_al (w := w1.drew) c1 (.cells #[.slice none 0 0, .slice none 0 0] 32))
  have C1 := Lib.hid c1
  clear c1 hq hs1 hgb hG
  go_cut [7] from 12 (fun s7 wc => ∃ (b : Nat) (x y : Int) (v u : Value), s7 = .pointer (some ⟨b, 0, none⟩) ∧ (0 ≤ x ∧ x < 4 ∧ 0 ≤ y ∧ y < 4) ∧ w1.grownBy wc (some g) ∧ Blk wc b 32 #[v, u] ∧ VRow wc w1.heap.size v u (stdTab W H (1 + x)).length (stdTab W H (1 + y)).length (stdTab W H (1 + x)) (stdTab W H (1 + y)) ∧ Cur wc g ∧ w1.heap.size ≤ b)
  case first =>
    go_region_held3 (fun w' => w'.cell? ⟨G, 0, none⟩ = some (.int .i64 W) ∧ w'.cell? ⟨G, 1, none⟩ = some (.int .i64 H))
      (first | with_reducible exact KP.out _ G1.out | with_reducible exact KP.out _ (gb_alloc G1.out (.cells #[.slice none 0 0, .slice none 0 0] 32)) | with_reducible exact KP.out _ (gb_drew G1.out) | with_reducible exact KP.out _ (gb_drew (gb_alloc G1.out (.cells #[.slice none 0 0, .slice none 0 0] 32))) | with_reducible exact KP.out _ (gb_alloc (gb_drew G1.out) (.cells #[.slice none 0 0, .slice none 0 0] 32)) | with_reducible exact KP.out _ G2.out | with_reducible exact KP.out _ (gb_alloc G2.out (.cells #[.slice none 0 0, .slice none 0 0] 32)) | with_reducible exact KP.out _ G3.out | with_reducible exact KP.out _ (gb_alloc G3.out (.cells #[.slice none 0 0, .slice none 0 0] 32)) | with_reducible exact KP.out _ G4.out | with_reducible exact KP.out _ (gb_alloc G4.out (.cells #[.slice none 0 0, .slice none 0 0] 32)) | with_reducible exact KP.out _ G5.out | with_reducible exact KP.out _ (gb_alloc G5.out (.cells #[.slice none 0 0, .slice none 0 0] 32)) | with_reducible exact KP.out _ (gb_alloc G5.out _) | with_reducible exact KP.out _ (gbS G5.out (Nat.le_refl _) 0 _) | with_reducible exact KP.out _ (gbS (gbS G5.out (Nat.le_refl _) 0 _) (Nat.le_refl _) 1 _) | with_reducible exact KP.out _ (gbS (gb_alloc G5.out (.cells #[.slice none 0 0, .slice none 0 0] 32)) (Nat.le_refl _) 0 _) | with_reducible exact KP.out _ (gbS (gbS (gb_alloc G5.out (.cells #[.slice none 0 0, .slice none 0 0] 32)) (Nat.le_refl _) 0 _) (Nat.le_refl _) 1 _) | with_reducible exact KP.out _ (gbS G5.out S2.out 0 _) | with_reducible exact KP.out _ (gbS (gbS G5.out S2.out 0 _) S2.out 1 _) | with_reducible exact KP.out _ (gbS (gb_alloc G5.out (.cells #[.slice none 0 0, .slice none 0 0] 32)) S2.out 0 _) | with_reducible exact KP.out _ (gbS (gbS (gb_alloc G5.out (.cells #[.slice none 0 0, .slice none 0 0] 32)) S2.out 0 _) S2.out 1 _) | with_reducible exact KP.out _ (gbS G5.out S3.out 0 _) | with_reducible exact KP.out _ (gbS (gbS G5.out S3.out 0 _) S3.out 1 _) | with_reducible exact KP.out _ (gbS (gb_alloc G5.out (.cells #[.slice none 0 0, .slice none 0 0] 32)) S3.out 0 _) | with_reducible exact KP.out _ (gbS (gbS (gb_alloc G5.out (.cells #[.slice none 0 0, .slice none 0 0] 32)) S3.out 0 _) S3.out 1 _) | with_reducible exact KP.out _ (gbS G5.out S4.out 0 _) | with_reducible exact KP.out _ (gbS (gbS G5.out S4.out 0 _) S4.out 1 _) | with_reducible exact KP.out _ (gbS (gb_alloc G5.out (.cells #[.slice none 0 0, .slice none 0 0] 32)) S4.out 0 _) | with_reducible exact KP.out _ (gbS (gbS (gb_alloc G5.out (.cells #[.slice none 0 0, .slice none 0 0] 32)) S4.out 0 _) S4.out 1 _) | with_reducible exact KP.out _ (gbS G5.out S5.out 0 _) | with_reducible exact KP.out _ (gbS (gbS G5.out S5.out 0 _) S5.out 1 _) | with_reducible exact KP.out _ (gbS (gb_alloc G5.out (.cells #[.slice none 0 0, .slice none 0 0] 32)) S5.out 0 _) | with_reducible exact KP.out _ (gbS (gbS (gb_alloc G5.out (.cells #[.slice none 0 0, .slice none 0 0] 32)) S5.out 0 _) S5.out 1 _) | fail)
      (first
        | (go_at_call 34; (first | (with_reducible refine (l01Below 4 g _ HC3.out).mono ?_) | (with_reducible refine (l01Below 4 g _ HC3a.out).mono ?_) | fail); rintro e w4 ⟨y, rfl, y0, y1, y2, hc4, hg4⟩; have y3 := y1 (by omega); have q2 : IntKind.i64.wrap (1 + y) = 1 + y := IntWalk.i64_in _ (by omega); have HY := Lib.hid (And.intro y0 y3); have HC4 := Lib.hid hc4; have G34 : w3.grownBy w4 (some g) := (by first | exact hg4 | exact gb_trans (gb_alloc (gb_refl w3 _) _) hg4); have G4 := Lib.hid (gb_trans G3.out G34); have S4 := Lib.hid (Nat.le_trans S3.out G34.size); have S34 := Lib.hid G34.size; have O4 := Lib.hid (row_keptR O3.out G34 (fun j e1 e2 => by cases e1; have h1 := (O3.out.lt _ e2).1; have h2 := HGL.out; omega)); (try (first | have ZZ4 := Lib.hid (ZZ3.out.grown hg4 (blk_cur ZZ3.out HC3.out (by decide))) | have ZZ4 := Lib.hid ((Blk.new w3 32 #[.slice none 0 0, .slice none 0 0]).grown hg4 (blk_cur (Blk.new w3 32 #[.slice none 0 0, .slice none 0 0]) HC3a.out (by decide))) | fail)); clear hc4 hg4 G34 y1 y2)
        | (go_at_call 34; (first | (with_reducible refine (l01Below 4 g _ HC1d.out).mono ?_) | (with_reducible refine (l01Below 4 g _ HC1a.out).mono ?_) | (with_reducible refine (l01Below 4 g _ HC1b.out).mono ?_) | fail); rintro e w2 ⟨x, rfl, x0, x1, x2, hc2, hg2⟩; have x3 := x1 (by omega); have q1 : IntKind.i64.wrap (1 + x) = 1 + x := IntWalk.i64_in _ (by omega); have HX := Lib.hid (And.intro x0 x3); have HC2 := Lib.hid hc2; have G12 : w1.grownBy w2 (some g) := (by first | exact gb_drF hg2 | exact gb_trans (gb_alloc (gb_refl w1 _) _) (gb_drF hg2) | exact gb_trans (gb_alloc (gb_drew (gb_refl w1 _)) _) hg2); have G2 := Lib.hid G12; have S2 := Lib.hid G12.size; (try (first | have ZZ2 := Lib.hid ((Blk.new w1 32 #[.slice none 0 0, .slice none 0 0]).grown (gb_drF hg2) (blk_cur (Blk.new w1 32 #[.slice none 0 0, .slice none 0 0]) HC1a.out (by decide))) | have ZZ2 := Lib.hid ((Blk.new w1.drew 32 #[.slice none 0 0, .slice none 0 0]).grown hg2 (blk_cur (Blk.new w1.drew 32 #[.slice none 0 0, .slice none 0 0]) HC1b.out (by decide))) | fail)); clear hc2 hg2 G12 x1 x2)
        | (go_at_call 33; (with_reducible refine (specMake W H (1 + x) HOK.out (by omega) (by omega) _).mono ?_); rintro e w3 ⟨v3, rfl, o3, b3⟩; obtain ⟨P, hP⟩ : ∃ P, stdTab W H (1 + x) = P := ⟨_, rfl⟩; rw [hP] at o3; have HPP := Lib.hid hP; clear hP; obtain ⟨A3, c3, rfl, _⟩ := own_form o3; have G23 : w2.grownBy w3 none := (by first | exact gb_of_below b3 none | exact gb_trans (gb_alloc (gb_refl w2 none) _) (gb_of_below b3 none)); have HC3 := Lib.hid (HC2.out.grown G23 (fun k e => by cases e)); have HC3a := Lib.hid (cur_al HC3.out (.cells #[.slice none 0 0, .slice none 0 0] 32)); have G3 := Lib.hid (gb_trans G2.out (gb_of_none G23 _)); have S3 := Lib.hid (Nat.le_trans S2.out G23.size); have O3 := Lib.hid (own_less o3 (show w1.heap.size ≤ _ by first | exact S2.out | (rw [alloc_size]; exact Nat.le_succ_of_le S2.out))); have L3 := Lib.hid (fun k e => (o3.lt k e).2); (try (first | have ZZ3 := Lib.hid (ZZ2.out.grown (gb_of_below b3 none) (by simp)) | have ZZ3 := Lib.hid ((Blk.new w2 32 #[.slice none 0 0, .slice none 0 0]).grown (gb_of_below b3 none) (by simp)) | fail)); clear G23 o3 b3)
        | (go_at_call 33; (with_reducible refine (specMake W H (1 + y) HOK.out (by omega) (by omega) _).mono ?_); rintro e w5 ⟨v5, rfl, o5, b5⟩; obtain ⟨Q, hQ⟩ : ∃ Q, stdTab W H (1 + y) = Q := ⟨_, rfl⟩; rw [hQ] at o5; have HQQ := Lib.hid hQ; clear hQ; obtain ⟨A5, c5, rfl, _⟩ := own_form o5; have G45 : w4.grownBy w5 none := (by first | exact gb_of_below b5 none | exact gb_trans (gb_alloc (gb_refl w4 none) _) (gb_of_below b5 none)); have C5 := Lib.hid (HC4.out.grown G45 (fun k e => by cases e)); have G5 := Lib.hid (gb_trans G4.out (gb_of_none G45 _)); have S5 := Lib.hid (Nat.le_trans S4.out G45.size); have V5 : Hid (VRow w5 w1.heap.size (.slice A3 P.length c3) (.slice A5 Q.length c5) P.length Q.length P Q) := Lib.hid ⟨own_none O4.out G45, own_less o5 (by first | exact S4.out | (rw [alloc_size]; exact Nat.le_succ_of_le S4.out)), fun k e1 e2 => by have h1 := L3.out k e1; have h2 := (o5.lt k e2).1; have h3 := S34.out; (try simp only [alloc_size] at h2); omega⟩; (try (first | have ZZ5 := Lib.hid (ZZ4.out.grown (gb_of_below b5 none) (by simp)) | have ZZ5 := Lib.hid ((Blk.new w4 32 #[.slice none 0 0, .slice none 0 0]).grown (gb_of_below b5 none) (by simp)) | fail); have zc0 : _ = some ((.slice none 0 0) : Value) := ZZ5.out.cell 0; have zf0 := ZZ5.out.frozen 0; have zc1 : _ = some ((.slice none 0 0) : Value) := ZZ5.out.cell 1; have zf1 := ZZ5.out.frozen 1); clear G45 o5 b5)
        | fail)
    all_goals
      go_wp2_with fail
      go_meet
      case rel => exact ⟨_, x, y, .slice A3 P.length c3, .slice A5 Q.length c5, rfl, ⟨HX.out.1, HX.out.2, HY.out.1, HY.out.2⟩, (by first | exact gb_alloc G5.out _ | exact gbS (gbS G5.out (by have h2 := S2.out; have h3 := S3.out; have h4 := S4.out; have h9 := S5.out; have h5 := HGL.out; (try simp only [alloc_size, drew_heap] at *); omega) 0 _) (by have h2 := S2.out; have h3 := S3.out; have h4 := S4.out; have h9 := S5.out; have h5 := HGL.out; (try simp only [alloc_size, drew_heap] at *); omega) 1 _ | fail), (by first | exact Blk.new _ _ _ | exact (by have hz := (ZZ5.out.set_ 0 (.slice A3 P.length c3)).set_ 1 (.slice A5 Q.length c5); simpa using hz) | fail), (by rw [HPP.out, HQQ.out]; first | exact V5.out.gb (gb_alloc (gb_refl _ none) _) | exact V5.out.box ZZ5.out _ _ | fail), (by first | exact cur_box C5.out (by have h2 := S2.out; have h3 := S3.out; have h4 := S4.out; have h9 := S5.out; have h5 := HGL.out; (try simp only [alloc_size, drew_heap] at *); omega) _ _ | exact cur_al C5.out _ | fail), (by have h2 := S2.out; have h3 := S3.out; have h4 := S4.out; have h9 := S5.out; have h5 := HGL.out; (try simp only [alloc_size, drew_heap] at *); omega)⟩
  case rest =>
    obtain ⟨b, x, y, v, u, rfl, hxy, gc, kb, vr, cc, hb⟩ := hcut
    obtain ⟨P, hP⟩ : ∃ P, stdTab W H (1 + x) = P := ⟨_, rfl⟩
    obtain ⟨Q, hQ⟩ : ∃ Q, stdTab W H (1 + y) = Q := ⟨_, rfl⟩
    rw [hP, hQ] at vr
    obtain ⟨A3, c3, rfl, _⟩ := own_form vr.r
    obtain ⟨A5, c5, rfl, _⟩ := own_form vr.c
    have HP := Lib.hid (And.intro hP hQ)
    have HXY := Lib.hid hxy
    have VR := Lib.hid vr
    have KB := Lib.hid kb
    have GC := Lib.hid gc
    have HB := Lib.hid hb
    have SC := Lib.hid gc.size
    have HQC := Lib.hid (HQ1.out.grown gc (fun e => by cases e; have := HS1.out.2; omega))
    have HMC := Lib.hid (HM1.out.grown gc (fun e => by cases e; have := HG.out; omega))
    have HTC := Lib.hid (HT1.out.grown gc (fun e => by cases e; have := HG.out; omega))
    have CC : Hid (Cur wc.drew g) := Lib.hid cc
    have BC := Lib.hid (B1.out.trans (gb_below (B := w.heap.size) gc (by have h1 := HGL.out; have h2 := HG.out; omega) (by have h2 := HG.out; omega)))
    have R0 := Lib.hid (Chg.refl w.heap.size (g + 1) wc)
    have M1 := Lib.hid (show w.heap.size < g + 1 by have := HG.out; omega)
    have M2 := Lib.hid (show w.heap.size ≤ w.heap.size + 1 by omega)
    have M3 := Lib.hid (show w.heap.size + 1 < g + 1 by have := HG.out; omega)
    have KQ := Lib.hid (show ∀ w', Chg w.heap.size (g + 1) wc w' → w'.cell? ⟨G, 0, none⟩ = some (.int .i64 W) ∧ w'.cell? ⟨G, 1, none⟩ = some (.int .i64 H) ∧ w'.cell? ⟨b, 0, none⟩ = some (.slice A3 P.length c3) ∧ w'.cell? ⟨b, 1, none⟩ = some (.slice A5 Q.length c5) from fun w' hw => by
      have k := HQC.out.chg hw (.inr (.inl (by have := HS1.out.2; omega)))
      have l := KB.out.chg hw (.inr (.inl (by have h1 := HGL.out; have h2 := HB.out; omega)))
      exact ⟨k.cell 0, k.cell 1, l.cell 0, l.cell 1⟩)
    clear hxy gc kb vr cc hb hP hQ
    go_wp2_with fail
    go_region_held3 (fun w' => w'.cell? ⟨G, 0, none⟩ = some (.int .i64 W) ∧ w'.cell? ⟨G, 1, none⟩ = some (.int .i64 H) ∧ w'.cell? ⟨b, 0, none⟩ = some (.slice A3 P.length c3) ∧ w'.cell? ⟨b, 1, none⟩ = some (.slice A5 Q.length c5))
      (first | with_reducible exact KQ.out _ R0.out | with_reducible exact KQ.out _ R0.out.dr | with_reducible exact KQ.out _ R7.out | with_reducible exact KQ.out _ (R7.out.swT (Nat.le_refl _) M1.out 0 (.int .i64 W)) | with_reducible exact KQ.out _ ((R7.out.swT (Nat.le_refl _) M1.out 0 (.int .i64 W)).swT (Nat.le_refl _) M1.out 1 (.int .i64 H)) | with_reducible exact KQ.out _ (((R7.out.swT (Nat.le_refl _) M1.out 0 (.int .i64 W)).swT (Nat.le_refl _) M1.out 1 (.int .i64 H)).swT (Nat.le_refl _) M1.out 2 (.slice none 0 0)) | with_reducible exact KQ.out _ ((((R7.out.swT (Nat.le_refl _) M1.out 0 (.int .i64 W)).swT (Nat.le_refl _) M1.out 1 (.int .i64 H)).swT (Nat.le_refl _) M1.out 2 (.slice none 0 0)).swT M2.out M3.out 0 (.slice A3 P.length c3)) | with_reducible exact KQ.out _ (((((R7.out.swT (Nat.le_refl _) M1.out 0 (.int .i64 W)).swT (Nat.le_refl _) M1.out 1 (.int .i64 H)).swT (Nat.le_refl _) M1.out 2 (.slice none 0 0)).swT M2.out M3.out 0 (.slice A3 P.length c3)).swT M2.out M3.out 1 (.slice A5 Q.length c5)) | fail)
      (first
        | (go_at_call 35; (with_reducible refine (l16Packets W H g _ CC.out HOK.out H2.out).mono ?_); rintro e w7 ⟨z, D, rfl, o7, hD, c7, g7⟩; obtain ⟨A7, c8, rfl, _⟩ := own_form o7; have HD := Lib.hid hD; have R7 := Lib.hid (R0.out.dr.row g7 (fun j e => by cases e; have := HG.out; omega)); have F7 := Lib.hid (fix_row o7); have S7 := Lib.hid g7.size; have FV := Lib.hid (fix_vrow VR.out); have HM7 := Lib.hid (HMC.out.grown (gb_drF g7) (fun e => by cases e; have := HG.out; omega)); have HT7 := Lib.hid (HTC.out.grown (gb_drF g7) (fun e => by cases e; have := HG.out; omega)); have m0 : w7.cell? ⟨w.heap.size, 0, none⟩ = some (.int .i64 0) := HM7.out.cell 0; have f0 := HM7.out.frozen 0; have m1 : w7.cell? ⟨w.heap.size, 1, none⟩ = some (.int .i64 0) := HM7.out.cell 1; have f1 := HM7.out.frozen 1; have m2 : w7.cell? ⟨w.heap.size, 2, none⟩ = some (.slice none 0 0) := HM7.out.cell 2; have f2 := HM7.out.frozen 2; have t0 : w7.cell? ⟨w.heap.size + 1, 0, none⟩ = some (.slice none 0 0) := HT7.out.cell 0; have f3 := HT7.out.frozen 0; have t1 : w7.cell? ⟨w.heap.size + 1, 1, none⟩ = some (.slice none 0 0) := HT7.out.cell 1; have f4 := HT7.out.frozen 1; clear o7 hD c7 g7)
        | fail)
    all_goals
      have kk := ((((HM7.out.set_ 0 (.int .i64 W)).set_ 1 (.int .i64 H)).set_ 2 (.slice none 0 0)).far (p := ⟨w.heap.size + 1, 0, none⟩) (by show w.heap.size ≠ w.heap.size + 1; omega) (.slice A3 P.length c3)).far (p := ⟨w.heap.size + 1, 1, none⟩) (by show w.heap.size ≠ w.heap.size + 1; omega) (.slice A5 Q.length c5)
      have tt := ((((HT7.out.far (p := ⟨w.heap.size, 0, none⟩) (by show w.heap.size + 1 ≠ w.heap.size; omega) (.int .i64 W)).far (p := ⟨w.heap.size, 1, none⟩) (by show w.heap.size + 1 ≠ w.heap.size; omega) (.int .i64 H)).far (p := ⟨w.heap.size, 2, none⟩) (by show w.heap.size + 1 ≠ w.heap.size; omega) (.slice none 0 0)).set_ 0 (.slice A3 P.length c3)).set_ 1 (.slice A5 Q.length c5)
      have r0 := kk.cell 0
      have r1 := kk.cell 1
      have r2 := kk.cell 2
      have r3 := tt.cell 0
      have r4 := tt.cell 1
      simp at r0 r1 r2 r3 r4
      have X := Lib.hid ((((((Chg.refl w.heap.size (g + 1) w7).swT (Nat.le_refl _) M1.out 0 (.int .i64 W)).swT (Nat.le_refl _) M1.out 1 (.int .i64 H)).swT (Nat.le_refl _) M1.out 2 (.slice none 0 0)).swT M2.out M3.out 0 (.slice A3 P.length c3)).swT M2.out M3.out 1 (.slice A5 Q.length c5))
      have XC := Lib.hid (R7.out.trans X.out)
      clear kk tt
      go_wp2_with fail
      refine bodyPost_ret (v := .tuple #[.agg #[.int .i64 W, .int .i64 H, .slice none 0 0], .agg #[.slice A3 P.length c3, .slice A5 Q.length c5], .slice A7 D.length c8]) (by simp [results, Try.results8, go_sem, r0, r1, r2, r3, r4]) rfl ⟨W, H, 1 + x, 1 + y, _, _, _, D, rfl, HOK.out, by have := HXY.out; omega, ?_, own_less (F7.out.chg X.out (.inr (.inl (by rw [drew_heap]; have h1 := HGL.out; have h2 := SC.out; omega)))).here (by rw [drew_heap]; have h1 := HGL.out; have h2 := SC.out; have h3 := HG.out; omega), HD.out, BC.out.trans (XC.out.below (.inl (Nat.le_refl _)) (by have h1 := HGL.out; have h2 := SC.out; have h3 := HG.out; omega))⟩
      rw [HP.out.1, HP.out.2]
      exact (FV.out.chg XC.out (.inr (.inl (by have h1 := HGL.out; omega)))).here.less (by have h1 := HGL.out; have h3 := HG.out; omega)
end Go.Proofs.Ytfloekbmgjmhbaa
end

section
namespace Go.Proofs.Ytfloekbmgjmhbaa
open Go.ChangeShapes Go.WideShapes Go.ChangeAt Go.RowKit
set_option linter.unusedVariables false

theorem lawsBig (A : Option Addr) (n cap : Nat) (w : World) :
    Calls Try.prog 7 #[.slice A n cap] w fun e w' => e = .returned (.bool (decide (1048576 < n))) ∧ w = w' := by
  go_enter Try.func7, Try.ntmps7
  go_wp2_with fail
  go_ret
  exact ⟨ret_bool (by simp; omega), rfl⟩
end Go.Proofs.Ytfloekbmgjmhbaa
end

section
namespace Go.Proofs.Ytfloekbmgjmhbaa
open Go.ChangeShapes Go.WideShapes Go.ChangeAt Go.RowKit
set_option linter.unusedVariables false

/-- A new list of lists. -/
def NewLL (DD : List (List Flt)) (w : World) (e : Ending) (w' : World) : Prop :=
  ∃ v vs, e = .returned v ∧ Fams 91 120 5 fltC w' w.heap.size v vs DD ∧ Below w.heap.size w w'
end Go.Proofs.Ytfloekbmgjmhbaa
end

section
namespace Go.Proofs.Ytfloekbmgjmhbaa
open Go.ChangeShapes Go.WideShapes Go.ChangeAt Go.RowKit
set_option linter.unusedVariables false
set_option maxRecDepth 20000

theorem run_copy_rec {P : Program} (w : World) (dT sT ty elem : TypeId) (z g n dCap : Nat) (ad : Addr) (sCap : Nat) (cur : Array Value) (t : TypeId) (cs : List Value)
    (hu : P.underlying dT = some (.slice elem)) (hs : (P.info? elem).map (·.size) = some z) (hg : w.heap[g]? = some (.cells cur t (0, 0))) (hn : cs.length = n * z)
    (hsrc : ∀ j v, cs[j]? = some v → w.cell? (ad.add j) = some v) (hfit : cs.length ≤ cur.size) (h1 : ∀ v ∈ cs, v.oneCell' = true) :
    (Builtin.copy_ #[dT, sT] ty #[.slice (some ⟨g, 0, none⟩) n dCap, .slice (some ad) n sCap]).run P w =
      .ok (goInt n) (w.setRow g (cur.toList.take (0 + 0) ++ cs ++ cur.toList.drop (0 + 0 + cs.length)).toArray) := by
  have hl := run_loadCells_list (P := P) w ad cs hsrc
  have hst := run_storeCells_at P g 0 t cs 0 cur w hg (by simpa using hfit) h1
  cases hq : P.info? elem with
  | none => simp [hq] at hs
  | some i =>
    have hi : i.size = z := by simpa [hq] using hs
    have hm : Nat.min n n = n := Nat.min_self n
    simp only [Nat.zero_add, List.take_zero, List.nil_append] at hst ⊢
    simp [Builtin.copy_, run_underlying hu, Builtin.lenOf, Builtin.firstCells, sizeOf, typeInfo, hq, hi, hm, ← hn, hl, hst]
theorem run_copy_zero {P : Program} (w : World) (dT sT ty elem : TypeId) (z : Nat) (d a : Option Addr) (dCap sCap : Nat) (hu : P.underlying dT = some (.slice elem)) (hs : (P.info? elem).map (·.size) = some z) :
    (Builtin.copy_ #[dT, sT] ty #[.slice d 0 dCap, .slice a 0 sCap]).run P w = .ok (goInt 0) w := by
  cases hq : P.info? elem with
  | none => simp [hq] at hs
  | some i =>
    have hl : ∀ (x : Addr), (loadCells x 0).run P w = .ok #[] w := fun x => by simpa using run_loadCells_list (P := P) w x [] (by simp)
    cases d <;> cases a <;> simp [Builtin.copy_, run_underlying hu, Builtin.lenOf, Builtin.firstCells, sizeOf, typeInfo, hq, storeCells, hl]
theorem gb_setRowC {w : World} {g : Nat} (cs : Array Value) (hg : g < w.heap.size) : w.grownBy (w.setRow g cs) (some g) :=
  ⟨rfl, rfl, rfl, by simp [World.setRow], fun k hk hne => setRow_other w g k cs (fun e => hne (by rw [e]))⟩
/-- A whole slice is copied into a row of the same length. -/
theorem wpList_copy_whole {P : Program} {w : World} {ops : Array Oper} {rest : List Oper} {o : Oper} {a : Act} {Q : Exit → Act → World → Prop} (hgd : o.guard = none) (d s : Operand) (dT sT : TypeId)
    (ho : o.op = .call { callee := .builtin .copy, args := #[d, s], argTypes := #[dT, sT] }) (elem : TypeId) (hu : P.underlying dT = some (.slice elem)) (z : Nat) (hsz : (P.info? elem).map (·.size) = some z)
    (base g n sCap : Nat) (sp : Option Addr) (hd : a.eval d = .slice (some ⟨g, 0, none⟩) n n) (hs : a.eval s = .slice sp n sCap) (xs cs : List Value)
    (hown : w.ownsRow base elem z (.slice (some ⟨g, 0, none⟩) n n) n xs) (hcs : cs.length = n * z) (hsrc : 0 < n → ∃ ad, sp = some ad ∧ ∀ j v, cs[j]? = some v → w.cell? (ad.add j) = some v) (h1 : ∀ v ∈ cs, v.oneCell' = true)
    (h : ∀ w', w'.ownsRow base elem z (.slice (some ⟨g, 0, none⟩) n n) n cs → w.grownBy w' (some g) → wpList P ops Q rest (a.put o.dst (goInt n)) w') :
    wpList P ops Q (o :: rest) a w := by
  rcases Nat.eq_zero_or_pos n with h0 | h0
  · subst h0
    have e1 : cs = [] := List.eq_nil_of_length_eq_zero (by simpa using hcs)
    have e2 : xs = [] := List.eq_nil_of_length_eq_zero (by simpa using hown.1)
    subst e1 e2
    refine wpList_plain hgd fun K hK => ?_
    have hrun := run_copy_zero (P := P) w dT sT o.type elem z (some ⟨g, 0, none⟩) sp 0 sCap hu hsz
    unfold Oper.wp
    simp [execOp, ho, resolve, invoke, builtin, hd, hs, hrun, Result.andThen]
    exact hK _ _ (h w hown ⟨rfl, rfl, rfl, Nat.le_refl _, fun _ _ _ => rfl⟩)
  · obtain ⟨ad, rfl, hsr⟩ := hsrc h0
    obtain ⟨hx, hv | ⟨g', cap, cur, hv, hb, hg, hnc, hm, hsc, ht⟩⟩ := hown
    · exact absurd hv.1 (by simp)
    · obtain ⟨rfl, rfl⟩ : g = g' ∧ n = cap := by injection hv with a1 a2 a3; injection a1 with a4; injection a4 with a5; exact ⟨a5, a3⟩
      have hlt : g < w.heap.size := (Array.getElem?_eq_some_iff.1 hg).1
      refine wpList_plain hgd fun K hK => ?_
      have hrun := run_copy_rec (P := P) w dT sT o.type elem z g n n ad sCap cur elem cs hu hsz hg hcs hsr (by omega) h1
      have e3 : cur.toList.take (0 + 0) ++ cs ++ cur.toList.drop (0 + 0 + cs.length) = cs := by
        rw [List.drop_eq_nil_of_le (by rw [Array.length_toList]; omega)]; simp
      rw [e3] at hrun
      unfold Oper.wp
      simp [execOp, ho, resolve, invoke, builtin, hd, hs, hrun, Result.andThen]
      exact hK _ _ (h _ ⟨hcs, .inr ⟨g, n, cs.toArray, rfl, hb, setRow_heap w g cur _ elem _ hg, hnc, hm, by simpa using hcs, by simp [← hcs]⟩⟩ (gb_setRowC _ hlt))

theorem implCopyI (A : Option Addr) (n cap : Nat) (L : List Int) (w : World) (h : IntAt w w.heap.size A n L) (hn : n ≤ 1000000000) :
    Calls Try.prog 78 #[.slice A n cap] w (NewI L w) := by
  obtain ⟨i0, hi, hz0, hz1, hz2⟩ := info_parts info_int
  have hsz : (Try.prog.info? 3).map (·.size) = some 1 := by rw [hi]; simp [hz1]
  have hl := h.1
  have HI := Lib.hid h
  have HL := Lib.hid (show (intsV L).length = n * 1 by rw [Nat.mul_one, ← hl]; simp [intsV])
  have HONE := Lib.hid (intsV_one L)
  have HLN := Lib.hid hl
  clear h hl
  go_enter Try.func78, Try.ntmps78
  go_wp2_with (first
    | (at_make; refine wpList_make_full _ rfl _ _ 26 rfl w.heap.size 3 i0 (.int .i64 0) 1 Try.underlying26 hi hz0 hz1 .i64 .i64 _ _ n rfl rfl (by omega) (by omega) (by rw [hz2]; omega) (by unfold maxLen; omega) (Nat.le_refl _) ?_; intro w0 hown0 hgrow0; have O0 := Lib.hid hown0; have G0 := Lib.hid hgrow0; clear hown0 hgrow0)
    | (refine wpList_copy_whole rfl (.tmp 7) (.tmp 8) 26 26 rfl 3 Try.underlying26 1 hsz w.heap.size w.heap.size n cap A rfl rfl _ (intsV L) O0.out HL.out (fun h0 => by
        obtain ⟨b, off, e, _⟩ := HI.out.2 h0
        subst e
        exact ⟨_, rfl, intAt_news (HI.out.none (Nat.le_refl _) G0.out)⟩) HONE.out ?_; intro w2 hown2 hgrow2; have O2 := Lib.hid hown2; have G2 := Lib.hid hgrow2; clear hown2 hgrow2))
  go_ret
  refine ⟨_, rfl, ?_, ?_⟩
  · rw [HLN.out]; exact O2.out
  · exact (gb_below_none G0.out (Nat.le_refl _)).grown G2.out G0.out.size (fun j hj => by cases hj; exact Nat.le_refl _)
theorem implCopyF (A : Option Addr) (n cap : Nat) (D : List Flt) (w : World) (h : RecAt 5 fltC w w.heap.size A n D) (hn : n ≤ 1000000000) :
    Calls Try.prog 108 #[.slice A n cap] w (fun e w' => ∃ v, e = .returned v ∧ w'.ownsRow w.heap.size 120 5 v D.length (recV fltC D) ∧ Below w.heap.size w w') := by
  obtain ⟨i0, hi, hz0, hz1, hz2⟩ := info_parts info_flt
  have hsz : (Try.prog.info? 120).map (·.size) = some 5 := by rw [hi]; simp [hz1]
  have hl := h.1
  have HI := Lib.hid h
  have HL := Lib.hid (show (recV fltC D).length = n * 5 by rw [recV_length fltL, hl])
  have HONE := Lib.hid (recV_one fltL D)
  have HLN := Lib.hid hl
  clear h hl
  go_enter Try.func108, Try.ntmps108
  go_wp2_with (first
    | (at_make; refine wpList_make_full _ rfl _ _ 91 rfl w.heap.size 120 i0 (fltX flt0) 5 Try.underlying91 hi hz0 hz1 .i64 .i64 _ _ n rfl rfl (by omega) (by omega) (by rw [hz2]; omega) (by unfold maxLen; omega) (Nat.le_refl _) ?_; intro w0 hown0 hgrow0; have O0 := Lib.hid hown0; have G0 := Lib.hid hgrow0; clear hown0 hgrow0)
    | (refine wpList_copy_whole rfl (.tmp 7) (.tmp 8) 91 91 rfl 120 Try.underlying91 5 hsz w.heap.size w.heap.size n cap A rfl rfl _ (recV fltC D) O0.out HL.out (fun h0 => by
        obtain ⟨b, off, e, _⟩ := HI.out.2 h0
        subst e
        exact ⟨_, rfl, recAt_news fltL (by decide) (HI.out.none (Nat.le_refl _) G0.out)⟩) HONE.out ?_; intro w2 hown2 hgrow2; have O2 := Lib.hid hown2; have G2 := Lib.hid hgrow2; clear hown2 hgrow2))
  go_ret
  refine ⟨_, rfl, ?_, ?_⟩
  · rw [HLN.out]; exact O2.out
  · exact (gb_below_none G0.out (Nat.le_refl _)).grown G2.out G0.out.size (fun j hj => by cases hj; exact Nat.le_refl _)
set_option maxHeartbeats 3200000 in
theorem implCopies (A : Option Addr) (n cap : Nat) (DD : List (List Flt)) (w : World) (h : RecsAt 5 fltC w w.heap.size A n DD) (hn : n ≤ 1000000000) (hs : sumL DD ≤ 1000000000) :
    Calls Try.prog 79 #[.slice A n cap] w (NewLL DD w) := by
  obtain ⟨i0, hi, hz0, hz1, hz2⟩ := info_parts info_fss
  have hl := h.1
  have HI := Lib.hid h
  have HCF := Lib.hid (fun A n cap D w h hn => implCopyF A n cap D w h hn)
  clear h
  go_enter Try.func79, Try.ntmps79
  go_wp2_with (at_make; refine wpList_make_full _ rfl _ _ 36 rfl w.heap.size 91 i0 (.slice none 0 0) 1 Try.underlying36 hi hz0 hz1 .i64 .i64 _ _ n rfl rfl (by omega) (by omega) (by rw [hz2]; omega) (by unfold maxLen; omega) (Nat.le_refl _) ?_; intro w0 hown0 hgrow0; rw [made_nils] at hown0; have HO := Lib.hid hown0; have HB := Lib.hid (gb_below_none hgrow0 (Nat.le_refl _)); clear hown0 hgrow0)
  go_loopw [11] (fun i wr => ∃ (k : Nat) (vs : List Value), k ≤ n ∧ i = .int .i64 (k : Int) ∧ vs.length = k ∧ wr.ownsRow w.heap.size 91 1 (.slice (some ⟨w.heap.size, 0, none⟩) n n) n (vs ++ List.replicate (n - vs.length) (.slice none 0 0)) ∧ Fam 120 5 fltC wr w.heap.size vs (DD.take k) ∧ Below w.heap.size w wr) (fun i _ => n - (intOf i).toNat)
  case atStart => exact ⟨0, [], Nat.zero_le _, rfl, rfl, by simpa using HO.out, by rw [List.take_zero]; exact Fam.nil _ _, HB.out⟩
  case round =>
    obtain ⟨k, vs, hk, rfl, hvl, ho, hf, hbel⟩ := hrel
    have HO1 := Lib.hid ho
    have HF1 := Lib.hid hf
    have HB1 := Lib.hid hbel
    by_cases hlt : k < n
    · obtain ⟨b, off, D, A', c', rfl, hb, hD, hc, _, hr⟩ := (HI.out.below hbel).at k hlt
      have hat := sumL_at hD
      have hsz := hbel.size
      have HT := Lib.hid (HCF.out A' D.length c' D wr (hr.more hsz) (by omega))
      have k0 : (0 : Int) ≤ (k : Int) := by omega
      have k1 : (k : Int) < (n : Int) := by omega
      have HDD := Lib.hid (show DD.take (k + 1) = DD.take k ++ [D] by
        have hkD := (List.getElem?_eq_some_iff.1 hD).1
        have e : DD[k] = D := (List.getElem?_eq_some_iff.1 hD).2
        rw [List.take_succ_eq_append_getElem hkD, e])
      have HVL := Lib.hid hvl
      have HS := Lib.hid hsz
      clear ho hf hbel hD hat hr hvl
      go_wp2_with fail
      refine HT.out.mono ?_
      rintro e w4 ⟨v4, rfl, o4, b4⟩
      obtain ⟨A4, c4, rfl, _⟩ := own_form o4
      have hb4 := gb_of_below b4 none
      have hoh := own_none HO1.out hb4
      have HF4 := Lib.hid (HF1.out.gb hb4)
      have HR4 := Lib.hid (own_less o4 HS.out)
      have HA4 := Lib.hid (show ∀ (i : Nat) u, vs[i]? = some u → Apart u (.slice A4 D.length c4) from fun i u hu j h1 h2 => by
        have h3 := (HF1.out.lt hu h1).2
        have h4 := (o4.lt j h2).1
        omega)
      have HB4 := Lib.hid (HB1.out.trans (b4.mono HS.out))
      have hcell := hoh.cellAt k (by omega)
      have hlen : k < (vs ++ List.replicate (n - vs.length) (Value.slice none 0 0)).length := by have := HVL.out; simp; omega
      obtain ⟨x, hx⟩ : ∃ x, (vs ++ List.replicate (n - vs.length) (Value.slice none 0 0))[k]? = some x := ⟨_, List.getElem?_eq_getElem hlen⟩
      rw [hx] at hcell
      have hfz := hoh.frozenAt k
      obtain ⟨o5, g5⟩ := hoh.stored k (.slice A4 D.length c4)
      have hset := set_rep vs (Value.slice none 0 0) (.slice A4 D.length c4) n (by have := HVL.out; omega)
      rw [HVL.out] at hset
      have HRW := Lib.hid hoh
      rw [HVL.out, hset] at o5
      have HO5 := Lib.hid o5
      have HF5 := Lib.hid ((HF4.out.kept g5 (fun i v j hv hj e => by
        have hi := (List.getElem?_eq_some_iff.1 hv).1
        obtain ⟨u, hu, hou⟩ := HF4.out.get (i := i) (by rw [← HF4.out.len]; exact hi)
        rw [hv] at hu
        obtain rfl := Option.some.inj hu
        exact own_typesG HRW.out hou (by decide) (k := j) (by rw [← e]; rfl) hj)).snoc (row_keptR HR4.out g5 (fun j e1 e2 => own_typesG HRW.out HR4.out (by decide) (k := j) (by rw [← e1]; rfl) e2)) HA4.out)
      have HB5 := Lib.hid (HB4.out.grown g5 HB4.out.size (fun j e => by cases e; exact Nat.le_refl _))
      clear hb4 hoh hlen hx o4 b4 o5 g5 hset hc
      go_wp2_with fail
      go_roundw
      case rel => exact ⟨k + 1, vs ++ [.slice A4 D.length c4], by omega, by go_num, by rw [List.length_append, HVL.out]; rfl, HO5.out, by rw [HDD.out]; exact HF5.out, HB5.out⟩
      case measure => simp [intOf]; omega
    · have hkn : k = n := by omega
      have HKN := Lib.hid hkn
      have HVL := Lib.hid hvl
      clear ho hf hbel hkn hvl
      go_wp2_with fail
      go_ret
      refine ⟨_, vs, rfl, ⟨?_, ?_⟩, HB1.out⟩
      · have h9 := HO1.out
        rw [HVL.out, HKN.out, Nat.sub_self] at h9
        rw [hl]
        simpa using h9
      · have h9 := HF1.out
        rw [HKN.out, ← hl, List.take_length] at h9
        exact h9
end Go.Proofs.Ytfloekbmgjmhbaa
end

section
namespace Go.Proofs.Ytfloekbmgjmhbaa
open Go.ChangeShapes Go.WideShapes Go.ChangeAt Go.RowKit
set_option linter.unusedVariables false
set_option maxRecDepth 20000

/-- Eight parts, one behind the other, are a network of the call's own. -/
theorem net_of_eight {wz : World} {y : Na} {N : Nt} {vb vs va : List Value} {s0 s1 s2 s3 s4 s5 s6 s7 : Nat}
    (o0 : wz.ownsRow s0 3 1 (.slice y.br.A N.br.length y.br.c) N.br.length (intsV N.br)) (o1 : wz.ownsRow s1 3 1 (.slice y.ta.A N.ta.length y.ta.c) N.ta.length (intsV N.ta))
    (o2 : wz.ownsRow s2 3 1 (.slice y.tb.A N.tb.length y.tb.c) N.tb.length (intsV N.tb)) (o3 : Fams 91 120 5 fltC wz s3 (.slice y.bu.A N.bu.length y.bu.c) vb N.bu)
    (o4 : wz.ownsRow s4 3 1 (.slice y.ow.A N.ow.length y.ow.c) N.ow.length (intsV N.ow)) (o5 : wz.ownsRow s5 3 1 (.slice y.tu.A N.tu.length y.tu.c) N.tu.length (intsV N.tu))
    (o6 : Fams 91 120 5 fltC wz s6 (.slice y.so.A N.so.length y.so.c) vs N.so) (o7 : Fams 91 120 5 fltC wz s7 (.slice y.ar.A N.ar.length y.ar.c) va N.ar)
    (u0 : ∀ k, (.slice y.br.A N.br.length y.br.c : Value).ownBlock = some k → k < s1) (u1 : ∀ k, (.slice y.ta.A N.ta.length y.ta.c : Value).ownBlock = some k → k < s2) (u2 : ∀ k, (.slice y.tb.A N.tb.length y.tb.c : Value).ownBlock = some k → k < s3)
    (u3 : ∀ v, (v = .slice y.bu.A N.bu.length y.bu.c ∨ v ∈ vb) → ∀ k, v.ownBlock = some k → k < s4) (u4 : ∀ k, (.slice y.ow.A N.ow.length y.ow.c : Value).ownBlock = some k → k < s5) (u5 : ∀ k, (.slice y.tu.A N.tu.length y.tu.c : Value).ownBlock = some k → k < s6)
    (u6 : ∀ v, (v = .slice y.so.A N.so.length y.so.c ∨ v ∈ vs) → ∀ k, v.ownBlock = some k → k < s7)
    (q1 : s0 ≤ s1) (q2 : s1 ≤ s2) (q3 : s2 ≤ s3) (q4 : s3 ≤ s4) (q5 : s4 ≤ s5) (q6 : s5 ≤ s6) (q7 : s6 ≤ s7) : NetOwn wz s0 wz.heap.size y N := by
  have one : ∀ {x v : Value} {m m' : Nat}, (∀ k, x.ownBlock = some k → k < m) → m ≤ m' → v ∈ [x] → ∀ k, v.ownBlock = some k → k < m' := fun h hm hv k hk => by
    rw [List.mem_singleton.1 hv] at hk
    exact Nat.lt_of_lt_of_le (h k hk) hm
  have I1 := (fam_int o0).app (fam_int o1) q1 (fun v hv => one u0 (Nat.le_refl _) hv)
  have I2 := I1.app (fam_int o2) (by omega) (fun v hv => by
    rcases List.mem_append.1 hv with hv | hv
    · exact one u0 q2 hv
    · exact one u1 (Nat.le_refl _) hv)
  have I3 := I2.app (fam_int o4) (by omega) (fun v hv => by
    rcases List.mem_append.1 hv with hv | hv
    · rcases List.mem_append.1 hv with hv | hv
      · exact one u0 (by omega) hv
      · exact one u1 (by omega) hv
    · exact one u2 (by omega) hv)
  have I4 := I3.app (fam_int o5) (by omega) (fun v hv => by
    rcases List.mem_append.1 hv with hv | hv
    · rcases List.mem_append.1 hv with hv | hv
      · rcases List.mem_append.1 hv with hv | hv
        · exact one u0 (by omega) hv
        · exact one u1 (by omega) hv
      · exact one u2 (by omega) hv
    · exact one u4 (by omega) hv)
  have H1 := (fam_hd o3.hd o3.fam.len).app (fam_hd o6.hd o6.fam.len) (by omega) (fun v hv => one (u3 _ (.inl rfl)) (by omega) hv)
  have H2 := H1.app (fam_hd o7.hd o7.fam.len) (by omega) (fun v hv => by
    rcases List.mem_append.1 hv with hv | hv
    · exact one (u3 _ (.inl rfl)) (by omega) hv
    · exact one (u6 _ (.inl rfl)) (by omega) hv)
  have F1 := o6.fam.app o7.fam q7 (fun v hv => u6 v (.inr hv))
  have F2 := o3.fam.app F1 (by omega) (fun v hv k hk => by have := u3 v (.inr hv) k hk; omega)
  exact ⟨vb, vs, va, netRows_mk (fam_eq I4 rfl rfl) (fam_eq (H2.less (by omega)) rfl rfl) (F2.less (by omega)) o3.fam.len o6.fam.len o7.fam.len⟩
/-- The clone's two boxes, and nothing else but new blocks written. -/
structure CnI (w : World) (cs : Array Value) (wr : World) : Prop where
  b : Blk wr w.heap.size 38 cs
  k : Blk wr (w.heap.size + 1) 38 #[.int .i64 0, .int .i64 0, .slice none 0 0, .slice none 0 0, .slice none 0 0, .slice none 0 0, .slice none 0 0, .slice none 0 0, .slice none 0 0, .slice none 0 0, .int .i64 0]
  l : Below w.heap.size w wr
  s : w.heap.size + 2 ≤ wr.heap.size
section
variable {w wr w' : World} {cs : Array Value}
theorem CnI.bl (h : CnI w cs wr) (hb : Below wr.heap.size wr w') : CnI w cs w' :=
  ⟨h.b.grown (gb_of_below hb none) (by simp), h.k.grown (gb_of_below hb none) (by simp), h.l.trans (hb.mono h.l.size), Nat.le_trans h.s hb.size⟩
theorem CnI.st (h : CnI w cs wr) (i : Nat) (v : Value) : CnI w (cs.setIfInBounds i v) (wr.setCell ⟨w.heap.size, i, none⟩ v) :=
  ⟨h.b.set_ i v, h.k.chg (st_in wr w.heap.size i v) (.inr (.inl (by omega))), h.l.setCell (Nat.le_refl _) v, Nat.le_trans h.s (st_in wr w.heap.size i v).size⟩
theorem CnI.in {y : Na} {N : Nt} (h : CnI w cs wr) (hi : NetIn w w.heap.size y N) : NetIn wr wr.heap.size y N := (hi.below h.l).more h.l.size
theorem cn_start {y : Na} {N : Nt} : CnI w #[.int .i64 N.W, .int .i64 N.H, .slice y.br.A N.br.length y.br.c, .slice y.ta.A N.ta.length y.ta.c, .slice y.tb.A N.tb.length y.tb.c, .slice y.bu.A N.bu.length y.bu.c, .slice y.ow.A N.ow.length y.ow.c, .slice y.tu.A N.tu.length y.tu.c, .slice y.so.A N.so.length y.so.c, .slice y.ar.A N.ar.length y.ar.c, .int .i64 N.ti] ((w.alloc (.cells #[.int .i64 N.W, .int .i64 N.H, .slice y.br.A N.br.length y.br.c, .slice y.ta.A N.ta.length y.ta.c, .slice y.tb.A N.tb.length y.tb.c, .slice y.bu.A N.bu.length y.bu.c, .slice y.ow.A N.ow.length y.ow.c, .slice y.tu.A N.tu.length y.tu.c, .slice y.so.A N.so.length y.so.c, .slice y.ar.A N.ar.length y.ar.c, .int .i64 N.ti] 38)).alloc (.cells #[.int .i64 0, .int .i64 0, .slice none 0 0, .slice none 0 0, .slice none 0 0, .slice none 0 0, .slice none 0 0, .slice none 0 0, .slice none 0 0, .slice none 0 0, .int .i64 0] 38)) := by
  have h1 := Blk.new (w.alloc (.cells #[.int .i64 N.W, .int .i64 N.H, .slice y.br.A N.br.length y.br.c, .slice y.ta.A N.ta.length y.ta.c, .slice y.tb.A N.tb.length y.tb.c, .slice y.bu.A N.bu.length y.bu.c, .slice y.ow.A N.ow.length y.ow.c, .slice y.tu.A N.tu.length y.tu.c, .slice y.so.A N.so.length y.so.c, .slice y.ar.A N.ar.length y.ar.c, .int .i64 N.ti] 38)) 38 #[.int .i64 0, .int .i64 0, .slice none 0 0, .slice none 0 0, .slice none 0 0, .slice none 0 0, .slice none 0 0, .slice none 0 0, .slice none 0 0, .slice none 0 0, .int .i64 0]
  rw [alloc_size] at h1
  exact ⟨(Blk.new w _ _).alloc _, h1, ((Below.refl w.heap.size w).alloc (Nat.le_refl _) _).alloc (by rw [alloc_size]; omega) _, by rw [alloc_size, alloc_size]; omega⟩
end
set_option maxHeartbeats 6400000 in
theorem implClone (y : Na) (N : Nt) (w : World) (h : NetIn w w.heap.size y N) (hn : NetSm N) :
    Calls Try.prog 38 #[.agg #[.int .i64 N.W, .int .i64 N.H, .slice y.br.A N.br.length y.br.c, .slice y.ta.A N.ta.length y.ta.c, .slice y.tb.A N.tb.length y.tb.c, .slice y.bu.A N.bu.length y.bu.c, .slice y.ow.A N.ow.length y.ow.c, .slice y.tu.A N.tu.length y.tu.c, .slice y.so.A N.so.length y.so.c, .slice y.ar.A N.ar.length y.ar.c, .int .i64 N.ti]] w (NewNet N w) := by
  have HI := Lib.hid h
  have HSM := Lib.hid hn
  have S0 := Lib.hid (cn_start (w := w) (y := y) (N := N))
  have HCI := Lib.hid (fun A n cap L w h hn => implCopyI A n cap L w h hn)
  have HCL := Lib.hid (fun A n cap DD w h hn hs => implCopies A n cap DD w h hn hs)
  clear h hn
  go_enter Try.func38, Try.ntmps38
  go_wp2_with fail
  refine (HCI.out _ _ _ N.br _ (S0.out.in HI.out).br HSM.out.br).mono ?_
  rintro e w0 ⟨v, rfl, o, b⟩
  obtain ⟨B0, d0, rfl, _⟩ := own_form o
  have F0 := Lib.hid (fix_row o)
  have U0 := Lib.hid (fun k hk => (o.lt k hk))
  have Z0 := Lib.hid b.size
  have T0 := Lib.hid (S0.out.bl b)
  clear o b
  have S1 := Lib.hid (show CnI w #[.int .i64 N.W, .int .i64 N.H, .slice B0 N.br.length d0, .slice y.ta.A N.ta.length y.ta.c, .slice y.tb.A N.tb.length y.tb.c, .slice y.bu.A N.bu.length y.bu.c, .slice y.ow.A N.ow.length y.ow.c, .slice y.tu.A N.tu.length y.tu.c, .slice y.so.A N.so.length y.so.c, .slice y.ar.A N.ar.length y.ar.c, .int .i64 N.ti] (w0.setCell ⟨w.heap.size, 2, none⟩ (.slice B0 N.br.length d0)) from by have h := T0.out.st 2 (.slice B0 N.br.length d0); simpa using h)
  have a : w0.cell? ⟨w.heap.size, 2, none⟩ = some (.slice y.br.A N.br.length y.br.c) := T0.out.b.cell 2
  have x := T0.out.b.frozen 2
  have a2 : w0.cell? ⟨w.heap.size, 3, none⟩ = some (.slice y.ta.A N.ta.length y.ta.c) := T0.out.b.cell 3
  go_wp2_with fail
  clear a x a2
  refine (HCI.out _ _ _ N.ta _ (S1.out.in HI.out).ta HSM.out.ta).mono ?_
  rintro e w1 ⟨v, rfl, o, b⟩
  obtain ⟨B1, d1, rfl, _⟩ := own_form o
  have F1 := Lib.hid (fix_row o)
  have U1 := Lib.hid (fun k hk => (o.lt k hk))
  have Z1 := Lib.hid b.size
  have D1 := Lib.hid ((st_in w0 w.heap.size 2 (.slice B0 N.br.length d0)).bl b)
  have T1 := Lib.hid (S1.out.bl b)
  clear o b
  have S2 := Lib.hid (show CnI w #[.int .i64 N.W, .int .i64 N.H, .slice B0 N.br.length d0, .slice B1 N.ta.length d1, .slice y.tb.A N.tb.length y.tb.c, .slice y.bu.A N.bu.length y.bu.c, .slice y.ow.A N.ow.length y.ow.c, .slice y.tu.A N.tu.length y.tu.c, .slice y.so.A N.so.length y.so.c, .slice y.ar.A N.ar.length y.ar.c, .int .i64 N.ti] (w1.setCell ⟨w.heap.size, 3, none⟩ (.slice B1 N.ta.length d1)) from by have h := T1.out.st 3 (.slice B1 N.ta.length d1); simpa using h)
  have a : w1.cell? ⟨w.heap.size, 3, none⟩ = some (.slice y.ta.A N.ta.length y.ta.c) := T1.out.b.cell 3
  have x := T1.out.b.frozen 3
  have a2 : w1.cell? ⟨w.heap.size, 4, none⟩ = some (.slice y.tb.A N.tb.length y.tb.c) := T1.out.b.cell 4
  go_wp2_with fail
  clear a x a2
  refine (HCI.out _ _ _ N.tb _ (S2.out.in HI.out).tb HSM.out.tb).mono ?_
  rintro e w2 ⟨v, rfl, o, b⟩
  obtain ⟨B2, d2, rfl, _⟩ := own_form o
  have F2 := Lib.hid (fix_row o)
  have U2 := Lib.hid (fun k hk => (o.lt k hk))
  have Z2 := Lib.hid b.size
  have D2 := Lib.hid ((st_in w1 w.heap.size 3 (.slice B1 N.ta.length d1)).bl b)
  have T2 := Lib.hid (S2.out.bl b)
  clear o b
  have S3 := Lib.hid (show CnI w #[.int .i64 N.W, .int .i64 N.H, .slice B0 N.br.length d0, .slice B1 N.ta.length d1, .slice B2 N.tb.length d2, .slice y.bu.A N.bu.length y.bu.c, .slice y.ow.A N.ow.length y.ow.c, .slice y.tu.A N.tu.length y.tu.c, .slice y.so.A N.so.length y.so.c, .slice y.ar.A N.ar.length y.ar.c, .int .i64 N.ti] (w2.setCell ⟨w.heap.size, 4, none⟩ (.slice B2 N.tb.length d2)) from by have h := T2.out.st 4 (.slice B2 N.tb.length d2); simpa using h)
  have a : w2.cell? ⟨w.heap.size, 4, none⟩ = some (.slice y.tb.A N.tb.length y.tb.c) := T2.out.b.cell 4
  have x := T2.out.b.frozen 4
  have a2 : w2.cell? ⟨w.heap.size, 5, none⟩ = some (.slice y.bu.A N.bu.length y.bu.c) := T2.out.b.cell 5
  go_wp2_with fail
  clear a x a2
  refine (HCL.out _ _ _ N.bu _ (S3.out.in HI.out).bu HSM.out.bu HSM.out.sbu).mono ?_
  rintro e w3 ⟨v, v3, rfl, o, b⟩
  obtain ⟨B3, d3, rfl, _⟩ := own_form o.hd
  have F3 := Lib.hid (fix_fams o)
  have U3 := Lib.hid (show ∀ v, (v = .slice B3 N.bu.length d3 ∨ v ∈ v3) → ∀ k, v.ownBlock = some k → k < w3.heap.size from fun v hv k hk => by
    rcases hv with rfl | hv
    · exact (o.hd.lt k hk).2
    · exact fam_ub o.fam v hv k hk)
  have Z3 := Lib.hid b.size
  have D3 := Lib.hid ((st_in w2 w.heap.size 4 (.slice B2 N.tb.length d2)).bl b)
  have T3 := Lib.hid (S3.out.bl b)
  clear o b
  have S4 := Lib.hid (show CnI w #[.int .i64 N.W, .int .i64 N.H, .slice B0 N.br.length d0, .slice B1 N.ta.length d1, .slice B2 N.tb.length d2, .slice B3 N.bu.length d3, .slice y.ow.A N.ow.length y.ow.c, .slice y.tu.A N.tu.length y.tu.c, .slice y.so.A N.so.length y.so.c, .slice y.ar.A N.ar.length y.ar.c, .int .i64 N.ti] (w3.setCell ⟨w.heap.size, 5, none⟩ (.slice B3 N.bu.length d3)) from by have h := T3.out.st 5 (.slice B3 N.bu.length d3); simpa using h)
  have a : w3.cell? ⟨w.heap.size, 5, none⟩ = some (.slice y.bu.A N.bu.length y.bu.c) := T3.out.b.cell 5
  have x := T3.out.b.frozen 5
  have a2 : w3.cell? ⟨w.heap.size, 6, none⟩ = some (.slice y.ow.A N.ow.length y.ow.c) := T3.out.b.cell 6
  go_wp2_with fail
  clear a x a2
  refine (HCI.out _ _ _ N.ow _ (S4.out.in HI.out).ow HSM.out.ow).mono ?_
  rintro e w4 ⟨v, rfl, o, b⟩
  obtain ⟨B4, d4, rfl, _⟩ := own_form o
  have F4 := Lib.hid (fix_row o)
  have U4 := Lib.hid (fun k hk => (o.lt k hk))
  have Z4 := Lib.hid b.size
  have D4 := Lib.hid ((st_in w3 w.heap.size 5 (.slice B3 N.bu.length d3)).bl b)
  have T4 := Lib.hid (S4.out.bl b)
  clear o b
  have S5 := Lib.hid (show CnI w #[.int .i64 N.W, .int .i64 N.H, .slice B0 N.br.length d0, .slice B1 N.ta.length d1, .slice B2 N.tb.length d2, .slice B3 N.bu.length d3, .slice B4 N.ow.length d4, .slice y.tu.A N.tu.length y.tu.c, .slice y.so.A N.so.length y.so.c, .slice y.ar.A N.ar.length y.ar.c, .int .i64 N.ti] (w4.setCell ⟨w.heap.size, 6, none⟩ (.slice B4 N.ow.length d4)) from by have h := T4.out.st 6 (.slice B4 N.ow.length d4); simpa using h)
  have a : w4.cell? ⟨w.heap.size, 6, none⟩ = some (.slice y.ow.A N.ow.length y.ow.c) := T4.out.b.cell 6
  have x := T4.out.b.frozen 6
  have a2 : w4.cell? ⟨w.heap.size, 7, none⟩ = some (.slice y.tu.A N.tu.length y.tu.c) := T4.out.b.cell 7
  go_wp2_with fail
  clear a x a2
  refine (HCI.out _ _ _ N.tu _ (S5.out.in HI.out).tu HSM.out.tu).mono ?_
  rintro e w5 ⟨v, rfl, o, b⟩
  obtain ⟨B5, d5, rfl, _⟩ := own_form o
  have F5 := Lib.hid (fix_row o)
  have U5 := Lib.hid (fun k hk => (o.lt k hk))
  have Z5 := Lib.hid b.size
  have D5 := Lib.hid ((st_in w4 w.heap.size 6 (.slice B4 N.ow.length d4)).bl b)
  have T5 := Lib.hid (S5.out.bl b)
  clear o b
  have S6 := Lib.hid (show CnI w #[.int .i64 N.W, .int .i64 N.H, .slice B0 N.br.length d0, .slice B1 N.ta.length d1, .slice B2 N.tb.length d2, .slice B3 N.bu.length d3, .slice B4 N.ow.length d4, .slice B5 N.tu.length d5, .slice y.so.A N.so.length y.so.c, .slice y.ar.A N.ar.length y.ar.c, .int .i64 N.ti] (w5.setCell ⟨w.heap.size, 7, none⟩ (.slice B5 N.tu.length d5)) from by have h := T5.out.st 7 (.slice B5 N.tu.length d5); simpa using h)
  have a : w5.cell? ⟨w.heap.size, 7, none⟩ = some (.slice y.tu.A N.tu.length y.tu.c) := T5.out.b.cell 7
  have x := T5.out.b.frozen 7
  have a2 : w5.cell? ⟨w.heap.size, 8, none⟩ = some (.slice y.so.A N.so.length y.so.c) := T5.out.b.cell 8
  go_wp2_with fail
  clear a x a2
  refine (HCL.out _ _ _ N.so _ (S6.out.in HI.out).so HSM.out.so HSM.out.sso).mono ?_
  rintro e w6 ⟨v, v6, rfl, o, b⟩
  obtain ⟨B6, d6, rfl, _⟩ := own_form o.hd
  have F6 := Lib.hid (fix_fams o)
  have U6 := Lib.hid (show ∀ v, (v = .slice B6 N.so.length d6 ∨ v ∈ v6) → ∀ k, v.ownBlock = some k → k < w6.heap.size from fun v hv k hk => by
    rcases hv with rfl | hv
    · exact (o.hd.lt k hk).2
    · exact fam_ub o.fam v hv k hk)
  have Z6 := Lib.hid b.size
  have D6 := Lib.hid ((st_in w5 w.heap.size 7 (.slice B5 N.tu.length d5)).bl b)
  have T6 := Lib.hid (S6.out.bl b)
  clear o b
  have S7 := Lib.hid (show CnI w #[.int .i64 N.W, .int .i64 N.H, .slice B0 N.br.length d0, .slice B1 N.ta.length d1, .slice B2 N.tb.length d2, .slice B3 N.bu.length d3, .slice B4 N.ow.length d4, .slice B5 N.tu.length d5, .slice B6 N.so.length d6, .slice y.ar.A N.ar.length y.ar.c, .int .i64 N.ti] (w6.setCell ⟨w.heap.size, 8, none⟩ (.slice B6 N.so.length d6)) from by have h := T6.out.st 8 (.slice B6 N.so.length d6); simpa using h)
  have a : w6.cell? ⟨w.heap.size, 8, none⟩ = some (.slice y.so.A N.so.length y.so.c) := T6.out.b.cell 8
  have x := T6.out.b.frozen 8
  have a2 : w6.cell? ⟨w.heap.size, 9, none⟩ = some (.slice y.ar.A N.ar.length y.ar.c) := T6.out.b.cell 9
  go_wp2_with fail
  clear a x a2
  refine (HCL.out _ _ _ N.ar _ (S7.out.in HI.out).ar HSM.out.ar HSM.out.sar).mono ?_
  rintro e w7 ⟨v, v7, rfl, o, b⟩
  obtain ⟨B7, d7, rfl, _⟩ := own_form o.hd
  have F7 := Lib.hid (fix_fams o)
  have U7 := Lib.hid (show ∀ v, (v = .slice B7 N.ar.length d7 ∨ v ∈ v7) → ∀ k, v.ownBlock = some k → k < w7.heap.size from fun v hv k hk => by
    rcases hv with rfl | hv
    · exact (o.hd.lt k hk).2
    · exact fam_ub o.fam v hv k hk)
  have Z7 := Lib.hid b.size
  have D7 := Lib.hid ((st_in w6 w.heap.size 8 (.slice B6 N.so.length d6)).bl b)
  have T7 := Lib.hid (S7.out.bl b)
  clear o b
  have S8 := Lib.hid (show CnI w #[.int .i64 N.W, .int .i64 N.H, .slice B0 N.br.length d0, .slice B1 N.ta.length d1, .slice B2 N.tb.length d2, .slice B3 N.bu.length d3, .slice B4 N.ow.length d4, .slice B5 N.tu.length d5, .slice B6 N.so.length d6, .slice B7 N.ar.length d7, .int .i64 N.ti] (w7.setCell ⟨w.heap.size, 9, none⟩ (.slice B7 N.ar.length d7)) from by have h := T7.out.st 9 (.slice B7 N.ar.length d7); simpa using h)
  have z0 : w7.cell? ⟨w.heap.size, 0, none⟩ = some (.int .i64 N.W) := T7.out.b.cell 0
  have z1 : w7.cell? ⟨w.heap.size, 1, none⟩ = some (.int .i64 N.H) := T7.out.b.cell 1
  have z2 : w7.cell? ⟨w.heap.size, 2, none⟩ = some (.slice B0 N.br.length d0) := T7.out.b.cell 2
  have z3 : w7.cell? ⟨w.heap.size, 3, none⟩ = some (.slice B1 N.ta.length d1) := T7.out.b.cell 3
  have z4 : w7.cell? ⟨w.heap.size, 4, none⟩ = some (.slice B2 N.tb.length d2) := T7.out.b.cell 4
  have z5 : w7.cell? ⟨w.heap.size, 5, none⟩ = some (.slice B3 N.bu.length d3) := T7.out.b.cell 5
  have z6 : w7.cell? ⟨w.heap.size, 6, none⟩ = some (.slice B4 N.ow.length d4) := T7.out.b.cell 6
  have z7 : w7.cell? ⟨w.heap.size, 7, none⟩ = some (.slice B5 N.tu.length d5) := T7.out.b.cell 7
  have z8 : w7.cell? ⟨w.heap.size, 8, none⟩ = some (.slice B6 N.so.length d6) := T7.out.b.cell 8
  have z9 : w7.cell? ⟨w.heap.size, 9, none⟩ = some (.slice y.ar.A N.ar.length y.ar.c) := T7.out.b.cell 9
  have z10 : w7.cell? ⟨w.heap.size, 10, none⟩ = some (.int .i64 N.ti) := T7.out.b.cell 10
  have x := T7.out.b.frozen 9
  have y0 : w7.cell? ⟨w.heap.size + 1, 0, none⟩ = some (.int .i64 0) := T7.out.k.cell 0
  have x0 := T7.out.k.frozen 0
  have y1 : w7.cell? ⟨w.heap.size + 1, 1, none⟩ = some (.int .i64 0) := T7.out.k.cell 1
  have x1 := T7.out.k.frozen 1
  have y2 : w7.cell? ⟨w.heap.size + 1, 2, none⟩ = some (.slice none 0 0) := T7.out.k.cell 2
  have x2 := T7.out.k.frozen 2
  have y3 : w7.cell? ⟨w.heap.size + 1, 3, none⟩ = some (.slice none 0 0) := T7.out.k.cell 3
  have x3 := T7.out.k.frozen 3
  have y4 : w7.cell? ⟨w.heap.size + 1, 4, none⟩ = some (.slice none 0 0) := T7.out.k.cell 4
  have x4 := T7.out.k.frozen 4
  have y5 : w7.cell? ⟨w.heap.size + 1, 5, none⟩ = some (.slice none 0 0) := T7.out.k.cell 5
  have x5 := T7.out.k.frozen 5
  have y6 : w7.cell? ⟨w.heap.size + 1, 6, none⟩ = some (.slice none 0 0) := T7.out.k.cell 6
  have x6 := T7.out.k.frozen 6
  have y7 : w7.cell? ⟨w.heap.size + 1, 7, none⟩ = some (.slice none 0 0) := T7.out.k.cell 7
  have x7 := T7.out.k.frozen 7
  have y8 : w7.cell? ⟨w.heap.size + 1, 8, none⟩ = some (.slice none 0 0) := T7.out.k.cell 8
  have x8 := T7.out.k.frozen 8
  have y9 : w7.cell? ⟨w.heap.size + 1, 9, none⟩ = some (.slice none 0 0) := T7.out.k.cell 9
  have x9 := T7.out.k.frozen 9
  have y10 : w7.cell? ⟨w.heap.size + 1, 10, none⟩ = some (.int .i64 0) := T7.out.k.cell 10
  have x10 := T7.out.k.frozen 10
  go_wp2_with fail
  have kf : Blk ((((((((((((w7.setCell ⟨w.heap.size, 9, none⟩ (.slice B7 N.ar.length d7)).setCell ⟨w.heap.size + 1, 0, none⟩ (.int .i64 N.W)).setCell ⟨w.heap.size + 1, 1, none⟩ (.int .i64 N.H)).setCell ⟨w.heap.size + 1, 2, none⟩ (.slice B0 N.br.length d0)).setCell ⟨w.heap.size + 1, 3, none⟩ (.slice B1 N.ta.length d1)).setCell ⟨w.heap.size + 1, 4, none⟩ (.slice B2 N.tb.length d2)).setCell ⟨w.heap.size + 1, 5, none⟩ (.slice B3 N.bu.length d3)).setCell ⟨w.heap.size + 1, 6, none⟩ (.slice B4 N.ow.length d4)).setCell ⟨w.heap.size + 1, 7, none⟩ (.slice B5 N.tu.length d5)).setCell ⟨w.heap.size + 1, 8, none⟩ (.slice B6 N.so.length d6)).setCell ⟨w.heap.size + 1, 9, none⟩ (.slice B7 N.ar.length d7)).setCell ⟨w.heap.size + 1, 10, none⟩ (.int .i64 N.ti)) (w.heap.size + 1) 38 #[.int .i64 N.W, .int .i64 N.H, .slice B0 N.br.length d0, .slice B1 N.ta.length d1, .slice B2 N.tb.length d2, .slice B3 N.bu.length d3, .slice B4 N.ow.length d4, .slice B5 N.tu.length d5, .slice B6 N.so.length d6, .slice B7 N.ar.length d7, .int .i64 N.ti] := by
    have hz := (((((((((((S8.out.k.set_ 0 (.int .i64 N.W)).set_ 1 (.int .i64 N.H)).set_ 2 (.slice B0 N.br.length d0)).set_ 3 (.slice B1 N.ta.length d1)).set_ 4 (.slice B2 N.tb.length d2)).set_ 5 (.slice B3 N.bu.length d3)).set_ 6 (.slice B4 N.ow.length d4)).set_ 7 (.slice B5 N.tu.length d5)).set_ 8 (.slice B6 N.so.length d6)).set_ 9 (.slice B7 N.ar.length d7)).set_ 10 (.int .i64 N.ti))
    simpa using hz
  have qz : Chg (w.heap.size + 1) (w.heap.size + 1 + 1) (w7.setCell ⟨w.heap.size, 9, none⟩ (.slice B7 N.ar.length d7)) ((((((((((((w7.setCell ⟨w.heap.size, 9, none⟩ (.slice B7 N.ar.length d7)).setCell ⟨w.heap.size + 1, 0, none⟩ (.int .i64 N.W)).setCell ⟨w.heap.size + 1, 1, none⟩ (.int .i64 N.H)).setCell ⟨w.heap.size + 1, 2, none⟩ (.slice B0 N.br.length d0)).setCell ⟨w.heap.size + 1, 3, none⟩ (.slice B1 N.ta.length d1)).setCell ⟨w.heap.size + 1, 4, none⟩ (.slice B2 N.tb.length d2)).setCell ⟨w.heap.size + 1, 5, none⟩ (.slice B3 N.bu.length d3)).setCell ⟨w.heap.size + 1, 6, none⟩ (.slice B4 N.ow.length d4)).setCell ⟨w.heap.size + 1, 7, none⟩ (.slice B5 N.tu.length d5)).setCell ⟨w.heap.size + 1, 8, none⟩ (.slice B6 N.so.length d6)).setCell ⟨w.heap.size + 1, 9, none⟩ (.slice B7 N.ar.length d7)).setCell ⟨w.heap.size + 1, 10, none⟩ (.int .i64 N.ti)) := (((((((((((st_in (w7.setCell ⟨w.heap.size, 9, none⟩ (.slice B7 N.ar.length d7)) (w.heap.size + 1) 0 (.int .i64 N.W)).sx 1 (.int .i64 N.H)).sx 2 (.slice B0 N.br.length d0)).sx 3 (.slice B1 N.ta.length d1)).sx 4 (.slice B2 N.tb.length d2)).sx 5 (.slice B3 N.bu.length d3)).sx 6 (.slice B4 N.ow.length d4)).sx 7 (.slice B5 N.tu.length d5)).sx 8 (.slice B6 N.so.length d6)).sx 9 (.slice B7 N.ar.length d7)).sx 10 (.int .i64 N.ti))
  generalize ((((((((((((w7.setCell ⟨w.heap.size, 9, none⟩ (.slice B7 N.ar.length d7)).setCell ⟨w.heap.size + 1, 0, none⟩ (.int .i64 N.W)).setCell ⟨w.heap.size + 1, 1, none⟩ (.int .i64 N.H)).setCell ⟨w.heap.size + 1, 2, none⟩ (.slice B0 N.br.length d0)).setCell ⟨w.heap.size + 1, 3, none⟩ (.slice B1 N.ta.length d1)).setCell ⟨w.heap.size + 1, 4, none⟩ (.slice B2 N.tb.length d2)).setCell ⟨w.heap.size + 1, 5, none⟩ (.slice B3 N.bu.length d3)).setCell ⟨w.heap.size + 1, 6, none⟩ (.slice B4 N.ow.length d4)).setCell ⟨w.heap.size + 1, 7, none⟩ (.slice B5 N.tu.length d5)).setCell ⟨w.heap.size + 1, 8, none⟩ (.slice B6 N.so.length d6)).setCell ⟨w.heap.size + 1, 9, none⟩ (.slice B7 N.ar.length d7)).setCell ⟨w.heap.size + 1, 10, none⟩ (.int .i64 N.ti)) = wz at *
  have r0 := kf.cell 0
  have r1 := kf.cell 1
  have r2 := kf.cell 2
  have r3 := kf.cell 3
  have r4 := kf.cell 4
  have r5 := kf.cell 5
  have r6 := kf.cell 6
  have r7 := kf.cell 7
  have r8 := kf.cell 8
  have r9 := kf.cell 9
  have r10 := kf.cell 10
  simp only [List.getElem?_toArray, List.getElem?_cons_zero, List.getElem?_cons_succ] at r0 r1 r2 r3 r4 r5 r6 r7 r8 r9 r10
  have E7 : Chg w.heap.size (w.heap.size + 2) w7 wz := ((st_in w7 w.heap.size 9 (.slice B7 N.ar.length d7)).mono (Nat.le_refl _) (by omega)).trans (qz.mono (by omega) (by omega))
  have E6 : Chg w.heap.size (w.heap.size + 2) w6 wz := (D7.out.mono (Nat.le_refl _) (by omega)).trans E7
  have E5 : Chg w.heap.size (w.heap.size + 2) w5 wz := (D6.out.mono (Nat.le_refl _) (by omega)).trans E6
  have E4 : Chg w.heap.size (w.heap.size + 2) w4 wz := (D5.out.mono (Nat.le_refl _) (by omega)).trans E5
  have E3 : Chg w.heap.size (w.heap.size + 2) w3 wz := (D4.out.mono (Nat.le_refl _) (by omega)).trans E4
  have E2 : Chg w.heap.size (w.heap.size + 2) w2 wz := (D3.out.mono (Nat.le_refl _) (by omega)).trans E3
  have E1 : Chg w.heap.size (w.heap.size + 2) w1 wz := (D2.out.mono (Nat.le_refl _) (by omega)).trans E2
  have E0 : Chg w.heap.size (w.heap.size + 2) w0 wz := (D1.out.mono (Nat.le_refl _) (by omega)).trans E1
  have P0 := (F0.out.chg E0 (.inr (.inl (by have h1 := S0.out.s; exact h1)))).here
  have P1 := (F1.out.chg E1 (.inr (.inl (by have h1 := S1.out.s; exact h1)))).here
  have P2 := (F2.out.chg E2 (.inr (.inl (by have h1 := S2.out.s; exact h1)))).here
  have P3 := (F3.out.chg E3 (.inr (.inl (by have h1 := S3.out.s; exact h1)))).here
  have P4 := (F4.out.chg E4 (.inr (.inl (by have h1 := S4.out.s; exact h1)))).here
  have P5 := (F5.out.chg E5 (.inr (.inl (by have h1 := S5.out.s; exact h1)))).here
  have P6 := (F6.out.chg E6 (.inr (.inl (by have h1 := S6.out.s; exact h1)))).here
  have P7 := (F7.out.chg E7 (.inr (.inl (by have h1 := S7.out.s; exact h1)))).here
  have hnet : NetOwn wz _ wz.heap.size ⟨⟨B0, d0⟩, ⟨B1, d1⟩, ⟨B2, d2⟩, ⟨B3, d3⟩, ⟨B4, d4⟩, ⟨B5, d5⟩, ⟨B6, d6⟩, ⟨B7, d7⟩⟩ N := net_of_eight P0 P1 P2 P3 P4 P5 P6 P7
    (fun k hk => Nat.lt_of_lt_of_le (U0.out k hk).2 (st_in w0 w.heap.size 2 (.slice B0 N.br.length d0)).size)
    (fun k hk => Nat.lt_of_lt_of_le (U1.out k hk).2 (st_in w1 w.heap.size 3 (.slice B1 N.ta.length d1)).size)
    (fun k hk => Nat.lt_of_lt_of_le (U2.out k hk).2 (st_in w2 w.heap.size 4 (.slice B2 N.tb.length d2)).size)
    (fun v hv k hk => Nat.lt_of_lt_of_le (U3.out v hv k hk) (st_in w3 w.heap.size 5 (.slice B3 N.bu.length d3)).size)
    (fun k hk => Nat.lt_of_lt_of_le (U4.out k hk).2 (st_in w4 w.heap.size 6 (.slice B4 N.ow.length d4)).size)
    (fun k hk => Nat.lt_of_lt_of_le (U5.out k hk).2 (st_in w5 w.heap.size 7 (.slice B5 N.tu.length d5)).size)
    (fun v hv k hk => Nat.lt_of_lt_of_le (U6.out v hv k hk) (st_in w6 w.heap.size 8 (.slice B6 N.so.length d6)).size)
    (Nat.le_trans Z0.out (st_in w0 w.heap.size 2 (.slice B0 N.br.length d0)).size)
    (Nat.le_trans Z1.out (st_in w1 w.heap.size 3 (.slice B1 N.ta.length d1)).size)
    (Nat.le_trans Z2.out (st_in w2 w.heap.size 4 (.slice B2 N.tb.length d2)).size)
    (Nat.le_trans Z3.out (st_in w3 w.heap.size 5 (.slice B3 N.bu.length d3)).size)
    (Nat.le_trans Z4.out (st_in w4 w.heap.size 6 (.slice B4 N.ow.length d4)).size)
    (Nat.le_trans Z5.out (st_in w5 w.heap.size 7 (.slice B5 N.tu.length d5)).size)
    (Nat.le_trans Z6.out (st_in w6 w.heap.size 8 (.slice B6 N.so.length d6)).size)
  have hbl : Below w.heap.size w wz := S8.out.l.trans (qz.below (.inl (by omega)) (by have h1 := S8.out.s; omega))
  refine bodyPost_ret (v := .agg #[.int .i64 N.W, .int .i64 N.H, .slice B0 N.br.length d0, .slice B1 N.ta.length d1, .slice B2 N.tb.length d2, .slice B3 N.bu.length d3, .slice B4 N.ow.length d4, .slice B5 N.tu.length d5, .slice B6 N.so.length d6, .slice B7 N.ar.length d7, .int .i64 N.ti]) (by simp [results, Try.results38, go_sem, r0, r1, r2, r3, r4, r5, r6, r7, r8, r9, r10]) rfl ⟨_, rfl, hnet.less (by have h1 := S0.out.s; omega), hbl⟩
end Go.Proofs.Ytfloekbmgjmhbaa
end

section
namespace Go.Proofs.Ytfloekbmgjmhbaa
open Go.ChangeShapes Go.WideShapes Go.ChangeAt Go.RowKit
set_option linter.unusedVariables false

/-- A mesh as the cells of a block. -/
def meshC (W H : Int) (A : Option Addr) (n cap : Nat) : Array Value := #[.int .i64 W, .int .i64 H, .slice A n cap]
def MeshAt (W H : Int) (L : List Int) (A : Option Addr) (n cap : Nat) (w : World) (k : Nat) (wr : World) : Prop :=
  goodTo W H L k ∧ (w.alloc (.cells (meshC W H A n cap) 28)).grownBy wr none
end Go.Proofs.Ytfloekbmgjmhbaa
end
