/- What is proved here: the laws' copies of networks; only new blocks are written; whether the model says that the flits of a list go to nodes of the grid in classes that there are; only new blocks are written; what the model's BufferAt and l15Sum return; only new blocks are written; whether the model says that a network is valid, for all arguments; only new blocks are written; how many flits the model counts inside a network and waiting, for all arguments; only new blocks are written; the exact law on NetOk answers true, for every argument; only new blocks are written; the exact law on FlitsInside answers true, for every argument; only new blocks are written; the exact law on FlitsWaiting answers true, for every argument; only new blocks are written; a mesh that came in as an argument is two numbers and a slice of numbers that can be read; nothing of the program; a pair of tables that came in as an argument is two slices of numbers that can be read; nothing of the program; the laws' look for the marks in lists of lists of flits, and their copies; only new blocks are written; the laws' look for the marks in networks; only new blocks are written. -/
import Derived.Test.YtffnbmaoainhmaaMD
import Derived.Deep.RegionHeld3
import Derived.Deep.Cut
import Derived.Lib.SmallJoins
section
namespace Go.Proofs.Ytffnbmaoainhmaa
open Go.ChangeShapes Go.WideShapes Go.ChangeAt Go.RowKit
set_option linter.unusedVariables false
set_option maxRecDepth 20000

theorem size_set (w : World) (p : Addr) (u : Value) : (w.setCell p u).heap.size = w.heap.size := by simp [World.setCell]
set_option maxHeartbeats 6400000 in
theorem lawsToNet (y : Na) (N : Nt) (w : World) (h : NetIn w w.heap.size y N) (hs : sizeN N ≤ 1048576) :
    Calls Try.prog 32 #[.agg #[.int .i64 N.W, .int .i64 N.H, .slice y.br.A N.br.length y.br.c, .slice y.ta.A N.ta.length y.ta.c, .slice y.tb.A N.tb.length y.tb.c, .slice y.bu.A N.bu.length y.bu.c, .slice y.ow.A N.ow.length y.ow.c, .slice y.tu.A N.tu.length y.tu.c, .slice y.so.A N.so.length y.so.c, .slice y.ar.A N.ar.length y.ar.c, .int .i64 N.ti]] w (NewNet N w) := by
  have HIN := Lib.hid h
  have HSM := Lib.hid hs
  have k0 := ((Blk.new w 64 #[.int .i64 N.W, .int .i64 N.H, .slice y.br.A N.br.length y.br.c, .slice y.ta.A N.ta.length y.ta.c, .slice y.tb.A N.tb.length y.tb.c, .slice y.bu.A N.bu.length y.bu.c, .slice y.ow.A N.ow.length y.ow.c, .slice y.tu.A N.tu.length y.tu.c, .slice y.so.A N.so.length y.so.c, .slice y.ar.A N.ar.length y.ar.c, .int .i64 N.ti]).alloc (.cells #[.int .i64 0, .int .i64 0, .slice none 0 0, .slice none 0 0, .slice none 0 0, .slice none 0 0, .slice none 0 0, .slice none 0 0, .slice none 0 0, .slice none 0 0, .int .i64 0] 37)).alloc (.cells #[.int .i64 0, .int .i64 0, .slice none 0 0, .slice none 0 0, .slice none 0 0, .slice none 0 0, .slice none 0 0, .slice none 0 0, .slice none 0 0, .slice none 0 0, .int .i64 0] 37)
  have k1 := (Blk.new (w.alloc (.cells #[.int .i64 N.W, .int .i64 N.H, .slice y.br.A N.br.length y.br.c, .slice y.ta.A N.ta.length y.ta.c, .slice y.tb.A N.tb.length y.tb.c, .slice y.bu.A N.bu.length y.bu.c, .slice y.ow.A N.ow.length y.ow.c, .slice y.tu.A N.tu.length y.tu.c, .slice y.so.A N.so.length y.so.c, .slice y.ar.A N.ar.length y.ar.c, .int .i64 N.ti] 64)) 37 #[.int .i64 0, .int .i64 0, .slice none 0 0, .slice none 0 0, .slice none 0 0, .slice none 0 0, .slice none 0 0, .slice none 0 0, .slice none 0 0, .slice none 0 0, .int .i64 0]).alloc (.cells #[.int .i64 0, .int .i64 0, .slice none 0 0, .slice none 0 0, .slice none 0 0, .slice none 0 0, .slice none 0 0, .slice none 0 0, .slice none 0 0, .slice none 0 0, .int .i64 0] 37)
  have k2 := Blk.new ((w.alloc (.cells #[.int .i64 N.W, .int .i64 N.H, .slice y.br.A N.br.length y.br.c, .slice y.ta.A N.ta.length y.ta.c, .slice y.tb.A N.tb.length y.tb.c, .slice y.bu.A N.bu.length y.bu.c, .slice y.ow.A N.ow.length y.ow.c, .slice y.tu.A N.tu.length y.tu.c, .slice y.so.A N.so.length y.so.c, .slice y.ar.A N.ar.length y.ar.c, .int .i64 N.ti] 64)).alloc (.cells #[.int .i64 0, .int .i64 0, .slice none 0 0, .slice none 0 0, .slice none 0 0, .slice none 0 0, .slice none 0 0, .slice none 0 0, .slice none 0 0, .slice none 0 0, .int .i64 0] 37)) 37 #[.int .i64 0, .int .i64 0, .slice none 0 0, .slice none 0 0, .slice none 0 0, .slice none 0 0, .slice none 0 0, .slice none 0 0, .slice none 0 0, .slice none 0 0, .int .i64 0]
  have ge := gb_alloc (gb_alloc (gb_alloc (gb_refl w none) (.cells #[.int .i64 N.W, .int .i64 N.H, .slice y.br.A N.br.length y.br.c, .slice y.ta.A N.ta.length y.ta.c, .slice y.tb.A N.tb.length y.tb.c, .slice y.bu.A N.bu.length y.bu.c, .slice y.ow.A N.ow.length y.ow.c, .slice y.tu.A N.tu.length y.tu.c, .slice y.so.A N.so.length y.so.c, .slice y.ar.A N.ar.length y.ar.c, .int .i64 N.ti] 64)) (.cells #[.int .i64 0, .int .i64 0, .slice none 0 0, .slice none 0 0, .slice none 0 0, .slice none 0 0, .slice none 0 0, .slice none 0 0, .slice none 0 0, .slice none 0 0, .int .i64 0] 37)) (.cells #[.int .i64 0, .int .i64 0, .slice none 0 0, .slice none 0 0, .slice none 0 0, .slice none 0 0, .slice none 0 0, .slice none 0 0, .slice none 0 0, .slice none 0 0, .int .i64 0] 37)
  have hsz : (((w.alloc (.cells #[.int .i64 N.W, .int .i64 N.H, .slice y.br.A N.br.length y.br.c, .slice y.ta.A N.ta.length y.ta.c, .slice y.tb.A N.tb.length y.tb.c, .slice y.bu.A N.bu.length y.bu.c, .slice y.ow.A N.ow.length y.ow.c, .slice y.tu.A N.tu.length y.tu.c, .slice y.so.A N.so.length y.so.c, .slice y.ar.A N.ar.length y.ar.c, .int .i64 N.ti] 64)).alloc (.cells #[.int .i64 0, .int .i64 0, .slice none 0 0, .slice none 0 0, .slice none 0 0, .slice none 0 0, .slice none 0 0, .slice none 0 0, .slice none 0 0, .slice none 0 0, .int .i64 0] 37)).alloc (.cells #[.int .i64 0, .int .i64 0, .slice none 0 0, .slice none 0 0, .slice none 0 0, .slice none 0 0, .slice none 0 0, .slice none 0 0, .slice none 0 0, .slice none 0 0, .int .i64 0] 37)).heap.size = w.heap.size + 3 := by simp only [alloc_size]
  simp only [alloc_size] at k1 k2
  clear h hs
  go_enter Try.func32, Try.ntmps32
  go_wp2_with fail
  generalize ((w.alloc (.cells #[.int .i64 N.W, .int .i64 N.H, .slice y.br.A N.br.length y.br.c, .slice y.ta.A N.ta.length y.ta.c, .slice y.tb.A N.tb.length y.tb.c, .slice y.bu.A N.bu.length y.bu.c, .slice y.ow.A N.ow.length y.ow.c, .slice y.tu.A N.tu.length y.tu.c, .slice y.so.A N.so.length y.so.c, .slice y.ar.A N.ar.length y.ar.c, .int .i64 N.ti] 64)).alloc (.cells #[.int .i64 0, .int .i64 0, .slice none 0 0, .slice none 0 0, .slice none 0 0, .slice none 0 0, .slice none 0 0, .slice none 0 0, .slice none 0 0, .slice none 0 0, .int .i64 0] 37)).alloc (.cells #[.int .i64 0, .int .i64 0, .slice none 0 0, .slice none 0 0, .slice none 0 0, .slice none 0 0, .slice none 0 0, .slice none 0 0, .slice none 0 0, .slice none 0 0, .int .i64 0] 37) = wx at *
  obtain ⟨g, hg⟩ : ∃ g, w.heap.size + 1 + 1 = g := ⟨_, rfl⟩
  rw [hg] at k2
  rw [hg]
  have HG := Lib.hid hg
  have GE := Lib.hid ge
  have BE := Lib.hid (gb_below_none ge (Nat.le_refl _))
  have HE := Lib.hid (show wx.heap.size = g + 1 by omega)
  have L0 := Lib.hid k0
  have Z0 := Lib.hid k1
  have J0 := Lib.hid k2
  have R0 := Lib.hid (Chg.refl g (g + 1) wx)
  have F0 := Lib.hid (show Fix (g + 1) wx.heap.size (fun _ => True) wx from ⟨Nat.le_refl _, fun _ _ _ => trivial⟩)
  clear k0 k1 k2 ge hsz hg
  have hn1 : ¬ w.heap.size = g := by have := HG.out; omega
  have hn2 : ¬ g = w.heap.size := by omega
  have hn3 : ¬ w.heap.size + 1 = g := by have := HG.out; omega
  have hn4 : ¬ g = w.heap.size + 1 := by omega
  refine (lawsToMesh _ _ _ _ _ N.br _ (HIN.out.chg BE.out R0.out (.inl (by have := HG.out; omega))).br (by have := HSM.out; unfold sizeN at this; omega)).mono ?_
  rintro e v1 ⟨g1, rfl, o1, b1⟩
  obtain ⟨s1, hs1⟩ : ∃ s, wx.heap.size = s := ⟨_, rfl⟩
  rw [hs1] at o1
  have F1a : Hid (Fix (g + 1) v1.heap.size (fun w => (True) ∧ w.ownsRow s1 3 1 (.slice (some ⟨g1, 0, none⟩) N.br.length N.br.length) N.br.length (intsV N.br)) v1) := Lib.hid (((F0.out.gb (gb_of_below b1 none)).wide (Nat.le_refl _) (b1.size) (Nat.le_refl _)).and ((fix_row o1).wide (by have h1 := HE.out; have h2 := R0.out.size; omega) (Nat.le_refl _) (Nat.le_refl _)))
  have U1 := Lib.hid (show ∀ k, ((.slice (some ⟨g1, 0, none⟩) N.br.length N.br.length) : Value).ownBlock = some k → s1 ≤ k ∧ k < v1.heap.size from o1.lt)
  have S1 := Lib.hid (show s1 ≤ v1.heap.size ∧ wx.heap.size = s1 from ⟨by rw [← hs1]; exact b1.size, hs1⟩)
  have R1a := Lib.hid (R0.out.bl b1)
  have gl1 := Lib.hid (show g < wx.heap.size by have h1 := HE.out; have h2 := R0.out.size; omega)
  have J1a := Lib.hid (J0.out.below b1 gl1.out)
  have L1a := Lib.hid (L0.out.below b1 (by have := gl1.out; have := HG.out; omega))
  have Z1a := Lib.hid (Z0.out.below b1 (by have := gl1.out; have := HG.out; omega))
  have c1_0 : v1.cell? ⟨g, 0, none⟩ = some (.int .i64 0) := J1a.out.cell 0
  have c1_1 : v1.cell? ⟨g, 1, none⟩ = some (.int .i64 0) := J1a.out.cell 1
  have c1_2 : v1.cell? ⟨g, 2, none⟩ = some (.slice none 0 0) := J1a.out.cell 2
  have f1_0 := J1a.out.frozen 0
  have f1_1 := J1a.out.frozen 1
  have f1_2 := J1a.out.frozen 2
  have ata : v1.cell? ⟨w.heap.size, 3, none⟩ = some (.slice y.ta.A N.ta.length y.ta.c) := L1a.out.cell 3
  have atb : v1.cell? ⟨w.heap.size, 4, none⟩ = some (.slice y.tb.A N.tb.length y.tb.c) := L1a.out.cell 4
  clear o1 b1 hs1
  go_wp2_with fail
  have J1 : Hid (Blk (((v1.setCell ⟨g, 0, none⟩ (.int .i64 N.W)).setCell ⟨g, 1, none⟩ (.int .i64 N.H)).setCell ⟨g, 2, none⟩ (.slice (some ⟨g1, 0, none⟩) N.br.length N.br.length)) g 37 #[.int .i64 N.W, .int .i64 N.H, .slice (some ⟨g1, 0, none⟩) N.br.length N.br.length, .slice none 0 0, .slice none 0 0, .slice none 0 0, .slice none 0 0, .slice none 0 0, .slice none 0 0, .slice none 0 0, .int .i64 0]) := Lib.hid (by have hz := (((J1a.out.set_ 0 (.int .i64 N.W)).set_ 1 (.int .i64 N.H)).set_ 2 (.slice (some ⟨g1, 0, none⟩) N.br.length N.br.length)); simpa using hz)
  have q1 : Chg g (g + 1) v1 (((v1.setCell ⟨g, 0, none⟩ (.int .i64 N.W)).setCell ⟨g, 1, none⟩ (.int .i64 N.H)).setCell ⟨g, 2, none⟩ (.slice (some ⟨g1, 0, none⟩) N.br.length N.br.length)) := (((st_in _ _ _ _).sx _ _).sx _ _)
  have R1 : Hid (Chg g (g + 1) wx (((v1.setCell ⟨g, 0, none⟩ (.int .i64 N.W)).setCell ⟨g, 1, none⟩ (.int .i64 N.H)).setCell ⟨g, 2, none⟩ (.slice (some ⟨g1, 0, none⟩) N.br.length N.br.length))) := Lib.hid ((((R1a.out.sx _ _).sx _ _).sx _ _))
  have F1 := Lib.hid (F1a.out.chg q1 (.inr (.inl (Nat.le_refl _))))
  have L1 := Lib.hid (L1a.out.chg q1 (.inl (by have := HG.out; omega)))
  have Z1 := Lib.hid (Z1a.out.chg q1 (.inl (by have := HG.out; omega)))
  have E1 : Hid (((((v1.setCell ⟨g, 0, none⟩ (.int .i64 N.W)).setCell ⟨g, 1, none⟩ (.int .i64 N.H)).setCell ⟨g, 2, none⟩ (.slice (some ⟨g1, 0, none⟩) N.br.length N.br.length))).heap.size = v1.heap.size) := Lib.hid (by simp only [size_set])
  have q1s : ((((v1.setCell ⟨g, 0, none⟩ (.int .i64 N.W)).setCell ⟨g, 1, none⟩ (.int .i64 N.H)).setCell ⟨g, 2, none⟩ (.slice (some ⟨g1, 0, none⟩) N.br.length N.br.length))).heap.size = v1.heap.size := E1.out
  rw [← q1s] at F1
  clear J1a R1a F1a L1a Z1a q1 q1s c1_0 c1_1 c1_2 f1_0 f1_1 f1_2 ata atb R0 F0 J0 L0 Z0
  generalize (((v1.setCell ⟨g, 0, none⟩ (.int .i64 N.W)).setCell ⟨g, 1, none⟩ (.int .i64 N.H)).setCell ⟨g, 2, none⟩ (.slice (some ⟨g1, 0, none⟩) N.br.length N.br.length)) = u1 at *
  refine (lawsToClasses _ _ _ _ _ _ N.ta N.tb _ (HIN.out.chg BE.out R1.out (.inl (by have := HG.out; omega))).ta (HIN.out.chg BE.out R1.out (.inl (by have := HG.out; omega))).tb (by have := HSM.out; unfold sizeN at this; omega) (by have := HSM.out; unfold sizeN at this; omega)).mono ?_
  rintro e v2 ⟨x2, z2, rfl, o2, b2⟩
  obtain ⟨Ax2, cx2, rfl, _⟩ := own_form o2.r
  obtain ⟨Az2, cz2, rfl, _⟩ := own_form o2.c
  obtain ⟨s2, hs2⟩ : ∃ s, u1.heap.size = s := ⟨_, rfl⟩
  rw [hs2] at o2
  have F2a : Hid (Fix (g + 1) v2.heap.size (fun w => ((True) ∧ w.ownsRow s1 3 1 (.slice (some ⟨g1, 0, none⟩) N.br.length N.br.length) N.br.length (intsV N.br)) ∧ VRow w s2 (.slice Ax2 N.ta.length cx2) (.slice Az2 N.tb.length cz2) N.ta.length N.tb.length N.ta N.tb) v2) := Lib.hid (((F1.out.gb (gb_of_below b2 none)).wide (Nat.le_refl _) (b2.size) (Nat.le_refl _)).and ((fix_vrow o2).wide (by have h1 := HE.out; have h2 := R1.out.size; omega) (Nat.le_refl _) (Nat.le_refl _)))
  have U2 := Lib.hid (show ∀ k, (((.slice Ax2 N.ta.length cx2) : Value).ownBlock = some k ∨ ((.slice Az2 N.tb.length cz2) : Value).ownBlock = some k) → s2 ≤ k ∧ k < v2.heap.size from o2.lt)
  have S2 := Lib.hid (show s2 ≤ v2.heap.size ∧ u1.heap.size = s2 from ⟨by rw [← hs2]; exact b2.size, hs2⟩)
  have R2a := Lib.hid (R1.out.bl b2)
  have gl2 := Lib.hid (show g < u1.heap.size by have h1 := HE.out; have h2 := R1.out.size; omega)
  have J2a := Lib.hid (J1.out.below b2 gl2.out)
  have L2a := Lib.hid (L1.out.below b2 (by have := gl2.out; have := HG.out; omega))
  have Z2a := Lib.hid (Z1.out.below b2 (by have := gl2.out; have := HG.out; omega))
  have c2_3 : v2.cell? ⟨g, 3, none⟩ = some (.slice none 0 0) := J2a.out.cell 3
  have c2_4 : v2.cell? ⟨g, 4, none⟩ = some (.slice none 0 0) := J2a.out.cell 4
  have f2_3 := J2a.out.frozen 3
  have f2_4 := J2a.out.frozen 4
  have abu : v2.cell? ⟨w.heap.size, 5, none⟩ = some (.slice y.bu.A N.bu.length y.bu.c) := L2a.out.cell 5
  clear o2 b2 hs2
  go_wp2_with fail
  have J2 : Hid (Blk ((v2.setCell ⟨g, 3, none⟩ (.slice Ax2 N.ta.length cx2)).setCell ⟨g, 4, none⟩ (.slice Az2 N.tb.length cz2)) g 37 #[.int .i64 N.W, .int .i64 N.H, .slice (some ⟨g1, 0, none⟩) N.br.length N.br.length, .slice Ax2 N.ta.length cx2, .slice Az2 N.tb.length cz2, .slice none 0 0, .slice none 0 0, .slice none 0 0, .slice none 0 0, .slice none 0 0, .int .i64 0]) := Lib.hid (by have hz := ((J2a.out.set_ 3 (.slice Ax2 N.ta.length cx2)).set_ 4 (.slice Az2 N.tb.length cz2)); simpa using hz)
  have q2 : Chg g (g + 1) v2 ((v2.setCell ⟨g, 3, none⟩ (.slice Ax2 N.ta.length cx2)).setCell ⟨g, 4, none⟩ (.slice Az2 N.tb.length cz2)) := ((st_in _ _ _ _).sx _ _)
  have R2 : Hid (Chg g (g + 1) wx ((v2.setCell ⟨g, 3, none⟩ (.slice Ax2 N.ta.length cx2)).setCell ⟨g, 4, none⟩ (.slice Az2 N.tb.length cz2))) := Lib.hid (((R2a.out.sx _ _).sx _ _))
  have F2 := Lib.hid (F2a.out.chg q2 (.inr (.inl (Nat.le_refl _))))
  have L2 := Lib.hid (L2a.out.chg q2 (.inl (by have := HG.out; omega)))
  have Z2 := Lib.hid (Z2a.out.chg q2 (.inl (by have := HG.out; omega)))
  have E2 : Hid ((((v2.setCell ⟨g, 3, none⟩ (.slice Ax2 N.ta.length cx2)).setCell ⟨g, 4, none⟩ (.slice Az2 N.tb.length cz2))).heap.size = v2.heap.size) := Lib.hid (by simp only [size_set])
  have q2s : (((v2.setCell ⟨g, 3, none⟩ (.slice Ax2 N.ta.length cx2)).setCell ⟨g, 4, none⟩ (.slice Az2 N.tb.length cz2))).heap.size = v2.heap.size := E2.out
  rw [← q2s] at F2
  clear J2a R2a F2a L2a Z2a q2 q2s c2_3 c2_4 f2_3 f2_4 abu R1 F1 J1 L1 Z1
  generalize ((v2.setCell ⟨g, 3, none⟩ (.slice Ax2 N.ta.length cx2)).setCell ⟨g, 4, none⟩ (.slice Az2 N.tb.length cz2)) = u2 at *
  refine (lawsToFSS _ _ _ N.bu _ (HIN.out.chg BE.out R2.out (.inl (by have := HG.out; omega))).bu (by have := HSM.out; unfold sizeN at this; omega) (by have := HSM.out; unfold sizeN at this; omega)).mono ?_
  rintro e v3 ⟨g3, us3, rfl, o3, b3⟩
  obtain ⟨s3, hs3⟩ : ∃ s, u2.heap.size = s := ⟨_, rfl⟩
  rw [hs3] at o3
  have F3a : Hid (Fix (g + 1) v3.heap.size (fun w => (((True) ∧ w.ownsRow s1 3 1 (.slice (some ⟨g1, 0, none⟩) N.br.length N.br.length) N.br.length (intsV N.br)) ∧ VRow w s2 (.slice Ax2 N.ta.length cx2) (.slice Az2 N.tb.length cz2) N.ta.length N.tb.length N.ta N.tb) ∧ Fams 93 96 5 fltC w s3 (.slice (some ⟨g3, 0, none⟩) N.bu.length N.bu.length) us3 N.bu) v3) := Lib.hid (((F2.out.gb (gb_of_below b3 none)).wide (Nat.le_refl _) (b3.size) (Nat.le_refl _)).and ((fix_fams o3).wide (by have h1 := HE.out; have h2 := R2.out.size; omega) (Nat.le_refl _) (Nat.le_refl _)))
  have U3 := Lib.hid (show (∀ k, ((.slice (some ⟨g3, 0, none⟩) N.bu.length N.bu.length) : Value).ownBlock = some k → s3 ≤ k ∧ k < v3.heap.size) ∧ ∀ (i : Nat) v k, us3[i]? = some v → v.ownBlock = some k → s3 ≤ k ∧ k < v3.heap.size from ⟨o3.hd.lt, fun i v k hv hk => o3.fam.lt hv hk⟩)
  have S3 := Lib.hid (show s3 ≤ v3.heap.size ∧ u2.heap.size = s3 from ⟨by rw [← hs3]; exact b3.size, hs3⟩)
  have R3a := Lib.hid (R2.out.bl b3)
  have gl3 := Lib.hid (show g < u2.heap.size by have h1 := HE.out; have h2 := R2.out.size; omega)
  have J3a := Lib.hid (J2.out.below b3 gl3.out)
  have L3a := Lib.hid (L2.out.below b3 (by have := gl3.out; have := HG.out; omega))
  have Z3a := Lib.hid (Z2.out.below b3 (by have := gl3.out; have := HG.out; omega))
  have c3_5 : v3.cell? ⟨g, 5, none⟩ = some (.slice none 0 0) := J3a.out.cell 5
  have f3_5 := J3a.out.frozen 5
  have aow : v3.cell? ⟨w.heap.size, 6, none⟩ = some (.slice y.ow.A N.ow.length y.ow.c) := L3a.out.cell 6
  clear o3 b3 hs3
  go_wp2_with fail
  have J3 : Hid (Blk (v3.setCell ⟨g, 5, none⟩ (.slice (some ⟨g3, 0, none⟩) N.bu.length N.bu.length)) g 37 #[.int .i64 N.W, .int .i64 N.H, .slice (some ⟨g1, 0, none⟩) N.br.length N.br.length, .slice Ax2 N.ta.length cx2, .slice Az2 N.tb.length cz2, .slice (some ⟨g3, 0, none⟩) N.bu.length N.bu.length, .slice none 0 0, .slice none 0 0, .slice none 0 0, .slice none 0 0, .int .i64 0]) := Lib.hid (by have hz := (J3a.out.set_ 5 (.slice (some ⟨g3, 0, none⟩) N.bu.length N.bu.length)); simpa using hz)
  have q3 : Chg g (g + 1) v3 (v3.setCell ⟨g, 5, none⟩ (.slice (some ⟨g3, 0, none⟩) N.bu.length N.bu.length)) := (st_in _ _ _ _)
  have R3 : Hid (Chg g (g + 1) wx (v3.setCell ⟨g, 5, none⟩ (.slice (some ⟨g3, 0, none⟩) N.bu.length N.bu.length))) := Lib.hid ((R3a.out.sx _ _))
  have F3 := Lib.hid (F3a.out.chg q3 (.inr (.inl (Nat.le_refl _))))
  have L3 := Lib.hid (L3a.out.chg q3 (.inl (by have := HG.out; omega)))
  have Z3 := Lib.hid (Z3a.out.chg q3 (.inl (by have := HG.out; omega)))
  have E3 : Hid (((v3.setCell ⟨g, 5, none⟩ (.slice (some ⟨g3, 0, none⟩) N.bu.length N.bu.length))).heap.size = v3.heap.size) := Lib.hid (by simp only [size_set])
  have q3s : ((v3.setCell ⟨g, 5, none⟩ (.slice (some ⟨g3, 0, none⟩) N.bu.length N.bu.length))).heap.size = v3.heap.size := E3.out
  rw [← q3s] at F3
  clear J3a R3a F3a L3a Z3a q3 q3s c3_5 f3_5 aow R2 F2 J2 L2 Z2
  generalize (v3.setCell ⟨g, 5, none⟩ (.slice (some ⟨g3, 0, none⟩) N.bu.length N.bu.length)) = u3 at *
  refine (lawsToIntS _ _ _ N.ow _ (HIN.out.chg BE.out R3.out (.inl (by have := HG.out; omega))).ow (by have := HSM.out; unfold sizeN at this; omega)).mono ?_
  rintro e v4 ⟨g4, rfl, o4, b4⟩
  obtain ⟨s4, hs4⟩ : ∃ s, u3.heap.size = s := ⟨_, rfl⟩
  rw [hs4] at o4
  have F4a : Hid (Fix (g + 1) v4.heap.size (fun w => ((((True) ∧ w.ownsRow s1 3 1 (.slice (some ⟨g1, 0, none⟩) N.br.length N.br.length) N.br.length (intsV N.br)) ∧ VRow w s2 (.slice Ax2 N.ta.length cx2) (.slice Az2 N.tb.length cz2) N.ta.length N.tb.length N.ta N.tb) ∧ Fams 93 96 5 fltC w s3 (.slice (some ⟨g3, 0, none⟩) N.bu.length N.bu.length) us3 N.bu) ∧ w.ownsRow s4 3 1 (.slice (some ⟨g4, 0, none⟩) N.ow.length N.ow.length) N.ow.length (intsV N.ow)) v4) := Lib.hid (((F3.out.gb (gb_of_below b4 none)).wide (Nat.le_refl _) (b4.size) (Nat.le_refl _)).and ((fix_row o4).wide (by have h1 := HE.out; have h2 := R3.out.size; omega) (Nat.le_refl _) (Nat.le_refl _)))
  have U4 := Lib.hid (show ∀ k, ((.slice (some ⟨g4, 0, none⟩) N.ow.length N.ow.length) : Value).ownBlock = some k → s4 ≤ k ∧ k < v4.heap.size from o4.lt)
  have S4 := Lib.hid (show s4 ≤ v4.heap.size ∧ u3.heap.size = s4 from ⟨by rw [← hs4]; exact b4.size, hs4⟩)
  have R4a := Lib.hid (R3.out.bl b4)
  have gl4 := Lib.hid (show g < u3.heap.size by have h1 := HE.out; have h2 := R3.out.size; omega)
  have J4a := Lib.hid (J3.out.below b4 gl4.out)
  have L4a := Lib.hid (L3.out.below b4 (by have := gl4.out; have := HG.out; omega))
  have Z4a := Lib.hid (Z3.out.below b4 (by have := gl4.out; have := HG.out; omega))
  have c4_6 : v4.cell? ⟨g, 6, none⟩ = some (.slice none 0 0) := J4a.out.cell 6
  have f4_6 := J4a.out.frozen 6
  have atu : v4.cell? ⟨w.heap.size, 7, none⟩ = some (.slice y.tu.A N.tu.length y.tu.c) := L4a.out.cell 7
  clear o4 b4 hs4
  go_wp2_with fail
  have J4 : Hid (Blk (v4.setCell ⟨g, 6, none⟩ (.slice (some ⟨g4, 0, none⟩) N.ow.length N.ow.length)) g 37 #[.int .i64 N.W, .int .i64 N.H, .slice (some ⟨g1, 0, none⟩) N.br.length N.br.length, .slice Ax2 N.ta.length cx2, .slice Az2 N.tb.length cz2, .slice (some ⟨g3, 0, none⟩) N.bu.length N.bu.length, .slice (some ⟨g4, 0, none⟩) N.ow.length N.ow.length, .slice none 0 0, .slice none 0 0, .slice none 0 0, .int .i64 0]) := Lib.hid (by have hz := (J4a.out.set_ 6 (.slice (some ⟨g4, 0, none⟩) N.ow.length N.ow.length)); simpa using hz)
  have q4 : Chg g (g + 1) v4 (v4.setCell ⟨g, 6, none⟩ (.slice (some ⟨g4, 0, none⟩) N.ow.length N.ow.length)) := (st_in _ _ _ _)
  have R4 : Hid (Chg g (g + 1) wx (v4.setCell ⟨g, 6, none⟩ (.slice (some ⟨g4, 0, none⟩) N.ow.length N.ow.length))) := Lib.hid ((R4a.out.sx _ _))
  have F4 := Lib.hid (F4a.out.chg q4 (.inr (.inl (Nat.le_refl _))))
  have L4 := Lib.hid (L4a.out.chg q4 (.inl (by have := HG.out; omega)))
  have Z4 := Lib.hid (Z4a.out.chg q4 (.inl (by have := HG.out; omega)))
  have E4 : Hid (((v4.setCell ⟨g, 6, none⟩ (.slice (some ⟨g4, 0, none⟩) N.ow.length N.ow.length))).heap.size = v4.heap.size) := Lib.hid (by simp only [size_set])
  have q4s : ((v4.setCell ⟨g, 6, none⟩ (.slice (some ⟨g4, 0, none⟩) N.ow.length N.ow.length))).heap.size = v4.heap.size := E4.out
  rw [← q4s] at F4
  clear J4a R4a F4a L4a Z4a q4 q4s c4_6 f4_6 atu R3 F3 J3 L3 Z3
  generalize (v4.setCell ⟨g, 6, none⟩ (.slice (some ⟨g4, 0, none⟩) N.ow.length N.ow.length)) = u4 at *
  refine (lawsToIntS _ _ _ N.tu _ (HIN.out.chg BE.out R4.out (.inl (by have := HG.out; omega))).tu (by have := HSM.out; unfold sizeN at this; omega)).mono ?_
  rintro e v5 ⟨g5, rfl, o5, b5⟩
  obtain ⟨s5, hs5⟩ : ∃ s, u4.heap.size = s := ⟨_, rfl⟩
  rw [hs5] at o5
  have F5a : Hid (Fix (g + 1) v5.heap.size (fun w => (((((True) ∧ w.ownsRow s1 3 1 (.slice (some ⟨g1, 0, none⟩) N.br.length N.br.length) N.br.length (intsV N.br)) ∧ VRow w s2 (.slice Ax2 N.ta.length cx2) (.slice Az2 N.tb.length cz2) N.ta.length N.tb.length N.ta N.tb) ∧ Fams 93 96 5 fltC w s3 (.slice (some ⟨g3, 0, none⟩) N.bu.length N.bu.length) us3 N.bu) ∧ w.ownsRow s4 3 1 (.slice (some ⟨g4, 0, none⟩) N.ow.length N.ow.length) N.ow.length (intsV N.ow)) ∧ w.ownsRow s5 3 1 (.slice (some ⟨g5, 0, none⟩) N.tu.length N.tu.length) N.tu.length (intsV N.tu)) v5) := Lib.hid (((F4.out.gb (gb_of_below b5 none)).wide (Nat.le_refl _) (b5.size) (Nat.le_refl _)).and ((fix_row o5).wide (by have h1 := HE.out; have h2 := R4.out.size; omega) (Nat.le_refl _) (Nat.le_refl _)))
  have U5 := Lib.hid (show ∀ k, ((.slice (some ⟨g5, 0, none⟩) N.tu.length N.tu.length) : Value).ownBlock = some k → s5 ≤ k ∧ k < v5.heap.size from o5.lt)
  have S5 := Lib.hid (show s5 ≤ v5.heap.size ∧ u4.heap.size = s5 from ⟨by rw [← hs5]; exact b5.size, hs5⟩)
  have R5a := Lib.hid (R4.out.bl b5)
  have gl5 := Lib.hid (show g < u4.heap.size by have h1 := HE.out; have h2 := R4.out.size; omega)
  have J5a := Lib.hid (J4.out.below b5 gl5.out)
  have L5a := Lib.hid (L4.out.below b5 (by have := gl5.out; have := HG.out; omega))
  have Z5a := Lib.hid (Z4.out.below b5 (by have := gl5.out; have := HG.out; omega))
  have c5_7 : v5.cell? ⟨g, 7, none⟩ = some (.slice none 0 0) := J5a.out.cell 7
  have f5_7 := J5a.out.frozen 7
  have aso : v5.cell? ⟨w.heap.size, 8, none⟩ = some (.slice y.so.A N.so.length y.so.c) := L5a.out.cell 8
  clear o5 b5 hs5
  go_wp2_with fail
  have J5 : Hid (Blk (v5.setCell ⟨g, 7, none⟩ (.slice (some ⟨g5, 0, none⟩) N.tu.length N.tu.length)) g 37 #[.int .i64 N.W, .int .i64 N.H, .slice (some ⟨g1, 0, none⟩) N.br.length N.br.length, .slice Ax2 N.ta.length cx2, .slice Az2 N.tb.length cz2, .slice (some ⟨g3, 0, none⟩) N.bu.length N.bu.length, .slice (some ⟨g4, 0, none⟩) N.ow.length N.ow.length, .slice (some ⟨g5, 0, none⟩) N.tu.length N.tu.length, .slice none 0 0, .slice none 0 0, .int .i64 0]) := Lib.hid (by have hz := (J5a.out.set_ 7 (.slice (some ⟨g5, 0, none⟩) N.tu.length N.tu.length)); simpa using hz)
  have q5 : Chg g (g + 1) v5 (v5.setCell ⟨g, 7, none⟩ (.slice (some ⟨g5, 0, none⟩) N.tu.length N.tu.length)) := (st_in _ _ _ _)
  have R5 : Hid (Chg g (g + 1) wx (v5.setCell ⟨g, 7, none⟩ (.slice (some ⟨g5, 0, none⟩) N.tu.length N.tu.length))) := Lib.hid ((R5a.out.sx _ _))
  have F5 := Lib.hid (F5a.out.chg q5 (.inr (.inl (Nat.le_refl _))))
  have L5 := Lib.hid (L5a.out.chg q5 (.inl (by have := HG.out; omega)))
  have Z5 := Lib.hid (Z5a.out.chg q5 (.inl (by have := HG.out; omega)))
  have E5 : Hid (((v5.setCell ⟨g, 7, none⟩ (.slice (some ⟨g5, 0, none⟩) N.tu.length N.tu.length))).heap.size = v5.heap.size) := Lib.hid (by simp only [size_set])
  have q5s : ((v5.setCell ⟨g, 7, none⟩ (.slice (some ⟨g5, 0, none⟩) N.tu.length N.tu.length))).heap.size = v5.heap.size := E5.out
  rw [← q5s] at F5
  clear J5a R5a F5a L5a Z5a q5 q5s c5_7 f5_7 aso R4 F4 J4 L4 Z4
  generalize (v5.setCell ⟨g, 7, none⟩ (.slice (some ⟨g5, 0, none⟩) N.tu.length N.tu.length)) = u5 at *
  refine (lawsToFSS _ _ _ N.so _ (HIN.out.chg BE.out R5.out (.inl (by have := HG.out; omega))).so (by have := HSM.out; unfold sizeN at this; omega) (by have := HSM.out; unfold sizeN at this; omega)).mono ?_
  rintro e v6 ⟨g6, us6, rfl, o6, b6⟩
  obtain ⟨s6, hs6⟩ : ∃ s, u5.heap.size = s := ⟨_, rfl⟩
  rw [hs6] at o6
  have F6a : Hid (Fix (g + 1) v6.heap.size (fun w => ((((((True) ∧ w.ownsRow s1 3 1 (.slice (some ⟨g1, 0, none⟩) N.br.length N.br.length) N.br.length (intsV N.br)) ∧ VRow w s2 (.slice Ax2 N.ta.length cx2) (.slice Az2 N.tb.length cz2) N.ta.length N.tb.length N.ta N.tb) ∧ Fams 93 96 5 fltC w s3 (.slice (some ⟨g3, 0, none⟩) N.bu.length N.bu.length) us3 N.bu) ∧ w.ownsRow s4 3 1 (.slice (some ⟨g4, 0, none⟩) N.ow.length N.ow.length) N.ow.length (intsV N.ow)) ∧ w.ownsRow s5 3 1 (.slice (some ⟨g5, 0, none⟩) N.tu.length N.tu.length) N.tu.length (intsV N.tu)) ∧ Fams 93 96 5 fltC w s6 (.slice (some ⟨g6, 0, none⟩) N.so.length N.so.length) us6 N.so) v6) := Lib.hid (((F5.out.gb (gb_of_below b6 none)).wide (Nat.le_refl _) (b6.size) (Nat.le_refl _)).and ((fix_fams o6).wide (by have h1 := HE.out; have h2 := R5.out.size; omega) (Nat.le_refl _) (Nat.le_refl _)))
  have U6 := Lib.hid (show (∀ k, ((.slice (some ⟨g6, 0, none⟩) N.so.length N.so.length) : Value).ownBlock = some k → s6 ≤ k ∧ k < v6.heap.size) ∧ ∀ (i : Nat) v k, us6[i]? = some v → v.ownBlock = some k → s6 ≤ k ∧ k < v6.heap.size from ⟨o6.hd.lt, fun i v k hv hk => o6.fam.lt hv hk⟩)
  have S6 := Lib.hid (show s6 ≤ v6.heap.size ∧ u5.heap.size = s6 from ⟨by rw [← hs6]; exact b6.size, hs6⟩)
  have R6a := Lib.hid (R5.out.bl b6)
  have gl6 := Lib.hid (show g < u5.heap.size by have h1 := HE.out; have h2 := R5.out.size; omega)
  have J6a := Lib.hid (J5.out.below b6 gl6.out)
  have L6a := Lib.hid (L5.out.below b6 (by have := gl6.out; have := HG.out; omega))
  have Z6a := Lib.hid (Z5.out.below b6 (by have := gl6.out; have := HG.out; omega))
  have c6_8 : v6.cell? ⟨g, 8, none⟩ = some (.slice none 0 0) := J6a.out.cell 8
  have f6_8 := J6a.out.frozen 8
  have aar : v6.cell? ⟨w.heap.size, 9, none⟩ = some (.slice y.ar.A N.ar.length y.ar.c) := L6a.out.cell 9
  clear o6 b6 hs6
  go_wp2_with fail
  have J6 : Hid (Blk (v6.setCell ⟨g, 8, none⟩ (.slice (some ⟨g6, 0, none⟩) N.so.length N.so.length)) g 37 #[.int .i64 N.W, .int .i64 N.H, .slice (some ⟨g1, 0, none⟩) N.br.length N.br.length, .slice Ax2 N.ta.length cx2, .slice Az2 N.tb.length cz2, .slice (some ⟨g3, 0, none⟩) N.bu.length N.bu.length, .slice (some ⟨g4, 0, none⟩) N.ow.length N.ow.length, .slice (some ⟨g5, 0, none⟩) N.tu.length N.tu.length, .slice (some ⟨g6, 0, none⟩) N.so.length N.so.length, .slice none 0 0, .int .i64 0]) := Lib.hid (by have hz := (J6a.out.set_ 8 (.slice (some ⟨g6, 0, none⟩) N.so.length N.so.length)); simpa using hz)
  have q6 : Chg g (g + 1) v6 (v6.setCell ⟨g, 8, none⟩ (.slice (some ⟨g6, 0, none⟩) N.so.length N.so.length)) := (st_in _ _ _ _)
  have R6 : Hid (Chg g (g + 1) wx (v6.setCell ⟨g, 8, none⟩ (.slice (some ⟨g6, 0, none⟩) N.so.length N.so.length))) := Lib.hid ((R6a.out.sx _ _))
  have F6 := Lib.hid (F6a.out.chg q6 (.inr (.inl (Nat.le_refl _))))
  have L6 := Lib.hid (L6a.out.chg q6 (.inl (by have := HG.out; omega)))
  have Z6 := Lib.hid (Z6a.out.chg q6 (.inl (by have := HG.out; omega)))
  have E6 : Hid (((v6.setCell ⟨g, 8, none⟩ (.slice (some ⟨g6, 0, none⟩) N.so.length N.so.length))).heap.size = v6.heap.size) := Lib.hid (by simp only [size_set])
  have q6s : ((v6.setCell ⟨g, 8, none⟩ (.slice (some ⟨g6, 0, none⟩) N.so.length N.so.length))).heap.size = v6.heap.size := E6.out
  rw [← q6s] at F6
  clear J6a R6a F6a L6a Z6a q6 q6s c6_8 f6_8 aar R5 F5 J5 L5 Z5
  generalize (v6.setCell ⟨g, 8, none⟩ (.slice (some ⟨g6, 0, none⟩) N.so.length N.so.length)) = u6 at *
  refine (lawsToFSS _ _ _ N.ar _ (HIN.out.chg BE.out R6.out (.inl (by have := HG.out; omega))).ar (by have := HSM.out; unfold sizeN at this; omega) (by have := HSM.out; unfold sizeN at this; omega)).mono ?_
  rintro e v7 ⟨g7, us7, rfl, o7, b7⟩
  obtain ⟨s7, hs7⟩ : ∃ s, u6.heap.size = s := ⟨_, rfl⟩
  rw [hs7] at o7
  have F7a : Hid (Fix (g + 1) v7.heap.size (fun w => (((((((True) ∧ w.ownsRow s1 3 1 (.slice (some ⟨g1, 0, none⟩) N.br.length N.br.length) N.br.length (intsV N.br)) ∧ VRow w s2 (.slice Ax2 N.ta.length cx2) (.slice Az2 N.tb.length cz2) N.ta.length N.tb.length N.ta N.tb) ∧ Fams 93 96 5 fltC w s3 (.slice (some ⟨g3, 0, none⟩) N.bu.length N.bu.length) us3 N.bu) ∧ w.ownsRow s4 3 1 (.slice (some ⟨g4, 0, none⟩) N.ow.length N.ow.length) N.ow.length (intsV N.ow)) ∧ w.ownsRow s5 3 1 (.slice (some ⟨g5, 0, none⟩) N.tu.length N.tu.length) N.tu.length (intsV N.tu)) ∧ Fams 93 96 5 fltC w s6 (.slice (some ⟨g6, 0, none⟩) N.so.length N.so.length) us6 N.so) ∧ Fams 93 96 5 fltC w s7 (.slice (some ⟨g7, 0, none⟩) N.ar.length N.ar.length) us7 N.ar) v7) := Lib.hid (((F6.out.gb (gb_of_below b7 none)).wide (Nat.le_refl _) (b7.size) (Nat.le_refl _)).and ((fix_fams o7).wide (by have h1 := HE.out; have h2 := R6.out.size; omega) (Nat.le_refl _) (Nat.le_refl _)))
  have U7 := Lib.hid (show (∀ k, ((.slice (some ⟨g7, 0, none⟩) N.ar.length N.ar.length) : Value).ownBlock = some k → s7 ≤ k ∧ k < v7.heap.size) ∧ ∀ (i : Nat) v k, us7[i]? = some v → v.ownBlock = some k → s7 ≤ k ∧ k < v7.heap.size from ⟨o7.hd.lt, fun i v k hv hk => o7.fam.lt hv hk⟩)
  have S7 := Lib.hid (show s7 ≤ v7.heap.size ∧ u6.heap.size = s7 from ⟨by rw [← hs7]; exact b7.size, hs7⟩)
  have R7a := Lib.hid (R6.out.bl b7)
  have gl7 := Lib.hid (show g < u6.heap.size by have h1 := HE.out; have h2 := R6.out.size; omega)
  have J7a := Lib.hid (J6.out.below b7 gl7.out)
  have L7a := Lib.hid (L6.out.below b7 (by have := gl7.out; have := HG.out; omega))
  have Z7a := Lib.hid (Z6.out.below b7 (by have := gl7.out; have := HG.out; omega))
  have c7_0 : v7.cell? ⟨g, 0, none⟩ = some (.int .i64 N.W) := J7a.out.cell 0
  have c7_1 : v7.cell? ⟨g, 1, none⟩ = some (.int .i64 N.H) := J7a.out.cell 1
  have c7_2 : v7.cell? ⟨g, 2, none⟩ = some (.slice (some ⟨g1, 0, none⟩) N.br.length N.br.length) := J7a.out.cell 2
  have c7_3 : v7.cell? ⟨g, 3, none⟩ = some (.slice Ax2 N.ta.length cx2) := J7a.out.cell 3
  have c7_4 : v7.cell? ⟨g, 4, none⟩ = some (.slice Az2 N.tb.length cz2) := J7a.out.cell 4
  have c7_5 : v7.cell? ⟨g, 5, none⟩ = some (.slice (some ⟨g3, 0, none⟩) N.bu.length N.bu.length) := J7a.out.cell 5
  have c7_6 : v7.cell? ⟨g, 6, none⟩ = some (.slice (some ⟨g4, 0, none⟩) N.ow.length N.ow.length) := J7a.out.cell 6
  have c7_7 : v7.cell? ⟨g, 7, none⟩ = some (.slice (some ⟨g5, 0, none⟩) N.tu.length N.tu.length) := J7a.out.cell 7
  have c7_8 : v7.cell? ⟨g, 8, none⟩ = some (.slice (some ⟨g6, 0, none⟩) N.so.length N.so.length) := J7a.out.cell 8
  have c7_9 : v7.cell? ⟨g, 9, none⟩ = some (.slice none 0 0) := J7a.out.cell 9
  have c7_10 : v7.cell? ⟨g, 10, none⟩ = some (.int .i64 0) := J7a.out.cell 10
  have f7_9 := J7a.out.frozen 9
  have f7_10 := J7a.out.frozen 10
  have at1 : v7.cell? ⟨w.heap.size, 10, none⟩ = some (.int .i64 N.ti) := L7a.out.cell 10
  have z8_0 : v7.cell? ⟨w.heap.size + 1, 0, none⟩ = some (.int .i64 0) := Z7a.out.cell 0
  have y8_0 := Z7a.out.frozen 0
  have z8_1 : v7.cell? ⟨w.heap.size + 1, 1, none⟩ = some (.int .i64 0) := Z7a.out.cell 1
  have y8_1 := Z7a.out.frozen 1
  have z8_2 : v7.cell? ⟨w.heap.size + 1, 2, none⟩ = some (.slice none 0 0) := Z7a.out.cell 2
  have y8_2 := Z7a.out.frozen 2
  have z8_3 : v7.cell? ⟨w.heap.size + 1, 3, none⟩ = some (.slice none 0 0) := Z7a.out.cell 3
  have y8_3 := Z7a.out.frozen 3
  have z8_4 : v7.cell? ⟨w.heap.size + 1, 4, none⟩ = some (.slice none 0 0) := Z7a.out.cell 4
  have y8_4 := Z7a.out.frozen 4
  have z8_5 : v7.cell? ⟨w.heap.size + 1, 5, none⟩ = some (.slice none 0 0) := Z7a.out.cell 5
  have y8_5 := Z7a.out.frozen 5
  have z8_6 : v7.cell? ⟨w.heap.size + 1, 6, none⟩ = some (.slice none 0 0) := Z7a.out.cell 6
  have y8_6 := Z7a.out.frozen 6
  have z8_7 : v7.cell? ⟨w.heap.size + 1, 7, none⟩ = some (.slice none 0 0) := Z7a.out.cell 7
  have y8_7 := Z7a.out.frozen 7
  have z8_8 : v7.cell? ⟨w.heap.size + 1, 8, none⟩ = some (.slice none 0 0) := Z7a.out.cell 8
  have y8_8 := Z7a.out.frozen 8
  have z8_9 : v7.cell? ⟨w.heap.size + 1, 9, none⟩ = some (.slice none 0 0) := Z7a.out.cell 9
  have y8_9 := Z7a.out.frozen 9
  have z8_10 : v7.cell? ⟨w.heap.size + 1, 10, none⟩ = some (.int .i64 0) := Z7a.out.cell 10
  have y8_10 := Z7a.out.frozen 10
  clear o7 b7 hs7
  go_wp2_with fail
  have kk : Blk (((((((((((((v7.setCell ⟨g, 9, none⟩ (.slice (some ⟨g7, 0, none⟩) N.ar.length N.ar.length)).setCell ⟨g, 10, none⟩ (.int .i64 N.ti)).setCell ⟨w.heap.size + 1, 0, none⟩ (.int .i64 N.W)).setCell ⟨w.heap.size + 1, 1, none⟩ (.int .i64 N.H)).setCell ⟨w.heap.size + 1, 2, none⟩ (.slice (some ⟨g1, 0, none⟩) N.br.length N.br.length)).setCell ⟨w.heap.size + 1, 3, none⟩ (.slice Ax2 N.ta.length cx2)).setCell ⟨w.heap.size + 1, 4, none⟩ (.slice Az2 N.tb.length cz2)).setCell ⟨w.heap.size + 1, 5, none⟩ (.slice (some ⟨g3, 0, none⟩) N.bu.length N.bu.length)).setCell ⟨w.heap.size + 1, 6, none⟩ (.slice (some ⟨g4, 0, none⟩) N.ow.length N.ow.length)).setCell ⟨w.heap.size + 1, 7, none⟩ (.slice (some ⟨g5, 0, none⟩) N.tu.length N.tu.length)).setCell ⟨w.heap.size + 1, 8, none⟩ (.slice (some ⟨g6, 0, none⟩) N.so.length N.so.length)).setCell ⟨w.heap.size + 1, 9, none⟩ (.slice (some ⟨g7, 0, none⟩) N.ar.length N.ar.length)).setCell ⟨w.heap.size + 1, 10, none⟩ (.int .i64 N.ti)) (w.heap.size + 1) 37 #[.int .i64 N.W, .int .i64 N.H, .slice (some ⟨g1, 0, none⟩) N.br.length N.br.length, .slice Ax2 N.ta.length cx2, .slice Az2 N.tb.length cz2, .slice (some ⟨g3, 0, none⟩) N.bu.length N.bu.length, .slice (some ⟨g4, 0, none⟩) N.ow.length N.ow.length, .slice (some ⟨g5, 0, none⟩) N.tu.length N.tu.length, .slice (some ⟨g6, 0, none⟩) N.so.length N.so.length, .slice (some ⟨g7, 0, none⟩) N.ar.length N.ar.length, .int .i64 N.ti] := by
    have hz := ((((((((((((Z7a.out.far (p := ⟨g, 9, none⟩) hn3 (.slice (some ⟨g7, 0, none⟩) N.ar.length N.ar.length)).far (p := ⟨g, 10, none⟩) hn3 (.int .i64 N.ti)).set_ 0 (.int .i64 N.W)).set_ 1 (.int .i64 N.H)).set_ 2 (.slice (some ⟨g1, 0, none⟩) N.br.length N.br.length)).set_ 3 (.slice Ax2 N.ta.length cx2)).set_ 4 (.slice Az2 N.tb.length cz2)).set_ 5 (.slice (some ⟨g3, 0, none⟩) N.bu.length N.bu.length)).set_ 6 (.slice (some ⟨g4, 0, none⟩) N.ow.length N.ow.length)).set_ 7 (.slice (some ⟨g5, 0, none⟩) N.tu.length N.tu.length)).set_ 8 (.slice (some ⟨g6, 0, none⟩) N.so.length N.so.length)).set_ 9 (.slice (some ⟨g7, 0, none⟩) N.ar.length N.ar.length)).set_ 10 (.int .i64 N.ti)
    simpa using hz
  have q8 : Chg g (g + 1) v7 ((v7.setCell ⟨g, 9, none⟩ (.slice (some ⟨g7, 0, none⟩) N.ar.length N.ar.length)).setCell ⟨g, 10, none⟩ (.int .i64 N.ti)) := (st_in _ _ _ _).sx _ _
  have q9 : Chg (w.heap.size + 1) (w.heap.size + 1 + 1) ((v7.setCell ⟨g, 9, none⟩ (.slice (some ⟨g7, 0, none⟩) N.ar.length N.ar.length)).setCell ⟨g, 10, none⟩ (.int .i64 N.ti)) (((((((((((((v7.setCell ⟨g, 9, none⟩ (.slice (some ⟨g7, 0, none⟩) N.ar.length N.ar.length)).setCell ⟨g, 10, none⟩ (.int .i64 N.ti)).setCell ⟨w.heap.size + 1, 0, none⟩ (.int .i64 N.W)).setCell ⟨w.heap.size + 1, 1, none⟩ (.int .i64 N.H)).setCell ⟨w.heap.size + 1, 2, none⟩ (.slice (some ⟨g1, 0, none⟩) N.br.length N.br.length)).setCell ⟨w.heap.size + 1, 3, none⟩ (.slice Ax2 N.ta.length cx2)).setCell ⟨w.heap.size + 1, 4, none⟩ (.slice Az2 N.tb.length cz2)).setCell ⟨w.heap.size + 1, 5, none⟩ (.slice (some ⟨g3, 0, none⟩) N.bu.length N.bu.length)).setCell ⟨w.heap.size + 1, 6, none⟩ (.slice (some ⟨g4, 0, none⟩) N.ow.length N.ow.length)).setCell ⟨w.heap.size + 1, 7, none⟩ (.slice (some ⟨g5, 0, none⟩) N.tu.length N.tu.length)).setCell ⟨w.heap.size + 1, 8, none⟩ (.slice (some ⟨g6, 0, none⟩) N.so.length N.so.length)).setCell ⟨w.heap.size + 1, 9, none⟩ (.slice (some ⟨g7, 0, none⟩) N.ar.length N.ar.length)).setCell ⟨w.heap.size + 1, 10, none⟩ (.int .i64 N.ti)) := (((((((((((st_in _ _ _ _).sx _ _).sx _ _).sx _ _).sx _ _).sx _ _).sx _ _).sx _ _).sx _ _).sx _ _).sx _ _)
  have r9 := (R7a.out.trans q8)
  have FF := (F7a.out.chg q8 (.inr (.inl (Nat.le_refl _)))).chg q9 (.inr (.inl (by have := HG.out; omega)))
  have hsz : (((((((((((((v7.setCell ⟨g, 9, none⟩ (.slice (some ⟨g7, 0, none⟩) N.ar.length N.ar.length)).setCell ⟨g, 10, none⟩ (.int .i64 N.ti)).setCell ⟨w.heap.size + 1, 0, none⟩ (.int .i64 N.W)).setCell ⟨w.heap.size + 1, 1, none⟩ (.int .i64 N.H)).setCell ⟨w.heap.size + 1, 2, none⟩ (.slice (some ⟨g1, 0, none⟩) N.br.length N.br.length)).setCell ⟨w.heap.size + 1, 3, none⟩ (.slice Ax2 N.ta.length cx2)).setCell ⟨w.heap.size + 1, 4, none⟩ (.slice Az2 N.tb.length cz2)).setCell ⟨w.heap.size + 1, 5, none⟩ (.slice (some ⟨g3, 0, none⟩) N.bu.length N.bu.length)).setCell ⟨w.heap.size + 1, 6, none⟩ (.slice (some ⟨g4, 0, none⟩) N.ow.length N.ow.length)).setCell ⟨w.heap.size + 1, 7, none⟩ (.slice (some ⟨g5, 0, none⟩) N.tu.length N.tu.length)).setCell ⟨w.heap.size + 1, 8, none⟩ (.slice (some ⟨g6, 0, none⟩) N.so.length N.so.length)).setCell ⟨w.heap.size + 1, 9, none⟩ (.slice (some ⟨g7, 0, none⟩) N.ar.length N.ar.length)).setCell ⟨w.heap.size + 1, 10, none⟩ (.int .i64 N.ti)).heap.size = v7.heap.size := by simp only [size_set]
  have hbl := (BE.out.trans (r9.below (.inl (by have := HG.out; omega)) BE.out.size)).trans (q9.below (.inl (by omega)) (Nat.le_trans BE.out.size r9.size))
  have d0 := kk.cell 0
  have d1 := kk.cell 1
  have d2 := kk.cell 2
  have d3 := kk.cell 3
  have d4 := kk.cell 4
  have d5 := kk.cell 5
  have d6 := kk.cell 6
  have d7 := kk.cell 7
  have d8 := kk.cell 8
  have d9 := kk.cell 9
  have d10 := kk.cell 10
  simp only [List.getElem?_toArray, List.getElem?_cons_zero, List.getElem?_cons_succ] at d0 d1 d2 d3 d4 d5 d6 d7 d8 d9 d10
  generalize (((((((((((((v7.setCell ⟨g, 9, none⟩ (.slice (some ⟨g7, 0, none⟩) N.ar.length N.ar.length)).setCell ⟨g, 10, none⟩ (.int .i64 N.ti)).setCell ⟨w.heap.size + 1, 0, none⟩ (.int .i64 N.W)).setCell ⟨w.heap.size + 1, 1, none⟩ (.int .i64 N.H)).setCell ⟨w.heap.size + 1, 2, none⟩ (.slice (some ⟨g1, 0, none⟩) N.br.length N.br.length)).setCell ⟨w.heap.size + 1, 3, none⟩ (.slice Ax2 N.ta.length cx2)).setCell ⟨w.heap.size + 1, 4, none⟩ (.slice Az2 N.tb.length cz2)).setCell ⟨w.heap.size + 1, 5, none⟩ (.slice (some ⟨g3, 0, none⟩) N.bu.length N.bu.length)).setCell ⟨w.heap.size + 1, 6, none⟩ (.slice (some ⟨g4, 0, none⟩) N.ow.length N.ow.length)).setCell ⟨w.heap.size + 1, 7, none⟩ (.slice (some ⟨g5, 0, none⟩) N.tu.length N.tu.length)).setCell ⟨w.heap.size + 1, 8, none⟩ (.slice (some ⟨g6, 0, none⟩) N.so.length N.so.length)).setCell ⟨w.heap.size + 1, 9, none⟩ (.slice (some ⟨g7, 0, none⟩) N.ar.length N.ar.length)).setCell ⟨w.heap.size + 1, 10, none⟩ (.int .i64 N.ti)) = wz at *
  clear kk q8 q9 r9 c7_0 c7_1 c7_2 c7_3 c7_4 c7_5 c7_6 c7_7 c7_8 c7_9 c7_10 f7_9 f7_10 at1 z8_0 y8_0 z8_1 y8_1 z8_2 y8_2 z8_3 y8_3 z8_4 y8_4 z8_5 y8_5 z8_6 y8_6 z8_7 y8_7 z8_8 y8_8 z8_9 y8_9 z8_10 y8_10
  have hch : w.heap.size ≤ s1 ∧ v1.heap.size ≤ s2 ∧ v2.heap.size ≤ s3 ∧ v3.heap.size ≤ s4 ∧ v4.heap.size ≤ s5 ∧ v5.heap.size ≤ s6 ∧ v6.heap.size ≤ s7 ∧ s1 ≤ s2 ∧ s2 ≤ s3 ∧ s3 ≤ s4 ∧ s4 ≤ s5 ∧ s5 ≤ s6 ∧ s6 ≤ s7 := by have t1 := S1.out; have t2 := S2.out; have t3 := S3.out; have t4 := S4.out; have t5 := S5.out; have t6 := S6.out; have t7 := S7.out; have n1 := E1.out; have n2 := E2.out; have n3 := E3.out; have n4 := E4.out; have n5 := E5.out; have n6 := E6.out; have h1 := HE.out; have h2 := HG.out; omega
  obtain ⟨⟨⟨⟨⟨⟨⟨_, p1⟩, p2⟩, p3⟩, p4⟩, p5⟩, p6⟩, p7⟩ := FF.here
  obtain ⟨m0, m1, m2, m3, m4, m5, m6, m7, m8, m9, m10, m11, m12⟩ := hch
  have one : ∀ {x : Value} {a b m : Nat}, (∀ k, x.ownBlock = some k → a ≤ k ∧ k < b) → b ≤ m → ∀ v ∈ [x], ∀ k, v.ownBlock = some k → k < m := fun h hb v hv k hk => by
    rw [List.mem_singleton.1 hv] at hk
    have := h k hk
    omega
  have two : ∀ v ∈ [(.slice Ax2 N.ta.length cx2 : Value), .slice Az2 N.tb.length cz2], ∀ k, v.ownBlock = some k → k < s4 := fun v hv k hk => by
    rcases List.mem_cons.1 hv with e | e
    · rw [e] at hk; have := U2.out k (.inl hk); omega
    · rw [List.mem_singleton.1 e] at hk; have := U2.out k (.inr hk); omega
  have many : ∀ {us : List Value} {a b m : Nat}, (∀ (i : Nat) v k, us[i]? = some v → v.ownBlock = some k → a ≤ k ∧ k < b) → b ≤ m → ∀ v ∈ us, ∀ k, v.ownBlock = some k → k < m := fun h hb v hv k hk => by
    obtain ⟨i, hi, e⟩ := List.getElem_of_mem hv
    have := h i v k (List.getElem?_eq_some_iff.2 ⟨hi, e⟩) hk
    omega
  have hI := ((fam_int p1).app ((fam_two p2).app ((fam_int p4).app (fam_int p5) m10 (one U4.out m4)) (Nat.le_trans m8 m9) two) m7 (one U1.out m1)).less m0
  have hH := ((fam_hd p3.hd p3.fam.len).app ((fam_hd p6.hd p6.fam.len).app (fam_hd p7.hd p7.fam.len) m12 (one U6.out.1 m6)) (by omega) (one U3.out.1 (by omega))).less (show w.heap.size ≤ s3 by omega)
  have hF := (p3.fam.app (p6.fam.app p7.fam m12 (many U6.out.2 m6)) (show s3 ≤ s6 by omega) (many U3.out.2 (by omega))).less (show w.heap.size ≤ s3 by omega)
  refine bodyPost_ret (v := .agg #[.int .i64 N.W, .int .i64 N.H, .slice (some ⟨g1, 0, none⟩) N.br.length N.br.length, .slice Ax2 N.ta.length cx2, .slice Az2 N.tb.length cz2, .slice (some ⟨g3, 0, none⟩) N.bu.length N.bu.length, .slice (some ⟨g4, 0, none⟩) N.ow.length N.ow.length, .slice (some ⟨g5, 0, none⟩) N.tu.length N.tu.length, .slice (some ⟨g6, 0, none⟩) N.so.length N.so.length, .slice (some ⟨g7, 0, none⟩) N.ar.length N.ar.length, .int .i64 N.ti]) (by simp [results, Try.results32, go_sem, d0, d1, d2, d3, d4, d5, d6, d7, d8, d9, d10]) rfl ⟨⟨⟨some ⟨g1, 0, none⟩, N.br.length⟩, ⟨Ax2, cx2⟩, ⟨Az2, cz2⟩, ⟨some ⟨g3, 0, none⟩, N.bu.length⟩, ⟨some ⟨g4, 0, none⟩, N.ow.length⟩, ⟨some ⟨g5, 0, none⟩, N.tu.length⟩, ⟨some ⟨g6, 0, none⟩, N.so.length⟩, ⟨some ⟨g7, 0, none⟩, N.ar.length⟩⟩, rfl, ⟨us3, us6, us7, netRows_mk hI hH hF p3.fam.len p6.fam.len p7.fam.len⟩, hbl⟩
end Go.Proofs.Ytffnbmaoainhmaa
end

section
namespace Go.Proofs.Ytffnbmaoainhmaa
open Go.ChangeShapes Go.WideShapes Go.ChangeAt Go.RowKit
set_option linter.unusedVariables false
set_option maxRecDepth 20000

set_option maxHeartbeats 1600000 in
theorem specFlits (W H : Int) (A : Option Addr) (n cap : Nat) (D : List Flt) (w : World) (h : RecAt 5 fltC w w.heap.size A n D) (hn : n ≤ 1000000000) :
    Calls Try.prog 69 #[.agg #[.int .i64 W, .int .i64 H], .slice A n cap] w (RetB (lstOk W H D) w) := by
  have HI := Lib.hid h
  have hl := h.1
  have HYES := Lib.hid (lstOk_yes (W := W) (H := H) (D := D))
  have HNO := Lib.hid (fun k x hx hf => lstOk_no (W := W) (H := H) (D := D) (k := k) (x := x) hx hf)
  obtain ⟨r, hr⟩ : ∃ r, lstOk W H D = r := ⟨_, rfl⟩
  rw [hr] at HYES HNO
  rw [hr]
  have GE := Lib.hid (gb_alloc (gb_refl w none) (.cells #[.int .i64 W, .int .i64 H] 25))
  have KE := Lib.hid (Blk.new w 25 #[.int .i64 W, .int .i64 H])
  clear h hr
  go_enter Try.func69, Try.ntmps69
  go_wp2_with fail
  go_loopw [5] (fun i wr => ∃ k : Nat, i = .int .i64 (k : Int) ∧ k ≤ n ∧ (∀ (j : Nat) x, j < k → D[j]? = some x → fltOk W H x = true) ∧ w.grownBy wr none ∧ Blk wr w.heap.size 25 #[.int .i64 W, .int .i64 H]) (fun i _ => n - (intOf i).toNat)
  case atStart => exact ⟨0, rfl, Nat.zero_le _, fun j x hj => by omega, GE.out, KE.out⟩
  case round =>
    obtain ⟨k, rfl, hk, hall, hg, hbk⟩ := hrel
    have HALL := Lib.hid hall
    have HG := Lib.hid hg
    have HB := Lib.hid hbk
    by_cases hlt : k < n
    · obtain ⟨b, o, x, rfl, _, hx, hc⟩ := (HI.out.none (Nat.le_refl _) hg).at k hlt
      obtain ⟨_, a1, a2, _, _⟩ := flt_five hc
      have g0 : wr.cell? ⟨w.heap.size, 0, none⟩ = some (.int .i64 W) := hbk.cell 0
      have g1 : wr.cell? ⟨w.heap.size, 1, none⟩ = some (.int .i64 H) := hbk.cell 1
      have k0 : (0 : Int) ≤ (k : Int) := by omega
      have k1 : (k : Int) < (n : Int) := by omega
      have HX := Lib.hid hx
      obtain ⟨to, hto⟩ : ∃ t, x.to = t := ⟨_, rfl⟩
      obtain ⟨cl, hcl⟩ : ∃ t, x.cl = t := ⟨_, rfl⟩
      rw [hto] at a1
      rw [hcl] at a2
      cases hh : hasG W H to with
      | true =>
        have C1 := Lib.hid (fun w => specHasV W H to true hh w)
        obtain ⟨cb, hcb⟩ : ∃ b, decide (0 ≤ cl ∧ cl ≤ 1) = b := ⟨_, rfl⟩
        have C2 := Lib.hid (fun w => specInV cl 0 1 cb hcb w)
        have HF := Lib.hid (show fltOk W H x = cb by rw [fltOk, hto, hcl, hh, hcb]; rfl)
        clear hx hc hg hall hbk hh hcb hto hcl
        go_wp2_with fail
        go_region_held3 (fun w' => w'.cell? ⟨w.heap.size, 0, none⟩ = some (.int .i64 W) ∧ w'.cell? ⟨w.heap.size, 1, none⟩ = some (.int .i64 H) ∧ w'.cell? ⟨b, o + k * 5 + 1, none⟩ = some (.int .i64 to) ∧ w'.cell? ⟨b, o + k * 5 + 2, none⟩ = some (.int .i64 cl))
          (first | exact ⟨g0, g1, a1, a2⟩ | exact ⟨d0, d1, d2, d3⟩ | fail)
          (first
            | (go_at_call 88; (with_reducible refine (C1.out _).mono ?_); rintro e w4 ⟨rfl, hg4⟩; have h4 := gb_drF hg4; have d0 := h4.cell g0 (by simp); have d1 := h4.cell g1 (by simp); have d2 := h4.cell a1 (by simp); have d3 := h4.cell a2 (by simp); have G4 := Lib.hid (gb_trans HG.out h4); have B4 := Lib.hid (HB.out.grown h4 (by simp)); clear h4 hg4)
            | (go_at_call 47; (with_reducible refine (C2.out _).mono ?_); rintro e w5 ⟨rfl, rfl⟩)
            | fail)
        all_goals
          clear d0 d1 d2 d3 g0 g1 a1 a2
          cases cb with
          | true =>
            go_wp2_with fail
            go_roundw
            case rel => exact ⟨k + 1, by go_num, by omega, fun j z hj hz => by
              rcases Nat.lt_or_ge j k with h1 | h1
              · exact HALL.out j z h1 hz
              · obtain rfl : j = k := by omega
                rw [HX.out] at hz
                cases hz
                exact HF.out, G4.out, B4.out⟩
            case measure => simp [intOf]; omega
          | false =>
            have HR := Lib.hid (HNO.out k x HX.out HF.out)
            go_wp2_with fail
            go_ret
            exact ⟨ret_bool HR.out.symm, G4.out⟩
      | false =>
        have C1 := Lib.hid (fun w => specHasV W H to false hh w)
        have HF := Lib.hid (show fltOk W H x = false by rw [fltOk, hto, hh]; rfl)
        have HR := Lib.hid (HNO.out k x HX.out HF.out)
        clear hx hc hg hall hbk hh hto hcl
        go_wp2_with fail
        refine wp_region_held_drew (S := (fun w' => w'.cell? ⟨w.heap.size, 0, none⟩ = some (.int .i64 W) ∧ w'.cell? ⟨w.heap.size, 1, none⟩ = some (.int .i64 H) ∧ w'.cell? ⟨b, o + k * 5 + 1, none⟩ = some (.int .i64 to) ∧ w'.cell? ⟨b, o + k * 5 + 2, none⟩ = some (.int .i64 cl))) (by kernel_rfl) (⟨g0, g1, a1, a2⟩) (fun hHeld => ?_)
        refine wpAnyH_take (i := 0) (v := ?_) rfl (by kernel_rfl) (by kernel_rfl) (by kernel_rfl) (fun _ _ _ h => h) (Or.inl ⟨by rfl, ?_⟩) (by assumption) ?_
        rotate_left
        · intro wq hSw; (try dsimp only at hSw); go_simp; (try with_reducible rfl)
        simp only [List.getElem_toArray, List.getElem_cons_zero, Act.put, List.setIfInBounds_toArray, List.set_cons_zero, List.set_cons_succ]
        refine wpAnyH_take (i := 1) (v := ?_) rfl (by kernel_rfl) (by kernel_rfl) (by kernel_rfl) (fun _ _ _ h => h) (Or.inl ⟨by rfl, ?_⟩) (by assumption) ?_
        rotate_left
        · intro wq hSw; (try dsimp only at hSw); go_simp; (try with_reducible rfl)
        simp only [List.getElem_toArray, List.getElem_cons_succ, List.getElem_cons_zero, Act.put, List.setIfInBounds_toArray, List.set_cons_zero, List.set_cons_succ]
        refine wpAnyH_take (i := 2) (v := ?_) rfl (by kernel_rfl) (by kernel_rfl) (by kernel_rfl) (fun _ _ _ h => h) (Or.inl ⟨by rfl, ?_⟩) (by assumption) ?_
        rotate_left
        · intro wq hSw; (try dsimp only at hSw); go_simp; (try with_reducible rfl)
        simp only [List.getElem_toArray, List.getElem_cons_succ, List.getElem_cons_zero, Act.put, List.setIfInBounds_toArray, List.set_cons_zero, List.set_cons_succ]
        refine wpAnyH_take (i := 3) (v := ?_) rfl (by kernel_rfl) (by kernel_rfl) (by kernel_rfl) (fun _ _ _ h => h) (Or.inl ⟨by rfl, ?_⟩) (by assumption) ?_
        rotate_left
        · intro wq hSw; (try dsimp only at hSw); go_simp; (try with_reducible rfl)
        simp only [List.getElem_toArray, List.getElem_cons_succ, List.getElem_cons_zero, Act.put, List.setIfInBounds_toArray, List.set_cons_zero, List.set_cons_succ]
        refine wpAnyH_take (i := 4) (v := ?_) rfl (by kernel_rfl) (by kernel_rfl) (by kernel_rfl) (fun _ _ _ h => h) (Or.inl ⟨by rfl, ?_⟩) (by assumption) ?_
        rotate_left
        · intro wq hSw; (try dsimp only at hSw); go_simp; (try with_reducible rfl)
        simp only [List.getElem_toArray, List.getElem_cons_succ, List.getElem_cons_zero, Act.put, List.setIfInBounds_toArray, List.set_cons_zero, List.set_cons_succ]
        refine wpAnyH_take (i := 5) (v := ?_) rfl (by kernel_rfl) (by kernel_rfl) (by kernel_rfl) (fun _ _ _ h => h) (Or.inl ⟨by rfl, ?_⟩) (by assumption) ?_
        rotate_left
        · intro wq hSw; (try dsimp only at hSw); go_simp; (try with_reducible rfl)
        simp only [List.getElem_toArray, List.getElem_cons_succ, List.getElem_cons_zero, Act.put, List.setIfInBounds_toArray, List.set_cons_zero, List.set_cons_succ]
        refine wpAnyH_ready (rs := [6]) (by kernel_rfl) (by simp) ?_
        refine AllReadyH.cons rfl (fun K hK => ?_) AllReadyH.nil
        go_simp
        refine (C1.out _).mono ?_; rintro e w4 ⟨rfl, hg4⟩; have h4 := gb_drF hg4; have d0 := h4.cell g0 (by simp); have d1 := h4.cell g1 (by simp); have d2 := h4.cell a1 (by simp); have d3 := h4.cell a2 (by simp); have G4 := Lib.hid (gb_trans HG.out h4); clear h4 hg4
        try go_wp2_with fail
        refine hK.out _ _ (⟨d0, d1, d2, d3⟩) (fun hHeld => ?_)
        clear hK K
        try simp only [List.getElem_toArray, List.getElem_cons_succ, List.getElem_cons_zero, Act.put, List.setIfInBounds_toArray, List.set_cons_zero, List.set_cons_succ]
        refine wpAnyH_take (i := 7) (v := ?_) rfl (by kernel_rfl) (by kernel_rfl) (by kernel_rfl) (fun _ _ _ h => h) (Or.inl ⟨by rfl, ?_⟩) (by assumption) ?_
        rotate_left
        · intro wq hSw; (try dsimp only at hSw); go_simp; (try with_reducible rfl)
        simp only [List.getElem_toArray, List.getElem_cons_succ, List.getElem_cons_zero, Act.put, List.setIfInBounds_toArray, List.set_cons_zero, List.set_cons_succ]
        refine wpAnyH_take (i := 8) (v := ?_) rfl (by kernel_rfl) (by kernel_rfl) (by kernel_rfl) (fun _ _ _ h => h) (Or.inl ⟨by rfl, ?_⟩) (by assumption) ?_
        rotate_left
        · intro wq hSw; (try dsimp only at hSw); go_simp; (try with_reducible rfl)
        simp only [List.getElem_toArray, List.getElem_cons_succ, List.getElem_cons_zero, Act.put, List.setIfInBounds_toArray, List.set_cons_zero, List.set_cons_succ]
        refine wpAnyH_take (i := 9) (v := undef) rfl (by kernel_rfl) (by kernel_rfl) (by kernel_rfl) (fun _ _ _ h => h) (Or.inr ⟨by rfl, rfl⟩) (by assumption) ?_
        simp only [List.getElem_toArray, List.getElem_cons_succ, List.getElem_cons_zero, Act.put, List.setIfInBounds_toArray, List.set_cons_zero, List.set_cons_succ]
        refine wpAnyH_take (i := 10) (v := undef) rfl (by kernel_rfl) (by kernel_rfl) (by kernel_rfl) (fun _ _ _ h => h) (Or.inr ⟨by rfl, rfl⟩) (by assumption) ?_
        simp only [List.getElem_toArray, List.getElem_cons_succ, List.getElem_cons_zero, Act.put, List.setIfInBounds_toArray, List.set_cons_zero, List.set_cons_succ]
        refine wpAnyH_take (i := 11) (v := undef) rfl (by kernel_rfl) (by kernel_rfl) (by kernel_rfl) (fun _ _ _ h => h) (Or.inr ⟨by rfl, rfl⟩) (by assumption) ?_
        simp only [List.getElem_toArray, List.getElem_cons_succ, List.getElem_cons_zero, Act.put, List.setIfInBounds_toArray, List.set_cons_zero, List.set_cons_succ]
        refine wpAnyH_take (i := 12) (v := undef) rfl (by kernel_rfl) (by kernel_rfl) (by kernel_rfl) (fun _ _ _ h => h) (Or.inr ⟨by rfl, rfl⟩) (by assumption) ?_
        simp only [List.getElem_toArray, List.getElem_cons_succ, List.getElem_cons_zero, Act.put, List.setIfInBounds_toArray, List.set_cons_zero, List.set_cons_succ]
        refine wpAnyH_take (i := 13) (v := undef) rfl (by kernel_rfl) (by kernel_rfl) (by kernel_rfl) (fun _ _ _ h => h) (Or.inr ⟨by rfl, rfl⟩) (by assumption) ?_
        simp only [List.getElem_toArray, List.getElem_cons_succ, List.getElem_cons_zero, Act.put, List.setIfInBounds_toArray, List.set_cons_zero, List.set_cons_succ]
        refine wpAnyH_take (i := 14) (v := undef) rfl (by kernel_rfl) (by kernel_rfl) (by kernel_rfl) (fun _ _ _ h => h) (Or.inr ⟨by rfl, rfl⟩) (by assumption) ?_
        simp only [List.getElem_toArray, List.getElem_cons_succ, List.getElem_cons_zero, Act.put, List.setIfInBounds_toArray, List.set_cons_zero, List.set_cons_succ]
        refine wpAnyH_take (i := 15) (v := undef) rfl (by kernel_rfl) (by kernel_rfl) (by kernel_rfl) (fun _ _ _ h => h) (Or.inr ⟨by rfl, rfl⟩) (by assumption) ?_
        simp only [List.getElem_toArray, List.getElem_cons_succ, List.getElem_cons_zero, Act.put, List.setIfInBounds_toArray, List.set_cons_zero, List.set_cons_succ]
        refine wpAnyH_take (i := 16) (v := ?_) rfl (by kernel_rfl) (by kernel_rfl) (by kernel_rfl) (fun _ _ _ h => h) (Or.inl ⟨by rfl, ?_⟩) (by assumption) ?_
        rotate_left
        · intro wq hSw; (try dsimp only at hSw); go_simp; (try with_reducible rfl)
        simp only [List.getElem_toArray, List.getElem_cons_succ, List.getElem_cons_zero, Act.put, List.setIfInBounds_toArray, List.set_cons_zero, List.set_cons_succ]
        refine wpAnyH_done (by kernel_rfl) ?_ _
        clear d0 d1 d2 d3 g0 g1 a1 a2
        go_wp2_with fail
        go_ret
        exact ⟨ret_bool HR.out.symm, G4.out⟩
    · obtain rfl : k = n := by omega
      have HR := Lib.hid (HYES.out (fun j x hx => HALL.out j x (by have := (List.getElem?_eq_some_iff.1 hx).1; omega) hx))
      have k1 : ¬ (k : Int) < (k : Int) := by omega
      clear hg hall hbk
      go_wp2_with fail
      go_ret
      exact ⟨ret_bool HR.out.symm, HG.out⟩
end Go.Proofs.Ytffnbmaoainhmaa
end

section
namespace Go.Proofs.Ytffnbmaoainhmaa
open Go.ChangeShapes Go.WideShapes Go.ChangeAt Go.RowKit
set_option linter.unusedVariables false
set_option maxRecDepth 20000

theorem specBufferAt (n p c : Int) (w : World) :
    Calls Try.prog 17 #[.int .i64 n, .int .i64 p, .int .i64 c] w (RetI (bufN n p c) none w) := by
  have HR := Lib.hid (fun (x lo hi : Int) (b : Bool) (hb : decide (lo ≤ x ∧ x ≤ hi) = b) w => specInV x lo hi b hb w)
  cases h1 : decide (0 ≤ n ∧ n ≤ 15) with
  | false =>
    have hr : bufN n p c = -1 := if_neg (fun h => of_decide_eq_false h1 h.1)
    have H1 := Lib.hid (HR.out n 0 15 false h1)
    rw [hr]
    clear h1
    go_enter Try.func17, Try.ntmps17
    go_wp2_with fail
    refine (H1.out _).mono ?_
    rintro e w1 ⟨rfl, rfl⟩
    go_wp2_with fail
    go_ret
    exact ⟨rfl, gb_refl _ _⟩
  | true =>
    have hn := of_decide_eq_true h1
    have H1 := Lib.hid (HR.out n 0 15 true h1)
    cases h2 : decide (0 ≤ p ∧ p ≤ 4) with
    | false =>
      have hr : bufN n p c = -1 := if_neg (fun h => of_decide_eq_false h2 h.2.1)
      have H2 := Lib.hid (HR.out p 0 4 false h2)
      rw [hr]
      clear h1 h2
      go_enter Try.func17, Try.ntmps17
      go_wp2_with fail
      refine (H1.out _).mono ?_
      rintro e w1 ⟨rfl, rfl⟩
      go_wp2_with fail
      refine (H2.out _).mono ?_
      rintro e w1 ⟨rfl, rfl⟩
      go_wp2_with fail
      go_ret
      exact ⟨rfl, gb_refl _ _⟩
    | true =>
      have hp := of_decide_eq_true h2
      have H2 := Lib.hid (HR.out p 0 4 true h2)
      cases h3 : decide (0 ≤ c ∧ c ≤ 1) with
      | false =>
        have hr : bufN n p c = -1 := if_neg (fun h => of_decide_eq_false h3 h.2.2)
        have H3 := Lib.hid (HR.out c 0 1 false h3)
        rw [hr]
        clear h1 h2 h3
        go_enter Try.func17, Try.ntmps17
        go_wp2_with fail
        refine (H1.out _).mono ?_
        rintro e w1 ⟨rfl, rfl⟩
        go_wp2_with fail
        refine (H2.out _).mono ?_
        rintro e w1 ⟨rfl, rfl⟩
        go_wp2_with fail
        refine (H3.out _).mono ?_
        rintro e w1 ⟨rfl, rfl⟩
        go_wp2_with fail
        go_ret
        exact ⟨rfl, gb_refl _ _⟩
      | true =>
        have hc := of_decide_eq_true h3
        have H3 := Lib.hid (HR.out c 0 1 true h3)
        have hr : bufN n p c = (5 * n + p) * 2 + c := if_pos ⟨hn, hp, hc⟩
        rw [hr]
        have e1 : wrap64 (5 * n) = 5 * n := IntWalk.wrap64_in _ (by omega)
        have e2 : IntKind.i64.wrap (5 * n) = 5 * n := IntWalk.i64_in _ (by omega)
        have e3 : IntKind.i64.wrap (5 * n + p) = 5 * n + p := IntWalk.i64_in _ (by omega)
        have e4 : wrap64 ((5 * n + p) * 2) = (5 * n + p) * 2 := IntWalk.wrap64_in _ (by omega)
        have e5 : IntKind.i64.wrap ((5 * n + p) * 2) = (5 * n + p) * 2 := IntWalk.i64_in _ (by omega)
        have e6 : IntKind.i64.wrap ((5 * n + p) * 2 + c) = (5 * n + p) * 2 + c := IntWalk.i64_in _ (by omega)
        clear h1 h2 h3
        go_enter Try.func17, Try.ntmps17
        go_wp2_with fail
        refine (H1.out _).mono ?_
        rintro e w1 ⟨rfl, rfl⟩
        go_wp2_with fail
        refine (H2.out _).mono ?_
        rintro e w1 ⟨rfl, rfl⟩
        go_wp2_with fail
        refine (H3.out _).mono ?_
        rintro e w1 ⟨rfl, rfl⟩
        go_wp2_with fail
        go_ret
        exact ⟨rfl, gb_refl _ _⟩
set_option maxHeartbeats 1600000 in
theorem specSum (A : Option Addr) (n cap : Nat) (DD : List (List Flt)) (w : World) (h : RecsAt 5 fltC w w.heap.size A n DD) (hn : n ≤ 1000000000) (hs : sumL DD ≤ 1000000000) :
    Calls Try.prog 71 #[.slice A n cap] w (RetI (sumL DD : Int) none w) := by
  have HI := Lib.hid h
  have hl := h.1
  have HZ := Lib.hid (sumL_zero DD)
  clear h
  go_enter Try.func71, Try.ntmps71
  go_wp2_with fail
  go_loopw [3, 4] (fun c i wr => ∃ k : Nat, i = .int .i64 (k : Int) ∧ k ≤ n ∧ c = .int .i64 (sumL (DD.take k) : Int) ∧ w.grownBy wr none) (fun _ i _ => n - (intOf i).toNat)
  case atStart => exact ⟨0, rfl, Nat.zero_le _, by rw [HZ.out]; rfl, gb_refl _ _⟩
  case round =>
    obtain ⟨k, rfl, hk, rfl, hg⟩ := hrel
    have HG := Lib.hid hg
    obtain ⟨t, ht⟩ : ∃ t, sumL (DD.take k) = t := ⟨_, rfl⟩
    by_cases hlt : k < n
    · obtain ⟨b, off, D, A', c', rfl, _, hD, hc, _, _⟩ := (HI.out.none (Nat.le_refl _) hg).at k hlt
      have hat := sumL_at hD
      have HNX := Lib.hid (sumL_next hD)
      rw [ht] at hat HNX ⊢
      obtain ⟨x, hx⟩ : ∃ x, D.length = x := ⟨_, rfl⟩
      rw [hx] at hc hat HNX
      have e1 : IntKind.i64.wrap ((t : Int) + (x : Int)) = ((t + x : Nat) : Int) := by rw [IntWalk.i64_in _ (by omega)]; omega
      have k0 : (0 : Int) ≤ (k : Int) := by omega
      have k1 : (k : Int) < (n : Int) := by omega
      clear hD hg ht hx hat
      go_wp2_with fail
      go_roundw
      case rel => exact ⟨k + 1, by go_num, by omega, by rw [HNX.out]; simp, by first | exact HG.out | exact gb_drewN HG.out _⟩
      case measure => simp [intOf]; omega
    · have hkn : k = n := by omega
      have HR := Lib.hid (show sumL (DD.take k) = sumL DD by rw [hkn, ← hl, sumL_all])
      have k1 : ¬ (k : Int) < (n : Int) := by omega
      clear hg ht hkn
      go_wp2_with fail
      go_ret
      exact ⟨by rw [HR.out]; rfl, HG.out⟩
end Go.Proofs.Ytffnbmaoainhmaa
end

section
namespace Go.Proofs.Ytffnbmaoainhmaa
open Go.ChangeShapes Go.WideShapes Go.ChangeAt Go.RowKit
set_option linter.unusedVariables false
set_option maxRecDepth 20000

theorem tmod_two (x : Nat) : Int.tmod (x : Int) 2 = ((x % 2 : Nat) : Int) := by
  rw [Int.tmod_eq_emod_of_nonneg (by omega)]; rfl
theorem size_no {N : Nt} {k : Nat} (hk : countG N.W N.H = (k : Int)) (h : ¬ (N.bu.length = 10 * k ∧ N.ow.length = 10 * k ∧ N.tu.length = 5 * k ∧ N.so.length = k ∧ N.ar.length = k ∧ (0 ≤ N.ti ∧ N.ti ≤ 1000000))) : sizesN N = false :=
  decide_eq_false (fun e => h (by rw [hk] at e; omega))
theorem size_yes {N : Nt} {k : Nat} (hk : countG N.W N.H = (k : Int)) (h : N.bu.length = 10 * k ∧ N.ow.length = 10 * k ∧ N.tu.length = 5 * k ∧ N.so.length = k ∧ N.ar.length = k ∧ (0 ≤ N.ti ∧ N.ti ≤ 1000000)) : sizesN N = true :=
  decide_eq_true (by rw [hk]; omega)
set_option maxHeartbeats 6400000 in
theorem specNetOk (y : Na) (N : Nt) (w : World) (h : NetIn w w.heap.size y N) (hn : NetSm N) :
    Calls Try.prog 31 #[.agg #[.int .i64 N.W, .int .i64 N.H, .slice y.br.A N.br.length y.br.c, .slice y.ta.A N.ta.length y.ta.c, .slice y.tb.A N.tb.length y.tb.c, .slice y.bu.A N.bu.length y.bu.c, .slice y.ow.A N.ow.length y.ow.c, .slice y.tu.A N.tu.length y.tu.c, .slice y.so.A N.so.length y.so.c, .slice y.ar.A N.ar.length y.ar.c, .int .i64 N.ti]] w (RetB (netOk N) w) := by
  have HI := Lib.hid h
  have HSM := Lib.hid hn
  obtain ⟨kk, hkk⟩ : ∃ kk : Nat, countG N.W N.H = (kk : Int) := ⟨(countG N.W N.H).toNat, by have := (countG_le N.W N.H).1; omega⟩
  have hk16 : kk ≤ 16 := by have := (countG_le N.W N.H).2; omega
  have HNC : Hid (∀ w, Calls Try.prog 51 #[.agg #[.int .i64 N.W, .int .i64 N.H]] w (RetI (kk : Int) none w)) := Lib.hid (fun w => by have h := specNodeCount N.W N.H w; rw [hkk] at h; exact h)
  have HSN := Lib.hid (size_no hkk)
  have HSY := Lib.hid (size_yes hkk)
  obtain ⟨b10, hb10⟩ : ∃ b, 10 * kk = b := ⟨_, rfl⟩
  obtain ⟨b5, hb5⟩ : ∃ b, 5 * kk = b := ⟨_, rfl⟩
  rw [hb10, hb5] at HSN HSY
  have e10 : wrap64 (10 * (kk : Int)) = (b10 : Int) := by rw [IntWalk.wrap64_in _ (by omega)]; omega
  have e5 : wrap64 (5 * (kk : Int)) = (b5 : Int) := by rw [IntWalk.wrap64_in _ (by omega)]; omega
  have e10b : 10 * (kk : Int) = (b10 : Int) := by omega
  have e5b : 5 * (kk : Int) = (b5 : Int) := by omega
  have HB160 := Lib.hid (show b10 ≤ 160 ∧ b5 ≤ 80 by omega)
  obtain ⟨r, hr⟩ : ∃ r, netOk N = r := ⟨_, rfl⟩
  have HR := Lib.hid hr
  rw [hr]
  have X0 := Lib.hid (nkAt_start (w := w) (y := y) (N := N))
  have HCK := Lib.hid (fun w h hP hQ => specClassesOk N.W N.H y.br.A y.ta.A y.tb.A N.br.length y.br.c N.ta.length y.ta.c N.tb.length y.tb.c N.br N.ta N.tb w h hP hQ hn.br hn.ta hn.tb)
  have HFL := Lib.hid (fun A n cap D w h hn => specFlits N.W N.H A n cap D w h hn)
  clear h hn hr hkk hb10 hb5
  go_enter Try.func31, Try.ntmps31
  go_wp2_with fail
  refine (HNC.out _).mono ?_
  rintro e w1 ⟨rfl, g1⟩
  have X1 := Lib.hid (X0.out.gb g1)
  have a0 : w1.cell? ⟨w.heap.size, 0, none⟩ = some (.int .i64 N.W) := X1.out.b.cell 0
  have a1 : w1.cell? ⟨w.heap.size, 1, none⟩ = some (.int .i64 N.H) := X1.out.b.cell 1
  have a2 : w1.cell? ⟨w.heap.size, 2, none⟩ = some (.slice y.br.A N.br.length y.br.c) := X1.out.b.cell 2
  have a3 : w1.cell? ⟨w.heap.size, 3, none⟩ = some (.slice y.ta.A N.ta.length y.ta.c) := X1.out.b.cell 3
  have a4 : w1.cell? ⟨w.heap.size, 4, none⟩ = some (.slice y.tb.A N.tb.length y.tb.c) := X1.out.b.cell 4
  clear g1
  go_wp2_with fail
  have hin1 := X1.out.in HI.out
  refine (HCK.out _ hin1.br hin1.ta hin1.tb).mono ?_
  rintro e w2 ⟨rfl, g2⟩
  have X2 := Lib.hid (X1.out.gb g2)
  clear g2 a0 a1 a2 a3 a4 hin1
  cases hc : clsOk N.W N.H N.br N.ta N.tb with
  | false =>
    have HE := Lib.hid (show false = r from (nk_cls hc).symm.trans HR.out)
    clear hc
    go_wp2_with fail
    go_ret
    exact ⟨ret_bool HE.out, X2.out.g⟩
  | true =>
    have HCO := Lib.hid hc
    clear hc
    have a5 : w2.cell? ⟨w.heap.size, 5, none⟩ = some (.slice y.bu.A N.bu.length y.bu.c) := X2.out.b.cell 5
    have a6 : w2.cell? ⟨w.heap.size, 6, none⟩ = some (.slice y.ow.A N.ow.length y.ow.c) := X2.out.b.cell 6
    have a7 : w2.cell? ⟨w.heap.size, 7, none⟩ = some (.slice y.tu.A N.tu.length y.tu.c) := X2.out.b.cell 7
    have a8 : w2.cell? ⟨w.heap.size, 8, none⟩ = some (.slice y.so.A N.so.length y.so.c) := X2.out.b.cell 8
    have a9 : w2.cell? ⟨w.heap.size, 9, none⟩ = some (.slice y.ar.A N.ar.length y.ar.c) := X2.out.b.cell 9
    have a10 : w2.cell? ⟨w.heap.size, 10, none⟩ = some (.int .i64 N.ti) := X2.out.b.cell 10
    by_cases hbu : N.bu.length = b10
    rotate_left
    · have HE := Lib.hid (show false = r from (nk_size (HSN.out (fun e => by omega))).symm.trans HR.out)
      have Hbu := Lib.hid hbu
      have pbu : ¬ (N.bu.length : Int) = (b10 : Int) := by omega
      clear hbu
      go_wp2_with fail
      go_ret
      exact ⟨ret_bool HE.out, X2.out.g⟩
    have ibu : (N.bu.length : Int) = (b10 : Int) := by omega
    have Hbu := Lib.hid hbu
    clear hbu
    by_cases how : N.ow.length = b10
    rotate_left
    · have HE := Lib.hid (show false = r from (nk_size (HSN.out (fun e => by omega))).symm.trans HR.out)
      have How := Lib.hid how
      have pow : ¬ (N.ow.length : Int) = (b10 : Int) := by omega
      clear how
      go_wp2_with fail
      go_ret
      exact ⟨ret_bool HE.out, X2.out.g⟩
    have iow : (N.ow.length : Int) = (b10 : Int) := by omega
    have How := Lib.hid how
    clear how
    by_cases htu : N.tu.length = b5
    rotate_left
    · have HE := Lib.hid (show false = r from (nk_size (HSN.out (fun e => by omega))).symm.trans HR.out)
      have Htu := Lib.hid htu
      have ptu : ¬ (N.tu.length : Int) = (b5 : Int) := by omega
      clear htu
      go_wp2_with fail
      go_ret
      exact ⟨ret_bool HE.out, X2.out.g⟩
    have itu : (N.tu.length : Int) = (b5 : Int) := by omega
    have Htu := Lib.hid htu
    clear htu
    by_cases hso : N.so.length = kk
    rotate_left
    · have HE := Lib.hid (show false = r from (nk_size (HSN.out (fun e => by omega))).symm.trans HR.out)
      have Hso := Lib.hid hso
      have pso : ¬ (N.so.length : Int) = (kk : Int) := by omega
      clear hso
      go_wp2_with fail
      go_ret
      exact ⟨ret_bool HE.out, X2.out.g⟩
    have iso : (N.so.length : Int) = (kk : Int) := by omega
    have Hso := Lib.hid hso
    clear hso
    by_cases har : N.ar.length = kk
    rotate_left
    · have HE := Lib.hid (show false = r from (nk_size (HSN.out (fun e => by omega))).symm.trans HR.out)
      have Har := Lib.hid har
      have par : ¬ (N.ar.length : Int) = (kk : Int) := by omega
      clear har
      go_wp2_with fail
      go_ret
      exact ⟨ret_bool HE.out, X2.out.g⟩
    have iar : (N.ar.length : Int) = (kk : Int) := by omega
    have Har := Lib.hid har
    clear har
    obtain ⟨tb, htb⟩ : ∃ b, decide (0 ≤ N.ti ∧ N.ti ≤ 1000000) = b := ⟨_, rfl⟩
    have HTI := Lib.hid (fun w => specInV N.ti 0 1000000 tb htb w)
    go_wp2_with fail
    refine (HTI.out _).mono ?_
    rintro e w3 ⟨rfl, rfl⟩
    clear a5 a6 a7 a8 a9 a10
    cases tb with
    | false =>
      have HE := Lib.hid (show false = r from (nk_size (HSN.out (fun e => of_decide_eq_false htb e.2.2.2.2.2))).symm.trans HR.out)
      clear htb
      go_wp2_with fail
      go_ret
      exact ⟨ret_bool HE.out, X2.out.g⟩
    | true =>
      have HSZ := Lib.hid (HSY.out ⟨Hbu.out, How.out, Htu.out, Hso.out, Har.out, of_decide_eq_true htb⟩)
      have HLN := Lib.hid (show N.bu.length = b10 ∧ N.ow.length = b10 ∧ N.tu.length = b5 ∧ N.so.length = kk from ⟨Hbu.out, How.out, Htu.out, Hso.out⟩)
      clear htb Hbu How Htu Hso Har HSN HSY HTI ibu iow itu iso iar
      go_wp2_with fail
      go_loopw [4] (fun i wr => ∃ k : Nat, i = .int .i64 (k : Int) ∧ k ≤ b10 ∧ (∀ j, j < k → bufOk N.W N.H j (N.bu.getD j []) (N.ow.getD j 0) = true) ∧ NkAt w y N wr) (fun i _ => 161 - (intOf i).toNat)
      case atStart => exact ⟨0, rfl, Nat.zero_le _, fun j hj => by omega, X2.out⟩
      case round =>
        obtain ⟨k, rfl, hk, hall, hx⟩ := hrel
        have HALL := Lib.hid hall
        have X3 := Lib.hid hx
        clear hall hx X2
        by_cases hlt : k < b10
        · have l1 : (k : Int) < (b10 : Int) := by omega
          have hin := X3.out.in HI.out
          obtain ⟨bb, off, D, A', c', hA, hbb, hD, hcell, hcp, hrec⟩ := hin.bu.at k (by have := HLN.out.1; omega)
          obtain ⟨ob, oo, hoA, _, hoc⟩ := hin.ow.at k (by have := HLN.out.2.1; omega)
          obtain ⟨ov, hov⟩ : ∃ o, N.ow.getD k 0 = o := ⟨_, rfl⟩
          rw [hov] at hoc
          have b0 : wr.cell? ⟨w.heap.size, 0, none⟩ = some (.int .i64 N.W) := X3.out.b.cell 0
          have b1 : wr.cell? ⟨w.heap.size, 1, none⟩ = some (.int .i64 N.H) := X3.out.b.cell 1
          have b2 : wr.cell? ⟨w.heap.size, 5, none⟩ = some (.slice y.bu.A N.bu.length y.bu.c) := X3.out.b.cell 5
          have b3 : wr.cell? ⟨w.heap.size, 6, none⟩ = some (.slice y.ow.A N.ow.length y.ow.c) := X3.out.b.cell 6
          rw [hA] at b2
          rw [hoA] at b3
          have HOA := Lib.hid hoA
          clear hA hoA
          have k0 : (0 : Int) ≤ (k : Int) := by omega
          have k1 : (k : Int) < (N.bu.length : Int) := by have := HLN.out.1; omega
          have k2 : (k : Int) < (N.ow.length : Int) := by have := HLN.out.2.1; omega
          have HDD := Lib.hid hD
          have HREC := Lib.hid hrec
          have HGD := Lib.hid (show N.bu.getD k [] = D from getD_of hD)
          have HOV := Lib.hid hov
          have HNB := Lib.hid (show ∀ b, bufOk N.W N.H k D ov = b → bufOk N.W N.H k (N.bu.getD k []) (N.ow.getD k 0) = b from fun b h => by rw [getD_of hD, hov]; exact h)
          have hkb : k < N.bu.length := by have := HLN.out.1; omega
          have HKB := Lib.hid hkb
          have hD9 : D.length ≤ 1000000000 := by
            have h1 := sumL_at hD
            have h2 := HSM.out.sbu
            omega
          have HD9 := Lib.hid hD9
          clear hin hD hrec hov hkb hD9 hbb hcp
          by_cases hl3 : D.length ≤ 3
          rotate_left
          · have HE := Lib.hid (show false = r from (nk_buf HKB.out (HNB.out _ (buf_no1 hl3))).symm.trans HR.out)
            have p3 : (3 : Int) < (D.length : Int) := by omega
            go_wp2_with fail
            go_ret
            exact ⟨ret_bool HE.out, X3.out.g⟩
          have p3 : ¬ (3 : Int) < (D.length : Int) := by omega
          go_wp2_with fail
          refine (HFL.out A' D.length c' D _ HREC.out HD9.out).mono ?_
          rintro e w4 ⟨rfl, g4⟩
          have X4 := Lib.hid (X3.out.gb g4)
          have REC4 := Lib.hid (HREC.out.none (Nat.le_refl _) g4)
          have c4 : w4.cell? ⟨w.heap.size, 6, none⟩ = some (.slice (some ⟨ob, oo, none⟩) N.ow.length y.ow.c) := by have h := X4.out.b.cell 6; rw [HOA.out] at h; exact h
          have d4 := g4.cell hoc (by simp)
          clear g4 b0 b1 b2 b3 hoc hcell
          cases hlo : lstOk N.W N.H D with
          | false =>
            have HE := Lib.hid (show false = r from (nk_buf HKB.out (HNB.out _ (buf_no2 hlo))).symm.trans HR.out)
            clear hlo
            go_wp2_with fail
            go_ret
            exact ⟨ret_bool HE.out, X4.out.g⟩
          | true =>
            obtain ⟨ib, hib⟩ : ∃ b, decide (-1 ≤ ov ∧ ov ≤ 4) = b := ⟨_, rfl⟩
            have HOI := Lib.hid (fun w => specInV ov (-1) 4 ib hib w)
            go_wp2_with fail
            refine (HOI.out _).mono ?_
            rintro e w5 ⟨rfl, rfl⟩
            clear c4 d4
            cases ib with
            | false =>
              have HE := Lib.hid (show false = r from (nk_buf HKB.out (HNB.out _ (buf_no3 hib))).symm.trans HR.out)
              clear hlo hib
              go_wp2_with fail
              go_ret
              exact ⟨ret_bool HE.out, X4.out.g⟩
            | true =>
              have HYB := Lib.hid (fun h => HNB.out true (buf_yes hl3 hlo hib h))
              have HN4 := Lib.hid (fun q x hx h => nk_buf HKB.out (HNB.out false (buf_no4 (q := q) (x := x) hx h)))
              have em : Int.tmod (k : Int) 2 = ((k % 2 : Nat) : Int) := tmod_two k
              obtain ⟨md, hmd⟩ : ∃ m : Nat, k % 2 = m := ⟨_, rfl⟩
              have hmd2 : md < 2 := by omega
              rw [hmd] at em HYB HN4
              have em2 : IntKind.i64.wrap (md : Int) = (md : Int) := IntWalk.i64_in _ (by omega)
              clear hlo hib hmd HOI
              go_wp2_with fail
              go_loopw [6] (fun j ws => ∃ q : Nat, j = .int .i64 (q : Int) ∧ q ≤ D.length ∧ (∀ (p : Nat) x, p < q → D[p]? = some x → x.cl = (md : Int)) ∧ NkAt w y N ws ∧ RecAt 5 fltC ws wr.heap.size A' D.length D) (fun j _ => 4 - (intOf j).toNat)
              case atStart => exact ⟨0, rfl, Nat.zero_le _, fun p x hp => by omega, X4.out, REC4.out⟩
              case round =>
                obtain ⟨q, rfl, hq, hqa, hx, hre⟩ := hrel
                have HQA := Lib.hid hqa
                have X5 := Lib.hid hx
                have REC5 := Lib.hid hre
                clear hqa hx hre
                by_cases hql : q < D.length
                · obtain ⟨fb, fo, x, rfl, _, hx, hfc⟩ := REC5.out.at q hql
                  obtain ⟨_, _, f2, _, _⟩ := flt_five hfc
                  have q0 : (0 : Int) ≤ (q : Int) := by omega
                  have q1 : (q : Int) < (D.length : Int) := by omega
                  have HX := Lib.hid hx
                  obtain ⟨cl, hcl⟩ : ∃ t, x.cl = t := ⟨_, rfl⟩
                  have HCL := Lib.hid hcl
                  rw [hcl] at f2
                  clear hx hfc hcl
                  by_cases hce : cl = (md : Int)
                  · have HCE := Lib.hid hce
                    subst hce
                    go_wp2_with fail
                    go_roundw
                    case rel => exact ⟨q + 1, by go_num, by omega, fun p z hp hz => by
                      rcases Nat.lt_or_ge p q with h1 | h1
                      · exact HQA.out p z h1 hz
                      · obtain rfl : p = q := by omega
                        rw [HX.out] at hz
                        cases hz
                        exact HCL.out, X5.out, REC5.out⟩
                    case measure => simp [intOf]; omega
                  · have HE := Lib.hid (show false = r from (HN4.out q x HX.out (by rw [HCL.out]; exact hce)).symm.trans HR.out)
                    go_wp2_with fail
                    go_ret
                    exact ⟨ret_bool HE.out, X5.out.g⟩
                · have q1 : ¬ (q : Int) < (D.length : Int) := by omega
                  have HBO := Lib.hid (HYB.out (fun p x hx => HQA.out p x (by have := (List.getElem?_eq_some_iff.1 hx).1; omega) hx))
                  go_wp2_with fail
                  go_roundw
                  case rel => exact ⟨k + 1, by go_num, by omega, fun j hj => by
                    rcases Nat.lt_or_ge j k with h1 | h1
                    · exact HALL.out j h1
                    · obtain rfl : j = k := by omega
                      exact HBO.out, X5.out⟩
                  case measure => simp [intOf]; omega
        · have l1 : ¬ (k : Int) < (b10 : Int) := by omega
          have HBUF := Lib.hid (show ∀ i, i < N.bu.length → bufOk N.W N.H i (N.bu.getD i []) (N.ow.getD i 0) = true from fun i hi => HALL.out i (by have := HLN.out.1; omega))
          go_wp2_with fail
          go_loopw [7] (fun i wr => ∃ k : Nat, i = .int .i64 (k : Int) ∧ k ≤ b5 ∧ (∀ (j : Nat) t, j < k → N.tu[j]? = some t → decide (0 ≤ t ∧ t ≤ 9) = true) ∧ NkAt w y N wr) (fun i _ => 81 - (intOf i).toNat)
          case atStart => exact ⟨0, rfl, Nat.zero_le _, fun j t hj => by omega, X3.out⟩
          case round =>
            obtain ⟨t, rfl, ht, htall, hx⟩ := hrel
            have HTA := Lib.hid htall
            have X6 := Lib.hid hx
            clear htall hx X3
            by_cases htl : t < b5
            · have l2 : (t : Int) < (b5 : Int) := by omega
              have hin := X6.out.in HI.out
              have htN : t < N.tu.length := by have := HLN.out.2.2.1; omega
              obtain ⟨ub, uo, huA, _, huc⟩ := hin.tu.at t htN
              obtain ⟨tv, htv⟩ : ∃ v, N.tu[t]? = some v := ⟨_, List.getElem?_eq_getElem htN⟩
              rw [getD_of htv] at huc
              have b7 : wr.cell? ⟨w.heap.size, 7, none⟩ = some (.slice y.tu.A N.tu.length y.tu.c) := X6.out.b.cell 7
              rw [huA] at b7
              clear huA
              have t0 : (0 : Int) ≤ (t : Int) := by omega
              have t1 : (t : Int) < (N.tu.length : Int) := by omega
              obtain ⟨ib, hib⟩ : ∃ b, decide (0 ≤ tv ∧ tv ≤ 9) = b := ⟨_, rfl⟩
              have HTI := Lib.hid (fun w => specInV tv 0 9 ib hib w)
              have HTV := Lib.hid htv
              clear hin htv
              go_wp2_with fail
              refine (HTI.out _).mono ?_
              rintro e w5 ⟨rfl, rfl⟩
              cases ib with
              | false =>
                have HE := Lib.hid (show false = r from (nk_tu HTV.out hib).symm.trans HR.out)
                clear hib
                go_wp2_with fail
                go_ret
                exact ⟨ret_bool HE.out, X6.out.g⟩
              | true =>
                have HIB := Lib.hid hib
                clear hib
                go_wp2_with fail
                go_roundw
                case rel => exact ⟨t + 1, by go_num, by omega, fun j v hj hv => by
                  rcases Nat.lt_or_ge j t with h1 | h1
                  · exact HTA.out j v h1 hv
                  · obtain rfl : j = t := by omega
                    rw [HTV.out] at hv
                    cases hv
                    exact HIB.out, X6.out⟩
                case measure => simp [intOf]; omega
            · have l2 : ¬ (t : Int) < (b5 : Int) := by omega
              have HTUR := Lib.hid (show ∀ (i : Nat) t, N.tu[i]? = some t → decide (0 ≤ t ∧ t ≤ 9) = true from fun i v hv => HTA.out i v (by have h1 := HLN.out.2.2.1; have h2 := (List.getElem?_eq_some_iff.1 hv).1; omega) hv)
              go_wp2_with fail
              go_loopw [8] (fun i wr => ∃ k : Nat, i = .int .i64 (k : Int) ∧ k ≤ kk ∧ (∀ (j : Nat) D, j < k → N.so[j]? = some D → srcOk N.W N.H D = true) ∧ NkAt w y N wr) (fun i _ => 17 - (intOf i).toNat)
              case atStart => exact ⟨0, rfl, Nat.zero_le _, fun j D hj => by omega, X6.out⟩
              case round =>
                obtain ⟨s, rfl, hs, hsall, hx⟩ := hrel
                have HSA := Lib.hid hsall
                have X7 := Lib.hid hx
                clear hsall hx X6
                by_cases hsl : s < kk
                · have l3 : (s : Int) < (kk : Int) := by omega
                  have hin := X7.out.in HI.out
                  obtain ⟨sb, so, E, A', c', hA, _, hE, hcell, _, hrec⟩ := hin.so.at s (by have := HLN.out.2.2.2; omega)
                  have b0 : wr.cell? ⟨w.heap.size, 0, none⟩ = some (.int .i64 N.W) := X7.out.b.cell 0
                  have b1 : wr.cell? ⟨w.heap.size, 1, none⟩ = some (.int .i64 N.H) := X7.out.b.cell 1
                  have b2 : wr.cell? ⟨w.heap.size, 8, none⟩ = some (.slice y.so.A N.so.length y.so.c) := X7.out.b.cell 8
                  rw [hA] at b2
                  clear hA
                  have s0 : (0 : Int) ≤ (s : Int) := by omega
                  have s1 : (s : Int) < (N.so.length : Int) := by have := HLN.out.2.2.2; omega
                  have HEE := Lib.hid hE
                  have HREC := Lib.hid hrec
                  have hE9 : E.length ≤ 1000000000 := by
                    have h1 := sumL_at hE
                    have h2 := HSM.out.sso
                    omega
                  have HE9 := Lib.hid hE9
                  clear hin hE hrec hE9
                  by_cases hl6 : E.length ≤ 60
                  rotate_left
                  · have HE := Lib.hid (show false = r from (nk_so HEE.out (src_no1 hl6)).symm.trans HR.out)
                    have p6 : (60 : Int) < (E.length : Int) := by omega
                    go_wp2_with fail
                    refine wp_region_held_drew (S := (fun w' => w'.cell? ⟨w.heap.size, 8, none⟩ = some (.slice (some ⟨sb, so, none⟩) N.so.length y.so.c) ∧ w'.cell? ⟨sb, so + s, none⟩ = some (.slice A' E.length c'))) (by kernel_rfl) (⟨b2, hcell⟩) (fun hHeld => ?_)
                    refine wpAnyH_take (i := 0) (v := ?_) rfl (by kernel_rfl) (by kernel_rfl) (by kernel_rfl) (fun _ _ _ h => h) (Or.inl ⟨by rfl, ?_⟩) (by assumption) ?_
                    rotate_left
                    · intro wq hSw; (try dsimp only at hSw); go_simp; (try with_reducible rfl)
                    simp only [List.getElem_toArray, List.getElem_cons_zero, Act.put, List.setIfInBounds_toArray, List.set_cons_zero, List.set_cons_succ]
                    refine wpAnyH_take (i := 1) (v := ?_) rfl (by kernel_rfl) (by kernel_rfl) (by kernel_rfl) (fun _ _ _ h => h) (Or.inl ⟨by rfl, ?_⟩) (by assumption) ?_
                    rotate_left
                    · intro wq hSw; (try dsimp only at hSw); go_simp; (try with_reducible rfl)
                    simp only [List.getElem_toArray, List.getElem_cons_succ, List.getElem_cons_zero, Act.put, List.setIfInBounds_toArray, List.set_cons_zero, List.set_cons_succ]
                    refine wpAnyH_take (i := 2) (v := ?_) rfl (by kernel_rfl) (by kernel_rfl) (by kernel_rfl) (fun _ _ _ h => h) (Or.inl ⟨by rfl, ?_⟩) (by assumption) ?_
                    rotate_left
                    · intro wq hSw; (try dsimp only at hSw); go_simp; (try with_reducible rfl)
                    simp only [List.getElem_toArray, List.getElem_cons_succ, List.getElem_cons_zero, Act.put, List.setIfInBounds_toArray, List.set_cons_zero, List.set_cons_succ]
                    refine wpAnyH_take (i := 3) (v := ?_) rfl (by kernel_rfl) (by kernel_rfl) (by kernel_rfl) (fun _ _ _ h => h) (Or.inl ⟨by rfl, ?_⟩) (by assumption) ?_
                    rotate_left
                    · intro wq hSw; (try dsimp only at hSw); go_simp; (try with_reducible rfl)
                    simp only [List.getElem_toArray, List.getElem_cons_succ, List.getElem_cons_zero, Act.put, List.setIfInBounds_toArray, List.set_cons_zero, List.set_cons_succ]
                    refine wpAnyH_take (i := 4) (v := ?_) rfl (by kernel_rfl) (by kernel_rfl) (by kernel_rfl) (fun _ _ _ h => h) (Or.inl ⟨by rfl, ?_⟩) (by assumption) ?_
                    rotate_left
                    · intro wq hSw; (try dsimp only at hSw); go_simp; (try with_reducible rfl)
                    simp only [List.getElem_toArray, List.getElem_cons_succ, List.getElem_cons_zero, Act.put, List.setIfInBounds_toArray, List.set_cons_zero, List.set_cons_succ]
                    refine wpAnyH_take (i := 5) (v := ?_) rfl (by kernel_rfl) (by kernel_rfl) (by kernel_rfl) (fun _ _ _ h => h) (Or.inl ⟨by rfl, ?_⟩) (by assumption) ?_
                    rotate_left
                    · intro wq hSw; (try dsimp only at hSw); go_simp; (try with_reducible rfl)
                    simp only [List.getElem_toArray, List.getElem_cons_succ, List.getElem_cons_zero, Act.put, List.setIfInBounds_toArray, List.set_cons_zero, List.set_cons_succ]
                    refine wpAnyH_take (i := 6) (v := ?_) rfl (by kernel_rfl) (by kernel_rfl) (by kernel_rfl) (fun _ _ _ h => h) (Or.inl ⟨by rfl, ?_⟩) (by assumption) ?_
                    rotate_left
                    · intro wq hSw; (try dsimp only at hSw); go_simp; (try with_reducible rfl)
                    simp only [List.getElem_toArray, List.getElem_cons_succ, List.getElem_cons_zero, Act.put, List.setIfInBounds_toArray, List.set_cons_zero, List.set_cons_succ]
                    refine wpAnyH_take (i := 7) (v := ?_) rfl (by kernel_rfl) (by kernel_rfl) (by kernel_rfl) (fun _ _ _ h => h) (Or.inl ⟨by rfl, ?_⟩) (by assumption) ?_
                    rotate_left
                    · intro wq hSw; (try dsimp only at hSw); go_simp; (try with_reducible rfl)
                    simp only [List.getElem_toArray, List.getElem_cons_succ, List.getElem_cons_zero, Act.put, List.setIfInBounds_toArray, List.set_cons_zero, List.set_cons_succ]
                    refine wpAnyH_take (i := 8) (v := undef) rfl (by kernel_rfl) (by kernel_rfl) (by kernel_rfl) (fun _ _ _ h => h) (Or.inr ⟨by rfl, rfl⟩) (by assumption) ?_
                    simp only [List.getElem_toArray, List.getElem_cons_succ, List.getElem_cons_zero, Act.put, List.setIfInBounds_toArray, List.set_cons_zero, List.set_cons_succ]
                    refine wpAnyH_take (i := 9) (v := undef) rfl (by kernel_rfl) (by kernel_rfl) (by kernel_rfl) (fun _ _ _ h => h) (Or.inr ⟨by rfl, rfl⟩) (by assumption) ?_
                    simp only [List.getElem_toArray, List.getElem_cons_succ, List.getElem_cons_zero, Act.put, List.setIfInBounds_toArray, List.set_cons_zero, List.set_cons_succ]
                    refine wpAnyH_take (i := 10) (v := undef) rfl (by kernel_rfl) (by kernel_rfl) (by kernel_rfl) (fun _ _ _ h => h) (Or.inr ⟨by rfl, rfl⟩) (by assumption) ?_
                    simp only [List.getElem_toArray, List.getElem_cons_succ, List.getElem_cons_zero, Act.put, List.setIfInBounds_toArray, List.set_cons_zero, List.set_cons_succ]
                    refine wpAnyH_take (i := 11) (v := undef) rfl (by kernel_rfl) (by kernel_rfl) (by kernel_rfl) (fun _ _ _ h => h) (Or.inr ⟨by rfl, rfl⟩) (by assumption) ?_
                    simp only [List.getElem_toArray, List.getElem_cons_succ, List.getElem_cons_zero, Act.put, List.setIfInBounds_toArray, List.set_cons_zero, List.set_cons_succ]
                    refine wpAnyH_take (i := 12) (v := undef) rfl (by kernel_rfl) (by kernel_rfl) (by kernel_rfl) (fun _ _ _ h => h) (Or.inr ⟨by rfl, rfl⟩) (by assumption) ?_
                    simp only [List.getElem_toArray, List.getElem_cons_succ, List.getElem_cons_zero, Act.put, List.setIfInBounds_toArray, List.set_cons_zero, List.set_cons_succ]
                    refine wpAnyH_take (i := 13) (v := undef) rfl (by kernel_rfl) (by kernel_rfl) (by kernel_rfl) (fun _ _ _ h => h) (Or.inr ⟨by rfl, rfl⟩) (by assumption) ?_
                    simp only [List.getElem_toArray, List.getElem_cons_succ, List.getElem_cons_zero, Act.put, List.setIfInBounds_toArray, List.set_cons_zero, List.set_cons_succ]
                    refine wpAnyH_take (i := 14) (v := undef) rfl (by kernel_rfl) (by kernel_rfl) (by kernel_rfl) (fun _ _ _ h => h) (Or.inr ⟨by rfl, rfl⟩) (by assumption) ?_
                    simp only [List.getElem_toArray, List.getElem_cons_succ, List.getElem_cons_zero, Act.put, List.setIfInBounds_toArray, List.set_cons_zero, List.set_cons_succ]
                    refine wpAnyH_take (i := 15) (v := undef) rfl (by kernel_rfl) (by kernel_rfl) (by kernel_rfl) (fun _ _ _ h => h) (Or.inr ⟨by rfl, rfl⟩) (by assumption) ?_
                    simp only [List.getElem_toArray, List.getElem_cons_succ, List.getElem_cons_zero, Act.put, List.setIfInBounds_toArray, List.set_cons_zero, List.set_cons_succ]
                    refine wpAnyH_take (i := 16) (v := undef) rfl (by kernel_rfl) (by kernel_rfl) (by kernel_rfl) (fun _ _ _ h => h) (Or.inr ⟨by rfl, rfl⟩) (by assumption) ?_
                    simp only [List.getElem_toArray, List.getElem_cons_succ, List.getElem_cons_zero, Act.put, List.setIfInBounds_toArray, List.set_cons_zero, List.set_cons_succ]
                    refine wpAnyH_take (i := 17) (v := undef) rfl (by kernel_rfl) (by kernel_rfl) (by kernel_rfl) (fun _ _ _ h => h) (Or.inr ⟨by rfl, rfl⟩) (by assumption) ?_
                    simp only [List.getElem_toArray, List.getElem_cons_succ, List.getElem_cons_zero, Act.put, List.setIfInBounds_toArray, List.set_cons_zero, List.set_cons_succ]
                    refine wpAnyH_take (i := 18) (v := ?_) rfl (by kernel_rfl) (by kernel_rfl) (by kernel_rfl) (fun _ _ _ h => h) (Or.inl ⟨by rfl, ?_⟩) (by assumption) ?_
                    rotate_left
                    · intro wq hSw; (try dsimp only at hSw); go_simp; (try with_reducible rfl)
                    simp only [List.getElem_toArray, List.getElem_cons_succ, List.getElem_cons_zero, Act.put, List.setIfInBounds_toArray, List.set_cons_zero, List.set_cons_succ]
                    refine wpAnyH_done (by kernel_rfl) ?_ _
                    clear b0 b1 b2 hcell
                    go_wp2_with fail
                    go_ret
                    exact ⟨ret_bool HE.out, gb_drew X7.out.g⟩
                  have p6 : ¬ (60 : Int) < (E.length : Int) := by omega
                  have p7 : decide ((60 : Int) < (E.length : Int)) = false := decide_eq_false p6
                  obtain ⟨lb, hlo⟩ : ∃ b, lstOk N.W N.H E = b := ⟨_, rfl⟩
                  have HFE := Lib.hid (fun w h => HFL.out A' E.length c' E w h HE9.out)
                  rw [hlo] at HFE
                  have HRD := Lib.hid (HREC.out.none (Nat.le_refl _) (gb_drew (gb_refl wr none)))
                  go_wp2_with fail
                  go_region_held3 (fun w' => w'.cell? ⟨w.heap.size, 0, none⟩ = some (.int .i64 N.W) ∧ w'.cell? ⟨w.heap.size, 1, none⟩ = some (.int .i64 N.H) ∧ w'.cell? ⟨w.heap.size, 8, none⟩ = some (.slice (some ⟨sb, so, none⟩) N.so.length y.so.c) ∧ w'.cell? ⟨sb, so + s, none⟩ = some (.slice A' E.length c'))
                    (first | exact ⟨b0, b1, b2, hcell⟩ | exact ⟨d0, d1, d2, d3⟩ | fail)
                    (first
                      | (go_at_call 69; (with_reducible refine (HFE.out _ HRD.out).mono ?_); rintro e w4 ⟨rfl, hg4⟩; have h4 := gb_drF hg4; have d0 := h4.cell b0 (by simp); have d1 := h4.cell b1 (by simp); have d2 := h4.cell b2 (by simp); have d3 := h4.cell hcell (by simp); have X8 := Lib.hid (X7.out.gb h4); clear h4 hg4)
                      | fail)
                  clear d0 d1 d2 d3 b0 b1 b2 hcell
                  cases lb with
                  | false =>
                    have HE := Lib.hid (show false = r from (nk_so HEE.out (src_is hl6 hlo)).symm.trans HR.out)
                    clear hlo
                    go_wp2_with fail
                    go_ret
                    exact ⟨ret_bool HE.out, X8.out.g⟩
                  | true =>
                    have HLO := Lib.hid (src_is hl6 hlo)
                    clear hlo
                    go_wp2_with fail
                    go_roundw
                    case rel => exact ⟨s + 1, by go_num, by omega, fun j D hj hD => by
                      rcases Nat.lt_or_ge j s with h1 | h1
                      · exact HSA.out j D h1 hD
                      · obtain rfl : j = s := by omega
                        rw [HEE.out] at hD
                        cases hD
                        exact HLO.out, X8.out⟩
                    case measure => simp [intOf]; omega
                · have l3 : ¬ (s : Int) < (kk : Int) := by omega
                  have HE := Lib.hid (show true = r from (nk_yes HCO.out HSZ.out HBUF.out HTUR.out (fun i D hD => HSA.out i D (by have h1 := HLN.out.2.2.2; have h2 := (List.getElem?_eq_some_iff.1 hD).1; omega) hD)).symm.trans HR.out)
                  go_wp2_with fail
                  go_ret
                  exact ⟨ret_bool HE.out, X7.out.g⟩
end Go.Proofs.Ytffnbmaoainhmaa
end

section
namespace Go.Proofs.Ytffnbmaoainhmaa
open Go.ChangeShapes Go.WideShapes Go.ChangeAt Go.RowKit
set_option linter.unusedVariables false
set_option maxRecDepth 20000

theorem specNetOkV (y : Na) (N : Nt) (b : Bool) (hb : netOk N = b) (w : World) (h : NetIn w w.heap.size y N) (hn : NetSm N) :
    Calls Try.prog 31 #[.agg #[.int .i64 N.W, .int .i64 N.H, .slice y.br.A N.br.length y.br.c, .slice y.ta.A N.ta.length y.ta.c, .slice y.tb.A N.tb.length y.tb.c, .slice y.bu.A N.bu.length y.bu.c, .slice y.ow.A N.ow.length y.ow.c, .slice y.tu.A N.tu.length y.tu.c, .slice y.so.A N.so.length y.so.c, .slice y.ar.A N.ar.length y.ar.c, .int .i64 N.ti]] w (RetB b w) := hb ▸ specNetOk y N w h hn

theorem specFlitsInside (y : Na) (N : Nt) (w : World) (h : NetIn w w.heap.size y N) (hn : NetSm N) :
    Calls Try.prog 33 #[.agg #[.int .i64 N.W, .int .i64 N.H, .slice y.br.A N.br.length y.br.c, .slice y.ta.A N.ta.length y.ta.c, .slice y.tb.A N.tb.length y.tb.c, .slice y.bu.A N.bu.length y.bu.c, .slice y.ow.A N.ow.length y.ow.c, .slice y.tu.A N.tu.length y.tu.c, .slice y.so.A N.so.length y.so.c, .slice y.ar.A N.ar.length y.ar.c, .int .i64 N.ti]] w (RetI (insideG N) none w) := by
  have X0 := Lib.hid (nkAt_start (w := w) (y := y) (N := N))
  have h0 := X0.out.in h
  cases hb : netOk N with
  | false =>
    have HN := Lib.hid (specNetOkV y N false hb _ h0 hn)
    have HR := Lib.hid (show (-1 : Int) = insideG N by rw [insideG, hb]; rfl)
    clear h hn h0 hb
    go_enter Try.func33, Try.ntmps33
    go_wp2_with fail
    refine HN.out.mono ?_
    rintro e w1 ⟨rfl, hg⟩
    have X1 := Lib.hid (X0.out.gb hg)
    clear hg
    go_wp2_with fail
    go_ret
    exact ⟨ret_int64 HR.out, X1.out.g⟩
  | true =>
    have HN := Lib.hid (specNetOkV y N true hb _ h0 hn)
    have HR := Lib.hid (show ((sumL N.bu : Nat) : Int) = insideG N by rw [insideG, hb]; rfl)
    have HI := Lib.hid h
    have HSM := Lib.hid hn
    clear h hn h0 hb
    go_enter Try.func33, Try.ntmps33
    go_wp2_with fail
    refine HN.out.mono ?_
    rintro e w1 ⟨rfl, hg⟩
    have X1 := Lib.hid (X0.out.gb hg)
    have a1 : w1.cell? ⟨w.heap.size, 5, none⟩ = some (.slice y.bu.A N.bu.length y.bu.c) := X1.out.b.cell 5
    clear hg
    go_wp2_with fail
    refine (specSum _ _ _ N.bu _ (X1.out.in HI.out).bu HSM.out.bu HSM.out.sbu).mono ?_
    rintro e w2 ⟨rfl, hg⟩
    have X2 := Lib.hid (X1.out.gb hg)
    clear hg a1
    go_wp2_with fail
    go_ret
    exact ⟨ret_int64 HR.out, X2.out.g⟩

theorem specFlitsWaiting (y : Na) (N : Nt) (w : World) (h : NetIn w w.heap.size y N) (hn : NetSm N) :
    Calls Try.prog 34 #[.agg #[.int .i64 N.W, .int .i64 N.H, .slice y.br.A N.br.length y.br.c, .slice y.ta.A N.ta.length y.ta.c, .slice y.tb.A N.tb.length y.tb.c, .slice y.bu.A N.bu.length y.bu.c, .slice y.ow.A N.ow.length y.ow.c, .slice y.tu.A N.tu.length y.tu.c, .slice y.so.A N.so.length y.so.c, .slice y.ar.A N.ar.length y.ar.c, .int .i64 N.ti]] w (RetI (waitingG N) none w) := by
  have X0 := Lib.hid (nkAt_start (w := w) (y := y) (N := N))
  have h0 := X0.out.in h
  cases hb : netOk N with
  | false =>
    have HN := Lib.hid (specNetOkV y N false hb _ h0 hn)
    have HR := Lib.hid (show (-1 : Int) = waitingG N by rw [waitingG, hb]; rfl)
    clear h hn h0 hb
    go_enter Try.func34, Try.ntmps34
    go_wp2_with fail
    refine HN.out.mono ?_
    rintro e w1 ⟨rfl, hg⟩
    have X1 := Lib.hid (X0.out.gb hg)
    clear hg
    go_wp2_with fail
    go_ret
    exact ⟨ret_int64 HR.out, X1.out.g⟩
  | true =>
    have HN := Lib.hid (specNetOkV y N true hb _ h0 hn)
    have HR := Lib.hid (show ((sumL N.so : Nat) : Int) = waitingG N by rw [waitingG, hb]; rfl)
    have HI := Lib.hid h
    have HSM := Lib.hid hn
    clear h hn h0 hb
    go_enter Try.func34, Try.ntmps34
    go_wp2_with fail
    refine HN.out.mono ?_
    rintro e w1 ⟨rfl, hg⟩
    have X1 := Lib.hid (X0.out.gb hg)
    have a1 : w1.cell? ⟨w.heap.size, 8, none⟩ = some (.slice y.so.A N.so.length y.so.c) := X1.out.b.cell 8
    clear hg
    go_wp2_with fail
    refine (specSum _ _ _ N.so _ (X1.out.in HI.out).so HSM.out.so HSM.out.sso).mono ?_
    rintro e w2 ⟨rfl, hg⟩
    have X2 := Lib.hid (X1.out.gb hg)
    clear hg a1
    go_wp2_with fail
    go_ret
    exact ⟨ret_int64 HR.out, X2.out.g⟩
end Go.Proofs.Ytffnbmaoainhmaa
end

section
namespace Go.Proofs.Ytffnbmaoainhmaa
open Go.ChangeShapes Go.WideShapes Go.ChangeAt Go.RowKit
set_option linter.unusedVariables false
set_option maxRecDepth 20000

set_option maxHeartbeats 6400000 in
theorem walk_FnExactNetOk (A0a : Na) (L0a : Nt) (w : World) (hcmA0a : NetCap A0a L0a) (hA0a : NetIn w w.heap.size A0a L0a) (hlA0a : NetWf L0a) :
    Calls Try.prog 6 #[.agg #[.int .i64 L0a.W, .int .i64 L0a.H, .slice A0a.br.A L0a.br.length A0a.br.c, .slice A0a.ta.A L0a.ta.length A0a.ta.c, .slice A0a.tb.A L0a.tb.length A0a.tb.c, .slice A0a.bu.A L0a.bu.length A0a.bu.c, .slice A0a.ow.A L0a.ow.length A0a.ow.c, .slice A0a.tu.A L0a.tu.length A0a.tu.c, .slice A0a.so.A L0a.so.length A0a.so.c, .slice A0a.ar.A L0a.ar.length A0a.ar.c, .int .i64 L0a.ti]] w fun e w' => e = .returned (.bool true) ∧ Below w.heap.size w w' := by
  have HA0a := Lib.hid (hA0a)
  have HCA0a := Lib.hid (hcmA0a)
  have HWF0 := Lib.hid (hlA0a)
  clear hcmA0a hA0a hlA0a
  by_cases hbig0 : (1048576 : Int) < ((sizeN L0a : Nat) : Int)
  · skip
    go_enter Try.func6, Try.ntmps6
    go_wp2_with fail
    have ke0 := Blk.new w 64 #[.int .i64 L0a.W, .int .i64 L0a.H, .slice A0a.br.A L0a.br.length A0a.br.c, .slice A0a.ta.A L0a.ta.length A0a.ta.c, .slice A0a.tb.A L0a.tb.length A0a.tb.c, .slice A0a.bu.A L0a.bu.length A0a.bu.c, .slice A0a.ow.A L0a.ow.length A0a.ow.c, .slice A0a.tu.A L0a.tu.length A0a.tu.c, .slice A0a.so.A L0a.so.length A0a.so.c, .slice A0a.ar.A L0a.ar.length A0a.ar.c, .int .i64 L0a.ti]
    have ge := gb_alloc (gb_refl w none) (.cells #[.int .i64 L0a.W, .int .i64 L0a.H, .slice A0a.br.A L0a.br.length A0a.br.c, .slice A0a.ta.A L0a.ta.length A0a.ta.c, .slice A0a.tb.A L0a.tb.length A0a.tb.c, .slice A0a.bu.A L0a.bu.length A0a.bu.c, .slice A0a.ow.A L0a.ow.length A0a.ow.c, .slice A0a.tu.A L0a.tu.length A0a.tu.c, .slice A0a.so.A L0a.so.length A0a.so.c, .slice A0a.ar.A L0a.ar.length A0a.ar.c, .int .i64 L0a.ti] 64)
    generalize (w.alloc (.cells #[.int .i64 L0a.W, .int .i64 L0a.H, .slice A0a.br.A L0a.br.length A0a.br.c, .slice A0a.ta.A L0a.ta.length A0a.ta.c, .slice A0a.tb.A L0a.tb.length A0a.tb.c, .slice A0a.bu.A L0a.bu.length A0a.bu.c, .slice A0a.ow.A L0a.ow.length A0a.ow.c, .slice A0a.tu.A L0a.tu.length A0a.tu.c, .slice A0a.so.A L0a.so.length A0a.so.c, .slice A0a.ar.A L0a.ar.length A0a.ar.c, .int .i64 L0a.ti] 64)) = we at *
    have KE0 : Hid (Blk we (w.heap.size) 64 #[.int .i64 L0a.W, .int .i64 L0a.H, .slice A0a.br.A L0a.br.length A0a.br.c, .slice A0a.ta.A L0a.ta.length A0a.ta.c, .slice A0a.tb.A L0a.tb.length A0a.tb.c, .slice A0a.bu.A L0a.bu.length A0a.bu.c, .slice A0a.ow.A L0a.ow.length A0a.ow.c, .slice A0a.tu.A L0a.tu.length A0a.tu.c, .slice A0a.so.A L0a.so.length A0a.so.c, .slice A0a.ar.A L0a.ar.length A0a.ar.c, .int .i64 L0a.ti]) := Lib.hid (ke0)
    have GE := Lib.hid (ge)
    have RZ0 := Lib.hid (Chg.refl 0 0 we)
    clear ge ke0
    have a0_0 : we.cell? ⟨w.heap.size, 0, none⟩ = some (.int .i64 L0a.W) := (KE0.out.nx (RZ0.out)).cell 0
    have a0_1 : we.cell? ⟨w.heap.size, 1, none⟩ = some (.int .i64 L0a.H) := (KE0.out.nx (RZ0.out)).cell 1
    have a0_2 : we.cell? ⟨w.heap.size, 2, none⟩ = some (.slice A0a.br.A L0a.br.length A0a.br.c) := (KE0.out.nx (RZ0.out)).cell 2
    have a0_3 : we.cell? ⟨w.heap.size, 3, none⟩ = some (.slice A0a.ta.A L0a.ta.length A0a.ta.c) := (KE0.out.nx (RZ0.out)).cell 3
    have a0_4 : we.cell? ⟨w.heap.size, 4, none⟩ = some (.slice A0a.tb.A L0a.tb.length A0a.tb.c) := (KE0.out.nx (RZ0.out)).cell 4
    have a0_5 : we.cell? ⟨w.heap.size, 5, none⟩ = some (.slice A0a.bu.A L0a.bu.length A0a.bu.c) := (KE0.out.nx (RZ0.out)).cell 5
    have a0_6 : we.cell? ⟨w.heap.size, 6, none⟩ = some (.slice A0a.ow.A L0a.ow.length A0a.ow.c) := (KE0.out.nx (RZ0.out)).cell 6
    have a0_7 : we.cell? ⟨w.heap.size, 7, none⟩ = some (.slice A0a.tu.A L0a.tu.length A0a.tu.c) := (KE0.out.nx (RZ0.out)).cell 7
    have a0_8 : we.cell? ⟨w.heap.size, 8, none⟩ = some (.slice A0a.so.A L0a.so.length A0a.so.c) := (KE0.out.nx (RZ0.out)).cell 8
    have a0_9 : we.cell? ⟨w.heap.size, 9, none⟩ = some (.slice A0a.ar.A L0a.ar.length A0a.ar.c) := (KE0.out.nx (RZ0.out)).cell 9
    have a0_10 : we.cell? ⟨w.heap.size, 10, none⟩ = some (.int .i64 L0a.ti) := (KE0.out.nx (RZ0.out)).cell 10
    refine (lawsSzNet _ _ _ _ ((HA0a.out.none (Nat.le_refl _) (gb_trans GE.out RZ0.out.still)).more (Nat.le_trans GE.out.size RZ0.out.size)) HCA0a.out (by omega) (by omega)).mono ?_
    rintro e wz1 ⟨rfl, hg⟩
    rw [leftL, if_pos hbig0]
    have RZ1 := Lib.hid (RZ0.out.gb hg)
    clear hg a0_0 a0_1 a0_2 a0_3 a0_4 a0_5 a0_6 a0_7 a0_8 a0_9 a0_10
    go_wp2_with fail
    go_ret
    exact ⟨rfl, (gb_below_none GE.out (Nat.le_refl _)).trans (RZ1.out.below (.inr (Nat.le_refl _)) GE.out.size)⟩
  have hnA0a : sizeN L0a ≤ 1048576 := by omega
  obtain ⟨q1, hq1⟩ : ∃ q : Int, (1048576 : Int) - ((sizeN L0a : Nat) : Int) = q := ⟨_, rfl⟩
  have hqa1 : ¬ q1 < 0 := by omega
  have hqb1 : q1 ≤ 1048576 := by omega
  go_enter Try.func6, Try.ntmps6
  go_wp2_with fail
  have ke0 := Blk.new w 64 #[.int .i64 L0a.W, .int .i64 L0a.H, .slice A0a.br.A L0a.br.length A0a.br.c, .slice A0a.ta.A L0a.ta.length A0a.ta.c, .slice A0a.tb.A L0a.tb.length A0a.tb.c, .slice A0a.bu.A L0a.bu.length A0a.bu.c, .slice A0a.ow.A L0a.ow.length A0a.ow.c, .slice A0a.tu.A L0a.tu.length A0a.tu.c, .slice A0a.so.A L0a.so.length A0a.so.c, .slice A0a.ar.A L0a.ar.length A0a.ar.c, .int .i64 L0a.ti]
  have ge := gb_alloc (gb_refl w none) (.cells #[.int .i64 L0a.W, .int .i64 L0a.H, .slice A0a.br.A L0a.br.length A0a.br.c, .slice A0a.ta.A L0a.ta.length A0a.ta.c, .slice A0a.tb.A L0a.tb.length A0a.tb.c, .slice A0a.bu.A L0a.bu.length A0a.bu.c, .slice A0a.ow.A L0a.ow.length A0a.ow.c, .slice A0a.tu.A L0a.tu.length A0a.tu.c, .slice A0a.so.A L0a.so.length A0a.so.c, .slice A0a.ar.A L0a.ar.length A0a.ar.c, .int .i64 L0a.ti] 64)
  generalize (w.alloc (.cells #[.int .i64 L0a.W, .int .i64 L0a.H, .slice A0a.br.A L0a.br.length A0a.br.c, .slice A0a.ta.A L0a.ta.length A0a.ta.c, .slice A0a.tb.A L0a.tb.length A0a.tb.c, .slice A0a.bu.A L0a.bu.length A0a.bu.c, .slice A0a.ow.A L0a.ow.length A0a.ow.c, .slice A0a.tu.A L0a.tu.length A0a.tu.c, .slice A0a.so.A L0a.so.length A0a.so.c, .slice A0a.ar.A L0a.ar.length A0a.ar.c, .int .i64 L0a.ti] 64)) = we at *
  have KE0 : Hid (Blk we (w.heap.size) 64 #[.int .i64 L0a.W, .int .i64 L0a.H, .slice A0a.br.A L0a.br.length A0a.br.c, .slice A0a.ta.A L0a.ta.length A0a.ta.c, .slice A0a.tb.A L0a.tb.length A0a.tb.c, .slice A0a.bu.A L0a.bu.length A0a.bu.c, .slice A0a.ow.A L0a.ow.length A0a.ow.c, .slice A0a.tu.A L0a.tu.length A0a.tu.c, .slice A0a.so.A L0a.so.length A0a.so.c, .slice A0a.ar.A L0a.ar.length A0a.ar.c, .int .i64 L0a.ti]) := Lib.hid (ke0)
  have GE := Lib.hid (ge)
  have RZ0 := Lib.hid (Chg.refl 0 0 we)
  clear ge ke0
  have a0_0 : we.cell? ⟨w.heap.size, 0, none⟩ = some (.int .i64 L0a.W) := (KE0.out.nx (RZ0.out)).cell 0
  have a0_1 : we.cell? ⟨w.heap.size, 1, none⟩ = some (.int .i64 L0a.H) := (KE0.out.nx (RZ0.out)).cell 1
  have a0_2 : we.cell? ⟨w.heap.size, 2, none⟩ = some (.slice A0a.br.A L0a.br.length A0a.br.c) := (KE0.out.nx (RZ0.out)).cell 2
  have a0_3 : we.cell? ⟨w.heap.size, 3, none⟩ = some (.slice A0a.ta.A L0a.ta.length A0a.ta.c) := (KE0.out.nx (RZ0.out)).cell 3
  have a0_4 : we.cell? ⟨w.heap.size, 4, none⟩ = some (.slice A0a.tb.A L0a.tb.length A0a.tb.c) := (KE0.out.nx (RZ0.out)).cell 4
  have a0_5 : we.cell? ⟨w.heap.size, 5, none⟩ = some (.slice A0a.bu.A L0a.bu.length A0a.bu.c) := (KE0.out.nx (RZ0.out)).cell 5
  have a0_6 : we.cell? ⟨w.heap.size, 6, none⟩ = some (.slice A0a.ow.A L0a.ow.length A0a.ow.c) := (KE0.out.nx (RZ0.out)).cell 6
  have a0_7 : we.cell? ⟨w.heap.size, 7, none⟩ = some (.slice A0a.tu.A L0a.tu.length A0a.tu.c) := (KE0.out.nx (RZ0.out)).cell 7
  have a0_8 : we.cell? ⟨w.heap.size, 8, none⟩ = some (.slice A0a.so.A L0a.so.length A0a.so.c) := (KE0.out.nx (RZ0.out)).cell 8
  have a0_9 : we.cell? ⟨w.heap.size, 9, none⟩ = some (.slice A0a.ar.A L0a.ar.length A0a.ar.c) := (KE0.out.nx (RZ0.out)).cell 9
  have a0_10 : we.cell? ⟨w.heap.size, 10, none⟩ = some (.int .i64 L0a.ti) := (KE0.out.nx (RZ0.out)).cell 10
  refine (lawsSzNet _ _ _ _ ((HA0a.out.none (Nat.le_refl _) (gb_trans GE.out RZ0.out.still)).more (Nat.le_trans GE.out.size RZ0.out.size)) HCA0a.out (by omega) (by omega)).mono ?_
  rintro e wz1 ⟨rfl, hg⟩
  rw [leftL, if_neg (by omega), hq1]
  have RZ1 := Lib.hid (RZ0.out.gb hg)
  clear hg a0_0 a0_1 a0_2 a0_3 a0_4 a0_5 a0_6 a0_7 a0_8 a0_9 a0_10 hq1
  obtain ⟨res, hres⟩ : ∃ r, netOk L0a = r := ⟨_, rfl⟩
  have HSP := Lib.hid (fun (A0a : Na) (w : World) (hA0a : NetIn w w.heap.size A0a L0a) (hnA0a : NetSm L0a) (hcA0a : NetCap A0a L0a) => show Calls Try.prog 31 #[.agg #[.int .i64 L0a.W, .int .i64 L0a.H, .slice A0a.br.A L0a.br.length A0a.br.c, .slice A0a.ta.A L0a.ta.length A0a.ta.c, .slice A0a.tb.A L0a.tb.length A0a.tb.c, .slice A0a.bu.A L0a.bu.length A0a.bu.c, .slice A0a.ow.A L0a.ow.length A0a.ow.c, .slice A0a.tu.A L0a.tu.length A0a.tu.c, .slice A0a.so.A L0a.so.length A0a.so.c, .slice A0a.ar.A L0a.ar.length A0a.ar.c, .int .i64 L0a.ti]] w (RetB res w) from hres ▸ specNetOk A0a L0a w hA0a hnA0a)
  have HIM := Lib.hid (fun (A0a : Na) (w : World) (hA0a : NetIn w w.heap.size A0a L0a) (hnA0a : NetSm L0a) (hcA0a : NetCap A0a L0a) => show Calls Try.prog 13 #[.agg #[.int .i64 L0a.W, .int .i64 L0a.H, .slice A0a.br.A L0a.br.length A0a.br.c, .slice A0a.ta.A L0a.ta.length A0a.ta.c, .slice A0a.tb.A L0a.tb.length A0a.tb.c, .slice A0a.bu.A L0a.bu.length A0a.bu.c, .slice A0a.ow.A L0a.ow.length A0a.ow.c, .slice A0a.tu.A L0a.tu.length A0a.tu.c, .slice A0a.so.A L0a.so.length A0a.so.c, .slice A0a.ar.A L0a.ar.length A0a.ar.c, .int .i64 L0a.ti]] w (RetB res w) from hres ▸ implNetOk A0a L0a w hA0a hnA0a hcA0a HWF0.out.br)
  clear hres
  have BE := Lib.hid (gb_below_none GE.out (Nat.le_refl _))
  have RDA0a := Lib.hid (fun (w' : World) (hq : Chg 0 0 we w') => HA0a.out.chg BE.out hq (.inr (Nat.le_refl _)))
  have a0_0 : wz1.cell? ⟨w.heap.size, 0, none⟩ = some (.int .i64 L0a.W) := (KE0.out.nx (RZ1.out)).cell 0
  have a0_1 : wz1.cell? ⟨w.heap.size, 1, none⟩ = some (.int .i64 L0a.H) := (KE0.out.nx (RZ1.out)).cell 1
  have a0_2 : wz1.cell? ⟨w.heap.size, 2, none⟩ = some (.slice A0a.br.A L0a.br.length A0a.br.c) := (KE0.out.nx (RZ1.out)).cell 2
  have a0_3 : wz1.cell? ⟨w.heap.size, 3, none⟩ = some (.slice A0a.ta.A L0a.ta.length A0a.ta.c) := (KE0.out.nx (RZ1.out)).cell 3
  have a0_4 : wz1.cell? ⟨w.heap.size, 4, none⟩ = some (.slice A0a.tb.A L0a.tb.length A0a.tb.c) := (KE0.out.nx (RZ1.out)).cell 4
  have a0_5 : wz1.cell? ⟨w.heap.size, 5, none⟩ = some (.slice A0a.bu.A L0a.bu.length A0a.bu.c) := (KE0.out.nx (RZ1.out)).cell 5
  have a0_6 : wz1.cell? ⟨w.heap.size, 6, none⟩ = some (.slice A0a.ow.A L0a.ow.length A0a.ow.c) := (KE0.out.nx (RZ1.out)).cell 6
  have a0_7 : wz1.cell? ⟨w.heap.size, 7, none⟩ = some (.slice A0a.tu.A L0a.tu.length A0a.tu.c) := (KE0.out.nx (RZ1.out)).cell 7
  have a0_8 : wz1.cell? ⟨w.heap.size, 8, none⟩ = some (.slice A0a.so.A L0a.so.length A0a.so.c) := (KE0.out.nx (RZ1.out)).cell 8
  have a0_9 : wz1.cell? ⟨w.heap.size, 9, none⟩ = some (.slice A0a.ar.A L0a.ar.length A0a.ar.c) := (KE0.out.nx (RZ1.out)).cell 9
  have a0_10 : wz1.cell? ⟨w.heap.size, 10, none⟩ = some (.int .i64 L0a.ti) := (KE0.out.nx (RZ1.out)).cell 10
  go_wp2_with fail
  refine (lawsToNet _ _ _ (RDA0a.out _ (RZ1.out)) hnA0a).mono ?_
  rintro e w1 ⟨zw0, rfl, ow0, bw0⟩
  have R1 : Hid (Chg 0 0 we w1) := Lib.hid ((RZ1.out).bl bw0)
  have Q1 := Lib.hid (chg_gb 0 0 (gb_of_below bw0 none))
  have F1 := Lib.hid (fix_net ow0)
  clear bw0 ow0 a0_0 a0_1 a0_2 a0_3 a0_4 a0_5 a0_6 a0_7 a0_8 a0_9 a0_10
  go_wp2_with fail
  refine (HSP.out _ _ (NetOwn.at (F1.out.here) (Nat.le_refl _)) (netSm_of hnA0a) (NetOwn.cap (F1.out.here))).mono ?_
  rintro e w2 ⟨rfl, bw⟩
  have R2 : Hid (Chg 0 0 we w2) := Lib.hid ((R1.out).gb bw)
  have Q2 := Lib.hid (chg_gb 0 0 bw)
  clear bw
  have HS0 := Lib.hid ((R2.out).size)
  have a0_0 : w2.cell? ⟨w.heap.size, 0, none⟩ = some (.int .i64 L0a.W) := (KE0.out.nx (R2.out)).cell 0
  have a0_1 : w2.cell? ⟨w.heap.size, 1, none⟩ = some (.int .i64 L0a.H) := (KE0.out.nx (R2.out)).cell 1
  have a0_2 : w2.cell? ⟨w.heap.size, 2, none⟩ = some (.slice A0a.br.A L0a.br.length A0a.br.c) := (KE0.out.nx (R2.out)).cell 2
  have a0_3 : w2.cell? ⟨w.heap.size, 3, none⟩ = some (.slice A0a.ta.A L0a.ta.length A0a.ta.c) := (KE0.out.nx (R2.out)).cell 3
  have a0_4 : w2.cell? ⟨w.heap.size, 4, none⟩ = some (.slice A0a.tb.A L0a.tb.length A0a.tb.c) := (KE0.out.nx (R2.out)).cell 4
  have a0_5 : w2.cell? ⟨w.heap.size, 5, none⟩ = some (.slice A0a.bu.A L0a.bu.length A0a.bu.c) := (KE0.out.nx (R2.out)).cell 5
  have a0_6 : w2.cell? ⟨w.heap.size, 6, none⟩ = some (.slice A0a.ow.A L0a.ow.length A0a.ow.c) := (KE0.out.nx (R2.out)).cell 6
  have a0_7 : w2.cell? ⟨w.heap.size, 7, none⟩ = some (.slice A0a.tu.A L0a.tu.length A0a.tu.c) := (KE0.out.nx (R2.out)).cell 7
  have a0_8 : w2.cell? ⟨w.heap.size, 8, none⟩ = some (.slice A0a.so.A L0a.so.length A0a.so.c) := (KE0.out.nx (R2.out)).cell 8
  have a0_9 : w2.cell? ⟨w.heap.size, 9, none⟩ = some (.slice A0a.ar.A L0a.ar.length A0a.ar.c) := (KE0.out.nx (R2.out)).cell 9
  have a0_10 : w2.cell? ⟨w.heap.size, 10, none⟩ = some (.int .i64 L0a.ti) := (KE0.out.nx (R2.out)).cell 10
  go_wp2_with fail
  refine (lawsToNet _ _ _ (RDA0a.out _ (R2.out)) hnA0a).mono ?_
  rintro e w3 ⟨zx0, rfl, ox0, bx0⟩
  have HLX0 := Lib.hid (trivial)
  have FX0 := Lib.hid (fix_net ox0)
  have Q3 := Lib.hid (chg_gb 0 0 (gb_of_below bx0 none))
  have R3 := Lib.hid ((R2.out).bl bx0)
  clear bx0 ox0 a0_0 a0_1 a0_2 a0_3 a0_4 a0_5 a0_6 a0_7 a0_8 a0_9 a0_10
  replace FX0 := Lib.hid ((FX0.out).al (.cells #[.int .i64 L0a.W, .int .i64 L0a.H, .slice zx0.br.A L0a.br.length zx0.br.c, .slice zx0.ta.A L0a.ta.length zx0.ta.c, .slice zx0.tb.A L0a.tb.length zx0.tb.c, .slice zx0.bu.A L0a.bu.length zx0.bu.c, .slice zx0.ow.A L0a.ow.length zx0.ow.c, .slice zx0.tu.A L0a.tu.length zx0.tu.c, .slice zx0.so.A L0a.so.length zx0.so.c, .slice zx0.ar.A L0a.ar.length zx0.ar.c, .int .i64 L0a.ti] 37))
  have KX0 := Lib.hid (Blk.new w3 37 #[.int .i64 L0a.W, .int .i64 L0a.H, .slice zx0.br.A L0a.br.length zx0.br.c, .slice zx0.ta.A L0a.ta.length zx0.ta.c, .slice zx0.tb.A L0a.tb.length zx0.tb.c, .slice zx0.bu.A L0a.bu.length zx0.bu.c, .slice zx0.ow.A L0a.ow.length zx0.ow.c, .slice zx0.tu.A L0a.tu.length zx0.tu.c, .slice zx0.so.A L0a.so.length zx0.so.c, .slice zx0.ar.A L0a.ar.length zx0.ar.c, .int .i64 L0a.ti])
  have x0_0 : (w3.alloc (.cells #[.int .i64 L0a.W, .int .i64 L0a.H, .slice zx0.br.A L0a.br.length zx0.br.c, .slice zx0.ta.A L0a.ta.length zx0.ta.c, .slice zx0.tb.A L0a.tb.length zx0.tb.c, .slice zx0.bu.A L0a.bu.length zx0.bu.c, .slice zx0.ow.A L0a.ow.length zx0.ow.c, .slice zx0.tu.A L0a.tu.length zx0.tu.c, .slice zx0.so.A L0a.so.length zx0.so.c, .slice zx0.ar.A L0a.ar.length zx0.ar.c, .int .i64 L0a.ti] 37)).cell? ⟨w3.heap.size, 0, none⟩ = some (.int .i64 L0a.W) := KX0.out.cell 0
  have x0_1 : (w3.alloc (.cells #[.int .i64 L0a.W, .int .i64 L0a.H, .slice zx0.br.A L0a.br.length zx0.br.c, .slice zx0.ta.A L0a.ta.length zx0.ta.c, .slice zx0.tb.A L0a.tb.length zx0.tb.c, .slice zx0.bu.A L0a.bu.length zx0.bu.c, .slice zx0.ow.A L0a.ow.length zx0.ow.c, .slice zx0.tu.A L0a.tu.length zx0.tu.c, .slice zx0.so.A L0a.so.length zx0.so.c, .slice zx0.ar.A L0a.ar.length zx0.ar.c, .int .i64 L0a.ti] 37)).cell? ⟨w3.heap.size, 1, none⟩ = some (.int .i64 L0a.H) := KX0.out.cell 1
  have x0_2 : (w3.alloc (.cells #[.int .i64 L0a.W, .int .i64 L0a.H, .slice zx0.br.A L0a.br.length zx0.br.c, .slice zx0.ta.A L0a.ta.length zx0.ta.c, .slice zx0.tb.A L0a.tb.length zx0.tb.c, .slice zx0.bu.A L0a.bu.length zx0.bu.c, .slice zx0.ow.A L0a.ow.length zx0.ow.c, .slice zx0.tu.A L0a.tu.length zx0.tu.c, .slice zx0.so.A L0a.so.length zx0.so.c, .slice zx0.ar.A L0a.ar.length zx0.ar.c, .int .i64 L0a.ti] 37)).cell? ⟨w3.heap.size, 2, none⟩ = some (.slice zx0.br.A L0a.br.length zx0.br.c) := KX0.out.cell 2
  have x0_3 : (w3.alloc (.cells #[.int .i64 L0a.W, .int .i64 L0a.H, .slice zx0.br.A L0a.br.length zx0.br.c, .slice zx0.ta.A L0a.ta.length zx0.ta.c, .slice zx0.tb.A L0a.tb.length zx0.tb.c, .slice zx0.bu.A L0a.bu.length zx0.bu.c, .slice zx0.ow.A L0a.ow.length zx0.ow.c, .slice zx0.tu.A L0a.tu.length zx0.tu.c, .slice zx0.so.A L0a.so.length zx0.so.c, .slice zx0.ar.A L0a.ar.length zx0.ar.c, .int .i64 L0a.ti] 37)).cell? ⟨w3.heap.size, 3, none⟩ = some (.slice zx0.ta.A L0a.ta.length zx0.ta.c) := KX0.out.cell 3
  have x0_4 : (w3.alloc (.cells #[.int .i64 L0a.W, .int .i64 L0a.H, .slice zx0.br.A L0a.br.length zx0.br.c, .slice zx0.ta.A L0a.ta.length zx0.ta.c, .slice zx0.tb.A L0a.tb.length zx0.tb.c, .slice zx0.bu.A L0a.bu.length zx0.bu.c, .slice zx0.ow.A L0a.ow.length zx0.ow.c, .slice zx0.tu.A L0a.tu.length zx0.tu.c, .slice zx0.so.A L0a.so.length zx0.so.c, .slice zx0.ar.A L0a.ar.length zx0.ar.c, .int .i64 L0a.ti] 37)).cell? ⟨w3.heap.size, 4, none⟩ = some (.slice zx0.tb.A L0a.tb.length zx0.tb.c) := KX0.out.cell 4
  have x0_5 : (w3.alloc (.cells #[.int .i64 L0a.W, .int .i64 L0a.H, .slice zx0.br.A L0a.br.length zx0.br.c, .slice zx0.ta.A L0a.ta.length zx0.ta.c, .slice zx0.tb.A L0a.tb.length zx0.tb.c, .slice zx0.bu.A L0a.bu.length zx0.bu.c, .slice zx0.ow.A L0a.ow.length zx0.ow.c, .slice zx0.tu.A L0a.tu.length zx0.tu.c, .slice zx0.so.A L0a.so.length zx0.so.c, .slice zx0.ar.A L0a.ar.length zx0.ar.c, .int .i64 L0a.ti] 37)).cell? ⟨w3.heap.size, 5, none⟩ = some (.slice zx0.bu.A L0a.bu.length zx0.bu.c) := KX0.out.cell 5
  have x0_6 : (w3.alloc (.cells #[.int .i64 L0a.W, .int .i64 L0a.H, .slice zx0.br.A L0a.br.length zx0.br.c, .slice zx0.ta.A L0a.ta.length zx0.ta.c, .slice zx0.tb.A L0a.tb.length zx0.tb.c, .slice zx0.bu.A L0a.bu.length zx0.bu.c, .slice zx0.ow.A L0a.ow.length zx0.ow.c, .slice zx0.tu.A L0a.tu.length zx0.tu.c, .slice zx0.so.A L0a.so.length zx0.so.c, .slice zx0.ar.A L0a.ar.length zx0.ar.c, .int .i64 L0a.ti] 37)).cell? ⟨w3.heap.size, 6, none⟩ = some (.slice zx0.ow.A L0a.ow.length zx0.ow.c) := KX0.out.cell 6
  have x0_7 : (w3.alloc (.cells #[.int .i64 L0a.W, .int .i64 L0a.H, .slice zx0.br.A L0a.br.length zx0.br.c, .slice zx0.ta.A L0a.ta.length zx0.ta.c, .slice zx0.tb.A L0a.tb.length zx0.tb.c, .slice zx0.bu.A L0a.bu.length zx0.bu.c, .slice zx0.ow.A L0a.ow.length zx0.ow.c, .slice zx0.tu.A L0a.tu.length zx0.tu.c, .slice zx0.so.A L0a.so.length zx0.so.c, .slice zx0.ar.A L0a.ar.length zx0.ar.c, .int .i64 L0a.ti] 37)).cell? ⟨w3.heap.size, 7, none⟩ = some (.slice zx0.tu.A L0a.tu.length zx0.tu.c) := KX0.out.cell 7
  have x0_8 : (w3.alloc (.cells #[.int .i64 L0a.W, .int .i64 L0a.H, .slice zx0.br.A L0a.br.length zx0.br.c, .slice zx0.ta.A L0a.ta.length zx0.ta.c, .slice zx0.tb.A L0a.tb.length zx0.tb.c, .slice zx0.bu.A L0a.bu.length zx0.bu.c, .slice zx0.ow.A L0a.ow.length zx0.ow.c, .slice zx0.tu.A L0a.tu.length zx0.tu.c, .slice zx0.so.A L0a.so.length zx0.so.c, .slice zx0.ar.A L0a.ar.length zx0.ar.c, .int .i64 L0a.ti] 37)).cell? ⟨w3.heap.size, 8, none⟩ = some (.slice zx0.so.A L0a.so.length zx0.so.c) := KX0.out.cell 8
  have x0_9 : (w3.alloc (.cells #[.int .i64 L0a.W, .int .i64 L0a.H, .slice zx0.br.A L0a.br.length zx0.br.c, .slice zx0.ta.A L0a.ta.length zx0.ta.c, .slice zx0.tb.A L0a.tb.length zx0.tb.c, .slice zx0.bu.A L0a.bu.length zx0.bu.c, .slice zx0.ow.A L0a.ow.length zx0.ow.c, .slice zx0.tu.A L0a.tu.length zx0.tu.c, .slice zx0.so.A L0a.so.length zx0.so.c, .slice zx0.ar.A L0a.ar.length zx0.ar.c, .int .i64 L0a.ti] 37)).cell? ⟨w3.heap.size, 9, none⟩ = some (.slice zx0.ar.A L0a.ar.length zx0.ar.c) := KX0.out.cell 9
  have x0_10 : (w3.alloc (.cells #[.int .i64 L0a.W, .int .i64 L0a.H, .slice zx0.br.A L0a.br.length zx0.br.c, .slice zx0.ta.A L0a.ta.length zx0.ta.c, .slice zx0.tb.A L0a.tb.length zx0.tb.c, .slice zx0.bu.A L0a.bu.length zx0.bu.c, .slice zx0.ow.A L0a.ow.length zx0.ow.c, .slice zx0.tu.A L0a.tu.length zx0.tu.c, .slice zx0.so.A L0a.so.length zx0.so.c, .slice zx0.ar.A L0a.ar.length zx0.ar.c, .int .i64 L0a.ti] 37)).cell? ⟨w3.heap.size, 10, none⟩ = some (.int .i64 L0a.ti) := KX0.out.cell 10
  go_wp2_with fail
  refine (HIM.out _ _ (NetOwn.at (FX0.out.here) (Nat.le_refl _)) (netSm_of hnA0a) (NetOwn.cap (FX0.out.here))).mono ?_
  rintro e w4 ⟨rfl, bg⟩
  have R4 : Hid (Chg 0 0 we w4) := Lib.hid (((R3.out.al (.cells #[.int .i64 L0a.W, .int .i64 L0a.H, .slice zx0.br.A L0a.br.length zx0.br.c, .slice zx0.ta.A L0a.ta.length zx0.ta.c, .slice zx0.tb.A L0a.tb.length zx0.tb.c, .slice zx0.bu.A L0a.bu.length zx0.bu.c, .slice zx0.ow.A L0a.ow.length zx0.ow.c, .slice zx0.tu.A L0a.tu.length zx0.tu.c, .slice zx0.so.A L0a.so.length zx0.so.c, .slice zx0.ar.A L0a.ar.length zx0.ar.c, .int .i64 L0a.ti] 37))).gb bg)
  have Q4 := Lib.hid (chg_gb 0 0 bg)
  clear bg
  clear x0_0 x0_1 x0_2 x0_3 x0_4 x0_5 x0_6 x0_7 x0_8 x0_9 x0_10
  replace FX0 := Lib.hid (FX0.out.nx Q4.out)
  replace KX0 := Lib.hid (KX0.out.nx Q4.out)
  obtain ⟨B0, E0, eE0, fx0, kx0, hx0, hn⟩ : ∃ B0 E0 : Nat, w3.heap.size = E0 ∧ Fix B0 E0 (fun w => NetOwn w B0 E0 zx0 L0a) w4 ∧ Blk w4 E0 37 #[.int .i64 L0a.W, .int .i64 L0a.H, .slice zx0.br.A L0a.br.length zx0.br.c, .slice zx0.ta.A L0a.ta.length zx0.ta.c, .slice zx0.tb.A L0a.tb.length zx0.tb.c, .slice zx0.bu.A L0a.bu.length zx0.bu.c, .slice zx0.ow.A L0a.ow.length zx0.ow.c, .slice zx0.tu.A L0a.tu.length zx0.tu.c, .slice zx0.so.A L0a.so.length zx0.so.c, .slice zx0.ar.A L0a.ar.length zx0.ar.c, .int .i64 L0a.ti] ∧ True ∧ we.heap.size ≤ B0 ∧ B0 ≤ E0 := ⟨_, _, rfl, FX0.out, KX0.out, HLX0.out, (by have hsQ3 := Q3.out.size; have hsQ4 := Q4.out.size; have h0 := HS0.out; (try simp only [alloc_size] at *); omega)⟩
  (try rw [eE0])
  have Zfx0 := Lib.hid (fx0)
  have Zkx0 := Lib.hid (kx0)
  have Zhx0 := Lib.hid (hx0)
  have Zhn := Lib.hid (hn)
  clear fx0 kx0 hx0 hn
  have RS := Lib.hid (R4.out)
  have T0 := Lib.hid (Chg.refl 0 0 w4)
  have KPc0 := Lib.hid (fun (w' : World) (hq : Chg 0 0 w4 w') => (show w'.cell? ⟨w.heap.size, 0, none⟩ = some (.int .i64 L0a.W) ∧ w'.cell? ⟨w.heap.size, 1, none⟩ = some (.int .i64 L0a.H) ∧ w'.cell? ⟨w.heap.size, 2, none⟩ = some (.slice A0a.br.A L0a.br.length A0a.br.c) ∧ w'.cell? ⟨w.heap.size, 3, none⟩ = some (.slice A0a.ta.A L0a.ta.length A0a.ta.c) ∧ w'.cell? ⟨w.heap.size, 4, none⟩ = some (.slice A0a.tb.A L0a.tb.length A0a.tb.c) ∧ w'.cell? ⟨w.heap.size, 5, none⟩ = some (.slice A0a.bu.A L0a.bu.length A0a.bu.c) ∧ w'.cell? ⟨w.heap.size, 6, none⟩ = some (.slice A0a.ow.A L0a.ow.length A0a.ow.c) ∧ w'.cell? ⟨w.heap.size, 7, none⟩ = some (.slice A0a.tu.A L0a.tu.length A0a.tu.c) ∧ w'.cell? ⟨w.heap.size, 8, none⟩ = some (.slice A0a.so.A L0a.so.length A0a.so.c) ∧ w'.cell? ⟨w.heap.size, 9, none⟩ = some (.slice A0a.ar.A L0a.ar.length A0a.ar.c) ∧ w'.cell? ⟨w.heap.size, 10, none⟩ = some (.int .i64 L0a.ti) ∧ w'.cell? ⟨E0, 0, none⟩ = some (.int .i64 L0a.W) ∧ w'.cell? ⟨E0, 1, none⟩ = some (.int .i64 L0a.H) ∧ w'.cell? ⟨E0, 2, none⟩ = some (.slice zx0.br.A L0a.br.length zx0.br.c) ∧ w'.cell? ⟨E0, 3, none⟩ = some (.slice zx0.ta.A L0a.ta.length zx0.ta.c) ∧ w'.cell? ⟨E0, 4, none⟩ = some (.slice zx0.tb.A L0a.tb.length zx0.tb.c) ∧ w'.cell? ⟨E0, 5, none⟩ = some (.slice zx0.bu.A L0a.bu.length zx0.bu.c) ∧ w'.cell? ⟨E0, 6, none⟩ = some (.slice zx0.ow.A L0a.ow.length zx0.ow.c) ∧ w'.cell? ⟨E0, 7, none⟩ = some (.slice zx0.tu.A L0a.tu.length zx0.tu.c) ∧ w'.cell? ⟨E0, 8, none⟩ = some (.slice zx0.so.A L0a.so.length zx0.so.c) ∧ w'.cell? ⟨E0, 9, none⟩ = some (.slice zx0.ar.A L0a.ar.length zx0.ar.c) ∧ w'.cell? ⟨E0, 10, none⟩ = some (.int .i64 L0a.ti) from ⟨(KE0.out.nx (RS.out.trans hq)).cell 0, (KE0.out.nx (RS.out.trans hq)).cell 1, (KE0.out.nx (RS.out.trans hq)).cell 2, (KE0.out.nx (RS.out.trans hq)).cell 3, (KE0.out.nx (RS.out.trans hq)).cell 4, (KE0.out.nx (RS.out.trans hq)).cell 5, (KE0.out.nx (RS.out.trans hq)).cell 6, (KE0.out.nx (RS.out.trans hq)).cell 7, (KE0.out.nx (RS.out.trans hq)).cell 8, (KE0.out.nx (RS.out.trans hq)).cell 9, (KE0.out.nx (RS.out.trans hq)).cell 10, (Zkx0.out.nx hq).cell 0, (Zkx0.out.nx hq).cell 1, (Zkx0.out.nx hq).cell 2, (Zkx0.out.nx hq).cell 3, (Zkx0.out.nx hq).cell 4, (Zkx0.out.nx hq).cell 5, (Zkx0.out.nx hq).cell 6, (Zkx0.out.nx hq).cell 7, (Zkx0.out.nx hq).cell 8, (Zkx0.out.nx hq).cell 9, (Zkx0.out.nx hq).cell 10⟩))
  go_wp2_with fail
  go_region_held3 (fun w' => w'.cell? ⟨w.heap.size, 0, none⟩ = some (.int .i64 L0a.W) ∧ w'.cell? ⟨w.heap.size, 1, none⟩ = some (.int .i64 L0a.H) ∧ w'.cell? ⟨w.heap.size, 2, none⟩ = some (.slice A0a.br.A L0a.br.length A0a.br.c) ∧ w'.cell? ⟨w.heap.size, 3, none⟩ = some (.slice A0a.ta.A L0a.ta.length A0a.ta.c) ∧ w'.cell? ⟨w.heap.size, 4, none⟩ = some (.slice A0a.tb.A L0a.tb.length A0a.tb.c) ∧ w'.cell? ⟨w.heap.size, 5, none⟩ = some (.slice A0a.bu.A L0a.bu.length A0a.bu.c) ∧ w'.cell? ⟨w.heap.size, 6, none⟩ = some (.slice A0a.ow.A L0a.ow.length A0a.ow.c) ∧ w'.cell? ⟨w.heap.size, 7, none⟩ = some (.slice A0a.tu.A L0a.tu.length A0a.tu.c) ∧ w'.cell? ⟨w.heap.size, 8, none⟩ = some (.slice A0a.so.A L0a.so.length A0a.so.c) ∧ w'.cell? ⟨w.heap.size, 9, none⟩ = some (.slice A0a.ar.A L0a.ar.length A0a.ar.c) ∧ w'.cell? ⟨w.heap.size, 10, none⟩ = some (.int .i64 L0a.ti) ∧ w'.cell? ⟨E0, 0, none⟩ = some (.int .i64 L0a.W) ∧ w'.cell? ⟨E0, 1, none⟩ = some (.int .i64 L0a.H) ∧ w'.cell? ⟨E0, 2, none⟩ = some (.slice zx0.br.A L0a.br.length zx0.br.c) ∧ w'.cell? ⟨E0, 3, none⟩ = some (.slice zx0.ta.A L0a.ta.length zx0.ta.c) ∧ w'.cell? ⟨E0, 4, none⟩ = some (.slice zx0.tb.A L0a.tb.length zx0.tb.c) ∧ w'.cell? ⟨E0, 5, none⟩ = some (.slice zx0.bu.A L0a.bu.length zx0.bu.c) ∧ w'.cell? ⟨E0, 6, none⟩ = some (.slice zx0.ow.A L0a.ow.length zx0.ow.c) ∧ w'.cell? ⟨E0, 7, none⟩ = some (.slice zx0.tu.A L0a.tu.length zx0.tu.c) ∧ w'.cell? ⟨E0, 8, none⟩ = some (.slice zx0.so.A L0a.so.length zx0.so.c) ∧ w'.cell? ⟨E0, 9, none⟩ = some (.slice zx0.ar.A L0a.ar.length zx0.ar.c) ∧ w'.cell? ⟨E0, 10, none⟩ = some (.int .i64 L0a.ti))
    (first | with_reducible exact KPc0.out _ (T0.out) | with_reducible exact KPc0.out _ (T0.out.dr) | with_reducible exact KPc0.out _ (T5.out) | with_reducible exact KPc0.out _ (T6.out) | fail)
    (first
      | (go_at_call 32; (with_reducible refine (lawsToNet _ _ _ (RDA0a.out _ (RS.out.trans T0.out.dr)) hnA0a).mono ?_); rintro e w5 ⟨zy0, rfl, oy0, by0⟩; have T5 : Hid (Chg 0 0 w4 w5) := Lib.hid (T0.out.dr.bl by0); have F5 := Lib.hid (fix_net oy0); clear by0 oy0)
      | (go_at_call 23; (with_reducible refine (lawsEqNet _ _ L0a _ _ _ _ _ (Zfx0.out.nx T5.out).here F5.out.here (netSm_of hnA0a)).mono ?_); rintro e w6 ⟨rfl, hg⟩; have T6 : Hid (Chg 0 0 w4 w6) := Lib.hid (T5.out.gb hg); clear hg)
      | fail)
  all_goals
    go_wp2_with fail
    go_ret
    exact ⟨rfl, BE.out.trans ((RS.out.trans T6.out).below (.inr (Nat.le_refl _)) BE.out.size)⟩
end Go.Proofs.Ytffnbmaoainhmaa
end

section
namespace Go.Proofs.Ytffnbmaoainhmaa
open Go.ChangeShapes Go.WideShapes Go.ChangeAt Go.RowKit
set_option linter.unusedVariables false
set_option maxRecDepth 20000

set_option maxHeartbeats 6400000 in
theorem walk_FnExactFlitsInside (A0a : Na) (L0a : Nt) (w : World) (hcmA0a : NetCap A0a L0a) (hA0a : NetIn w w.heap.size A0a L0a) (hlA0a : NetWf L0a) :
    Calls Try.prog 7 #[.agg #[.int .i64 L0a.W, .int .i64 L0a.H, .slice A0a.br.A L0a.br.length A0a.br.c, .slice A0a.ta.A L0a.ta.length A0a.ta.c, .slice A0a.tb.A L0a.tb.length A0a.tb.c, .slice A0a.bu.A L0a.bu.length A0a.bu.c, .slice A0a.ow.A L0a.ow.length A0a.ow.c, .slice A0a.tu.A L0a.tu.length A0a.tu.c, .slice A0a.so.A L0a.so.length A0a.so.c, .slice A0a.ar.A L0a.ar.length A0a.ar.c, .int .i64 L0a.ti]] w fun e w' => e = .returned (.bool true) ∧ Below w.heap.size w w' := by
  have HA0a := Lib.hid (hA0a)
  have HCA0a := Lib.hid (hcmA0a)
  have HWF0 := Lib.hid (hlA0a)
  clear hcmA0a hA0a hlA0a
  by_cases hbig0 : (1048576 : Int) < ((sizeN L0a : Nat) : Int)
  · skip
    go_enter Try.func7, Try.ntmps7
    go_wp2_with fail
    have ke0 := Blk.new w 64 #[.int .i64 L0a.W, .int .i64 L0a.H, .slice A0a.br.A L0a.br.length A0a.br.c, .slice A0a.ta.A L0a.ta.length A0a.ta.c, .slice A0a.tb.A L0a.tb.length A0a.tb.c, .slice A0a.bu.A L0a.bu.length A0a.bu.c, .slice A0a.ow.A L0a.ow.length A0a.ow.c, .slice A0a.tu.A L0a.tu.length A0a.tu.c, .slice A0a.so.A L0a.so.length A0a.so.c, .slice A0a.ar.A L0a.ar.length A0a.ar.c, .int .i64 L0a.ti]
    have ge := gb_alloc (gb_refl w none) (.cells #[.int .i64 L0a.W, .int .i64 L0a.H, .slice A0a.br.A L0a.br.length A0a.br.c, .slice A0a.ta.A L0a.ta.length A0a.ta.c, .slice A0a.tb.A L0a.tb.length A0a.tb.c, .slice A0a.bu.A L0a.bu.length A0a.bu.c, .slice A0a.ow.A L0a.ow.length A0a.ow.c, .slice A0a.tu.A L0a.tu.length A0a.tu.c, .slice A0a.so.A L0a.so.length A0a.so.c, .slice A0a.ar.A L0a.ar.length A0a.ar.c, .int .i64 L0a.ti] 64)
    generalize (w.alloc (.cells #[.int .i64 L0a.W, .int .i64 L0a.H, .slice A0a.br.A L0a.br.length A0a.br.c, .slice A0a.ta.A L0a.ta.length A0a.ta.c, .slice A0a.tb.A L0a.tb.length A0a.tb.c, .slice A0a.bu.A L0a.bu.length A0a.bu.c, .slice A0a.ow.A L0a.ow.length A0a.ow.c, .slice A0a.tu.A L0a.tu.length A0a.tu.c, .slice A0a.so.A L0a.so.length A0a.so.c, .slice A0a.ar.A L0a.ar.length A0a.ar.c, .int .i64 L0a.ti] 64)) = we at *
    have KE0 : Hid (Blk we (w.heap.size) 64 #[.int .i64 L0a.W, .int .i64 L0a.H, .slice A0a.br.A L0a.br.length A0a.br.c, .slice A0a.ta.A L0a.ta.length A0a.ta.c, .slice A0a.tb.A L0a.tb.length A0a.tb.c, .slice A0a.bu.A L0a.bu.length A0a.bu.c, .slice A0a.ow.A L0a.ow.length A0a.ow.c, .slice A0a.tu.A L0a.tu.length A0a.tu.c, .slice A0a.so.A L0a.so.length A0a.so.c, .slice A0a.ar.A L0a.ar.length A0a.ar.c, .int .i64 L0a.ti]) := Lib.hid (ke0)
    have GE := Lib.hid (ge)
    have RZ0 := Lib.hid (Chg.refl 0 0 we)
    clear ge ke0
    have a0_0 : we.cell? ⟨w.heap.size, 0, none⟩ = some (.int .i64 L0a.W) := (KE0.out.nx (RZ0.out)).cell 0
    have a0_1 : we.cell? ⟨w.heap.size, 1, none⟩ = some (.int .i64 L0a.H) := (KE0.out.nx (RZ0.out)).cell 1
    have a0_2 : we.cell? ⟨w.heap.size, 2, none⟩ = some (.slice A0a.br.A L0a.br.length A0a.br.c) := (KE0.out.nx (RZ0.out)).cell 2
    have a0_3 : we.cell? ⟨w.heap.size, 3, none⟩ = some (.slice A0a.ta.A L0a.ta.length A0a.ta.c) := (KE0.out.nx (RZ0.out)).cell 3
    have a0_4 : we.cell? ⟨w.heap.size, 4, none⟩ = some (.slice A0a.tb.A L0a.tb.length A0a.tb.c) := (KE0.out.nx (RZ0.out)).cell 4
    have a0_5 : we.cell? ⟨w.heap.size, 5, none⟩ = some (.slice A0a.bu.A L0a.bu.length A0a.bu.c) := (KE0.out.nx (RZ0.out)).cell 5
    have a0_6 : we.cell? ⟨w.heap.size, 6, none⟩ = some (.slice A0a.ow.A L0a.ow.length A0a.ow.c) := (KE0.out.nx (RZ0.out)).cell 6
    have a0_7 : we.cell? ⟨w.heap.size, 7, none⟩ = some (.slice A0a.tu.A L0a.tu.length A0a.tu.c) := (KE0.out.nx (RZ0.out)).cell 7
    have a0_8 : we.cell? ⟨w.heap.size, 8, none⟩ = some (.slice A0a.so.A L0a.so.length A0a.so.c) := (KE0.out.nx (RZ0.out)).cell 8
    have a0_9 : we.cell? ⟨w.heap.size, 9, none⟩ = some (.slice A0a.ar.A L0a.ar.length A0a.ar.c) := (KE0.out.nx (RZ0.out)).cell 9
    have a0_10 : we.cell? ⟨w.heap.size, 10, none⟩ = some (.int .i64 L0a.ti) := (KE0.out.nx (RZ0.out)).cell 10
    refine (lawsSzNet _ _ _ _ ((HA0a.out.none (Nat.le_refl _) (gb_trans GE.out RZ0.out.still)).more (Nat.le_trans GE.out.size RZ0.out.size)) HCA0a.out (by omega) (by omega)).mono ?_
    rintro e wz1 ⟨rfl, hg⟩
    rw [leftL, if_pos hbig0]
    have RZ1 := Lib.hid (RZ0.out.gb hg)
    clear hg a0_0 a0_1 a0_2 a0_3 a0_4 a0_5 a0_6 a0_7 a0_8 a0_9 a0_10
    go_wp2_with fail
    go_ret
    exact ⟨rfl, (gb_below_none GE.out (Nat.le_refl _)).trans (RZ1.out.below (.inr (Nat.le_refl _)) GE.out.size)⟩
  have hnA0a : sizeN L0a ≤ 1048576 := by omega
  obtain ⟨q1, hq1⟩ : ∃ q : Int, (1048576 : Int) - ((sizeN L0a : Nat) : Int) = q := ⟨_, rfl⟩
  have hqa1 : ¬ q1 < 0 := by omega
  have hqb1 : q1 ≤ 1048576 := by omega
  go_enter Try.func7, Try.ntmps7
  go_wp2_with fail
  have ke0 := Blk.new w 64 #[.int .i64 L0a.W, .int .i64 L0a.H, .slice A0a.br.A L0a.br.length A0a.br.c, .slice A0a.ta.A L0a.ta.length A0a.ta.c, .slice A0a.tb.A L0a.tb.length A0a.tb.c, .slice A0a.bu.A L0a.bu.length A0a.bu.c, .slice A0a.ow.A L0a.ow.length A0a.ow.c, .slice A0a.tu.A L0a.tu.length A0a.tu.c, .slice A0a.so.A L0a.so.length A0a.so.c, .slice A0a.ar.A L0a.ar.length A0a.ar.c, .int .i64 L0a.ti]
  have ge := gb_alloc (gb_refl w none) (.cells #[.int .i64 L0a.W, .int .i64 L0a.H, .slice A0a.br.A L0a.br.length A0a.br.c, .slice A0a.ta.A L0a.ta.length A0a.ta.c, .slice A0a.tb.A L0a.tb.length A0a.tb.c, .slice A0a.bu.A L0a.bu.length A0a.bu.c, .slice A0a.ow.A L0a.ow.length A0a.ow.c, .slice A0a.tu.A L0a.tu.length A0a.tu.c, .slice A0a.so.A L0a.so.length A0a.so.c, .slice A0a.ar.A L0a.ar.length A0a.ar.c, .int .i64 L0a.ti] 64)
  generalize (w.alloc (.cells #[.int .i64 L0a.W, .int .i64 L0a.H, .slice A0a.br.A L0a.br.length A0a.br.c, .slice A0a.ta.A L0a.ta.length A0a.ta.c, .slice A0a.tb.A L0a.tb.length A0a.tb.c, .slice A0a.bu.A L0a.bu.length A0a.bu.c, .slice A0a.ow.A L0a.ow.length A0a.ow.c, .slice A0a.tu.A L0a.tu.length A0a.tu.c, .slice A0a.so.A L0a.so.length A0a.so.c, .slice A0a.ar.A L0a.ar.length A0a.ar.c, .int .i64 L0a.ti] 64)) = we at *
  have KE0 : Hid (Blk we (w.heap.size) 64 #[.int .i64 L0a.W, .int .i64 L0a.H, .slice A0a.br.A L0a.br.length A0a.br.c, .slice A0a.ta.A L0a.ta.length A0a.ta.c, .slice A0a.tb.A L0a.tb.length A0a.tb.c, .slice A0a.bu.A L0a.bu.length A0a.bu.c, .slice A0a.ow.A L0a.ow.length A0a.ow.c, .slice A0a.tu.A L0a.tu.length A0a.tu.c, .slice A0a.so.A L0a.so.length A0a.so.c, .slice A0a.ar.A L0a.ar.length A0a.ar.c, .int .i64 L0a.ti]) := Lib.hid (ke0)
  have GE := Lib.hid (ge)
  have RZ0 := Lib.hid (Chg.refl 0 0 we)
  clear ge ke0
  have a0_0 : we.cell? ⟨w.heap.size, 0, none⟩ = some (.int .i64 L0a.W) := (KE0.out.nx (RZ0.out)).cell 0
  have a0_1 : we.cell? ⟨w.heap.size, 1, none⟩ = some (.int .i64 L0a.H) := (KE0.out.nx (RZ0.out)).cell 1
  have a0_2 : we.cell? ⟨w.heap.size, 2, none⟩ = some (.slice A0a.br.A L0a.br.length A0a.br.c) := (KE0.out.nx (RZ0.out)).cell 2
  have a0_3 : we.cell? ⟨w.heap.size, 3, none⟩ = some (.slice A0a.ta.A L0a.ta.length A0a.ta.c) := (KE0.out.nx (RZ0.out)).cell 3
  have a0_4 : we.cell? ⟨w.heap.size, 4, none⟩ = some (.slice A0a.tb.A L0a.tb.length A0a.tb.c) := (KE0.out.nx (RZ0.out)).cell 4
  have a0_5 : we.cell? ⟨w.heap.size, 5, none⟩ = some (.slice A0a.bu.A L0a.bu.length A0a.bu.c) := (KE0.out.nx (RZ0.out)).cell 5
  have a0_6 : we.cell? ⟨w.heap.size, 6, none⟩ = some (.slice A0a.ow.A L0a.ow.length A0a.ow.c) := (KE0.out.nx (RZ0.out)).cell 6
  have a0_7 : we.cell? ⟨w.heap.size, 7, none⟩ = some (.slice A0a.tu.A L0a.tu.length A0a.tu.c) := (KE0.out.nx (RZ0.out)).cell 7
  have a0_8 : we.cell? ⟨w.heap.size, 8, none⟩ = some (.slice A0a.so.A L0a.so.length A0a.so.c) := (KE0.out.nx (RZ0.out)).cell 8
  have a0_9 : we.cell? ⟨w.heap.size, 9, none⟩ = some (.slice A0a.ar.A L0a.ar.length A0a.ar.c) := (KE0.out.nx (RZ0.out)).cell 9
  have a0_10 : we.cell? ⟨w.heap.size, 10, none⟩ = some (.int .i64 L0a.ti) := (KE0.out.nx (RZ0.out)).cell 10
  refine (lawsSzNet _ _ _ _ ((HA0a.out.none (Nat.le_refl _) (gb_trans GE.out RZ0.out.still)).more (Nat.le_trans GE.out.size RZ0.out.size)) HCA0a.out (by omega) (by omega)).mono ?_
  rintro e wz1 ⟨rfl, hg⟩
  rw [leftL, if_neg (by omega), hq1]
  have RZ1 := Lib.hid (RZ0.out.gb hg)
  clear hg a0_0 a0_1 a0_2 a0_3 a0_4 a0_5 a0_6 a0_7 a0_8 a0_9 a0_10 hq1
  obtain ⟨res, hres⟩ : ∃ r, insideG L0a = r := ⟨_, rfl⟩
  have HSP := Lib.hid (fun (A0a : Na) (w : World) (hA0a : NetIn w w.heap.size A0a L0a) (hnA0a : NetSm L0a) (hcA0a : NetCap A0a L0a) => show Calls Try.prog 33 #[.agg #[.int .i64 L0a.W, .int .i64 L0a.H, .slice A0a.br.A L0a.br.length A0a.br.c, .slice A0a.ta.A L0a.ta.length A0a.ta.c, .slice A0a.tb.A L0a.tb.length A0a.tb.c, .slice A0a.bu.A L0a.bu.length A0a.bu.c, .slice A0a.ow.A L0a.ow.length A0a.ow.c, .slice A0a.tu.A L0a.tu.length A0a.tu.c, .slice A0a.so.A L0a.so.length A0a.so.c, .slice A0a.ar.A L0a.ar.length A0a.ar.c, .int .i64 L0a.ti]] w (RetI res none w) from hres ▸ specFlitsInside A0a L0a w hA0a hnA0a)
  have HIM := Lib.hid (fun (A0a : Na) (w : World) (hA0a : NetIn w w.heap.size A0a L0a) (hnA0a : NetSm L0a) (hcA0a : NetCap A0a L0a) => show Calls Try.prog 14 #[.agg #[.int .i64 L0a.W, .int .i64 L0a.H, .slice A0a.br.A L0a.br.length A0a.br.c, .slice A0a.ta.A L0a.ta.length A0a.ta.c, .slice A0a.tb.A L0a.tb.length A0a.tb.c, .slice A0a.bu.A L0a.bu.length A0a.bu.c, .slice A0a.ow.A L0a.ow.length A0a.ow.c, .slice A0a.tu.A L0a.tu.length A0a.tu.c, .slice A0a.so.A L0a.so.length A0a.so.c, .slice A0a.ar.A L0a.ar.length A0a.ar.c, .int .i64 L0a.ti]] w (RetI res none w) from hres ▸ implFlitsInside A0a L0a w hA0a hnA0a hcA0a HWF0.out.br)
  clear hres
  have BE := Lib.hid (gb_below_none GE.out (Nat.le_refl _))
  have RDA0a := Lib.hid (fun (w' : World) (hq : Chg 0 0 we w') => HA0a.out.chg BE.out hq (.inr (Nat.le_refl _)))
  have a0_0 : wz1.cell? ⟨w.heap.size, 0, none⟩ = some (.int .i64 L0a.W) := (KE0.out.nx (RZ1.out)).cell 0
  have a0_1 : wz1.cell? ⟨w.heap.size, 1, none⟩ = some (.int .i64 L0a.H) := (KE0.out.nx (RZ1.out)).cell 1
  have a0_2 : wz1.cell? ⟨w.heap.size, 2, none⟩ = some (.slice A0a.br.A L0a.br.length A0a.br.c) := (KE0.out.nx (RZ1.out)).cell 2
  have a0_3 : wz1.cell? ⟨w.heap.size, 3, none⟩ = some (.slice A0a.ta.A L0a.ta.length A0a.ta.c) := (KE0.out.nx (RZ1.out)).cell 3
  have a0_4 : wz1.cell? ⟨w.heap.size, 4, none⟩ = some (.slice A0a.tb.A L0a.tb.length A0a.tb.c) := (KE0.out.nx (RZ1.out)).cell 4
  have a0_5 : wz1.cell? ⟨w.heap.size, 5, none⟩ = some (.slice A0a.bu.A L0a.bu.length A0a.bu.c) := (KE0.out.nx (RZ1.out)).cell 5
  have a0_6 : wz1.cell? ⟨w.heap.size, 6, none⟩ = some (.slice A0a.ow.A L0a.ow.length A0a.ow.c) := (KE0.out.nx (RZ1.out)).cell 6
  have a0_7 : wz1.cell? ⟨w.heap.size, 7, none⟩ = some (.slice A0a.tu.A L0a.tu.length A0a.tu.c) := (KE0.out.nx (RZ1.out)).cell 7
  have a0_8 : wz1.cell? ⟨w.heap.size, 8, none⟩ = some (.slice A0a.so.A L0a.so.length A0a.so.c) := (KE0.out.nx (RZ1.out)).cell 8
  have a0_9 : wz1.cell? ⟨w.heap.size, 9, none⟩ = some (.slice A0a.ar.A L0a.ar.length A0a.ar.c) := (KE0.out.nx (RZ1.out)).cell 9
  have a0_10 : wz1.cell? ⟨w.heap.size, 10, none⟩ = some (.int .i64 L0a.ti) := (KE0.out.nx (RZ1.out)).cell 10
  go_wp2_with fail
  refine (lawsToNet _ _ _ (RDA0a.out _ (RZ1.out)) hnA0a).mono ?_
  rintro e w1 ⟨zw0, rfl, ow0, bw0⟩
  have R1 : Hid (Chg 0 0 we w1) := Lib.hid ((RZ1.out).bl bw0)
  have Q1 := Lib.hid (chg_gb 0 0 (gb_of_below bw0 none))
  have F1 := Lib.hid (fix_net ow0)
  clear bw0 ow0 a0_0 a0_1 a0_2 a0_3 a0_4 a0_5 a0_6 a0_7 a0_8 a0_9 a0_10
  go_wp2_with fail
  refine (HSP.out _ _ (NetOwn.at (F1.out.here) (Nat.le_refl _)) (netSm_of hnA0a) (NetOwn.cap (F1.out.here))).mono ?_
  rintro e w2 ⟨rfl, bw⟩
  have R2 : Hid (Chg 0 0 we w2) := Lib.hid ((R1.out).gb bw)
  have Q2 := Lib.hid (chg_gb 0 0 bw)
  clear bw
  have HS0 := Lib.hid ((R2.out).size)
  have a0_0 : w2.cell? ⟨w.heap.size, 0, none⟩ = some (.int .i64 L0a.W) := (KE0.out.nx (R2.out)).cell 0
  have a0_1 : w2.cell? ⟨w.heap.size, 1, none⟩ = some (.int .i64 L0a.H) := (KE0.out.nx (R2.out)).cell 1
  have a0_2 : w2.cell? ⟨w.heap.size, 2, none⟩ = some (.slice A0a.br.A L0a.br.length A0a.br.c) := (KE0.out.nx (R2.out)).cell 2
  have a0_3 : w2.cell? ⟨w.heap.size, 3, none⟩ = some (.slice A0a.ta.A L0a.ta.length A0a.ta.c) := (KE0.out.nx (R2.out)).cell 3
  have a0_4 : w2.cell? ⟨w.heap.size, 4, none⟩ = some (.slice A0a.tb.A L0a.tb.length A0a.tb.c) := (KE0.out.nx (R2.out)).cell 4
  have a0_5 : w2.cell? ⟨w.heap.size, 5, none⟩ = some (.slice A0a.bu.A L0a.bu.length A0a.bu.c) := (KE0.out.nx (R2.out)).cell 5
  have a0_6 : w2.cell? ⟨w.heap.size, 6, none⟩ = some (.slice A0a.ow.A L0a.ow.length A0a.ow.c) := (KE0.out.nx (R2.out)).cell 6
  have a0_7 : w2.cell? ⟨w.heap.size, 7, none⟩ = some (.slice A0a.tu.A L0a.tu.length A0a.tu.c) := (KE0.out.nx (R2.out)).cell 7
  have a0_8 : w2.cell? ⟨w.heap.size, 8, none⟩ = some (.slice A0a.so.A L0a.so.length A0a.so.c) := (KE0.out.nx (R2.out)).cell 8
  have a0_9 : w2.cell? ⟨w.heap.size, 9, none⟩ = some (.slice A0a.ar.A L0a.ar.length A0a.ar.c) := (KE0.out.nx (R2.out)).cell 9
  have a0_10 : w2.cell? ⟨w.heap.size, 10, none⟩ = some (.int .i64 L0a.ti) := (KE0.out.nx (R2.out)).cell 10
  go_wp2_with fail
  refine (lawsToNet _ _ _ (RDA0a.out _ (R2.out)) hnA0a).mono ?_
  rintro e w3 ⟨zx0, rfl, ox0, bx0⟩
  have HLX0 := Lib.hid (trivial)
  have FX0 := Lib.hid (fix_net ox0)
  have Q3 := Lib.hid (chg_gb 0 0 (gb_of_below bx0 none))
  have R3 := Lib.hid ((R2.out).bl bx0)
  clear bx0 ox0 a0_0 a0_1 a0_2 a0_3 a0_4 a0_5 a0_6 a0_7 a0_8 a0_9 a0_10
  replace FX0 := Lib.hid ((FX0.out).al (.cells #[.int .i64 L0a.W, .int .i64 L0a.H, .slice zx0.br.A L0a.br.length zx0.br.c, .slice zx0.ta.A L0a.ta.length zx0.ta.c, .slice zx0.tb.A L0a.tb.length zx0.tb.c, .slice zx0.bu.A L0a.bu.length zx0.bu.c, .slice zx0.ow.A L0a.ow.length zx0.ow.c, .slice zx0.tu.A L0a.tu.length zx0.tu.c, .slice zx0.so.A L0a.so.length zx0.so.c, .slice zx0.ar.A L0a.ar.length zx0.ar.c, .int .i64 L0a.ti] 37))
  have KX0 := Lib.hid (Blk.new w3 37 #[.int .i64 L0a.W, .int .i64 L0a.H, .slice zx0.br.A L0a.br.length zx0.br.c, .slice zx0.ta.A L0a.ta.length zx0.ta.c, .slice zx0.tb.A L0a.tb.length zx0.tb.c, .slice zx0.bu.A L0a.bu.length zx0.bu.c, .slice zx0.ow.A L0a.ow.length zx0.ow.c, .slice zx0.tu.A L0a.tu.length zx0.tu.c, .slice zx0.so.A L0a.so.length zx0.so.c, .slice zx0.ar.A L0a.ar.length zx0.ar.c, .int .i64 L0a.ti])
  have x0_0 : (w3.alloc (.cells #[.int .i64 L0a.W, .int .i64 L0a.H, .slice zx0.br.A L0a.br.length zx0.br.c, .slice zx0.ta.A L0a.ta.length zx0.ta.c, .slice zx0.tb.A L0a.tb.length zx0.tb.c, .slice zx0.bu.A L0a.bu.length zx0.bu.c, .slice zx0.ow.A L0a.ow.length zx0.ow.c, .slice zx0.tu.A L0a.tu.length zx0.tu.c, .slice zx0.so.A L0a.so.length zx0.so.c, .slice zx0.ar.A L0a.ar.length zx0.ar.c, .int .i64 L0a.ti] 37)).cell? ⟨w3.heap.size, 0, none⟩ = some (.int .i64 L0a.W) := KX0.out.cell 0
  have x0_1 : (w3.alloc (.cells #[.int .i64 L0a.W, .int .i64 L0a.H, .slice zx0.br.A L0a.br.length zx0.br.c, .slice zx0.ta.A L0a.ta.length zx0.ta.c, .slice zx0.tb.A L0a.tb.length zx0.tb.c, .slice zx0.bu.A L0a.bu.length zx0.bu.c, .slice zx0.ow.A L0a.ow.length zx0.ow.c, .slice zx0.tu.A L0a.tu.length zx0.tu.c, .slice zx0.so.A L0a.so.length zx0.so.c, .slice zx0.ar.A L0a.ar.length zx0.ar.c, .int .i64 L0a.ti] 37)).cell? ⟨w3.heap.size, 1, none⟩ = some (.int .i64 L0a.H) := KX0.out.cell 1
  have x0_2 : (w3.alloc (.cells #[.int .i64 L0a.W, .int .i64 L0a.H, .slice zx0.br.A L0a.br.length zx0.br.c, .slice zx0.ta.A L0a.ta.length zx0.ta.c, .slice zx0.tb.A L0a.tb.length zx0.tb.c, .slice zx0.bu.A L0a.bu.length zx0.bu.c, .slice zx0.ow.A L0a.ow.length zx0.ow.c, .slice zx0.tu.A L0a.tu.length zx0.tu.c, .slice zx0.so.A L0a.so.length zx0.so.c, .slice zx0.ar.A L0a.ar.length zx0.ar.c, .int .i64 L0a.ti] 37)).cell? ⟨w3.heap.size, 2, none⟩ = some (.slice zx0.br.A L0a.br.length zx0.br.c) := KX0.out.cell 2
  have x0_3 : (w3.alloc (.cells #[.int .i64 L0a.W, .int .i64 L0a.H, .slice zx0.br.A L0a.br.length zx0.br.c, .slice zx0.ta.A L0a.ta.length zx0.ta.c, .slice zx0.tb.A L0a.tb.length zx0.tb.c, .slice zx0.bu.A L0a.bu.length zx0.bu.c, .slice zx0.ow.A L0a.ow.length zx0.ow.c, .slice zx0.tu.A L0a.tu.length zx0.tu.c, .slice zx0.so.A L0a.so.length zx0.so.c, .slice zx0.ar.A L0a.ar.length zx0.ar.c, .int .i64 L0a.ti] 37)).cell? ⟨w3.heap.size, 3, none⟩ = some (.slice zx0.ta.A L0a.ta.length zx0.ta.c) := KX0.out.cell 3
  have x0_4 : (w3.alloc (.cells #[.int .i64 L0a.W, .int .i64 L0a.H, .slice zx0.br.A L0a.br.length zx0.br.c, .slice zx0.ta.A L0a.ta.length zx0.ta.c, .slice zx0.tb.A L0a.tb.length zx0.tb.c, .slice zx0.bu.A L0a.bu.length zx0.bu.c, .slice zx0.ow.A L0a.ow.length zx0.ow.c, .slice zx0.tu.A L0a.tu.length zx0.tu.c, .slice zx0.so.A L0a.so.length zx0.so.c, .slice zx0.ar.A L0a.ar.length zx0.ar.c, .int .i64 L0a.ti] 37)).cell? ⟨w3.heap.size, 4, none⟩ = some (.slice zx0.tb.A L0a.tb.length zx0.tb.c) := KX0.out.cell 4
  have x0_5 : (w3.alloc (.cells #[.int .i64 L0a.W, .int .i64 L0a.H, .slice zx0.br.A L0a.br.length zx0.br.c, .slice zx0.ta.A L0a.ta.length zx0.ta.c, .slice zx0.tb.A L0a.tb.length zx0.tb.c, .slice zx0.bu.A L0a.bu.length zx0.bu.c, .slice zx0.ow.A L0a.ow.length zx0.ow.c, .slice zx0.tu.A L0a.tu.length zx0.tu.c, .slice zx0.so.A L0a.so.length zx0.so.c, .slice zx0.ar.A L0a.ar.length zx0.ar.c, .int .i64 L0a.ti] 37)).cell? ⟨w3.heap.size, 5, none⟩ = some (.slice zx0.bu.A L0a.bu.length zx0.bu.c) := KX0.out.cell 5
  have x0_6 : (w3.alloc (.cells #[.int .i64 L0a.W, .int .i64 L0a.H, .slice zx0.br.A L0a.br.length zx0.br.c, .slice zx0.ta.A L0a.ta.length zx0.ta.c, .slice zx0.tb.A L0a.tb.length zx0.tb.c, .slice zx0.bu.A L0a.bu.length zx0.bu.c, .slice zx0.ow.A L0a.ow.length zx0.ow.c, .slice zx0.tu.A L0a.tu.length zx0.tu.c, .slice zx0.so.A L0a.so.length zx0.so.c, .slice zx0.ar.A L0a.ar.length zx0.ar.c, .int .i64 L0a.ti] 37)).cell? ⟨w3.heap.size, 6, none⟩ = some (.slice zx0.ow.A L0a.ow.length zx0.ow.c) := KX0.out.cell 6
  have x0_7 : (w3.alloc (.cells #[.int .i64 L0a.W, .int .i64 L0a.H, .slice zx0.br.A L0a.br.length zx0.br.c, .slice zx0.ta.A L0a.ta.length zx0.ta.c, .slice zx0.tb.A L0a.tb.length zx0.tb.c, .slice zx0.bu.A L0a.bu.length zx0.bu.c, .slice zx0.ow.A L0a.ow.length zx0.ow.c, .slice zx0.tu.A L0a.tu.length zx0.tu.c, .slice zx0.so.A L0a.so.length zx0.so.c, .slice zx0.ar.A L0a.ar.length zx0.ar.c, .int .i64 L0a.ti] 37)).cell? ⟨w3.heap.size, 7, none⟩ = some (.slice zx0.tu.A L0a.tu.length zx0.tu.c) := KX0.out.cell 7
  have x0_8 : (w3.alloc (.cells #[.int .i64 L0a.W, .int .i64 L0a.H, .slice zx0.br.A L0a.br.length zx0.br.c, .slice zx0.ta.A L0a.ta.length zx0.ta.c, .slice zx0.tb.A L0a.tb.length zx0.tb.c, .slice zx0.bu.A L0a.bu.length zx0.bu.c, .slice zx0.ow.A L0a.ow.length zx0.ow.c, .slice zx0.tu.A L0a.tu.length zx0.tu.c, .slice zx0.so.A L0a.so.length zx0.so.c, .slice zx0.ar.A L0a.ar.length zx0.ar.c, .int .i64 L0a.ti] 37)).cell? ⟨w3.heap.size, 8, none⟩ = some (.slice zx0.so.A L0a.so.length zx0.so.c) := KX0.out.cell 8
  have x0_9 : (w3.alloc (.cells #[.int .i64 L0a.W, .int .i64 L0a.H, .slice zx0.br.A L0a.br.length zx0.br.c, .slice zx0.ta.A L0a.ta.length zx0.ta.c, .slice zx0.tb.A L0a.tb.length zx0.tb.c, .slice zx0.bu.A L0a.bu.length zx0.bu.c, .slice zx0.ow.A L0a.ow.length zx0.ow.c, .slice zx0.tu.A L0a.tu.length zx0.tu.c, .slice zx0.so.A L0a.so.length zx0.so.c, .slice zx0.ar.A L0a.ar.length zx0.ar.c, .int .i64 L0a.ti] 37)).cell? ⟨w3.heap.size, 9, none⟩ = some (.slice zx0.ar.A L0a.ar.length zx0.ar.c) := KX0.out.cell 9
  have x0_10 : (w3.alloc (.cells #[.int .i64 L0a.W, .int .i64 L0a.H, .slice zx0.br.A L0a.br.length zx0.br.c, .slice zx0.ta.A L0a.ta.length zx0.ta.c, .slice zx0.tb.A L0a.tb.length zx0.tb.c, .slice zx0.bu.A L0a.bu.length zx0.bu.c, .slice zx0.ow.A L0a.ow.length zx0.ow.c, .slice zx0.tu.A L0a.tu.length zx0.tu.c, .slice zx0.so.A L0a.so.length zx0.so.c, .slice zx0.ar.A L0a.ar.length zx0.ar.c, .int .i64 L0a.ti] 37)).cell? ⟨w3.heap.size, 10, none⟩ = some (.int .i64 L0a.ti) := KX0.out.cell 10
  go_wp2_with fail
  refine (HIM.out _ _ (NetOwn.at (FX0.out.here) (Nat.le_refl _)) (netSm_of hnA0a) (NetOwn.cap (FX0.out.here))).mono ?_
  rintro e w4 ⟨rfl, bg⟩
  have R4 : Hid (Chg 0 0 we w4) := Lib.hid (((R3.out.al (.cells #[.int .i64 L0a.W, .int .i64 L0a.H, .slice zx0.br.A L0a.br.length zx0.br.c, .slice zx0.ta.A L0a.ta.length zx0.ta.c, .slice zx0.tb.A L0a.tb.length zx0.tb.c, .slice zx0.bu.A L0a.bu.length zx0.bu.c, .slice zx0.ow.A L0a.ow.length zx0.ow.c, .slice zx0.tu.A L0a.tu.length zx0.tu.c, .slice zx0.so.A L0a.so.length zx0.so.c, .slice zx0.ar.A L0a.ar.length zx0.ar.c, .int .i64 L0a.ti] 37))).gb bg)
  have Q4 := Lib.hid (chg_gb 0 0 bg)
  clear bg
  clear x0_0 x0_1 x0_2 x0_3 x0_4 x0_5 x0_6 x0_7 x0_8 x0_9 x0_10
  replace FX0 := Lib.hid (FX0.out.nx Q4.out)
  replace KX0 := Lib.hid (KX0.out.nx Q4.out)
  obtain ⟨B0, E0, eE0, fx0, kx0, hx0, hn⟩ : ∃ B0 E0 : Nat, w3.heap.size = E0 ∧ Fix B0 E0 (fun w => NetOwn w B0 E0 zx0 L0a) w4 ∧ Blk w4 E0 37 #[.int .i64 L0a.W, .int .i64 L0a.H, .slice zx0.br.A L0a.br.length zx0.br.c, .slice zx0.ta.A L0a.ta.length zx0.ta.c, .slice zx0.tb.A L0a.tb.length zx0.tb.c, .slice zx0.bu.A L0a.bu.length zx0.bu.c, .slice zx0.ow.A L0a.ow.length zx0.ow.c, .slice zx0.tu.A L0a.tu.length zx0.tu.c, .slice zx0.so.A L0a.so.length zx0.so.c, .slice zx0.ar.A L0a.ar.length zx0.ar.c, .int .i64 L0a.ti] ∧ True ∧ we.heap.size ≤ B0 ∧ B0 ≤ E0 := ⟨_, _, rfl, FX0.out, KX0.out, HLX0.out, (by have hsQ3 := Q3.out.size; have hsQ4 := Q4.out.size; have h0 := HS0.out; (try simp only [alloc_size] at *); omega)⟩
  (try rw [eE0])
  have Zfx0 := Lib.hid (fx0)
  have Zkx0 := Lib.hid (kx0)
  have Zhx0 := Lib.hid (hx0)
  have Zhn := Lib.hid (hn)
  clear fx0 kx0 hx0 hn
  have RS := Lib.hid (R4.out)
  have T0 := Lib.hid (Chg.refl 0 0 w4)
  have KPc0 := Lib.hid (fun (w' : World) (hq : Chg 0 0 w4 w') => (show w'.cell? ⟨w.heap.size, 0, none⟩ = some (.int .i64 L0a.W) ∧ w'.cell? ⟨w.heap.size, 1, none⟩ = some (.int .i64 L0a.H) ∧ w'.cell? ⟨w.heap.size, 2, none⟩ = some (.slice A0a.br.A L0a.br.length A0a.br.c) ∧ w'.cell? ⟨w.heap.size, 3, none⟩ = some (.slice A0a.ta.A L0a.ta.length A0a.ta.c) ∧ w'.cell? ⟨w.heap.size, 4, none⟩ = some (.slice A0a.tb.A L0a.tb.length A0a.tb.c) ∧ w'.cell? ⟨w.heap.size, 5, none⟩ = some (.slice A0a.bu.A L0a.bu.length A0a.bu.c) ∧ w'.cell? ⟨w.heap.size, 6, none⟩ = some (.slice A0a.ow.A L0a.ow.length A0a.ow.c) ∧ w'.cell? ⟨w.heap.size, 7, none⟩ = some (.slice A0a.tu.A L0a.tu.length A0a.tu.c) ∧ w'.cell? ⟨w.heap.size, 8, none⟩ = some (.slice A0a.so.A L0a.so.length A0a.so.c) ∧ w'.cell? ⟨w.heap.size, 9, none⟩ = some (.slice A0a.ar.A L0a.ar.length A0a.ar.c) ∧ w'.cell? ⟨w.heap.size, 10, none⟩ = some (.int .i64 L0a.ti) ∧ w'.cell? ⟨E0, 0, none⟩ = some (.int .i64 L0a.W) ∧ w'.cell? ⟨E0, 1, none⟩ = some (.int .i64 L0a.H) ∧ w'.cell? ⟨E0, 2, none⟩ = some (.slice zx0.br.A L0a.br.length zx0.br.c) ∧ w'.cell? ⟨E0, 3, none⟩ = some (.slice zx0.ta.A L0a.ta.length zx0.ta.c) ∧ w'.cell? ⟨E0, 4, none⟩ = some (.slice zx0.tb.A L0a.tb.length zx0.tb.c) ∧ w'.cell? ⟨E0, 5, none⟩ = some (.slice zx0.bu.A L0a.bu.length zx0.bu.c) ∧ w'.cell? ⟨E0, 6, none⟩ = some (.slice zx0.ow.A L0a.ow.length zx0.ow.c) ∧ w'.cell? ⟨E0, 7, none⟩ = some (.slice zx0.tu.A L0a.tu.length zx0.tu.c) ∧ w'.cell? ⟨E0, 8, none⟩ = some (.slice zx0.so.A L0a.so.length zx0.so.c) ∧ w'.cell? ⟨E0, 9, none⟩ = some (.slice zx0.ar.A L0a.ar.length zx0.ar.c) ∧ w'.cell? ⟨E0, 10, none⟩ = some (.int .i64 L0a.ti) from ⟨(KE0.out.nx (RS.out.trans hq)).cell 0, (KE0.out.nx (RS.out.trans hq)).cell 1, (KE0.out.nx (RS.out.trans hq)).cell 2, (KE0.out.nx (RS.out.trans hq)).cell 3, (KE0.out.nx (RS.out.trans hq)).cell 4, (KE0.out.nx (RS.out.trans hq)).cell 5, (KE0.out.nx (RS.out.trans hq)).cell 6, (KE0.out.nx (RS.out.trans hq)).cell 7, (KE0.out.nx (RS.out.trans hq)).cell 8, (KE0.out.nx (RS.out.trans hq)).cell 9, (KE0.out.nx (RS.out.trans hq)).cell 10, (Zkx0.out.nx hq).cell 0, (Zkx0.out.nx hq).cell 1, (Zkx0.out.nx hq).cell 2, (Zkx0.out.nx hq).cell 3, (Zkx0.out.nx hq).cell 4, (Zkx0.out.nx hq).cell 5, (Zkx0.out.nx hq).cell 6, (Zkx0.out.nx hq).cell 7, (Zkx0.out.nx hq).cell 8, (Zkx0.out.nx hq).cell 9, (Zkx0.out.nx hq).cell 10⟩))
  go_wp2_with fail
  go_region_held3 (fun w' => w'.cell? ⟨w.heap.size, 0, none⟩ = some (.int .i64 L0a.W) ∧ w'.cell? ⟨w.heap.size, 1, none⟩ = some (.int .i64 L0a.H) ∧ w'.cell? ⟨w.heap.size, 2, none⟩ = some (.slice A0a.br.A L0a.br.length A0a.br.c) ∧ w'.cell? ⟨w.heap.size, 3, none⟩ = some (.slice A0a.ta.A L0a.ta.length A0a.ta.c) ∧ w'.cell? ⟨w.heap.size, 4, none⟩ = some (.slice A0a.tb.A L0a.tb.length A0a.tb.c) ∧ w'.cell? ⟨w.heap.size, 5, none⟩ = some (.slice A0a.bu.A L0a.bu.length A0a.bu.c) ∧ w'.cell? ⟨w.heap.size, 6, none⟩ = some (.slice A0a.ow.A L0a.ow.length A0a.ow.c) ∧ w'.cell? ⟨w.heap.size, 7, none⟩ = some (.slice A0a.tu.A L0a.tu.length A0a.tu.c) ∧ w'.cell? ⟨w.heap.size, 8, none⟩ = some (.slice A0a.so.A L0a.so.length A0a.so.c) ∧ w'.cell? ⟨w.heap.size, 9, none⟩ = some (.slice A0a.ar.A L0a.ar.length A0a.ar.c) ∧ w'.cell? ⟨w.heap.size, 10, none⟩ = some (.int .i64 L0a.ti) ∧ w'.cell? ⟨E0, 0, none⟩ = some (.int .i64 L0a.W) ∧ w'.cell? ⟨E0, 1, none⟩ = some (.int .i64 L0a.H) ∧ w'.cell? ⟨E0, 2, none⟩ = some (.slice zx0.br.A L0a.br.length zx0.br.c) ∧ w'.cell? ⟨E0, 3, none⟩ = some (.slice zx0.ta.A L0a.ta.length zx0.ta.c) ∧ w'.cell? ⟨E0, 4, none⟩ = some (.slice zx0.tb.A L0a.tb.length zx0.tb.c) ∧ w'.cell? ⟨E0, 5, none⟩ = some (.slice zx0.bu.A L0a.bu.length zx0.bu.c) ∧ w'.cell? ⟨E0, 6, none⟩ = some (.slice zx0.ow.A L0a.ow.length zx0.ow.c) ∧ w'.cell? ⟨E0, 7, none⟩ = some (.slice zx0.tu.A L0a.tu.length zx0.tu.c) ∧ w'.cell? ⟨E0, 8, none⟩ = some (.slice zx0.so.A L0a.so.length zx0.so.c) ∧ w'.cell? ⟨E0, 9, none⟩ = some (.slice zx0.ar.A L0a.ar.length zx0.ar.c) ∧ w'.cell? ⟨E0, 10, none⟩ = some (.int .i64 L0a.ti))
    (first | with_reducible exact KPc0.out _ (T0.out) | with_reducible exact KPc0.out _ (T0.out.dr) | with_reducible exact KPc0.out _ (T5.out) | with_reducible exact KPc0.out _ (T6.out) | fail)
    (first
      | (go_at_call 32; (with_reducible refine (lawsToNet _ _ _ (RDA0a.out _ (RS.out.trans T0.out.dr)) hnA0a).mono ?_); rintro e w5 ⟨zy0, rfl, oy0, by0⟩; have T5 : Hid (Chg 0 0 w4 w5) := Lib.hid (T0.out.dr.bl by0); have F5 := Lib.hid (fix_net oy0); clear by0 oy0)
      | (go_at_call 23; (with_reducible refine (lawsEqNet _ _ L0a _ _ _ _ _ (Zfx0.out.nx T5.out).here F5.out.here (netSm_of hnA0a)).mono ?_); rintro e w6 ⟨rfl, hg⟩; have T6 : Hid (Chg 0 0 w4 w6) := Lib.hid (T5.out.gb hg); clear hg)
      | fail)
  all_goals
    go_wp2_with fail
    go_ret
    exact ⟨rfl, BE.out.trans ((RS.out.trans T6.out).below (.inr (Nat.le_refl _)) BE.out.size)⟩
end Go.Proofs.Ytffnbmaoainhmaa
end

section
namespace Go.Proofs.Ytffnbmaoainhmaa
open Go.ChangeShapes Go.WideShapes Go.ChangeAt Go.RowKit
set_option linter.unusedVariables false
set_option maxRecDepth 20000

set_option maxHeartbeats 6400000 in
theorem walk_FnExactFlitsWaiting (A0a : Na) (L0a : Nt) (w : World) (hcmA0a : NetCap A0a L0a) (hA0a : NetIn w w.heap.size A0a L0a) (hlA0a : NetWf L0a) :
    Calls Try.prog 8 #[.agg #[.int .i64 L0a.W, .int .i64 L0a.H, .slice A0a.br.A L0a.br.length A0a.br.c, .slice A0a.ta.A L0a.ta.length A0a.ta.c, .slice A0a.tb.A L0a.tb.length A0a.tb.c, .slice A0a.bu.A L0a.bu.length A0a.bu.c, .slice A0a.ow.A L0a.ow.length A0a.ow.c, .slice A0a.tu.A L0a.tu.length A0a.tu.c, .slice A0a.so.A L0a.so.length A0a.so.c, .slice A0a.ar.A L0a.ar.length A0a.ar.c, .int .i64 L0a.ti]] w fun e w' => e = .returned (.bool true) ∧ Below w.heap.size w w' := by
  have HA0a := Lib.hid (hA0a)
  have HCA0a := Lib.hid (hcmA0a)
  have HWF0 := Lib.hid (hlA0a)
  clear hcmA0a hA0a hlA0a
  by_cases hbig0 : (1048576 : Int) < ((sizeN L0a : Nat) : Int)
  · skip
    go_enter Try.func8, Try.ntmps8
    go_wp2_with fail
    have ke0 := Blk.new w 64 #[.int .i64 L0a.W, .int .i64 L0a.H, .slice A0a.br.A L0a.br.length A0a.br.c, .slice A0a.ta.A L0a.ta.length A0a.ta.c, .slice A0a.tb.A L0a.tb.length A0a.tb.c, .slice A0a.bu.A L0a.bu.length A0a.bu.c, .slice A0a.ow.A L0a.ow.length A0a.ow.c, .slice A0a.tu.A L0a.tu.length A0a.tu.c, .slice A0a.so.A L0a.so.length A0a.so.c, .slice A0a.ar.A L0a.ar.length A0a.ar.c, .int .i64 L0a.ti]
    have ge := gb_alloc (gb_refl w none) (.cells #[.int .i64 L0a.W, .int .i64 L0a.H, .slice A0a.br.A L0a.br.length A0a.br.c, .slice A0a.ta.A L0a.ta.length A0a.ta.c, .slice A0a.tb.A L0a.tb.length A0a.tb.c, .slice A0a.bu.A L0a.bu.length A0a.bu.c, .slice A0a.ow.A L0a.ow.length A0a.ow.c, .slice A0a.tu.A L0a.tu.length A0a.tu.c, .slice A0a.so.A L0a.so.length A0a.so.c, .slice A0a.ar.A L0a.ar.length A0a.ar.c, .int .i64 L0a.ti] 64)
    generalize (w.alloc (.cells #[.int .i64 L0a.W, .int .i64 L0a.H, .slice A0a.br.A L0a.br.length A0a.br.c, .slice A0a.ta.A L0a.ta.length A0a.ta.c, .slice A0a.tb.A L0a.tb.length A0a.tb.c, .slice A0a.bu.A L0a.bu.length A0a.bu.c, .slice A0a.ow.A L0a.ow.length A0a.ow.c, .slice A0a.tu.A L0a.tu.length A0a.tu.c, .slice A0a.so.A L0a.so.length A0a.so.c, .slice A0a.ar.A L0a.ar.length A0a.ar.c, .int .i64 L0a.ti] 64)) = we at *
    have KE0 : Hid (Blk we (w.heap.size) 64 #[.int .i64 L0a.W, .int .i64 L0a.H, .slice A0a.br.A L0a.br.length A0a.br.c, .slice A0a.ta.A L0a.ta.length A0a.ta.c, .slice A0a.tb.A L0a.tb.length A0a.tb.c, .slice A0a.bu.A L0a.bu.length A0a.bu.c, .slice A0a.ow.A L0a.ow.length A0a.ow.c, .slice A0a.tu.A L0a.tu.length A0a.tu.c, .slice A0a.so.A L0a.so.length A0a.so.c, .slice A0a.ar.A L0a.ar.length A0a.ar.c, .int .i64 L0a.ti]) := Lib.hid (ke0)
    have GE := Lib.hid (ge)
    have RZ0 := Lib.hid (Chg.refl 0 0 we)
    clear ge ke0
    have a0_0 : we.cell? ⟨w.heap.size, 0, none⟩ = some (.int .i64 L0a.W) := (KE0.out.nx (RZ0.out)).cell 0
    have a0_1 : we.cell? ⟨w.heap.size, 1, none⟩ = some (.int .i64 L0a.H) := (KE0.out.nx (RZ0.out)).cell 1
    have a0_2 : we.cell? ⟨w.heap.size, 2, none⟩ = some (.slice A0a.br.A L0a.br.length A0a.br.c) := (KE0.out.nx (RZ0.out)).cell 2
    have a0_3 : we.cell? ⟨w.heap.size, 3, none⟩ = some (.slice A0a.ta.A L0a.ta.length A0a.ta.c) := (KE0.out.nx (RZ0.out)).cell 3
    have a0_4 : we.cell? ⟨w.heap.size, 4, none⟩ = some (.slice A0a.tb.A L0a.tb.length A0a.tb.c) := (KE0.out.nx (RZ0.out)).cell 4
    have a0_5 : we.cell? ⟨w.heap.size, 5, none⟩ = some (.slice A0a.bu.A L0a.bu.length A0a.bu.c) := (KE0.out.nx (RZ0.out)).cell 5
    have a0_6 : we.cell? ⟨w.heap.size, 6, none⟩ = some (.slice A0a.ow.A L0a.ow.length A0a.ow.c) := (KE0.out.nx (RZ0.out)).cell 6
    have a0_7 : we.cell? ⟨w.heap.size, 7, none⟩ = some (.slice A0a.tu.A L0a.tu.length A0a.tu.c) := (KE0.out.nx (RZ0.out)).cell 7
    have a0_8 : we.cell? ⟨w.heap.size, 8, none⟩ = some (.slice A0a.so.A L0a.so.length A0a.so.c) := (KE0.out.nx (RZ0.out)).cell 8
    have a0_9 : we.cell? ⟨w.heap.size, 9, none⟩ = some (.slice A0a.ar.A L0a.ar.length A0a.ar.c) := (KE0.out.nx (RZ0.out)).cell 9
    have a0_10 : we.cell? ⟨w.heap.size, 10, none⟩ = some (.int .i64 L0a.ti) := (KE0.out.nx (RZ0.out)).cell 10
    refine (lawsSzNet _ _ _ _ ((HA0a.out.none (Nat.le_refl _) (gb_trans GE.out RZ0.out.still)).more (Nat.le_trans GE.out.size RZ0.out.size)) HCA0a.out (by omega) (by omega)).mono ?_
    rintro e wz1 ⟨rfl, hg⟩
    rw [leftL, if_pos hbig0]
    have RZ1 := Lib.hid (RZ0.out.gb hg)
    clear hg a0_0 a0_1 a0_2 a0_3 a0_4 a0_5 a0_6 a0_7 a0_8 a0_9 a0_10
    go_wp2_with fail
    go_ret
    exact ⟨rfl, (gb_below_none GE.out (Nat.le_refl _)).trans (RZ1.out.below (.inr (Nat.le_refl _)) GE.out.size)⟩
  have hnA0a : sizeN L0a ≤ 1048576 := by omega
  obtain ⟨q1, hq1⟩ : ∃ q : Int, (1048576 : Int) - ((sizeN L0a : Nat) : Int) = q := ⟨_, rfl⟩
  have hqa1 : ¬ q1 < 0 := by omega
  have hqb1 : q1 ≤ 1048576 := by omega
  go_enter Try.func8, Try.ntmps8
  go_wp2_with fail
  have ke0 := Blk.new w 64 #[.int .i64 L0a.W, .int .i64 L0a.H, .slice A0a.br.A L0a.br.length A0a.br.c, .slice A0a.ta.A L0a.ta.length A0a.ta.c, .slice A0a.tb.A L0a.tb.length A0a.tb.c, .slice A0a.bu.A L0a.bu.length A0a.bu.c, .slice A0a.ow.A L0a.ow.length A0a.ow.c, .slice A0a.tu.A L0a.tu.length A0a.tu.c, .slice A0a.so.A L0a.so.length A0a.so.c, .slice A0a.ar.A L0a.ar.length A0a.ar.c, .int .i64 L0a.ti]
  have ge := gb_alloc (gb_refl w none) (.cells #[.int .i64 L0a.W, .int .i64 L0a.H, .slice A0a.br.A L0a.br.length A0a.br.c, .slice A0a.ta.A L0a.ta.length A0a.ta.c, .slice A0a.tb.A L0a.tb.length A0a.tb.c, .slice A0a.bu.A L0a.bu.length A0a.bu.c, .slice A0a.ow.A L0a.ow.length A0a.ow.c, .slice A0a.tu.A L0a.tu.length A0a.tu.c, .slice A0a.so.A L0a.so.length A0a.so.c, .slice A0a.ar.A L0a.ar.length A0a.ar.c, .int .i64 L0a.ti] 64)
  generalize (w.alloc (.cells #[.int .i64 L0a.W, .int .i64 L0a.H, .slice A0a.br.A L0a.br.length A0a.br.c, .slice A0a.ta.A L0a.ta.length A0a.ta.c, .slice A0a.tb.A L0a.tb.length A0a.tb.c, .slice A0a.bu.A L0a.bu.length A0a.bu.c, .slice A0a.ow.A L0a.ow.length A0a.ow.c, .slice A0a.tu.A L0a.tu.length A0a.tu.c, .slice A0a.so.A L0a.so.length A0a.so.c, .slice A0a.ar.A L0a.ar.length A0a.ar.c, .int .i64 L0a.ti] 64)) = we at *
  have KE0 : Hid (Blk we (w.heap.size) 64 #[.int .i64 L0a.W, .int .i64 L0a.H, .slice A0a.br.A L0a.br.length A0a.br.c, .slice A0a.ta.A L0a.ta.length A0a.ta.c, .slice A0a.tb.A L0a.tb.length A0a.tb.c, .slice A0a.bu.A L0a.bu.length A0a.bu.c, .slice A0a.ow.A L0a.ow.length A0a.ow.c, .slice A0a.tu.A L0a.tu.length A0a.tu.c, .slice A0a.so.A L0a.so.length A0a.so.c, .slice A0a.ar.A L0a.ar.length A0a.ar.c, .int .i64 L0a.ti]) := Lib.hid (ke0)
  have GE := Lib.hid (ge)
  have RZ0 := Lib.hid (Chg.refl 0 0 we)
  clear ge ke0
  have a0_0 : we.cell? ⟨w.heap.size, 0, none⟩ = some (.int .i64 L0a.W) := (KE0.out.nx (RZ0.out)).cell 0
  have a0_1 : we.cell? ⟨w.heap.size, 1, none⟩ = some (.int .i64 L0a.H) := (KE0.out.nx (RZ0.out)).cell 1
  have a0_2 : we.cell? ⟨w.heap.size, 2, none⟩ = some (.slice A0a.br.A L0a.br.length A0a.br.c) := (KE0.out.nx (RZ0.out)).cell 2
  have a0_3 : we.cell? ⟨w.heap.size, 3, none⟩ = some (.slice A0a.ta.A L0a.ta.length A0a.ta.c) := (KE0.out.nx (RZ0.out)).cell 3
  have a0_4 : we.cell? ⟨w.heap.size, 4, none⟩ = some (.slice A0a.tb.A L0a.tb.length A0a.tb.c) := (KE0.out.nx (RZ0.out)).cell 4
  have a0_5 : we.cell? ⟨w.heap.size, 5, none⟩ = some (.slice A0a.bu.A L0a.bu.length A0a.bu.c) := (KE0.out.nx (RZ0.out)).cell 5
  have a0_6 : we.cell? ⟨w.heap.size, 6, none⟩ = some (.slice A0a.ow.A L0a.ow.length A0a.ow.c) := (KE0.out.nx (RZ0.out)).cell 6
  have a0_7 : we.cell? ⟨w.heap.size, 7, none⟩ = some (.slice A0a.tu.A L0a.tu.length A0a.tu.c) := (KE0.out.nx (RZ0.out)).cell 7
  have a0_8 : we.cell? ⟨w.heap.size, 8, none⟩ = some (.slice A0a.so.A L0a.so.length A0a.so.c) := (KE0.out.nx (RZ0.out)).cell 8
  have a0_9 : we.cell? ⟨w.heap.size, 9, none⟩ = some (.slice A0a.ar.A L0a.ar.length A0a.ar.c) := (KE0.out.nx (RZ0.out)).cell 9
  have a0_10 : we.cell? ⟨w.heap.size, 10, none⟩ = some (.int .i64 L0a.ti) := (KE0.out.nx (RZ0.out)).cell 10
  refine (lawsSzNet _ _ _ _ ((HA0a.out.none (Nat.le_refl _) (gb_trans GE.out RZ0.out.still)).more (Nat.le_trans GE.out.size RZ0.out.size)) HCA0a.out (by omega) (by omega)).mono ?_
  rintro e wz1 ⟨rfl, hg⟩
  rw [leftL, if_neg (by omega), hq1]
  have RZ1 := Lib.hid (RZ0.out.gb hg)
  clear hg a0_0 a0_1 a0_2 a0_3 a0_4 a0_5 a0_6 a0_7 a0_8 a0_9 a0_10 hq1
  obtain ⟨res, hres⟩ : ∃ r, waitingG L0a = r := ⟨_, rfl⟩
  have HSP := Lib.hid (fun (A0a : Na) (w : World) (hA0a : NetIn w w.heap.size A0a L0a) (hnA0a : NetSm L0a) (hcA0a : NetCap A0a L0a) => show Calls Try.prog 34 #[.agg #[.int .i64 L0a.W, .int .i64 L0a.H, .slice A0a.br.A L0a.br.length A0a.br.c, .slice A0a.ta.A L0a.ta.length A0a.ta.c, .slice A0a.tb.A L0a.tb.length A0a.tb.c, .slice A0a.bu.A L0a.bu.length A0a.bu.c, .slice A0a.ow.A L0a.ow.length A0a.ow.c, .slice A0a.tu.A L0a.tu.length A0a.tu.c, .slice A0a.so.A L0a.so.length A0a.so.c, .slice A0a.ar.A L0a.ar.length A0a.ar.c, .int .i64 L0a.ti]] w (RetI res none w) from hres ▸ specFlitsWaiting A0a L0a w hA0a hnA0a)
  have HIM := Lib.hid (fun (A0a : Na) (w : World) (hA0a : NetIn w w.heap.size A0a L0a) (hnA0a : NetSm L0a) (hcA0a : NetCap A0a L0a) => show Calls Try.prog 15 #[.agg #[.int .i64 L0a.W, .int .i64 L0a.H, .slice A0a.br.A L0a.br.length A0a.br.c, .slice A0a.ta.A L0a.ta.length A0a.ta.c, .slice A0a.tb.A L0a.tb.length A0a.tb.c, .slice A0a.bu.A L0a.bu.length A0a.bu.c, .slice A0a.ow.A L0a.ow.length A0a.ow.c, .slice A0a.tu.A L0a.tu.length A0a.tu.c, .slice A0a.so.A L0a.so.length A0a.so.c, .slice A0a.ar.A L0a.ar.length A0a.ar.c, .int .i64 L0a.ti]] w (RetI res none w) from hres ▸ implFlitsWaiting A0a L0a w hA0a hnA0a hcA0a HWF0.out.br)
  clear hres
  have BE := Lib.hid (gb_below_none GE.out (Nat.le_refl _))
  have RDA0a := Lib.hid (fun (w' : World) (hq : Chg 0 0 we w') => HA0a.out.chg BE.out hq (.inr (Nat.le_refl _)))
  have a0_0 : wz1.cell? ⟨w.heap.size, 0, none⟩ = some (.int .i64 L0a.W) := (KE0.out.nx (RZ1.out)).cell 0
  have a0_1 : wz1.cell? ⟨w.heap.size, 1, none⟩ = some (.int .i64 L0a.H) := (KE0.out.nx (RZ1.out)).cell 1
  have a0_2 : wz1.cell? ⟨w.heap.size, 2, none⟩ = some (.slice A0a.br.A L0a.br.length A0a.br.c) := (KE0.out.nx (RZ1.out)).cell 2
  have a0_3 : wz1.cell? ⟨w.heap.size, 3, none⟩ = some (.slice A0a.ta.A L0a.ta.length A0a.ta.c) := (KE0.out.nx (RZ1.out)).cell 3
  have a0_4 : wz1.cell? ⟨w.heap.size, 4, none⟩ = some (.slice A0a.tb.A L0a.tb.length A0a.tb.c) := (KE0.out.nx (RZ1.out)).cell 4
  have a0_5 : wz1.cell? ⟨w.heap.size, 5, none⟩ = some (.slice A0a.bu.A L0a.bu.length A0a.bu.c) := (KE0.out.nx (RZ1.out)).cell 5
  have a0_6 : wz1.cell? ⟨w.heap.size, 6, none⟩ = some (.slice A0a.ow.A L0a.ow.length A0a.ow.c) := (KE0.out.nx (RZ1.out)).cell 6
  have a0_7 : wz1.cell? ⟨w.heap.size, 7, none⟩ = some (.slice A0a.tu.A L0a.tu.length A0a.tu.c) := (KE0.out.nx (RZ1.out)).cell 7
  have a0_8 : wz1.cell? ⟨w.heap.size, 8, none⟩ = some (.slice A0a.so.A L0a.so.length A0a.so.c) := (KE0.out.nx (RZ1.out)).cell 8
  have a0_9 : wz1.cell? ⟨w.heap.size, 9, none⟩ = some (.slice A0a.ar.A L0a.ar.length A0a.ar.c) := (KE0.out.nx (RZ1.out)).cell 9
  have a0_10 : wz1.cell? ⟨w.heap.size, 10, none⟩ = some (.int .i64 L0a.ti) := (KE0.out.nx (RZ1.out)).cell 10
  go_wp2_with fail
  refine (lawsToNet _ _ _ (RDA0a.out _ (RZ1.out)) hnA0a).mono ?_
  rintro e w1 ⟨zw0, rfl, ow0, bw0⟩
  have R1 : Hid (Chg 0 0 we w1) := Lib.hid ((RZ1.out).bl bw0)
  have Q1 := Lib.hid (chg_gb 0 0 (gb_of_below bw0 none))
  have F1 := Lib.hid (fix_net ow0)
  clear bw0 ow0 a0_0 a0_1 a0_2 a0_3 a0_4 a0_5 a0_6 a0_7 a0_8 a0_9 a0_10
  go_wp2_with fail
  refine (HSP.out _ _ (NetOwn.at (F1.out.here) (Nat.le_refl _)) (netSm_of hnA0a) (NetOwn.cap (F1.out.here))).mono ?_
  rintro e w2 ⟨rfl, bw⟩
  have R2 : Hid (Chg 0 0 we w2) := Lib.hid ((R1.out).gb bw)
  have Q2 := Lib.hid (chg_gb 0 0 bw)
  clear bw
  have HS0 := Lib.hid ((R2.out).size)
  have a0_0 : w2.cell? ⟨w.heap.size, 0, none⟩ = some (.int .i64 L0a.W) := (KE0.out.nx (R2.out)).cell 0
  have a0_1 : w2.cell? ⟨w.heap.size, 1, none⟩ = some (.int .i64 L0a.H) := (KE0.out.nx (R2.out)).cell 1
  have a0_2 : w2.cell? ⟨w.heap.size, 2, none⟩ = some (.slice A0a.br.A L0a.br.length A0a.br.c) := (KE0.out.nx (R2.out)).cell 2
  have a0_3 : w2.cell? ⟨w.heap.size, 3, none⟩ = some (.slice A0a.ta.A L0a.ta.length A0a.ta.c) := (KE0.out.nx (R2.out)).cell 3
  have a0_4 : w2.cell? ⟨w.heap.size, 4, none⟩ = some (.slice A0a.tb.A L0a.tb.length A0a.tb.c) := (KE0.out.nx (R2.out)).cell 4
  have a0_5 : w2.cell? ⟨w.heap.size, 5, none⟩ = some (.slice A0a.bu.A L0a.bu.length A0a.bu.c) := (KE0.out.nx (R2.out)).cell 5
  have a0_6 : w2.cell? ⟨w.heap.size, 6, none⟩ = some (.slice A0a.ow.A L0a.ow.length A0a.ow.c) := (KE0.out.nx (R2.out)).cell 6
  have a0_7 : w2.cell? ⟨w.heap.size, 7, none⟩ = some (.slice A0a.tu.A L0a.tu.length A0a.tu.c) := (KE0.out.nx (R2.out)).cell 7
  have a0_8 : w2.cell? ⟨w.heap.size, 8, none⟩ = some (.slice A0a.so.A L0a.so.length A0a.so.c) := (KE0.out.nx (R2.out)).cell 8
  have a0_9 : w2.cell? ⟨w.heap.size, 9, none⟩ = some (.slice A0a.ar.A L0a.ar.length A0a.ar.c) := (KE0.out.nx (R2.out)).cell 9
  have a0_10 : w2.cell? ⟨w.heap.size, 10, none⟩ = some (.int .i64 L0a.ti) := (KE0.out.nx (R2.out)).cell 10
  go_wp2_with fail
  refine (lawsToNet _ _ _ (RDA0a.out _ (R2.out)) hnA0a).mono ?_
  rintro e w3 ⟨zx0, rfl, ox0, bx0⟩
  have HLX0 := Lib.hid (trivial)
  have FX0 := Lib.hid (fix_net ox0)
  have Q3 := Lib.hid (chg_gb 0 0 (gb_of_below bx0 none))
  have R3 := Lib.hid ((R2.out).bl bx0)
  clear bx0 ox0 a0_0 a0_1 a0_2 a0_3 a0_4 a0_5 a0_6 a0_7 a0_8 a0_9 a0_10
  replace FX0 := Lib.hid ((FX0.out).al (.cells #[.int .i64 L0a.W, .int .i64 L0a.H, .slice zx0.br.A L0a.br.length zx0.br.c, .slice zx0.ta.A L0a.ta.length zx0.ta.c, .slice zx0.tb.A L0a.tb.length zx0.tb.c, .slice zx0.bu.A L0a.bu.length zx0.bu.c, .slice zx0.ow.A L0a.ow.length zx0.ow.c, .slice zx0.tu.A L0a.tu.length zx0.tu.c, .slice zx0.so.A L0a.so.length zx0.so.c, .slice zx0.ar.A L0a.ar.length zx0.ar.c, .int .i64 L0a.ti] 37))
  have KX0 := Lib.hid (Blk.new w3 37 #[.int .i64 L0a.W, .int .i64 L0a.H, .slice zx0.br.A L0a.br.length zx0.br.c, .slice zx0.ta.A L0a.ta.length zx0.ta.c, .slice zx0.tb.A L0a.tb.length zx0.tb.c, .slice zx0.bu.A L0a.bu.length zx0.bu.c, .slice zx0.ow.A L0a.ow.length zx0.ow.c, .slice zx0.tu.A L0a.tu.length zx0.tu.c, .slice zx0.so.A L0a.so.length zx0.so.c, .slice zx0.ar.A L0a.ar.length zx0.ar.c, .int .i64 L0a.ti])
  have x0_0 : (w3.alloc (.cells #[.int .i64 L0a.W, .int .i64 L0a.H, .slice zx0.br.A L0a.br.length zx0.br.c, .slice zx0.ta.A L0a.ta.length zx0.ta.c, .slice zx0.tb.A L0a.tb.length zx0.tb.c, .slice zx0.bu.A L0a.bu.length zx0.bu.c, .slice zx0.ow.A L0a.ow.length zx0.ow.c, .slice zx0.tu.A L0a.tu.length zx0.tu.c, .slice zx0.so.A L0a.so.length zx0.so.c, .slice zx0.ar.A L0a.ar.length zx0.ar.c, .int .i64 L0a.ti] 37)).cell? ⟨w3.heap.size, 0, none⟩ = some (.int .i64 L0a.W) := KX0.out.cell 0
  have x0_1 : (w3.alloc (.cells #[.int .i64 L0a.W, .int .i64 L0a.H, .slice zx0.br.A L0a.br.length zx0.br.c, .slice zx0.ta.A L0a.ta.length zx0.ta.c, .slice zx0.tb.A L0a.tb.length zx0.tb.c, .slice zx0.bu.A L0a.bu.length zx0.bu.c, .slice zx0.ow.A L0a.ow.length zx0.ow.c, .slice zx0.tu.A L0a.tu.length zx0.tu.c, .slice zx0.so.A L0a.so.length zx0.so.c, .slice zx0.ar.A L0a.ar.length zx0.ar.c, .int .i64 L0a.ti] 37)).cell? ⟨w3.heap.size, 1, none⟩ = some (.int .i64 L0a.H) := KX0.out.cell 1
  have x0_2 : (w3.alloc (.cells #[.int .i64 L0a.W, .int .i64 L0a.H, .slice zx0.br.A L0a.br.length zx0.br.c, .slice zx0.ta.A L0a.ta.length zx0.ta.c, .slice zx0.tb.A L0a.tb.length zx0.tb.c, .slice zx0.bu.A L0a.bu.length zx0.bu.c, .slice zx0.ow.A L0a.ow.length zx0.ow.c, .slice zx0.tu.A L0a.tu.length zx0.tu.c, .slice zx0.so.A L0a.so.length zx0.so.c, .slice zx0.ar.A L0a.ar.length zx0.ar.c, .int .i64 L0a.ti] 37)).cell? ⟨w3.heap.size, 2, none⟩ = some (.slice zx0.br.A L0a.br.length zx0.br.c) := KX0.out.cell 2
  have x0_3 : (w3.alloc (.cells #[.int .i64 L0a.W, .int .i64 L0a.H, .slice zx0.br.A L0a.br.length zx0.br.c, .slice zx0.ta.A L0a.ta.length zx0.ta.c, .slice zx0.tb.A L0a.tb.length zx0.tb.c, .slice zx0.bu.A L0a.bu.length zx0.bu.c, .slice zx0.ow.A L0a.ow.length zx0.ow.c, .slice zx0.tu.A L0a.tu.length zx0.tu.c, .slice zx0.so.A L0a.so.length zx0.so.c, .slice zx0.ar.A L0a.ar.length zx0.ar.c, .int .i64 L0a.ti] 37)).cell? ⟨w3.heap.size, 3, none⟩ = some (.slice zx0.ta.A L0a.ta.length zx0.ta.c) := KX0.out.cell 3
  have x0_4 : (w3.alloc (.cells #[.int .i64 L0a.W, .int .i64 L0a.H, .slice zx0.br.A L0a.br.length zx0.br.c, .slice zx0.ta.A L0a.ta.length zx0.ta.c, .slice zx0.tb.A L0a.tb.length zx0.tb.c, .slice zx0.bu.A L0a.bu.length zx0.bu.c, .slice zx0.ow.A L0a.ow.length zx0.ow.c, .slice zx0.tu.A L0a.tu.length zx0.tu.c, .slice zx0.so.A L0a.so.length zx0.so.c, .slice zx0.ar.A L0a.ar.length zx0.ar.c, .int .i64 L0a.ti] 37)).cell? ⟨w3.heap.size, 4, none⟩ = some (.slice zx0.tb.A L0a.tb.length zx0.tb.c) := KX0.out.cell 4
  have x0_5 : (w3.alloc (.cells #[.int .i64 L0a.W, .int .i64 L0a.H, .slice zx0.br.A L0a.br.length zx0.br.c, .slice zx0.ta.A L0a.ta.length zx0.ta.c, .slice zx0.tb.A L0a.tb.length zx0.tb.c, .slice zx0.bu.A L0a.bu.length zx0.bu.c, .slice zx0.ow.A L0a.ow.length zx0.ow.c, .slice zx0.tu.A L0a.tu.length zx0.tu.c, .slice zx0.so.A L0a.so.length zx0.so.c, .slice zx0.ar.A L0a.ar.length zx0.ar.c, .int .i64 L0a.ti] 37)).cell? ⟨w3.heap.size, 5, none⟩ = some (.slice zx0.bu.A L0a.bu.length zx0.bu.c) := KX0.out.cell 5
  have x0_6 : (w3.alloc (.cells #[.int .i64 L0a.W, .int .i64 L0a.H, .slice zx0.br.A L0a.br.length zx0.br.c, .slice zx0.ta.A L0a.ta.length zx0.ta.c, .slice zx0.tb.A L0a.tb.length zx0.tb.c, .slice zx0.bu.A L0a.bu.length zx0.bu.c, .slice zx0.ow.A L0a.ow.length zx0.ow.c, .slice zx0.tu.A L0a.tu.length zx0.tu.c, .slice zx0.so.A L0a.so.length zx0.so.c, .slice zx0.ar.A L0a.ar.length zx0.ar.c, .int .i64 L0a.ti] 37)).cell? ⟨w3.heap.size, 6, none⟩ = some (.slice zx0.ow.A L0a.ow.length zx0.ow.c) := KX0.out.cell 6
  have x0_7 : (w3.alloc (.cells #[.int .i64 L0a.W, .int .i64 L0a.H, .slice zx0.br.A L0a.br.length zx0.br.c, .slice zx0.ta.A L0a.ta.length zx0.ta.c, .slice zx0.tb.A L0a.tb.length zx0.tb.c, .slice zx0.bu.A L0a.bu.length zx0.bu.c, .slice zx0.ow.A L0a.ow.length zx0.ow.c, .slice zx0.tu.A L0a.tu.length zx0.tu.c, .slice zx0.so.A L0a.so.length zx0.so.c, .slice zx0.ar.A L0a.ar.length zx0.ar.c, .int .i64 L0a.ti] 37)).cell? ⟨w3.heap.size, 7, none⟩ = some (.slice zx0.tu.A L0a.tu.length zx0.tu.c) := KX0.out.cell 7
  have x0_8 : (w3.alloc (.cells #[.int .i64 L0a.W, .int .i64 L0a.H, .slice zx0.br.A L0a.br.length zx0.br.c, .slice zx0.ta.A L0a.ta.length zx0.ta.c, .slice zx0.tb.A L0a.tb.length zx0.tb.c, .slice zx0.bu.A L0a.bu.length zx0.bu.c, .slice zx0.ow.A L0a.ow.length zx0.ow.c, .slice zx0.tu.A L0a.tu.length zx0.tu.c, .slice zx0.so.A L0a.so.length zx0.so.c, .slice zx0.ar.A L0a.ar.length zx0.ar.c, .int .i64 L0a.ti] 37)).cell? ⟨w3.heap.size, 8, none⟩ = some (.slice zx0.so.A L0a.so.length zx0.so.c) := KX0.out.cell 8
  have x0_9 : (w3.alloc (.cells #[.int .i64 L0a.W, .int .i64 L0a.H, .slice zx0.br.A L0a.br.length zx0.br.c, .slice zx0.ta.A L0a.ta.length zx0.ta.c, .slice zx0.tb.A L0a.tb.length zx0.tb.c, .slice zx0.bu.A L0a.bu.length zx0.bu.c, .slice zx0.ow.A L0a.ow.length zx0.ow.c, .slice zx0.tu.A L0a.tu.length zx0.tu.c, .slice zx0.so.A L0a.so.length zx0.so.c, .slice zx0.ar.A L0a.ar.length zx0.ar.c, .int .i64 L0a.ti] 37)).cell? ⟨w3.heap.size, 9, none⟩ = some (.slice zx0.ar.A L0a.ar.length zx0.ar.c) := KX0.out.cell 9
  have x0_10 : (w3.alloc (.cells #[.int .i64 L0a.W, .int .i64 L0a.H, .slice zx0.br.A L0a.br.length zx0.br.c, .slice zx0.ta.A L0a.ta.length zx0.ta.c, .slice zx0.tb.A L0a.tb.length zx0.tb.c, .slice zx0.bu.A L0a.bu.length zx0.bu.c, .slice zx0.ow.A L0a.ow.length zx0.ow.c, .slice zx0.tu.A L0a.tu.length zx0.tu.c, .slice zx0.so.A L0a.so.length zx0.so.c, .slice zx0.ar.A L0a.ar.length zx0.ar.c, .int .i64 L0a.ti] 37)).cell? ⟨w3.heap.size, 10, none⟩ = some (.int .i64 L0a.ti) := KX0.out.cell 10
  go_wp2_with fail
  refine (HIM.out _ _ (NetOwn.at (FX0.out.here) (Nat.le_refl _)) (netSm_of hnA0a) (NetOwn.cap (FX0.out.here))).mono ?_
  rintro e w4 ⟨rfl, bg⟩
  have R4 : Hid (Chg 0 0 we w4) := Lib.hid (((R3.out.al (.cells #[.int .i64 L0a.W, .int .i64 L0a.H, .slice zx0.br.A L0a.br.length zx0.br.c, .slice zx0.ta.A L0a.ta.length zx0.ta.c, .slice zx0.tb.A L0a.tb.length zx0.tb.c, .slice zx0.bu.A L0a.bu.length zx0.bu.c, .slice zx0.ow.A L0a.ow.length zx0.ow.c, .slice zx0.tu.A L0a.tu.length zx0.tu.c, .slice zx0.so.A L0a.so.length zx0.so.c, .slice zx0.ar.A L0a.ar.length zx0.ar.c, .int .i64 L0a.ti] 37))).gb bg)
  have Q4 := Lib.hid (chg_gb 0 0 bg)
  clear bg
  clear x0_0 x0_1 x0_2 x0_3 x0_4 x0_5 x0_6 x0_7 x0_8 x0_9 x0_10
  replace FX0 := Lib.hid (FX0.out.nx Q4.out)
  replace KX0 := Lib.hid (KX0.out.nx Q4.out)
  obtain ⟨B0, E0, eE0, fx0, kx0, hx0, hn⟩ : ∃ B0 E0 : Nat, w3.heap.size = E0 ∧ Fix B0 E0 (fun w => NetOwn w B0 E0 zx0 L0a) w4 ∧ Blk w4 E0 37 #[.int .i64 L0a.W, .int .i64 L0a.H, .slice zx0.br.A L0a.br.length zx0.br.c, .slice zx0.ta.A L0a.ta.length zx0.ta.c, .slice zx0.tb.A L0a.tb.length zx0.tb.c, .slice zx0.bu.A L0a.bu.length zx0.bu.c, .slice zx0.ow.A L0a.ow.length zx0.ow.c, .slice zx0.tu.A L0a.tu.length zx0.tu.c, .slice zx0.so.A L0a.so.length zx0.so.c, .slice zx0.ar.A L0a.ar.length zx0.ar.c, .int .i64 L0a.ti] ∧ True ∧ we.heap.size ≤ B0 ∧ B0 ≤ E0 := ⟨_, _, rfl, FX0.out, KX0.out, HLX0.out, (by have hsQ3 := Q3.out.size; have hsQ4 := Q4.out.size; have h0 := HS0.out; (try simp only [alloc_size] at *); omega)⟩
  (try rw [eE0])
  have Zfx0 := Lib.hid (fx0)
  have Zkx0 := Lib.hid (kx0)
  have Zhx0 := Lib.hid (hx0)
  have Zhn := Lib.hid (hn)
  clear fx0 kx0 hx0 hn
  have RS := Lib.hid (R4.out)
  have T0 := Lib.hid (Chg.refl 0 0 w4)
  have KPc0 := Lib.hid (fun (w' : World) (hq : Chg 0 0 w4 w') => (show w'.cell? ⟨w.heap.size, 0, none⟩ = some (.int .i64 L0a.W) ∧ w'.cell? ⟨w.heap.size, 1, none⟩ = some (.int .i64 L0a.H) ∧ w'.cell? ⟨w.heap.size, 2, none⟩ = some (.slice A0a.br.A L0a.br.length A0a.br.c) ∧ w'.cell? ⟨w.heap.size, 3, none⟩ = some (.slice A0a.ta.A L0a.ta.length A0a.ta.c) ∧ w'.cell? ⟨w.heap.size, 4, none⟩ = some (.slice A0a.tb.A L0a.tb.length A0a.tb.c) ∧ w'.cell? ⟨w.heap.size, 5, none⟩ = some (.slice A0a.bu.A L0a.bu.length A0a.bu.c) ∧ w'.cell? ⟨w.heap.size, 6, none⟩ = some (.slice A0a.ow.A L0a.ow.length A0a.ow.c) ∧ w'.cell? ⟨w.heap.size, 7, none⟩ = some (.slice A0a.tu.A L0a.tu.length A0a.tu.c) ∧ w'.cell? ⟨w.heap.size, 8, none⟩ = some (.slice A0a.so.A L0a.so.length A0a.so.c) ∧ w'.cell? ⟨w.heap.size, 9, none⟩ = some (.slice A0a.ar.A L0a.ar.length A0a.ar.c) ∧ w'.cell? ⟨w.heap.size, 10, none⟩ = some (.int .i64 L0a.ti) ∧ w'.cell? ⟨E0, 0, none⟩ = some (.int .i64 L0a.W) ∧ w'.cell? ⟨E0, 1, none⟩ = some (.int .i64 L0a.H) ∧ w'.cell? ⟨E0, 2, none⟩ = some (.slice zx0.br.A L0a.br.length zx0.br.c) ∧ w'.cell? ⟨E0, 3, none⟩ = some (.slice zx0.ta.A L0a.ta.length zx0.ta.c) ∧ w'.cell? ⟨E0, 4, none⟩ = some (.slice zx0.tb.A L0a.tb.length zx0.tb.c) ∧ w'.cell? ⟨E0, 5, none⟩ = some (.slice zx0.bu.A L0a.bu.length zx0.bu.c) ∧ w'.cell? ⟨E0, 6, none⟩ = some (.slice zx0.ow.A L0a.ow.length zx0.ow.c) ∧ w'.cell? ⟨E0, 7, none⟩ = some (.slice zx0.tu.A L0a.tu.length zx0.tu.c) ∧ w'.cell? ⟨E0, 8, none⟩ = some (.slice zx0.so.A L0a.so.length zx0.so.c) ∧ w'.cell? ⟨E0, 9, none⟩ = some (.slice zx0.ar.A L0a.ar.length zx0.ar.c) ∧ w'.cell? ⟨E0, 10, none⟩ = some (.int .i64 L0a.ti) from ⟨(KE0.out.nx (RS.out.trans hq)).cell 0, (KE0.out.nx (RS.out.trans hq)).cell 1, (KE0.out.nx (RS.out.trans hq)).cell 2, (KE0.out.nx (RS.out.trans hq)).cell 3, (KE0.out.nx (RS.out.trans hq)).cell 4, (KE0.out.nx (RS.out.trans hq)).cell 5, (KE0.out.nx (RS.out.trans hq)).cell 6, (KE0.out.nx (RS.out.trans hq)).cell 7, (KE0.out.nx (RS.out.trans hq)).cell 8, (KE0.out.nx (RS.out.trans hq)).cell 9, (KE0.out.nx (RS.out.trans hq)).cell 10, (Zkx0.out.nx hq).cell 0, (Zkx0.out.nx hq).cell 1, (Zkx0.out.nx hq).cell 2, (Zkx0.out.nx hq).cell 3, (Zkx0.out.nx hq).cell 4, (Zkx0.out.nx hq).cell 5, (Zkx0.out.nx hq).cell 6, (Zkx0.out.nx hq).cell 7, (Zkx0.out.nx hq).cell 8, (Zkx0.out.nx hq).cell 9, (Zkx0.out.nx hq).cell 10⟩))
  go_wp2_with fail
  go_region_held3 (fun w' => w'.cell? ⟨w.heap.size, 0, none⟩ = some (.int .i64 L0a.W) ∧ w'.cell? ⟨w.heap.size, 1, none⟩ = some (.int .i64 L0a.H) ∧ w'.cell? ⟨w.heap.size, 2, none⟩ = some (.slice A0a.br.A L0a.br.length A0a.br.c) ∧ w'.cell? ⟨w.heap.size, 3, none⟩ = some (.slice A0a.ta.A L0a.ta.length A0a.ta.c) ∧ w'.cell? ⟨w.heap.size, 4, none⟩ = some (.slice A0a.tb.A L0a.tb.length A0a.tb.c) ∧ w'.cell? ⟨w.heap.size, 5, none⟩ = some (.slice A0a.bu.A L0a.bu.length A0a.bu.c) ∧ w'.cell? ⟨w.heap.size, 6, none⟩ = some (.slice A0a.ow.A L0a.ow.length A0a.ow.c) ∧ w'.cell? ⟨w.heap.size, 7, none⟩ = some (.slice A0a.tu.A L0a.tu.length A0a.tu.c) ∧ w'.cell? ⟨w.heap.size, 8, none⟩ = some (.slice A0a.so.A L0a.so.length A0a.so.c) ∧ w'.cell? ⟨w.heap.size, 9, none⟩ = some (.slice A0a.ar.A L0a.ar.length A0a.ar.c) ∧ w'.cell? ⟨w.heap.size, 10, none⟩ = some (.int .i64 L0a.ti) ∧ w'.cell? ⟨E0, 0, none⟩ = some (.int .i64 L0a.W) ∧ w'.cell? ⟨E0, 1, none⟩ = some (.int .i64 L0a.H) ∧ w'.cell? ⟨E0, 2, none⟩ = some (.slice zx0.br.A L0a.br.length zx0.br.c) ∧ w'.cell? ⟨E0, 3, none⟩ = some (.slice zx0.ta.A L0a.ta.length zx0.ta.c) ∧ w'.cell? ⟨E0, 4, none⟩ = some (.slice zx0.tb.A L0a.tb.length zx0.tb.c) ∧ w'.cell? ⟨E0, 5, none⟩ = some (.slice zx0.bu.A L0a.bu.length zx0.bu.c) ∧ w'.cell? ⟨E0, 6, none⟩ = some (.slice zx0.ow.A L0a.ow.length zx0.ow.c) ∧ w'.cell? ⟨E0, 7, none⟩ = some (.slice zx0.tu.A L0a.tu.length zx0.tu.c) ∧ w'.cell? ⟨E0, 8, none⟩ = some (.slice zx0.so.A L0a.so.length zx0.so.c) ∧ w'.cell? ⟨E0, 9, none⟩ = some (.slice zx0.ar.A L0a.ar.length zx0.ar.c) ∧ w'.cell? ⟨E0, 10, none⟩ = some (.int .i64 L0a.ti))
    (first | with_reducible exact KPc0.out _ (T0.out) | with_reducible exact KPc0.out _ (T0.out.dr) | with_reducible exact KPc0.out _ (T5.out) | with_reducible exact KPc0.out _ (T6.out) | fail)
    (first
      | (go_at_call 32; (with_reducible refine (lawsToNet _ _ _ (RDA0a.out _ (RS.out.trans T0.out.dr)) hnA0a).mono ?_); rintro e w5 ⟨zy0, rfl, oy0, by0⟩; have T5 : Hid (Chg 0 0 w4 w5) := Lib.hid (T0.out.dr.bl by0); have F5 := Lib.hid (fix_net oy0); clear by0 oy0)
      | (go_at_call 23; (with_reducible refine (lawsEqNet _ _ L0a _ _ _ _ _ (Zfx0.out.nx T5.out).here F5.out.here (netSm_of hnA0a)).mono ?_); rintro e w6 ⟨rfl, hg⟩; have T6 : Hid (Chg 0 0 w4 w6) := Lib.hid (T5.out.gb hg); clear hg)
      | fail)
  all_goals
    go_wp2_with fail
    go_ret
    exact ⟨rfl, BE.out.trans ((RS.out.trans T6.out).below (.inr (Nat.le_refl _)) BE.out.size)⟩
end Go.Proofs.Ytffnbmaoainhmaa
end

section
namespace Go.Proofs.Ytffnbmaoainhmaa
open Go.ChangeShapes Go.WideShapes Go.ChangeAt Go.RowKit
set_option linter.unusedVariables false

section
variable {H : Type} {enc : TypeId × Value → H} {w : World} {spare : Nat → Bool} {held : Bool} {base fuel : Nat}
set_option maxRecDepth 100000 in
theorem open_mesh {r : Reach} {b0 : Nat} {v : Value} {d : DataW H} {p : List MemPlace}
    (hv : Value.okWide Try.prog w r b0 47 v) (h : DataW.Trod enc Try.prog w base spare held 47 v d p) :
    ∃ (W Hh : Int) (A : Option Addr) (n cap : Nat) (L : List Int), v = .agg #[.int .i64 W, .int .i64 Hh, .slice A n cap] ∧ (Lit.int .i64 W).wf = true ∧ (Lit.int .i64 Hh).wf = true ∧ n ≤ cap ∧ cap ≤ maxLen ∧ IntAt w w.heap.size A n L ∧ ∀ x ∈ L, (Lit.int .i64 x).wf = true := by
  obtain ⟨cs, rfl, hsz⟩ := okWide_struct Try.underlying47 hv
  have hC : Try.prog.cellsOf 47 = 3 := by kernel_rfl
  have hG : Try.prog.cellsOf 45 = 2 := by kernel_rfl
  have hS : Try.prog.cellsOf 26 = 1 := by kernel_rfl
  have hI : Try.prog.cellsOf 3 = 1 := by kernel_rfl
  obtain ⟨c0, c1, c2, rfl⟩ := Go.Joins.array3 (hsz.trans hC)
  obtain ⟨fuel, hf⟩ := h
  obtain ⟨y0, y1, n, hx, _, h0, h1⟩ := trod_struct2 Try.underlying47 hf
  obtain ⟨z0, z1, m, _, _, g0, g1⟩ := trod_struct2 Try.underlying45 h0
  simp [Value.cells, hG, hS, hI] at h1 g0 g1
  obtain ⟨W, e0, _, w0⟩ := DataW.trod_int Try.underlying3 g0
  obtain ⟨Hh, e1, _, w1⟩ := DataW.trod_int Try.underlying3 g1
  obtain ⟨A, l, cap, L, e2, i1, i2, i3, i4⟩ := open_intS h1
  simp at e0 e1 e2
  subst e0 e1 e2
  exact ⟨W, Hh, A, l, cap, L, rfl, w0, w1, i1, i2, i3, i4⟩
end
end Go.Proofs.Ytffnbmaoainhmaa
end

section
namespace Go.Proofs.Ytffnbmaoainhmaa
open Go.ChangeShapes Go.WideShapes Go.ChangeAt Go.RowKit
set_option linter.unusedVariables false

section
variable {H : Type} {enc : TypeId × Value → H} {w : World} {spare : Nat → Bool} {held : Bool} {base : Nat}
set_option maxRecDepth 100000 in
theorem open_classes {r : Reach} {b0 : Nat} {v : Value} {d : DataW H} {p : List MemPlace}
    (hv : Value.okWide Try.prog w r b0 50 v) (h : DataW.Trod enc Try.prog w base spare held 50 v d p) :
    ∃ (AR : Option Addr) (nR cR : Nat) (R : List Int) (AC : Option Addr) (nC cC : Nat) (C : List Int), v = .agg #[.slice AR nR cR, .slice AC nC cC] ∧ nR ≤ cR ∧ cR ≤ maxLen ∧ IntAt w w.heap.size AR nR R ∧ (∀ x ∈ R, (Lit.int .i64 x).wf = true) ∧ nC ≤ cC ∧ cC ≤ maxLen ∧ IntAt w w.heap.size AC nC C ∧ ∀ x ∈ C, (Lit.int .i64 x).wf = true := by
  obtain ⟨cs, rfl, hsz⟩ := okWide_struct Try.underlying50 hv
  have hC : Try.prog.cellsOf 50 = 2 := by kernel_rfl
  have hT : Try.prog.cellsOf 48 = 1 := by kernel_rfl
  have hS : Try.prog.cellsOf 26 = 1 := by kernel_rfl
  obtain ⟨c0, c1, rfl⟩ := Go.Joins.array2 (hsz.trans hC)
  obtain ⟨fuel, hf⟩ := h
  obtain ⟨xs, n, _, hx, _, hlen, hf'⟩ := DataW.trod_struct Try.underlying50 hf
  match xs, hlen with
  | [y0, y1], _ =>
    have g0 := hf' 0 _ rfl
    have g1 := hf' 1 _ rfl
    simp [Value.cells, hT] at g0 g1
    obtain ⟨z0, n0, _, _, q0⟩ := trod_struct1 Try.underlying48 g0
    obtain ⟨z1, n1, _, _, q1⟩ := trod_struct1 Try.underlying48 g1
    simp [hS] at q0 q1
    obtain ⟨AR, nR, cR, R, e1, i1, i2, i3, i4⟩ := open_intS q0
    obtain ⟨AC, nC, cC, C, e2, j1, j2, j3, j4⟩ := open_intS q1
    simp at e1 e2
    subst e1 e2
    exact ⟨AR, nR, cR, R, AC, nC, cC, C, rfl, i1, i2, i3, i4, j1, j2, j3, j4⟩
end
end Go.Proofs.Ytffnbmaoainhmaa
end

section
namespace Go.Proofs.Ytffnbmaoainhmaa
open Go.ChangeShapes Go.WideShapes Go.ChangeAt Go.RowKit
set_option linter.unusedVariables false
set_option maxRecDepth 20000

theorem marksFF_length (k0 : Nat) (DD : List (List Flt)) : (marksFF k0 DD).length = DD.length := markFF_length _ _ _
set_option maxHeartbeats 1600000 in
theorem lawsHeldFSS (A : Option Addr) (n cap k0 : Nat) (DD : List (List Flt)) (w : World) (h : RecsAt 5 fltC w w.heap.size A n (marksFF k0 DD)) (hk : k0 + sumL DD * 5 ≤ 1000000000) (hcap : n ≤ 9223372036854775807) :
    Calls Try.prog 66 #[.slice A n cap, .int .i64 (k0 : Int)] w fun e w' => e = .returned (.int .i64 ((k0 + sumL DD * 5 : Nat) : Int)) ∧ w.grownBy w' none := by
  have HI := Lib.hid h
  have hl := h.1
  rw [marksFF_length] at hl
  have HZ := Lib.hid (sumL_zero DD)
  clear h
  go_enter Try.func66, Try.ntmps66
  go_wp2_with fail
  go_loopw [1, 5] (fun q i wr => ∃ j : Nat, j ≤ n ∧ q = .int .i64 ((k0 + sumL (DD.take j) * 5 : Nat) : Int) ∧ i = .int .i64 (j : Int) ∧ w.grownBy wr none) (fun _ i _ => n - (intOf i).toNat)
  case atStart => exact ⟨0, Nat.zero_le _, by rw [HZ.out]; simp, rfl, gb_refl _ _⟩
  case round =>
    obtain ⟨j, hj, rfl, rfl, hg⟩ := hrel
    have HG := Lib.hid hg
    by_cases hlt : j < n
    · have hjD : j < DD.length := by omega
      obtain ⟨D, hD⟩ : ∃ D, DD[j]? = some D := ⟨_, List.getElem?_eq_getElem hjD⟩
      have hat := sumL_at hD
      obtain ⟨b, off, E, A', c', rfl, _, hE, hc, _, hr⟩ := (HI.out.none (Nat.le_refl _) hg).at j hlt
      have hE2 := marksFF_at (k0 := k0) hD
      rw [hE2] at hE
      have hE3 := Option.some.inj hE
      subst hE3
      rw [marksF_length] at hc hr
      obtain ⟨y, hy⟩ : ∃ y : Nat, k0 + sumL (DD.take j) * 5 = y := ⟨_, rfl⟩
      rw [hy] at hr ⊢
      have HH := Lib.hid (lawsHeldF A' D.length c' _ y wr hr (by omega))
      have HNX := Lib.hid (show k0 + sumL (DD.take (j + 1)) * 5 = y + D.length * 5 by rw [sumL_next hD]; omega)
      have j0 : (0 : Int) ≤ (j : Int) := by omega
      have j1 : (j : Int) < (n : Int) := by omega
      have hnn : ¬ (((y + D.length * 5 : Nat) : Int) < 0) := by omega
      clear hg hD hat hE hE2 hr hy
      go_wp2_with fail
      refine HH.out.mono ?_
      rintro e w4 ⟨rfl, g4⟩
      have G4 := Lib.hid (gb_trans HG.out g4)
      clear g4 hc
      go_wp2_with fail
      go_roundw
      case rel => exact ⟨j + 1, by omega, by rw [HNX.out]; simp, by go_num, G4.out⟩
      case measure => simp [intOf]; omega
    · have hjn : j = n := by omega
      have HR := Lib.hid (show sumL (DD.take j) = sumL DD by rw [hjn, ← hl, sumL_all])
      clear hjn hg
      go_wp2_with fail
      go_ret
      exact ⟨by rw [HR.out]; rfl, HG.out⟩
end Go.Proofs.Ytffnbmaoainhmaa
end

section
namespace Go.Proofs.Ytffnbmaoainhmaa
open Go.ChangeShapes Go.WideShapes Go.ChangeAt Go.RowKit
set_option linter.unusedVariables false
set_option maxRecDepth 20000

theorem lawsHeldMesh (W H : Int) (v : Value) (base n k0 : Nat) (w : World) (h : w.ownsRow base 3 1 v n (intsV (marksI k0 n))) (hk : k0 + n ≤ 1000000000) :
    Calls Try.prog 64 #[.agg #[.int .i64 W, .int .i64 H, v], .int .i64 (k0 : Int)] w fun e w' => e = .returned (.int .i64 ((k0 + n : Nat) : Int)) ∧ w.grownBy w' none := by
  obtain ⟨A, cap, rfl, ha⟩ := own_form h
  have HO := Lib.hid (h.alloc (.cells #[.int .i64 W, .int .i64 H, .slice A n cap] 28))
  clear h ha
  go_enter Try.func64, Try.ntmps64
  go_wp2_with fail
  refine (lawsHeldOwn _ base n k0 _ HO.out hk).mono ?_
  rintro e w1 ⟨rfl, g1⟩
  have G1 := Lib.hid (gb_trans (gb_alloc (gb_refl w _) _) g1)
  clear g1
  have hk0 : ¬ (((k0 + n : Nat) : Int)) < 0 := by omega
  go_wp2_with fail
  go_ret
  exact ⟨rfl, G1.out⟩
set_option maxHeartbeats 3200000 in
theorem lawsHeldNet (y : Na) (N : Nt) (base E k0 : Nat) (w : World) (h : NetOwn w base E y (marksN k0 N)) (hc : NetSm N) (hk : k0 + markSz N ≤ 1000000000) :
    Calls Try.prog 29 #[.agg #[.int .i64 N.W, .int .i64 N.H, .slice y.br.A N.br.length y.br.c, .slice y.ta.A N.ta.length y.ta.c, .slice y.tb.A N.tb.length y.tb.c, .slice y.bu.A N.bu.length y.bu.c, .slice y.ow.A N.ow.length y.ow.c, .slice y.tu.A N.tu.length y.tu.c, .slice y.so.A N.so.length y.so.c, .slice y.ar.A N.ar.length y.ar.c, .int .i64 N.ti], .int .i64 (k0 : Int)] w fun e w' => e = .returned (.int .i64 ((k0 + markSz N : Nat) : Int)) ∧ w.grownBy w' none := by
  obtain ⟨vb, vs, va, h⟩ := h
  unfold markSz at hk
  have HC := Lib.hid hc
  have ha : Apart (.slice y.ta.A (marksN k0 N).ta.length y.ta.c) (.slice y.tb.A (marksN k0 N).tb.length y.tb.c) := h.int.ap 1 2 _ _ (by decide) rfl rfl
  rw [show (marksN k0 N).ta.length = N.ta.length from marksI_length _ _, show (marksN k0 N).tb.length = N.tb.length from marksI_length _ _] at ha
  have HN := Lib.hid ha
  clear ha
  have GE := Lib.hid (gb_alloc (gb_refl w none) (.cells #[.int .i64 N.W, .int .i64 N.H, .slice y.br.A N.br.length y.br.c, .slice y.ta.A N.ta.length y.ta.c, .slice y.tb.A N.tb.length y.tb.c, .slice y.bu.A N.bu.length y.bu.c, .slice y.ow.A N.ow.length y.ow.c, .slice y.tu.A N.tu.length y.tu.c, .slice y.so.A N.so.length y.so.c, .slice y.ar.A N.ar.length y.ar.c, .int .i64 N.ti] 37))
  have KE := Lib.hid (Blk.new w 37 #[.int .i64 N.W, .int .i64 N.H, .slice y.br.A N.br.length y.br.c, .slice y.ta.A N.ta.length y.ta.c, .slice y.tb.A N.tb.length y.tb.c, .slice y.bu.A N.bu.length y.bu.c, .slice y.ow.A N.ow.length y.ow.c, .slice y.tu.A N.tu.length y.tu.c, .slice y.so.A N.so.length y.so.c, .slice y.ar.A N.ar.length y.ar.c, .int .i64 N.ti])
  have Obr : Hid (∀ w', w.grownBy w' none → w'.ownsRow base 3 1 (.slice y.br.A N.br.length y.br.c) N.br.length (intsV (marksI (k0) N.br.length))) := Lib.hid (fun w' hg => by
    have h1 := own_none h.br hg
    have h2 : (marksN k0 N).br.length = N.br.length := marksI_length _ _
    rw [h2] at h1
    exact h1)
  have Ota : Hid (∀ w', w.grownBy w' none → w'.ownsRow base 3 1 (.slice y.ta.A N.ta.length y.ta.c) N.ta.length (intsV (marksI (k0 + N.br.length) N.ta.length))) := Lib.hid (fun w' hg => by
    have h1 := own_none h.ta hg
    have h2 : (marksN k0 N).ta.length = N.ta.length := marksI_length _ _
    rw [h2] at h1
    exact h1)
  have Otb : Hid (∀ w', w.grownBy w' none → w'.ownsRow base 3 1 (.slice y.tb.A N.tb.length y.tb.c) N.tb.length (intsV (marksI (k0 + N.br.length + N.ta.length) N.tb.length))) := Lib.hid (fun w' hg => by
    have h1 := own_none h.tb hg
    have h2 : (marksN k0 N).tb.length = N.tb.length := marksI_length _ _
    rw [h2] at h1
    exact h1)
  have Oow : Hid (∀ w', w.grownBy w' none → w'.ownsRow base 3 1 (.slice y.ow.A N.ow.length y.ow.c) N.ow.length (intsV (marksI (k0 + N.br.length + N.ta.length + N.tb.length + sumL N.bu * 5) N.ow.length))) := Lib.hid (fun w' hg => by
    have h1 := own_none h.ow hg
    have h2 : (marksN k0 N).ow.length = N.ow.length := marksI_length _ _
    rw [h2] at h1
    exact h1)
  have Otu : Hid (∀ w', w.grownBy w' none → w'.ownsRow base 3 1 (.slice y.tu.A N.tu.length y.tu.c) N.tu.length (intsV (marksI (k0 + N.br.length + N.ta.length + N.tb.length + sumL N.bu * 5 + N.ow.length) N.tu.length))) := Lib.hid (fun w' hg => by
    have h1 := own_none h.tu hg
    have h2 : (marksN k0 N).tu.length = N.tu.length := marksI_length _ _
    rw [h2] at h1
    exact h1)
  have Obu : Hid (∀ w', w.grownBy w' none → RecsAt 5 fltC w' w'.heap.size y.bu.A N.bu.length (marksFF (k0 + N.br.length + N.ta.length + N.tb.length) N.bu)) := Lib.hid (fun w' hg => by
    have h1 := ((h.gb hg).at (Nat.le_refl _)).bu
    have h2 : (marksN k0 N).bu.length = N.bu.length := markFF_length _ _ _
    rw [h2] at h1
    exact h1)
  have Oso : Hid (∀ w', w.grownBy w' none → RecsAt 5 fltC w' w'.heap.size y.so.A N.so.length (marksFF (k0 + N.br.length + N.ta.length + N.tb.length + sumL N.bu * 5 + N.ow.length + N.tu.length) N.so)) := Lib.hid (fun w' hg => by
    have h1 := ((h.gb hg).at (Nat.le_refl _)).so
    have h2 : (marksN k0 N).so.length = N.so.length := markFF_length _ _ _
    rw [h2] at h1
    exact h1)
  have Oar : Hid (∀ w', w.grownBy w' none → RecsAt 5 fltC w' w'.heap.size y.ar.A N.ar.length (marksFF (k0 + N.br.length + N.ta.length + N.tb.length + sumL N.bu * 5 + N.ow.length + N.tu.length + sumL N.so * 5) N.ar)) := Lib.hid (fun w' hg => by
    have h1 := ((h.gb hg).at (Nat.le_refl _)).ar
    have h2 : (marksN k0 N).ar.length = N.ar.length := markFF_length _ _ _
    rw [h2] at h1
    exact h1)
  clear h hc
  go_enter Try.func29, Try.ntmps29
  go_wp2_with fail
  refine (lawsHeldMesh _ _ _ base N.br.length k0 _ (Obr.out _ GE.out) (by omega)).mono ?_
  rintro e w1 ⟨rfl, g1⟩
  have G1 := Lib.hid (gb_trans GE.out g1)
  have K1 := Lib.hid (KE.out.grown g1 (by simp))
  clear g1
  obtain ⟨k1, hk1⟩ : ∃ k : Nat, k0 + N.br.length = k := ⟨_, rfl⟩
  rw [hk1]
  (try rw [hk1] at Obr)
  (try rw [hk1] at Ota)
  (try rw [hk1] at Otb)
  (try rw [hk1] at Oow)
  (try rw [hk1] at Otu)
  (try rw [hk1] at Obu)
  (try rw [hk1] at Oso)
  (try rw [hk1] at Oar)
  have hz1 : ¬ (k1 : Int) < 0 := by omega
  have ata : w1.cell? ⟨w.heap.size, 3, none⟩ = some (.slice y.ta.A N.ta.length y.ta.c) := K1.out.cell 3
  have atb : w1.cell? ⟨w.heap.size, 4, none⟩ = some (.slice y.tb.A N.tb.length y.tb.c) := K1.out.cell 4
  go_wp2_with fail
  refine (lawsHeldClasses _ _ base N.ta.length N.tb.length k1 _ ⟨(Ota.out _ G1.out), (Otb.out _ G1.out), HN.out⟩ (by omega)).mono ?_
  rintro e w2 ⟨rfl, g2⟩
  have G2 := Lib.hid (gb_trans G1.out g2)
  have K2 := Lib.hid (K1.out.grown g2 (by simp))
  clear g2 ata atb
  obtain ⟨k2, hk2⟩ : ∃ k : Nat, k1 + N.ta.length + N.tb.length = k := ⟨_, rfl⟩
  rw [hk2]
  (try rw [hk2] at Obr)
  (try rw [hk2] at Ota)
  (try rw [hk2] at Otb)
  (try rw [hk2] at Oow)
  (try rw [hk2] at Otu)
  (try rw [hk2] at Obu)
  (try rw [hk2] at Oso)
  (try rw [hk2] at Oar)
  have hz2 : ¬ (k2 : Int) < 0 := by omega
  have abu : w2.cell? ⟨w.heap.size, 5, none⟩ = some (.slice y.bu.A N.bu.length y.bu.c) := K2.out.cell 5
  go_wp2_with fail
  refine (lawsHeldFSS _ _ _ k2 N.bu _ (Obu.out _ G2.out) (by omega) (by have := HC.out.bu; omega)).mono ?_
  rintro e w3 ⟨rfl, g3⟩
  have G3 := Lib.hid (gb_trans G2.out g3)
  have K3 := Lib.hid (K2.out.grown g3 (by simp))
  clear g3 abu
  obtain ⟨k3, hk3⟩ : ∃ k : Nat, k2 + sumL N.bu * 5 = k := ⟨_, rfl⟩
  rw [hk3]
  (try rw [hk3] at Obr)
  (try rw [hk3] at Ota)
  (try rw [hk3] at Otb)
  (try rw [hk3] at Oow)
  (try rw [hk3] at Otu)
  (try rw [hk3] at Obu)
  (try rw [hk3] at Oso)
  (try rw [hk3] at Oar)
  have hz3 : ¬ (k3 : Int) < 0 := by omega
  have aow : w3.cell? ⟨w.heap.size, 6, none⟩ = some (.slice y.ow.A N.ow.length y.ow.c) := K3.out.cell 6
  go_wp2_with fail
  refine (lawsHeldOwn _ base N.ow.length k3 _ (Oow.out _ G3.out) (by omega)).mono ?_
  rintro e w4 ⟨rfl, g4⟩
  have G4 := Lib.hid (gb_trans G3.out g4)
  have K4 := Lib.hid (K3.out.grown g4 (by simp))
  clear g4 aow
  obtain ⟨k4, hk4⟩ : ∃ k : Nat, k3 + N.ow.length = k := ⟨_, rfl⟩
  rw [hk4]
  (try rw [hk4] at Obr)
  (try rw [hk4] at Ota)
  (try rw [hk4] at Otb)
  (try rw [hk4] at Oow)
  (try rw [hk4] at Otu)
  (try rw [hk4] at Obu)
  (try rw [hk4] at Oso)
  (try rw [hk4] at Oar)
  have hz4 : ¬ (k4 : Int) < 0 := by omega
  have atu : w4.cell? ⟨w.heap.size, 7, none⟩ = some (.slice y.tu.A N.tu.length y.tu.c) := K4.out.cell 7
  go_wp2_with fail
  refine (lawsHeldOwn _ base N.tu.length k4 _ (Otu.out _ G4.out) (by omega)).mono ?_
  rintro e w5 ⟨rfl, g5⟩
  have G5 := Lib.hid (gb_trans G4.out g5)
  have K5 := Lib.hid (K4.out.grown g5 (by simp))
  clear g5 atu
  obtain ⟨k5, hk5⟩ : ∃ k : Nat, k4 + N.tu.length = k := ⟨_, rfl⟩
  rw [hk5]
  (try rw [hk5] at Obr)
  (try rw [hk5] at Ota)
  (try rw [hk5] at Otb)
  (try rw [hk5] at Oow)
  (try rw [hk5] at Otu)
  (try rw [hk5] at Obu)
  (try rw [hk5] at Oso)
  (try rw [hk5] at Oar)
  have hz5 : ¬ (k5 : Int) < 0 := by omega
  have aso : w5.cell? ⟨w.heap.size, 8, none⟩ = some (.slice y.so.A N.so.length y.so.c) := K5.out.cell 8
  go_wp2_with fail
  refine (lawsHeldFSS _ _ _ k5 N.so _ (Oso.out _ G5.out) (by omega) (by have := HC.out.so; omega)).mono ?_
  rintro e w6 ⟨rfl, g6⟩
  have G6 := Lib.hid (gb_trans G5.out g6)
  have K6 := Lib.hid (K5.out.grown g6 (by simp))
  clear g6 aso
  obtain ⟨k6, hk6⟩ : ∃ k : Nat, k5 + sumL N.so * 5 = k := ⟨_, rfl⟩
  rw [hk6]
  (try rw [hk6] at Obr)
  (try rw [hk6] at Ota)
  (try rw [hk6] at Otb)
  (try rw [hk6] at Oow)
  (try rw [hk6] at Otu)
  (try rw [hk6] at Obu)
  (try rw [hk6] at Oso)
  (try rw [hk6] at Oar)
  have hz6 : ¬ (k6 : Int) < 0 := by omega
  have aar : w6.cell? ⟨w.heap.size, 9, none⟩ = some (.slice y.ar.A N.ar.length y.ar.c) := K6.out.cell 9
  go_wp2_with fail
  refine (lawsHeldFSS _ _ _ k6 N.ar _ (Oar.out _ G6.out) (by omega) (by have := HC.out.ar; omega)).mono ?_
  rintro e w7 ⟨rfl, g7⟩
  have G7 := Lib.hid (gb_trans G6.out g7)
  have K7 := Lib.hid (K6.out.grown g7 (by simp))
  clear g7 aar
  obtain ⟨k7, hk7⟩ : ∃ k : Nat, k6 + sumL N.ar * 5 = k := ⟨_, rfl⟩
  rw [hk7]
  (try rw [hk7] at Obr)
  (try rw [hk7] at Ota)
  (try rw [hk7] at Otb)
  (try rw [hk7] at Oow)
  (try rw [hk7] at Otu)
  (try rw [hk7] at Obu)
  (try rw [hk7] at Oso)
  (try rw [hk7] at Oar)
  have hz7 : ¬ (k7 : Int) < 0 := by omega
  have HX := Lib.hid (show k0 + markSz N = k7 by unfold markSz; omega)
  clear hk1 hk2 hk3 hk4 hk5 hk6 hk7 hk
  go_wp2_with fail
  go_ret
  exact ⟨by rw [HX.out]; rfl, G7.out⟩
end Go.Proofs.Ytffnbmaoainhmaa
end
