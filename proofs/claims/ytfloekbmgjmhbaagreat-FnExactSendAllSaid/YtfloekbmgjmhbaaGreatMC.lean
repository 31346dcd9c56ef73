/- What is proved here: the model's copy of a network, for all arguments; only new blocks are written; a network whose one source is written anew: its row, and its place in the header; nothing of the program; a packet that is sent as mathematics; nothing of the program; what the model's GridOk and NodeCount return, for all arguments; only new blocks are written; whether the model finds a node in a grid; only new blocks are written; what the model's PacketOk and FlitsOf return, for all arguments; only new blocks are written; the model's sending of a packet that there is room for; only new blocks are written; sending packets one after another as mathematics: a network stays valid, its sizes; nothing of the program; What is stated here: a mesh as the cells of a block, and a mesh whose first broken channels are good; nothing of the program; a mesh and a pair of tables in boxes of a call's own; nothing of the program; what the model's NodeAt returns, for all arguments; only new blocks are written; what the model's NextNode, Opposite, PortName and its test of a channel return, for all arguments; only new blocks are written; what the model's search in a list returns, for all arguments; nothing is written; what the model's MeshOk, its search in a list and its test of a channel of a mesh return, for all arguments; only new blocks are written; what the model's test of a channel of a mesh returns, for all arguments; only new blocks are written; two boxed arguments stay known behind a call, and the number of pairs of nodes is small; nothing of the program; what the model's test of a table's size returns, for all arguments; only new blocks are written; what the model's walk of a table returns for a table of the right size; only new blocks are written; what holds of the two boxes that the model's functions on tables lay; what the model's TableOk returns, for all arguments; only new blocks are written; the model's TableOk with its answer named, and a small fact on draws; only new blocks are written; the model's classes: whether both tables are valid; only new blocks are written; whether the model says that the flits of a list go to nodes of the grid in classes that there are; only new blocks are written; whether the model says that a network is valid, for all arguments; only new blocks are written. -/
import Derived.Test.YtfloekbmgjmhbaaGreatMB
import Derived.Deep.RegionHeld3
section
namespace Go.Proofs.YtfloekbmgjmhbaaGreat
open Go.ChangeShapes Go.WideShapes Go.ChangeAt Go.RowKit
set_option linter.unusedVariables false
set_option maxRecDepth 20000

/-- The frame ahead of, in and behind the copying of the parts. -/
def FRc (y : Na) (N : Nt) (w : World) (vs : Nat → Value) : Act := ⟨#[.agg #[.int .i64 N.W, .int .i64 N.H, .slice y.br.A N.br.length y.br.c, .slice y.ta.A N.ta.length y.ta.c, .slice y.tb.A N.tb.length y.tb.c, .slice y.bu.A N.bu.length y.bu.c, .slice y.ow.A N.ow.length y.ow.c, .slice y.tu.A N.tu.length y.tu.c, .slice y.so.A N.so.length y.so.c, .slice y.ar.A N.ar.length y.ar.c, .int .i64 N.ti], .pointer (some ⟨w.heap.size, 0, none⟩), .pointer (some ⟨w.heap.size + 1, 0, none⟩), vs 0, vs 1, vs 2, vs 3, vs 4, vs 5, vs 6, vs 7, vs 8, vs 9, vs 10, vs 11, vs 12, vs 13, vs 14, vs 15, vs 16, vs 17, vs 18, vs 19, vs 20, vs 21, vs 22, vs 23, vs 24, vs 25], []⟩
def Ic (y : Na) (N : Nt) (w wx : World) (Lf : Nat → Bool) (a : Act) (wr : World) : Prop :=
  ((∀ k, k < 27 → Lf k = true) ∧ ∃ L2 vs lo hi w9 cs, (∀ k, k < 26 → L2 k = true) ∧ a = FRc y N w vs ∧ Sc ⟨y, N, w.heap.size⟩ wx.drew L2 vs lo hi w9 ∧ vs 25 = .agg cs ∧ Blk wr (w.heap.size + 1) 45 cs ∧ Chg (w.heap.size + 1) (w.heap.size + 1 + 1) w9 wr) ∨
  (Lf 26 = false ∧ ∃ vs lo hi, a = FRc y N w vs ∧ Sc ⟨y, N, w.heap.size⟩ wx.drew Lf vs lo hi wr)
set_option maxHeartbeats 6400000 in
theorem specL15Copy (y : Na) (N : Nt) (w : World) (h : NetIn w w.heap.size y N) (hn : NetSm N) :
    Calls Tryz.prog 19 #[.agg #[.int .i64 N.W, .int .i64 N.H, .slice y.br.A N.br.length y.br.c, .slice y.ta.A N.ta.length y.ta.c, .slice y.tb.A N.tb.length y.tb.c, .slice y.bu.A N.bu.length y.bu.c, .slice y.ow.A N.ow.length y.ow.c, .slice y.tu.A N.tu.length y.tu.c, .slice y.so.A N.so.length y.so.c, .slice y.ar.A N.ar.length y.ar.c, .int .i64 N.ti]] w (NewNet N w) := by
  obtain ⟨i0, ii, iz0, iz1, iz2⟩ := info_parts info_int
  have k0 := (Blk.new w 45 #[.int .i64 N.W, .int .i64 N.H, .slice y.br.A N.br.length y.br.c, .slice y.ta.A N.ta.length y.ta.c, .slice y.tb.A N.tb.length y.tb.c, .slice y.bu.A N.bu.length y.bu.c, .slice y.ow.A N.ow.length y.ow.c, .slice y.tu.A N.tu.length y.tu.c, .slice y.so.A N.so.length y.so.c, .slice y.ar.A N.ar.length y.ar.c, .int .i64 N.ti]).alloc (.cells #[.int .i64 0, .int .i64 0, .slice none 0 0, .slice none 0 0, .slice none 0 0, .slice none 0 0, .slice none 0 0, .slice none 0 0, .slice none 0 0, .slice none 0 0, .int .i64 0] 45)
  have k1 := Blk.new (w.alloc (.cells #[.int .i64 N.W, .int .i64 N.H, .slice y.br.A N.br.length y.br.c, .slice y.ta.A N.ta.length y.ta.c, .slice y.tb.A N.tb.length y.tb.c, .slice y.bu.A N.bu.length y.bu.c, .slice y.ow.A N.ow.length y.ow.c, .slice y.tu.A N.tu.length y.tu.c, .slice y.so.A N.so.length y.so.c, .slice y.ar.A N.ar.length y.ar.c, .int .i64 N.ti] 45)) 45 #[.int .i64 0, .int .i64 0, .slice none 0 0, .slice none 0 0, .slice none 0 0, .slice none 0 0, .slice none 0 0, .slice none 0 0, .slice none 0 0, .slice none 0 0, .int .i64 0]
  have ge := gb_alloc (gb_alloc (gb_refl w none) (.cells #[.int .i64 N.W, .int .i64 N.H, .slice y.br.A N.br.length y.br.c, .slice y.ta.A N.ta.length y.ta.c, .slice y.tb.A N.tb.length y.tb.c, .slice y.bu.A N.bu.length y.bu.c, .slice y.ow.A N.ow.length y.ow.c, .slice y.tu.A N.tu.length y.tu.c, .slice y.so.A N.so.length y.so.c, .slice y.ar.A N.ar.length y.ar.c, .int .i64 N.ti] 45)) (.cells #[.int .i64 0, .int .i64 0, .slice none 0 0, .slice none 0 0, .slice none 0 0, .slice none 0 0, .slice none 0 0, .slice none 0 0, .slice none 0 0, .slice none 0 0, .int .i64 0] 45)
  have hsz : ((w.alloc (.cells #[.int .i64 N.W, .int .i64 N.H, .slice y.br.A N.br.length y.br.c, .slice y.ta.A N.ta.length y.ta.c, .slice y.tb.A N.tb.length y.tb.c, .slice y.bu.A N.bu.length y.bu.c, .slice y.ow.A N.ow.length y.ow.c, .slice y.tu.A N.tu.length y.tu.c, .slice y.so.A N.so.length y.so.c, .slice y.ar.A N.ar.length y.ar.c, .int .i64 N.ti] 45)).alloc (.cells #[.int .i64 0, .int .i64 0, .slice none 0 0, .slice none 0 0, .slice none 0 0, .slice none 0 0, .slice none 0 0, .slice none 0 0, .slice none 0 0, .slice none 0 0, .int .i64 0] 45)).heap.size = w.heap.size + 2 := by simp only [alloc_size]
  rw [alloc_size] at k1
  have HI := Lib.hid h
  clear h
  go_enter Tryz.func19, Tryz.ntmps19
  go_wp2_with fail
  generalize (w.alloc (.cells #[.int .i64 N.W, .int .i64 N.H, .slice y.br.A N.br.length y.br.c, .slice y.ta.A N.ta.length y.ta.c, .slice y.tb.A N.tb.length y.tb.c, .slice y.bu.A N.bu.length y.bu.c, .slice y.ow.A N.ow.length y.ow.c, .slice y.tu.A N.tu.length y.tu.c, .slice y.so.A N.so.length y.so.c, .slice y.ar.A N.ar.length y.ar.c, .int .i64 N.ti] 45)).alloc (.cells #[.int .i64 0, .int .i64 0, .slice none 0 0, .slice none 0 0, .slice none 0 0, .slice none 0 0, .slice none 0 0, .slice none 0 0, .slice none 0 0, .slice none 0 0, .int .i64 0] 45) = wx at *
  have GE := Lib.hid ge
  have K0 := Lib.hid k0
  have K1 := Lib.hid k1
  have HSZ := Lib.hid hsz
  have IN := Lib.hid (show ∀ wr, wx.grownBy wr none → NetIn wr wr.heap.size y N from fun wr hg => (HI.out.none (Nat.le_refl _) (gb_trans GE.out hg)).more (gb_trans GE.out hg).size)
  clear ge k0 k1 hsz
  refine region_inv (by kernel_rfl) (by kernel_rfl) (Ic y N w wx) (.inr ⟨rfl, fun _ => undef, fun _ => 0, fun _ => 0, rfl, Sc.start⟩) ?_ ?_
  · intro Lf a wr hI i o ho hLi he K' hK
    rcases hI with ⟨hall, _⟩ | ⟨h26, vs, lo, hi, rfl, hS⟩
    · have h27 := (Array.getElem?_eq_some_iff.1 ho).1
      rw [hall i h27] at hLi
      cases hLi
    · have h27 : i < 27 := (Array.getElem?_eq_some_iff.1 ho).1
      have hg2 : wx.grownBy wr none := ⟨hS.g.os, hS.g.tape, hS.g.output, hS.g.size, hS.g.block⟩
      have hkb := K0.out.grown hg2 (by simp)
      have m0 : wr.cell? ⟨w.heap.size, 0, none⟩ = some (.int .i64 N.W) := hkb.cell 0
      have m1 : wr.cell? ⟨w.heap.size, 1, none⟩ = some (.int .i64 N.H) := hkb.cell 1
      have m2 : wr.cell? ⟨w.heap.size, 2, none⟩ = some (.slice y.br.A N.br.length y.br.c) := hkb.cell 2
      have m3 : wr.cell? ⟨w.heap.size, 3, none⟩ = some (.slice y.ta.A N.ta.length y.ta.c) := hkb.cell 3
      have m4 : wr.cell? ⟨w.heap.size, 4, none⟩ = some (.slice y.tb.A N.tb.length y.tb.c) := hkb.cell 4
      have m5 : wr.cell? ⟨w.heap.size, 5, none⟩ = some (.slice y.bu.A N.bu.length y.bu.c) := hkb.cell 5
      have m6 : wr.cell? ⟨w.heap.size, 6, none⟩ = some (.slice y.ow.A N.ow.length y.ow.c) := hkb.cell 6
      have m7 : wr.cell? ⟨w.heap.size, 7, none⟩ = some (.slice y.tu.A N.tu.length y.tu.c) := hkb.cell 7
      have m8 : wr.cell? ⟨w.heap.size, 8, none⟩ = some (.slice y.so.A N.so.length y.so.c) := hkb.cell 8
      have m9 : wr.cell? ⟨w.heap.size, 9, none⟩ = some (.slice y.ar.A N.ar.length y.ar.c) := hkb.cell 9
      have m10 : wr.cell? ⟨w.heap.size, 10, none⟩ = some (.int .i64 N.ti) := hkb.cell 10
      clear hkb
      have hc27 : i = 0 ∨ i = 1 ∨ i = 2 ∨ i = 3 ∨ i = 4 ∨ i = 5 ∨ i = 6 ∨ i = 7 ∨ i = 8 ∨ i = 9 ∨ i = 10 ∨ i = 11 ∨ i = 12 ∨ i = 13 ∨ i = 14 ∨ i = 15 ∨ i = 16 ∨ i = 17 ∨ i = 18 ∨ i = 19 ∨ i = 20 ∨ i = 21 ∨ i = 22 ∨ i = 23 ∨ i = 24 ∨ i = 25 ∨ i = 26 := by omega
      rcases hc27 with rfl | rfl | rfl | rfl | rfl | rfl | rfl | rfl | rfl | rfl | rfl | rfl | rfl | rfl | rfl | rfl | rfl | rfl | rfl | rfl | rfl | rfl | rfl | rfl | rfl | rfl | rfl
      all_goals (simp only [List.getElem?_toArray, List.getElem?_cons_zero, List.getElem?_cons_succ, Option.some.injEq] at ho; subst ho)
      · skip
        simp only [FRc] at *
        go_simp
        exact hK.out _ _ (.inr ⟨(by simpa using h26), upd vs 0 (.pointer (some ⟨w.heap.size, 0, none⟩)), lo, hi, rfl, hS.quiet hLi (by decide) rfl rfl⟩)
      · have vv : vs 0 = .pointer (some ⟨w.heap.size, 0, none⟩) := hS.G 0 (he ⟨0, .data⟩ (by simp) rfl) rfl
        simp only [FRc] at *
        go_simp
        exact hK.out _ _ (.inr ⟨(by simpa using h26), upd vs 1 (.agg #[.int .i64 N.W, .int .i64 N.H, .slice y.br.A N.br.length y.br.c]), lo, hi, by simp [FRc, upd, vv], hS.quiet hLi (by decide) rfl rfl⟩)
      · have vv : vs 1 = .agg #[.int .i64 N.W, .int .i64 N.H, .slice y.br.A N.br.length y.br.c] := hS.G 1 (he ⟨1, .data⟩ (by simp) rfl) rfl
        simp only [FRc] at *
        go_simp
        refine (specL15Mesh N.W N.H y.br.A N.br.length y.br.c N.br wr (IN.out wr hg2).br hn.br).mono ?_
        rintro e w' ⟨v, rfl, o, b⟩
        obtain ⟨A1, d1, rfl, _⟩ := own_form o
        exact hK.out _ _ (.inr ⟨(by simpa using h26), upd vs 2 (.agg #[.int .i64 N.W, .int .i64 N.H, .slice A1 N.br.length d1]), _, _, by simp [FRc, upd, vv], hS.mem hLi (by decide) rfl (gb_of_below b none) (fun b e => by cases e) ⟨fun e => absurd e (by decide), fun e => absurd e (by decide)⟩ ⟨fun _ => by decide, fun _ => by decide⟩ ⟨A1, d1, rfl, by rw [upd_at]; exact o, fun k hk => by have h1 := o.lt k hk; simp only [Spc, inIv, upd_at]; exact h1⟩⟩)
      · skip
        simp only [FRc] at *
        go_simp
        exact hK.out _ _ (.inr ⟨(by simpa using h26), upd vs 3 (.pointer (some ⟨w.heap.size, 3, none⟩)), lo, hi, rfl, hS.quiet hLi (by decide) rfl rfl⟩)
      · have vv : vs 3 = .pointer (some ⟨w.heap.size, 3, none⟩) := hS.G 3 (he ⟨3, .data⟩ (by simp) rfl) rfl
        simp only [FRc] at *
        go_simp
        exact hK.out _ _ (.inr ⟨(by simpa using h26), upd vs 4 (.agg #[.slice y.ta.A N.ta.length y.ta.c, .slice y.tb.A N.tb.length y.tb.c]), lo, hi, by simp [FRc, upd, vv], hS.quiet hLi (by decide) rfl rfl⟩)
      · have vv : vs 4 = .agg #[.slice y.ta.A N.ta.length y.ta.c, .slice y.tb.A N.tb.length y.tb.c] := hS.G 4 (he ⟨4, .data⟩ (by simp) rfl) rfl
        simp only [FRc] at *
        go_simp
        refine (specL15Classes y.ta.A y.tb.A N.ta.length y.ta.c N.tb.length y.tb.c N.ta N.tb wr (IN.out wr hg2).ta (IN.out wr hg2).tb hn.ta hn.tb).mono ?_
        rintro e w' ⟨vp, vq, rfl, o, b⟩
        obtain ⟨A1, d1, rfl, _⟩ := own_form o.r
        obtain ⟨A2, d2, rfl, _⟩ := own_form o.c
        exact hK.out _ _ (.inr ⟨(by simpa using h26), upd vs 5 (.agg #[.slice A1 N.ta.length d1, .slice A2 N.tb.length d2]), _, _, by simp [FRc, upd, vv], hS.mem hLi (by decide) rfl (gb_of_below b none) (fun b e => by cases e) ⟨fun e => absurd e (by decide), fun e => absurd e (by decide)⟩ ⟨fun _ => by decide, fun _ => by decide⟩ ⟨A1, d1, A2, d2, rfl, by rw [upd_at]; exact o, fun k hk => by have h1 := o.lt k hk; simp only [Spc, inIv, upd_at]; exact h1⟩⟩)
      · skip
        simp only [FRc] at *
        go_simp
        exact hK.out _ _ (.inr ⟨(by simpa using h26), upd vs 6 (.pointer (some ⟨w.heap.size, 5, none⟩)), lo, hi, rfl, hS.quiet hLi (by decide) rfl rfl⟩)
      · have vv : vs 6 = .pointer (some ⟨w.heap.size, 5, none⟩) := hS.G 6 (he ⟨6, .data⟩ (by simp) rfl) rfl
        simp only [FRc] at *
        go_simp
        exact hK.out _ _ (.inr ⟨(by simpa using h26), upd vs 7 (.slice y.bu.A N.bu.length y.bu.c), lo, hi, by simp [FRc, upd, vv], hS.quiet hLi (by decide) rfl rfl⟩)
      · have vv : vs 7 = .slice y.bu.A N.bu.length y.bu.c := hS.G 7 (he ⟨7, .data⟩ (by simp) rfl) rfl
        simp only [FRc] at *
        go_simp
        refine (specL15Lists y.bu.A N.bu.length y.bu.c N.bu wr (IN.out wr hg2).bu hn.bu hn.sbu).mono ?_
        rintro e w' ⟨v, us, rfl, o, b⟩
        obtain ⟨A1, d1, rfl, _⟩ := own_form o.hd
        exact hK.out _ _ (.inr ⟨(by simpa using h26), upd vs 8 (.slice A1 N.bu.length d1), _, _, by simp [FRc, upd, vv], hS.mem hLi (by decide) rfl (gb_of_below b none) (fun b e => by cases e) ⟨fun e => absurd e (by decide), fun e => absurd e (by decide)⟩ ⟨fun _ => by decide, fun _ => by decide⟩ ⟨A1, d1, us, rfl, by rw [upd_at]; exact o, fun k hk => by have h1 := o.hd.lt k hk; simp only [Spc, inIv, upd_at]; exact h1, fun j u k hu hk => by have h1 := o.fam.lt hu hk; simp only [Spc, inIv, upd_at]; exact h1⟩⟩)
      · skip
        simp only [FRc] at *
        go_simp
        exact hK.out _ _ (.inr ⟨(by simpa using h26), upd vs 9 (.slice (some ⟨wr.heap.size, 0, none⟩) 0 0), _, _, by simp [FRc, upd], hS.mem hLi (by decide) rfl (gb_alloc (gb_refl wr none) _) (fun b e => by cases e) ⟨fun e => absurd e (by decide), fun e => absurd e (by decide)⟩ ⟨fun h => absurd (hS.P.1 h) (by rw [hLi]; decide), fun _ => by decide⟩ ⟨wr.heap.size, rfl, by rw [upd_at]; exact World.ownsRow_made (base := wr.heap.size) (e := 3) (size := 1) wr #[] 0 (Nat.le_refl _) (by decide) rfl, by simp only [inIv, upd_at, alloc_size]; omega⟩⟩)
      · skip
        simp only [FRc] at *
        go_simp
        exact hK.out _ _ (.inr ⟨(by simpa using h26), upd vs 10 (.pointer (some ⟨w.heap.size, 6, none⟩)), lo, hi, rfl, hS.quiet hLi (by decide) rfl rfl⟩)
      · have vv : vs 10 = .pointer (some ⟨w.heap.size, 6, none⟩) := hS.G 10 (he ⟨10, .data⟩ (by simp) rfl) rfl
        simp only [FRc] at *
        go_simp
        exact hK.out _ _ (.inr ⟨(by simpa using h26), upd vs 11 (.slice y.ow.A N.ow.length y.ow.c), lo, hi, by simp [FRc, upd, vv], hS.quiet hLi (by decide) rfl rfl⟩)
      · have vv : vs 11 = .slice y.ow.A N.ow.length y.ow.c := hS.G 11 (he ⟨11, .data⟩ (by simp) rfl) rfl
        obtain ⟨g, ve, oe, ie⟩ := hS.G 9 (he ⟨9, .data⟩ (by simp) rfl) (by simp [liveC, hLi])
        have hb0 : lo 9 ≤ wr.heap.size := by have h1 := (hS.J 9 rfl (he ⟨9, .data⟩ (by simp) rfl)).2; omega
        refine step_app_at wr rfl (.tmp 12) (.tmp 14) rfl i0 ii iz0 iz1 iz2 (lo 9) 0 N.ow.length y.ow.c wr.heap.size y.ow.A [] N.ow (.slice (some ⟨g, 0, none⟩) 0 0) ve vv oe (IN.out wr hg2).ow (by have h1 := hn.ow; omega) hb0 ?_
        intro v' w' o g1 hat
        rw [Nat.zero_add, List.nil_append] at o
        obtain ⟨A1, d1, rfl, _⟩ := own_form o
        have gg : ∀ b, (Value.slice A1 N.ow.length d1).ownBlock = some b → inIv lo hi 9 b ∨ (wr.heap.size ≤ b ∧ b < w'.heap.size) := fun b hb => by
          have h2 := (o.lt b hb).2
          rcases hat b hb with h1 | h1
          · left; cases h1; exact ie
          · right; omega
        exact hK.out _ _ (.inr ⟨(by simpa using h26), upd vs 12 (.slice A1 N.ow.length d1), _, _, by simp [FRc, upd, Act.put], hS.mem hLi (by decide) rfl g1 (fun b e => hS.app12 (he ⟨9, .data⟩ (by simp) rfl) (by cases e; exact ie)) ⟨fun _ => (he ⟨9, .data⟩ (by simp) rfl), fun e => absurd e (by decide)⟩ ⟨fun _ => by decide, fun _ => by decide⟩ ⟨A1, d1, rfl, by rw [upd_ne _ _ (by decide)]; exact o, fun b hb => by have h1 := gg b hb; simp only [Spc, inIv, upd_at] at h1 ⊢; rw [upd_ne _ _ (by decide), upd_ne _ _ (by decide)]; exact h1⟩⟩)
      · skip
        simp only [FRc] at *
        go_simp
        exact hK.out _ _ (.inr ⟨(by simpa using h26), upd vs 13 (.slice (some ⟨wr.heap.size, 0, none⟩) 0 0), _, _, by simp [FRc, upd], hS.mem hLi (by decide) rfl (gb_alloc (gb_refl wr none) _) (fun b e => by cases e) ⟨fun e => absurd e (by decide), fun e => absurd e (by decide)⟩ ⟨fun _ => by decide, fun h => absurd (hS.P.2 h) (by rw [hLi]; decide)⟩ ⟨wr.heap.size, rfl, by rw [upd_at]; exact World.ownsRow_made (base := wr.heap.size) (e := 3) (size := 1) wr #[] 0 (Nat.le_refl _) (by decide) rfl, by simp only [inIv, upd_at, alloc_size]; omega⟩⟩)
      · skip
        simp only [FRc] at *
        go_simp
        exact hK.out _ _ (.inr ⟨(by simpa using h26), upd vs 14 (.pointer (some ⟨w.heap.size, 7, none⟩)), lo, hi, rfl, hS.quiet hLi (by decide) rfl rfl⟩)
      · have vv : vs 14 = .pointer (some ⟨w.heap.size, 7, none⟩) := hS.G 14 (he ⟨14, .data⟩ (by simp) rfl) rfl
        simp only [FRc] at *
        go_simp
        exact hK.out _ _ (.inr ⟨(by simpa using h26), upd vs 15 (.slice y.tu.A N.tu.length y.tu.c), lo, hi, by simp [FRc, upd, vv], hS.quiet hLi (by decide) rfl rfl⟩)
      · have vv : vs 15 = .slice y.tu.A N.tu.length y.tu.c := hS.G 15 (he ⟨15, .data⟩ (by simp) rfl) rfl
        obtain ⟨g, ve, oe, ie⟩ := hS.G 13 (he ⟨13, .data⟩ (by simp) rfl) (by simp [liveC, hLi])
        have hb0 : lo 13 ≤ wr.heap.size := by have h1 := (hS.J 13 rfl (he ⟨13, .data⟩ (by simp) rfl)).2; omega
        refine step_app_at wr rfl (.tmp 16) (.tmp 18) rfl i0 ii iz0 iz1 iz2 (lo 13) 0 N.tu.length y.tu.c wr.heap.size y.tu.A [] N.tu (.slice (some ⟨g, 0, none⟩) 0 0) ve vv oe (IN.out wr hg2).tu (by have h1 := hn.tu; omega) hb0 ?_
        intro v' w' o g1 hat
        rw [Nat.zero_add, List.nil_append] at o
        obtain ⟨A1, d1, rfl, _⟩ := own_form o
        have gg : ∀ b, (Value.slice A1 N.tu.length d1).ownBlock = some b → inIv lo hi 13 b ∨ (wr.heap.size ≤ b ∧ b < w'.heap.size) := fun b hb => by
          have h2 := (o.lt b hb).2
          rcases hat b hb with h1 | h1
          · left; cases h1; exact ie
          · right; omega
        exact hK.out _ _ (.inr ⟨(by simpa using h26), upd vs 16 (.slice A1 N.tu.length d1), _, _, by simp [FRc, upd, Act.put], hS.mem hLi (by decide) rfl g1 (fun b e => hS.app16 (he ⟨13, .data⟩ (by simp) rfl) (by cases e; exact ie)) ⟨fun e => absurd e (by decide), fun _ => (he ⟨13, .data⟩ (by simp) rfl)⟩ ⟨fun _ => by decide, fun _ => by decide⟩ ⟨A1, d1, rfl, by rw [upd_ne _ _ (by decide)]; exact o, fun b hb => by have h1 := gg b hb; simp only [Spc, inIv, upd_at] at h1 ⊢; rw [upd_ne _ _ (by decide), upd_ne _ _ (by decide)]; exact h1⟩⟩)
      · skip
        simp only [FRc] at *
        go_simp
        exact hK.out _ _ (.inr ⟨(by simpa using h26), upd vs 17 (.pointer (some ⟨w.heap.size, 8, none⟩)), lo, hi, rfl, hS.quiet hLi (by decide) rfl rfl⟩)
      · have vv : vs 17 = .pointer (some ⟨w.heap.size, 8, none⟩) := hS.G 17 (he ⟨17, .data⟩ (by simp) rfl) rfl
        simp only [FRc] at *
        go_simp
        exact hK.out _ _ (.inr ⟨(by simpa using h26), upd vs 18 (.slice y.so.A N.so.length y.so.c), lo, hi, by simp [FRc, upd, vv], hS.quiet hLi (by decide) rfl rfl⟩)
      · have vv : vs 18 = .slice y.so.A N.so.length y.so.c := hS.G 18 (he ⟨18, .data⟩ (by simp) rfl) rfl
        simp only [FRc] at *
        go_simp
        refine (specL15Lists y.so.A N.so.length y.so.c N.so wr (IN.out wr hg2).so hn.so hn.sso).mono ?_
        rintro e w' ⟨v, us, rfl, o, b⟩
        obtain ⟨A1, d1, rfl, _⟩ := own_form o.hd
        exact hK.out _ _ (.inr ⟨(by simpa using h26), upd vs 19 (.slice A1 N.so.length d1), _, _, by simp [FRc, upd, vv], hS.mem hLi (by decide) rfl (gb_of_below b none) (fun b e => by cases e) ⟨fun e => absurd e (by decide), fun e => absurd e (by decide)⟩ ⟨fun _ => by decide, fun _ => by decide⟩ ⟨A1, d1, us, rfl, by rw [upd_at]; exact o, fun k hk => by have h1 := o.hd.lt k hk; simp only [Spc, inIv, upd_at]; exact h1, fun j u k hu hk => by have h1 := o.fam.lt hu hk; simp only [Spc, inIv, upd_at]; exact h1⟩⟩)
      · skip
        simp only [FRc] at *
        go_simp
        exact hK.out _ _ (.inr ⟨(by simpa using h26), upd vs 20 (.pointer (some ⟨w.heap.size, 9, none⟩)), lo, hi, rfl, hS.quiet hLi (by decide) rfl rfl⟩)
      · have vv : vs 20 = .pointer (some ⟨w.heap.size, 9, none⟩) := hS.G 20 (he ⟨20, .data⟩ (by simp) rfl) rfl
        simp only [FRc] at *
        go_simp
        exact hK.out _ _ (.inr ⟨(by simpa using h26), upd vs 21 (.slice y.ar.A N.ar.length y.ar.c), lo, hi, by simp [FRc, upd, vv], hS.quiet hLi (by decide) rfl rfl⟩)
      · have vv : vs 21 = .slice y.ar.A N.ar.length y.ar.c := hS.G 21 (he ⟨21, .data⟩ (by simp) rfl) rfl
        simp only [FRc] at *
        go_simp
        refine (specL15Lists y.ar.A N.ar.length y.ar.c N.ar wr (IN.out wr hg2).ar hn.ar hn.sar).mono ?_
        rintro e w' ⟨v, us, rfl, o, b⟩
        obtain ⟨A1, d1, rfl, _⟩ := own_form o.hd
        exact hK.out _ _ (.inr ⟨(by simpa using h26), upd vs 22 (.slice A1 N.ar.length d1), _, _, by simp [FRc, upd, vv], hS.mem hLi (by decide) rfl (gb_of_below b none) (fun b e => by cases e) ⟨fun e => absurd e (by decide), fun e => absurd e (by decide)⟩ ⟨fun _ => by decide, fun _ => by decide⟩ ⟨A1, d1, us, rfl, by rw [upd_at]; exact o, fun k hk => by have h1 := o.hd.lt k hk; simp only [Spc, inIv, upd_at]; exact h1, fun j u k hu hk => by have h1 := o.fam.lt hu hk; simp only [Spc, inIv, upd_at]; exact h1⟩⟩)
      · skip
        simp only [FRc] at *
        go_simp
        exact hK.out _ _ (.inr ⟨(by simpa using h26), upd vs 23 (.pointer (some ⟨w.heap.size, 10, none⟩)), lo, hi, rfl, hS.quiet hLi (by decide) rfl rfl⟩)
      · have vv : vs 23 = .pointer (some ⟨w.heap.size, 10, none⟩) := hS.G 23 (he ⟨23, .data⟩ (by simp) rfl) rfl
        simp only [FRc] at *
        go_simp
        exact hK.out _ _ (.inr ⟨(by simpa using h26), upd vs 24 (.int .i64 N.ti), lo, hi, by simp [FRc, upd, vv], hS.quiet hLi (by decide) rfl rfl⟩)
      · obtain ⟨A2, d2, v2, _⟩ := hS.G 2 (he ⟨2, .data⟩ (by simp) rfl) rfl
        obtain ⟨A5, d5, B5, e5, v5, _⟩ := hS.G 5 (he ⟨5, .data⟩ (by simp) rfl) rfl
        obtain ⟨A8, d8, us8, v8, _⟩ := hS.G 8 (he ⟨8, .data⟩ (by simp) rfl) rfl
        obtain ⟨A19, d19, us19, v19, _⟩ := hS.G 19 (he ⟨19, .data⟩ (by simp) rfl) rfl
        obtain ⟨A22, d22, us22, v22, _⟩ := hS.G 22 (he ⟨22, .data⟩ (by simp) rfl) rfl
        obtain ⟨A12, d12, v12, _⟩ := hS.G 12 (he ⟨12, .data⟩ (by simp) rfl) rfl
        obtain ⟨A16, d16, v16, _⟩ := hS.G 16 (he ⟨16, .data⟩ (by simp) rfl) rfl
        have v24 : vs 24 = .int .i64 N.ti := hS.G 24 (he ⟨24, .data⟩ (by simp) rfl) rfl
        simp only [FRc] at *
        go_simp
        exact hK.out _ _ (.inr ⟨(by simpa using h26), upd vs 25 (.agg #[.int .i64 N.W, .int .i64 N.H, .slice A2 N.br.length d2, .slice A5 N.ta.length d5, .slice B5 N.tb.length e5, .slice A8 N.bu.length d8, .slice A12 N.ow.length d12, .slice A16 N.tu.length d16, .slice A19 N.so.length d19, .slice A22 N.ar.length d22, .int .i64 N.ti]), lo, hi, by simp [FRc, upd, v2, v5, v8, v12, v16, v19, v22, v24], hS.build hLi ⟨(he ⟨2, .data⟩ (by simp) rfl), (he ⟨5, .data⟩ (by simp) rfl), (he ⟨8, .data⟩ (by simp) rfl), (he ⟨12, .data⟩ (by simp) rfl), (he ⟨16, .data⟩ (by simp) rfl), (he ⟨19, .data⟩ (by simp) rfl), (he ⟨22, .data⟩ (by simp) rfl), (he ⟨24, .data⟩ (by simp) rfl)⟩ ⟨A2, d2, A5, d5, B5, e5, A8, d8, A12, d12, A16, d16, A19, d19, A22, d22, by simp [upd, v2], by simp [upd, v5], by simp [upd, v8], by simp [upd, v12], by simp [upd, v16], by simp [upd, v19], by simp [upd, v22], upd_at _ _ _⟩⟩)
      · have p0 := (he ⟨0, .phase⟩ (by simp) rfl)
        have p1 := (he ⟨1, .phase⟩ (by simp) rfl)
        have p2 := (he ⟨2, .phase⟩ (by simp) rfl)
        have p3 := (he ⟨3, .phase⟩ (by simp) rfl)
        have p4 := (he ⟨4, .phase⟩ (by simp) rfl)
        have p5 := (he ⟨5, .phase⟩ (by simp) rfl)
        have p6 := (he ⟨6, .phase⟩ (by simp) rfl)
        have p7 := (he ⟨7, .phase⟩ (by simp) rfl)
        have p8 := (he ⟨8, .phase⟩ (by simp) rfl)
        have p9 := (he ⟨9, .phase⟩ (by simp) rfl)
        have p10 := (he ⟨10, .phase⟩ (by simp) rfl)
        have p11 := (he ⟨11, .phase⟩ (by simp) rfl)
        have p12 := (he ⟨12, .phase⟩ (by simp) rfl)
        have p13 := (he ⟨13, .phase⟩ (by simp) rfl)
        have p14 := (he ⟨14, .phase⟩ (by simp) rfl)
        have p15 := (he ⟨15, .phase⟩ (by simp) rfl)
        have p16 := (he ⟨16, .phase⟩ (by simp) rfl)
        have p17 := (he ⟨17, .phase⟩ (by simp) rfl)
        have p18 := (he ⟨18, .phase⟩ (by simp) rfl)
        have p19 := (he ⟨19, .phase⟩ (by simp) rfl)
        have p20 := (he ⟨20, .phase⟩ (by simp) rfl)
        have p21 := (he ⟨21, .phase⟩ (by simp) rfl)
        have p22 := (he ⟨22, .phase⟩ (by simp) rfl)
        have p23 := (he ⟨23, .phase⟩ (by simp) rfl)
        have p24 := (he ⟨24, .phase⟩ (by simp) rfl)
        have p25 := (he ⟨25, .phase⟩ (by simp) rfl)
        have hall : ∀ k, k < 26 → Lf k = true := fun k hk => by
          have hk26 : k = 0 ∨ k = 1 ∨ k = 2 ∨ k = 3 ∨ k = 4 ∨ k = 5 ∨ k = 6 ∨ k = 7 ∨ k = 8 ∨ k = 9 ∨ k = 10 ∨ k = 11 ∨ k = 12 ∨ k = 13 ∨ k = 14 ∨ k = 15 ∨ k = 16 ∨ k = 17 ∨ k = 18 ∨ k = 19 ∨ k = 20 ∨ k = 21 ∨ k = 22 ∨ k = 23 ∨ k = 24 ∨ k = 25 := by omega
          rcases hk26 with rfl | rfl | rfl | rfl | rfl | rfl | rfl | rfl | rfl | rfl | rfl | rfl | rfl | rfl | rfl | rfl | rfl | rfl | rfl | rfl | rfl | rfl | rfl | rfl | rfl | rfl <;> assumption
        obtain ⟨A2, d2, A5, d5, B5, e5, A8, d8, A12, d12, A16, d16, A19, d19, A22, d22, v2, v5, v8, v12, v16, v19, v22, v25⟩ := (hS.B p25).2
        have bk := K1.out.grown hg2 (by simp)
        have z0 : wr.cell? ⟨w.heap.size + 1, 0, none⟩ = some (.int .i64 0) := bk.cell 0
        have y0 := bk.frozen 0
        have z1 : wr.cell? ⟨w.heap.size + 1, 1, none⟩ = some (.int .i64 0) := bk.cell 1
        have y1 := bk.frozen 1
        have z2 : wr.cell? ⟨w.heap.size + 1, 2, none⟩ = some (.slice none 0 0) := bk.cell 2
        have y2 := bk.frozen 2
        have z3 : wr.cell? ⟨w.heap.size + 1, 3, none⟩ = some (.slice none 0 0) := bk.cell 3
        have y3 := bk.frozen 3
        have z4 : wr.cell? ⟨w.heap.size + 1, 4, none⟩ = some (.slice none 0 0) := bk.cell 4
        have y4 := bk.frozen 4
        have z5 : wr.cell? ⟨w.heap.size + 1, 5, none⟩ = some (.slice none 0 0) := bk.cell 5
        have y5 := bk.frozen 5
        have z6 : wr.cell? ⟨w.heap.size + 1, 6, none⟩ = some (.slice none 0 0) := bk.cell 6
        have y6 := bk.frozen 6
        have z7 : wr.cell? ⟨w.heap.size + 1, 7, none⟩ = some (.slice none 0 0) := bk.cell 7
        have y7 := bk.frozen 7
        have z8 : wr.cell? ⟨w.heap.size + 1, 8, none⟩ = some (.slice none 0 0) := bk.cell 8
        have y8 := bk.frozen 8
        have z9 : wr.cell? ⟨w.heap.size + 1, 9, none⟩ = some (.slice none 0 0) := bk.cell 9
        have y9 := bk.frozen 9
        have z10 : wr.cell? ⟨w.heap.size + 1, 10, none⟩ = some (.int .i64 0) := bk.cell 10
        have y10 := bk.frozen 10
        have BK := Lib.hid bk
        have HS26 := Lib.hid hS
        clear bk p0 p1 p2 p3 p4 p5 p6 p7 p8 p9 p10 p11 p12 p13 p14 p15 p16 p17 p18 p19 p20 p21 p22 p23 p24 p25
        simp only [FRc] at *
        go_simp
        exact hK.out _ _ (.inl ⟨fun k hk => by show (if k = 26 then true else Lf k) = true; split; rfl; exact hall k (by omega), Lf, vs, lo, hi, wr, #[.int .i64 N.W, .int .i64 N.H, .slice A2 N.br.length d2, .slice A5 N.ta.length d5, .slice B5 N.tb.length e5, .slice A8 N.bu.length d8, .slice A12 N.ow.length d12, .slice A16 N.tu.length d16, .slice A19 N.so.length d19, .slice A22 N.ar.length d22, .int .i64 N.ti], hall, by simp [FRc, v2, v5, v8, v12, v16, v19, v22, v25], HS26.out, v25, by have hz := (((((((((((BK.out.set_ 0 (.int .i64 N.W)).set_ 1 (.int .i64 N.H)).set_ 2 (.slice A2 N.br.length d2)).set_ 3 (.slice A5 N.ta.length d5)).set_ 4 (.slice B5 N.tb.length e5)).set_ 5 (.slice A8 N.bu.length d8)).set_ 6 (.slice A12 N.ow.length d12)).set_ 7 (.slice A16 N.tu.length d16)).set_ 8 (.slice A19 N.so.length d19)).set_ 9 (.slice A22 N.ar.length d22)).set_ 10 (.int .i64 N.ti)); simpa using hz, (((((((((((st_in _ _ _ _).sx _ _).sx _ _).sx _ _).sx _ _).sx _ _).sx _ _).sx _ _).sx _ _).sx _ _).sx _ _)⟩)
  · intro Lf a wo hI hall
    rcases hI with ⟨_, L2, vs, lo, hi, w9, cs, hl2, rfl, hS, v25, hbk, hch⟩ | ⟨h26, _⟩
    · obtain ⟨A2, d2, A5, d5, B5, e5, A8, d8, A12, d12, A16, d16, A19, d19, A22, d22, hv25, hnet⟩ := hS.parts hl2
      rw [v25] at hv25
      injection hv25 with hcs
      subst hcs
      have hg9 : wx.grownBy w9 none := ⟨hS.g.os, hS.g.tape, hS.g.output, hS.g.size, hS.g.block⟩
      have hB : wx.drew.heap.size = w.heap.size + 2 := HSZ.out
      have hno : NetOwn wo (w.heap.size + 2) wo.heap.size ⟨⟨A2, d2⟩, ⟨A5, d5⟩, ⟨B5, e5⟩, ⟨A8, d8⟩, ⟨A12, d12⟩, ⟨A16, d16⟩, ⟨A19, d19⟩, ⟨A22, d22⟩⟩ N := by
        rw [hB] at hnet
        exact (hnet.heap (fun k h1 h2 => hch.block k h2 (by omega))).upto hch.size
      have hbl := (gb_below_none (gb_trans GE.out hg9) (Nat.le_refl _)).trans (hch.below (.inl (by omega)) (by have h1 := hg9.size; have h2 := HSZ.out; omega))
      have BK := Lib.hid hbk
      simp only [FRc]
      have r0 := hbk.cell 0
      have r1 := hbk.cell 1
      have r2 := hbk.cell 2
      have r3 := hbk.cell 3
      have r4 := hbk.cell 4
      have r5 := hbk.cell 5
      have r6 := hbk.cell 6
      have r7 := hbk.cell 7
      have r8 := hbk.cell 8
      have r9 := hbk.cell 9
      have r10 := hbk.cell 10
      simp only [List.getElem?_toArray, List.getElem?_cons_zero, List.getElem?_cons_succ] at r0 r1 r2 r3 r4 r5 r6 r7 r8 r9 r10
      clear hbk hch hS hl2 v25 hall hnet
      go_wp2_with fail
      refine bodyPost_ret (v := .agg #[.int .i64 N.W, .int .i64 N.H, .slice A2 N.br.length d2, .slice A5 N.ta.length d5, .slice B5 N.tb.length e5, .slice A8 N.bu.length d8, .slice A12 N.ow.length d12, .slice A16 N.tu.length d16, .slice A19 N.so.length d19, .slice A22 N.ar.length d22, .int .i64 N.ti]) (by simp [results, Tryz.results19, go_sem, r0, r1, r2, r3, r4, r5, r6, r7, r8, r9, r10]) rfl ⟨_, rfl, hno.less (by omega), hbl⟩
    · rw [hall 26 (by simp)] at h26
      cases h26
end Go.Proofs.YtfloekbmgjmhbaaGreat
end

section
namespace Go.Proofs.YtfloekbmgjmhbaaGreat
open Go.ChangeShapes Go.WideShapes Go.ChangeAt Go.RowKit
set_option linter.unusedVariables false

section
variable {w w1 : World} {base E : Nat} {y : Na} {N : Nt} {vb vs va : List Value}
theorem set_mid {α : Type} (P Q S : List α) (i : Nat) (x : α) (hi : i < Q.length) : (P ++ (Q ++ S)).set (P.length + i) x = P ++ (Q.set i x ++ S) := by
  rw [List.set_append_right _ _ (by omega), show P.length + i - P.length = i by omega, List.set_append_left _ _ hi]
theorem get_mid {α : Type} (P Q S : List α) (i : Nat) (hi : i < Q.length) : (P ++ (Q ++ S))[P.length + i]? = Q[i]? := by
  rw [List.getElem?_append_right (by omega), show P.length + i - P.length = i by omega, List.getElem?_append_left hi]
theorem fam_kept_types {α β : Type} {e e2 : TypeId} {z z2 n2 b2 : Nat} {c : α → List Value} {us : List Value} {DD : List (List α)} {v : Value} {xs : List Value} {row : Option Nat} {w w' : World} {base : Nat} (h : Fam e z c w base us DD) (ho : w.ownsRow b2 e2 z2 v n2 xs) (hg : w.grownBy w' row) (hr : ∀ k, row = some k → v.ownBlock = some k) (hne : e2 ≠ e) : Fam e z c w' base us DD :=
  h.kept hg (fun i u k hu hk e1 => by
    have hi := (List.getElem?_eq_some_iff.1 hu).1
    obtain ⟨u2, hu2, hou⟩ := h.get (i := i) (by rw [← h.len]; exact hi)
    rw [hu] at hu2
    obtain rfl := Option.some.inj hu2
    exact own_typesG ho hou hne (hr k e1) hk)
/-- One source is written anew: its row in its own block or a new one, then its place in the header. -/
theorem NetRows.putSo (h : NetRows w base E y N vb vs va) {i g : Nat} {v v' : Value} {D' : List Flt} (hv : vs[i]? = some v) (hA : y.so.A = some ⟨g, 0, none⟩) (hg : w.grownBy w1 v.ownBlock) (ho : w1.ownsRow base 95 5 v' D'.length (recV fltC D'))
    (hn : ∀ k, v'.ownBlock = some k → v.ownBlock = some k ∨ w.heap.size ≤ k) : NetRows (w1.setCell ⟨g, i, none⟩ v') base (w1.setCell ⟨g, i, none⟩ v').heap.size y {N with so := N.so.set i D'} vb (vs.set i v') va ∧ w1.grownBy (w1.setCell ⟨g, i, none⟩ v') (some g) := by
  have hi := (List.getElem?_eq_some_iff.1 hv).1
  have hiN : i < N.so.length := by rw [← h.ls]; exact hi
  obtain ⟨u, hu, hou⟩ := h.so.fam.get hiN
  rw [hv] at hu
  obtain rfl := Option.some.inj hu
  -- behind the row's write
  have I1 := fam_kept_types (β := Flt) h.int hou hg (fun k e => e) (by decide)
  have H1 := fam_kept_types (β := Flt) h.hd hou hg (fun k e => e) (by decide)
  have hfv : (vb ++ (vs ++ va))[vb.length + i]? = some v := by rw [get_mid _ _ _ _ hi]; exact hv
  have F1 := h.fl.set hfv hg ho hn
  rw [set_mid vb vs va i v' hi, show vb.length + i = N.bu.length + i by rw [h.lb], set_mid N.bu N.so N.ar i D' hiN] at F1
  -- behind the header's
  have hh := H1.row 1 _ _ rfl rfl
  rw [recV_id] at hh
  have hlen : vs.length = N.so.length := h.ls
  have hh' : w1.ownsRow base 92 1 (.slice (some ⟨g, 0, none⟩) N.so.length y.so.c) N.so.length vs := by rw [← hA]; rw [hlen] at hh; exact hh
  obtain ⟨h2, g2⟩ := hh'.stored i v'
  have g2' : w1.grownBy (w1.setCell ⟨g, i, none⟩ v') (some g) := g2
  have I2 := fam_kept_types (β := Flt) I1 hh' g2' (fun k e => by cases e; rfl) (by decide)
  have F2 := fam_kept_types (β := Flt) F1 hh' g2' (fun k e => by cases e; rfl) (by decide)
  have e1 : hdsOf y {N with so := N.so.set i D'} = hdsOf y N := by simp only [hdsOf, List.length_set]
  have H2 := H1.set (i := 1) (v := .slice y.so.A N.so.length y.so.c) (v' := .slice y.so.A N.so.length y.so.c) (D' := vs.set i v') rfl (by rw [hA]; exact g2') (by rw [recV_id, List.length_set, hlen, hA]; exact h2) (fun k hk => .inl hk)
  exact ⟨netRows_mk I2 (by rw [e1]; exact H2) F2 h.lb (by rw [List.length_set, List.length_set]; exact h.ls) h.la, g2'⟩
end
end Go.Proofs.YtfloekbmgjmhbaaGreat
end

section
namespace Go.Proofs.YtfloekbmgjmhbaaGreat
open Go.ChangeShapes Go.WideShapes Go.ChangeAt Go.RowKit
set_option linter.unusedVariables false

/-- The source of a packet. -/
def srcN (N : Nt) (p : Pkt) : List Flt := N.so.getD p.fr.toNat []
def sendTo (N : Nt) (p : Pkt) : Nt := {N with so := N.so.set p.fr.toNat (srcN N p ++ flitsG N.W N.H p)}
def sendOk (N : Nt) (p : Pkt) : Bool := netOk N && (pktOk N.W N.H p && decide (((srcN N p).length : Int) + p.ln ≤ 60))
def sendG (N : Nt) (p : Pkt) : Nt := if sendOk N p = true then sendTo N p else N
theorem nk_parts {N : Nt} (h : netOk N = true) : sizesN N = true := by
  cases hs : sizesN N with
  | true => rfl
  | false => rw [nk_size hs] at h; cases h
/-- The source is there. -/
theorem src_there {N : Nt} {p : Pkt} (h : netOk N = true) (hp : pktOk N.W N.H p = true) : 0 ≤ p.fr ∧ p.fr.toNat < N.so.length ∧ N.so[p.fr.toNat]? = some (srcN N p) := by
  have h1 := nk_parts h
  unfold sizesN at h1
  have h2 := of_decide_eq_true h1
  have h3 := (pktOk_iff.1 hp).2.1
  rw [hasG_iff] at h3
  have hl : p.fr.toNat < N.so.length := by omega
  refine ⟨by omega, hl, ?_⟩
  rw [srcN, List.getD_eq_getElem?_getD, List.getElem?_eq_getElem hl]
  rfl
end Go.Proofs.YtfloekbmgjmhbaaGreat
end

section
namespace Go.Proofs.YtfloekbmgjmhbaaGreat
open Go.ChangeShapes Go.WideShapes Go.ChangeAt Go.RowKit
set_option linter.unusedVariables false

/-- A grid as a value. -/
def gridV (W H : Int) : Value := .agg #[.int .i64 W, .int .i64 H]
def gridC (W H : Int) : Array Value := #[.int .i64 W, .int .i64 H]

theorem specGridOk (W H : Int) (w : World) :
    Calls Tryz.prog 75 #[.agg #[.int .i64 W, .int .i64 H]] w (RetB (okG W H) w) := by
  by_cases h1 : 1 ≤ W ∧ W ≤ 4
  · by_cases h2 : 1 ≤ H ∧ H ≤ 4
    all_goals
      go_enter Tryz.func75, Tryz.ntmps75
      go_wp2_with fail
      refine (specInV W 1 4 true (by simpa using h1) _).mono ?_
      rintro e w1 ⟨rfl, rfl⟩
      go_wp2_with fail
      first
      | refine (specInV H 1 4 true (by simpa using h2) _).mono ?_
      | refine (specInV H 1 4 false (by simpa using h2) _).mono ?_
      rintro e w1 ⟨rfl, rfl⟩
      go_wp2_with fail
      go_ret
      exact ⟨ret_bool (by simp [okG]; omega), gb_alloc (gb_refl _ _) _⟩
  · go_enter Tryz.func75, Tryz.ntmps75
    go_wp2_with fail
    refine (specInV W 1 4 false (by simpa using h1) _).mono ?_
    rintro e w1 ⟨rfl, rfl⟩
    go_wp2_with fail
    go_ret
    exact ⟨ret_bool (by simp [okG]; omega), gb_alloc (gb_refl _ _) _⟩

theorem specNodeCount (W H : Int) (w : World) :
    Calls Tryz.prog 49 #[.agg #[.int .i64 W, .int .i64 H]] w (RetI (countG W H) none w) := by
  cases hok : okG W H with
  | true =>
    obtain ⟨hW, hH⟩ := okG_cases hok
    have hm : wrap64 (W * H) = countG W H := by
      simp only [countG, hok, if_true]
      rcases hW with rfl | rfl | rfl | rfl <;> rcases hH with rfl | rfl | rfl | rfl <;> exact IntWalk.wrap64_in _ (by omega)
    have Hm := Lib.hid hm
    clear hW hH hm
    go_enter Tryz.func49, Tryz.ntmps49
    go_wp2_with fail
    refine (specGridOk W H _).mono ?_
    rintro e w1 ⟨rfl, hg⟩
    have hb := box_blk hg
    have c0 : w1.cell? ⟨w.heap.size, 0, none⟩ = some (.int .i64 W) := hb.cell 0
    have c1 : w1.cell? ⟨w.heap.size, 1, none⟩ = some (.int .i64 H) := hb.cell 1
    have Hg := Lib.hid hg
    clear hg hb
    rw [hok]
    go_wp2_with fail
    go_ret
    exact ⟨ret_int64 (by rw [← Hm.out]), box_gb Hg.out⟩
  | false =>
    go_enter Tryz.func49, Tryz.ntmps49
    go_wp2_with fail
    refine (specGridOk W H _).mono ?_
    rintro e w1 ⟨rfl, hg⟩
    rw [hok]
    go_wp2_with fail
    go_ret
    exact ⟨ret_int64 (by simp [countG, hok]), box_gb hg⟩
end Go.Proofs.YtfloekbmgjmhbaaGreat
end

section
namespace Go.Proofs.YtfloekbmgjmhbaaGreat
open Go.ChangeShapes Go.WideShapes Go.ChangeAt Go.RowKit
set_option linter.unusedVariables false

theorem specHas (W H n : Int) (w : World) :
    Calls Tryz.prog 77 #[.agg #[.int .i64 W, .int .i64 H], .int .i64 n] w (RetB (hasG W H n) w) := by
  obtain ⟨k, hk⟩ : ∃ k, countG W H = k := ⟨_, rfl⟩
  have hl := countG_le W H
  rw [hk] at hl
  obtain ⟨hl0, hl1⟩ := hl
  go_enter Tryz.func77, Tryz.ntmps77
  go_wp2_with fail
  refine (specNodeCount W H _).mono ?_
  rintro e w1 ⟨rfl, hg⟩
  rw [hk]
  go_wp2_with fail
  refine (specInV n 0 _ (hasG W H n) (by unfold hasG; rw [hk]; exact decide_eq_decide.2 (by omega)) _).mono ?_
  rintro e w2 ⟨rfl, rfl⟩
  go_wp2_with fail
  go_ret
  exact ⟨rfl, box_gb hg⟩
theorem specHasV (W H n : Int) (b : Bool) (h : hasG W H n = b) (w : World) :
    Calls Tryz.prog 77 #[.agg #[.int .i64 W, .int .i64 H], .int .i64 n] w (RetB b w) := h ▸ specHas W H n w
end Go.Proofs.YtfloekbmgjmhbaaGreat
end

section
namespace Go.Proofs.YtfloekbmgjmhbaaGreat
open Go.ChangeShapes Go.WideShapes Go.ChangeAt Go.RowKit
set_option linter.unusedVariables false
set_option maxRecDepth 20000

def pkB (W H : Int) (p : Pkt) (w : World) : World := (w.alloc (.cells #[.int .i64 W, .int .i64 H] 37)).alloc (.cells #[.int .i64 p.id, .int .i64 p.fr, .int .i64 p.to, .int .i64 p.cl, .int .i64 p.ln] 65)
/-- The boxes of a grid and a packet as they are. -/
structure PkAt (W H : Int) (p : Pkt) (w wr : World) : Prop where
  g : Blk wr w.heap.size 37 #[.int .i64 W, .int .i64 H]
  p : Blk wr (w.heap.size + 1) 65 #[.int .i64 p.id, .int .i64 p.fr, .int .i64 p.to, .int .i64 p.cl, .int .i64 p.ln]
  gb0 : w.grownBy wr none
section
variable {W H : Int} {p : Pkt} {w wr w' : World}
theorem pkAt_start : PkAt W H p w (pkB W H p w) := by
  have hp := Blk.new (w.alloc (.cells #[.int .i64 W, .int .i64 H] 37)) 65 #[.int .i64 p.id, .int .i64 p.fr, .int .i64 p.to, .int .i64 p.cl, .int .i64 p.ln]
  rw [alloc_size] at hp
  exact ⟨(Blk.new w 37 _).alloc _, hp, gb_alloc (gb_alloc (gb_refl w none) _) _⟩
theorem PkAt.gb (h : PkAt W H p w wr) (hg : wr.grownBy w' none) : PkAt W H p w w' := ⟨h.g.grown hg (by simp), h.p.grown hg (by simp), gb_trans h.gb0 hg⟩
theorem PkAt.cells (h : PkAt W H p w wr) : wr.cell? ⟨w.heap.size, 0, none⟩ = some (.int .i64 W) ∧ wr.cell? ⟨w.heap.size, 1, none⟩ = some (.int .i64 H) ∧ wr.cell? ⟨w.heap.size + 1, 0, none⟩ = some (.int .i64 p.id) ∧ wr.cell? ⟨w.heap.size + 1, 1, none⟩ = some (.int .i64 p.fr) ∧ wr.cell? ⟨w.heap.size + 1, 2, none⟩ = some (.int .i64 p.to) ∧ wr.cell? ⟨w.heap.size + 1, 3, none⟩ = some (.int .i64 p.cl) ∧ wr.cell? ⟨w.heap.size + 1, 4, none⟩ = some (.int .i64 p.ln) :=
  ⟨h.g.cell 0, h.g.cell 1, h.p.cell 0, h.p.cell 1, h.p.cell 2, h.p.cell 3, h.p.cell 4⟩
end

set_option maxHeartbeats 1600000 in
theorem specPacketOk (W H : Int) (p : Pkt) (w : World) :
    Calls Tryz.prog 53 #[.agg #[.int .i64 W, .int .i64 H], pktX p] w (RetB (pktOk W H p) w) := by
  have X0 := Lib.hid (pkAt_start (W := W) (H := H) (p := p) (w := w))
  obtain ⟨r, hr⟩ : ∃ r, pktOk W H p = r := ⟨_, rfl⟩
  rw [hr]
  have hr' := hr
  unfold pktOk at hr'
  unfold pktX
  have HIN := Lib.hid (fun (x lo hi : Int) (b : Bool) (hb : decide (lo ≤ x ∧ x ≤ hi) = b) w => specInV x lo hi b hb w)
  have HHS := Lib.hid (fun (n : Int) (b : Bool) (h : hasG W H n = b) w => specHasV W H n b h w)
  cases hb1 : decide (1 ≤ p.id ∧ p.id ≤ 9999) with
  | false =>
    rw [hb1, Bool.false_and] at hr'
    subst hr'
    have C0 := Lib.hid (HIN.out p.id 1 9999 false hb1)
    obtain ⟨a0, a1, a2, a3, a4, a5, a6⟩ := X0.out.cells
    clear hr hb1
    go_enter Tryz.func53, Tryz.ntmps53
    go_wp2_with fail
    refine (C0.out _).mono ?_
    rintro e w1 ⟨rfl, rfl⟩
    go_wp2_with fail
    go_ret
    exact ⟨rfl, X0.out.gb0⟩
  | true =>
    cases hb2 : hasG W H p.fr with
    | false =>
      rw [hb1, Bool.true_and, hb2, Bool.false_and] at hr'
      subst hr'
      have C0 := Lib.hid (HIN.out p.id 1 9999 true hb1)
      have C1 := Lib.hid (HHS.out p.fr false hb2)
      obtain ⟨a0, a1, a2, a3, a4, a5, a6⟩ := X0.out.cells
      clear hr hb1 hb2
      go_enter Tryz.func53, Tryz.ntmps53
      go_wp2_with fail
      refine (C0.out _).mono ?_
      rintro e w1 ⟨rfl, rfl⟩
      go_wp2_with fail
      refine (C1.out _).mono ?_
      rintro e w2 ⟨rfl, g2⟩
      have X2 := Lib.hid (X0.out.gb g2)
      clear g2 a0 a1 a2 a3 a4 a5 a6
      obtain ⟨a0, a1, a2, a3, a4, a5, a6⟩ := X2.out.cells
      go_wp2_with fail
      go_ret
      exact ⟨rfl, X2.out.gb0⟩
    | true =>
      cases hb3 : hasG W H p.to with
      | false =>
        rw [hb1, Bool.true_and, hb2, Bool.true_and, hb3, Bool.false_and] at hr'
        subst hr'
        have C0 := Lib.hid (HIN.out p.id 1 9999 true hb1)
        have C1 := Lib.hid (HHS.out p.fr true hb2)
        have C2 := Lib.hid (HHS.out p.to false hb3)
        obtain ⟨a0, a1, a2, a3, a4, a5, a6⟩ := X0.out.cells
        clear hr hb1 hb2 hb3
        go_enter Tryz.func53, Tryz.ntmps53
        go_wp2_with fail
        refine (C0.out _).mono ?_
        rintro e w1 ⟨rfl, rfl⟩
        go_wp2_with fail
        refine (C1.out _).mono ?_
        rintro e w2 ⟨rfl, g2⟩
        have X2 := Lib.hid (X0.out.gb g2)
        clear g2 a0 a1 a2 a3 a4 a5 a6
        obtain ⟨a0, a1, a2, a3, a4, a5, a6⟩ := X2.out.cells
        go_wp2_with fail
        refine (C2.out _).mono ?_
        rintro e w3 ⟨rfl, g3⟩
        have X3 := Lib.hid (X2.out.gb g3)
        clear g3 a0 a1 a2 a3 a4 a5 a6
        obtain ⟨a0, a1, a2, a3, a4, a5, a6⟩ := X3.out.cells
        go_wp2_with fail
        go_ret
        exact ⟨rfl, X3.out.gb0⟩
      | true =>
        cases hb4 : decide (p.fr ≠ p.to) with
        | false =>
          rw [hb1, Bool.true_and, hb2, Bool.true_and, hb3, Bool.true_and, hb4, Bool.false_and] at hr'
          subst hr'
          have C0 := Lib.hid (HIN.out p.id 1 9999 true hb1)
          have C1 := Lib.hid (HHS.out p.fr true hb2)
          have C2 := Lib.hid (HHS.out p.to true hb3)
          have hne : (p.fr != p.to) = false := by simpa using hb4
          obtain ⟨a0, a1, a2, a3, a4, a5, a6⟩ := X0.out.cells
          clear hr hb1 hb2 hb3 hb4
          go_enter Tryz.func53, Tryz.ntmps53
          go_wp2_with fail
          refine (C0.out _).mono ?_
          rintro e w1 ⟨rfl, rfl⟩
          go_wp2_with fail
          refine (C1.out _).mono ?_
          rintro e w2 ⟨rfl, g2⟩
          have X2 := Lib.hid (X0.out.gb g2)
          clear g2 a0 a1 a2 a3 a4 a5 a6
          obtain ⟨a0, a1, a2, a3, a4, a5, a6⟩ := X2.out.cells
          go_wp2_with fail
          refine (C2.out _).mono ?_
          rintro e w3 ⟨rfl, g3⟩
          have X3 := Lib.hid (X2.out.gb g3)
          clear g3 a0 a1 a2 a3 a4 a5 a6
          obtain ⟨a0, a1, a2, a3, a4, a5, a6⟩ := X3.out.cells
          go_wp2_with fail
          go_ret
          exact ⟨rfl, X3.out.gb0⟩
        | true =>
          cases hb5 : decide (0 ≤ p.cl ∧ p.cl ≤ 1) with
          | false =>
            rw [hb1, Bool.true_and, hb2, Bool.true_and, hb3, Bool.true_and, hb4, Bool.true_and, hb5, Bool.false_and] at hr'
            subst hr'
            have C0 := Lib.hid (HIN.out p.id 1 9999 true hb1)
            have C1 := Lib.hid (HHS.out p.fr true hb2)
            have C2 := Lib.hid (HHS.out p.to true hb3)
            have hne : (p.fr != p.to) = true := by simpa using hb4
            have C4 := Lib.hid (HIN.out p.cl 0 1 false hb5)
            obtain ⟨a0, a1, a2, a3, a4, a5, a6⟩ := X0.out.cells
            clear hr hb1 hb2 hb3 hb4 hb5
            go_enter Tryz.func53, Tryz.ntmps53
            go_wp2_with fail
            refine (C0.out _).mono ?_
            rintro e w1 ⟨rfl, rfl⟩
            go_wp2_with fail
            refine (C1.out _).mono ?_
            rintro e w2 ⟨rfl, g2⟩
            have X2 := Lib.hid (X0.out.gb g2)
            clear g2 a0 a1 a2 a3 a4 a5 a6
            obtain ⟨a0, a1, a2, a3, a4, a5, a6⟩ := X2.out.cells
            go_wp2_with fail
            refine (C2.out _).mono ?_
            rintro e w3 ⟨rfl, g3⟩
            have X3 := Lib.hid (X2.out.gb g3)
            clear g3 a0 a1 a2 a3 a4 a5 a6
            obtain ⟨a0, a1, a2, a3, a4, a5, a6⟩ := X3.out.cells
            go_wp2_with fail
            refine (C4.out _).mono ?_
            rintro e w5 ⟨rfl, rfl⟩
            go_wp2_with fail
            go_ret
            exact ⟨rfl, X3.out.gb0⟩
          | true =>
            obtain ⟨b6, hb6⟩ : ∃ b, decide (1 ≤ p.ln ∧ p.ln ≤ 5) = b := ⟨_, rfl⟩
            rw [hb1, Bool.true_and, hb2, Bool.true_and, hb3, Bool.true_and, hb4, Bool.true_and, hb5, Bool.true_and, hb6] at hr'
            subst hr'
            have C0 := Lib.hid (HIN.out p.id 1 9999 true hb1)
            have C1 := Lib.hid (HHS.out p.fr true hb2)
            have C2 := Lib.hid (HHS.out p.to true hb3)
            have hne : (p.fr != p.to) = true := by simpa using hb4
            have C4 := Lib.hid (HIN.out p.cl 0 1 true hb5)
            have C5 := Lib.hid (HIN.out p.ln 1 5 b6 hb6)
            obtain ⟨a0, a1, a2, a3, a4, a5, a6⟩ := X0.out.cells
            clear hr hb1 hb2 hb3 hb4 hb5 hb6
            go_enter Tryz.func53, Tryz.ntmps53
            go_wp2_with fail
            refine (C0.out _).mono ?_
            rintro e w1 ⟨rfl, rfl⟩
            go_wp2_with fail
            refine (C1.out _).mono ?_
            rintro e w2 ⟨rfl, g2⟩
            have X2 := Lib.hid (X0.out.gb g2)
            clear g2 a0 a1 a2 a3 a4 a5 a6
            obtain ⟨a0, a1, a2, a3, a4, a5, a6⟩ := X2.out.cells
            go_wp2_with fail
            refine (C2.out _).mono ?_
            rintro e w3 ⟨rfl, g3⟩
            have X3 := Lib.hid (X2.out.gb g3)
            clear g3 a0 a1 a2 a3 a4 a5 a6
            obtain ⟨a0, a1, a2, a3, a4, a5, a6⟩ := X3.out.cells
            go_wp2_with fail
            refine (C4.out _).mono ?_
            rintro e w5 ⟨rfl, rfl⟩
            go_wp2_with fail
            refine (C5.out _).mono ?_
            rintro e w6 ⟨rfl, rfl⟩
            go_wp2_with fail
            go_ret
            exact ⟨rfl, X3.out.gb0⟩
theorem specPacketOkV (W H : Int) (p : Pkt) (b : Bool) (h : pktOk W H p = b) (w : World) :
    Calls Tryz.prog 53 #[.agg #[.int .i64 W, .int .i64 H], pktX p] w (RetB b w) := h ▸ specPacketOk W H p w
/-- A new list of flits. -/
def NewF (D : List Flt) (w : World) (e : Ending) (w' : World) : Prop :=
  ∃ v, e = .returned v ∧ w'.ownsRow w.heap.size 95 5 v D.length (recV fltC D) ∧ Below w.heap.size w w'
def lenF : Value → Nat | .slice _ n _ => n | _ => 0

set_option maxHeartbeats 1600000 in
theorem specFlitsOf (W H : Int) (p : Pkt) (w : World) :
    Calls Tryz.prog 78 #[.agg #[.int .i64 W, .int .i64 H], pktX p] w (NewF (flitsG W H p) w) := by
  obtain ⟨i0, hi, hz0, hz1, hz2⟩ := info_parts info_flt
  have x0 := pkAt_start (W := W) (H := H) (p := p) (w := w)
  have X0 := Lib.hid (x0.gb (gb_alloc (gb_refl _ none) (.cells #[] 95)))
  have ho := World.ownsRow_made (base := w.heap.size) (e := 95) (size := 5) (pkB W H p w) #[] 0 x0.gb0.size (by decide) rfl
  have hs : (pkB W H p w).heap.size = w.heap.size + 2 := by unfold pkB; rw [alloc_size, alloc_size]
  rw [hs] at ho
  have HO0 := Lib.hid ho
  unfold pktX
  clear x0 ho hs
  cases hok : pktOk W H p with
  | false =>
    have HP := Lib.hid (fun w => specPacketOkV W H p false hok w)
    rw [flitsG_no hok]
    clear hok
    obtain ⟨a0, a1, a2, a3, a4, a5, a6⟩ := X0.out.cells
    go_enter Tryz.func78, Tryz.ntmps78
    go_wp2_with fail
    go_loopw [5, 6] (fun v i wr => v = .slice (some ⟨w.heap.size + 2, 0, none⟩) 0 0 ∧ i = .int .i64 0 ∧ wr = (pkB W H p w).alloc (.cells #[] 95)) (fun _ _ _ => 0)
    case atStart => exact ⟨rfl, rfl, rfl⟩
    case round =>
      obtain ⟨rfl, rfl, rfl⟩ := hrel
      by_cases hlt : (0 : Int) < p.ln
      · go_wp2_with fail
        refine (HP.out _).mono ?_
        rintro e w1 ⟨rfl, g1⟩
        have X1 := Lib.hid (X0.out.gb g1)
        have O1 := Lib.hid (own_none HO0.out g1)
        clear g1
        go_wp2_with fail
        go_ret
        exact ⟨_, rfl, O1.out, gb_below_none X1.out.gb0 (Nat.le_refl _)⟩
      · go_wp2_with fail
        go_ret
        exact ⟨_, rfl, HO0.out, gb_below_none X0.out.gb0 (Nat.le_refl _)⟩
  | true =>
    have HP := Lib.hid (fun w => specPacketOkV W H p true hok w)
    rw [flitsG_yes hok]
    have hln := (pktOk_iff.1 hok).2.2.2.2.2
    obtain ⟨m, hm⟩ : ∃ m : Nat, p.ln.toNat = m := ⟨_, rfl⟩
    have hmi : p.ln = (m : Int) := by omega
    have hm5 : m ≤ 5 := by omega
    have hm1 : 1 ≤ m := by omega
    have HFA := Lib.hid (fun k => show flitAt p k = ⟨p.id, p.to, p.cl, decide (k = 0), decide ((k : Int) = (m : Int) - 1)⟩ by rw [flitAt, hmi])
    rw [hm]
    obtain ⟨a0, a1, a2, a3, a4, a5, a6⟩ := X0.out.cells
    have HMI := Lib.hid hmi
    clear hok hln hm hmi
    go_enter Tryz.func78, Tryz.ntmps78
    go_wp2_with fail
    have X0' := Lib.hid (show PkAt W H p w ((pkB W H p w).alloc (.cells #[] 95)) from X0.out)
    clear a0 a1 a2 a3 a4 a5 a6
    go_loopw [5, 6] (fun v i wr => ∃ k : Nat, i = .int .i64 (k : Int) ∧ k ≤ m ∧ wr.ownsRow (w.heap.size) 95 5 v k (recV fltC (flitsTo p k)) ∧ (v.ownBlock ≠ some w.heap.size ∧ v.ownBlock ≠ some (w.heap.size + 1)) ∧ Blk wr w.heap.size 37 #[.int .i64 W, .int .i64 H] ∧ Blk wr (w.heap.size + 1) 65 #[.int .i64 p.id, .int .i64 p.fr, .int .i64 p.to, .int .i64 p.cl, .int .i64 p.ln] ∧ Below w.heap.size w wr) (fun v _ _ => 6 - lenF v)
    case atStart => exact ⟨0, rfl, Nat.zero_le _, HO0.out, ⟨by simp [Value.ownBlock] <;> omega, by simp [Value.ownBlock] <;> omega⟩, X0'.out.g, X0'.out.p, gb_below_none X0'.out.gb0 (Nat.le_refl _)⟩
    case round =>
      obtain ⟨k, rfl, hk, ho, hne, hbg, hbp, hbl⟩ := hrel
      have HO := Lib.hid ho
      have HBG := Lib.hid hbg
      have HBP := Lib.hid hbp
      have HB := Lib.hid hbl
      have HNE := Lib.hid hne
      have b0 : wr.cell? ⟨w.heap.size, 0, none⟩ = some (.int .i64 W) := hbg.cell 0
      have b1 : wr.cell? ⟨w.heap.size, 1, none⟩ = some (.int .i64 H) := hbg.cell 1
      have b2 : wr.cell? ⟨w.heap.size + 1, 0, none⟩ = some (.int .i64 p.id) := hbp.cell 0
      have b3 : wr.cell? ⟨w.heap.size + 1, 1, none⟩ = some (.int .i64 p.fr) := hbp.cell 1
      have b4 : wr.cell? ⟨w.heap.size + 1, 2, none⟩ = some (.int .i64 p.to) := hbp.cell 2
      have b5 : wr.cell? ⟨w.heap.size + 1, 3, none⟩ = some (.int .i64 p.cl) := hbp.cell 3
      have b6 : wr.cell? ⟨w.heap.size + 1, 4, none⟩ = some (.int .i64 p.ln) := hbp.cell 4
      obtain ⟨Av, cv, rfl, _⟩ := own_form ho
      have hsz := hbl.size
      have hlt2 := hbp.lt
      clear ho hne hbg hbp hbl
      by_cases hlt : k < m
      · have hl1 : (k : Int) < p.ln := by have := HMI.out; omega
        go_wp2_with fail
        refine (HP.out _).mono ?_
        rintro e w1 ⟨rfl, g1⟩
        have O1 := Lib.hid (own_none HO.out g1)
        have G1 := Lib.hid (HBG.out.grown g1 (by simp))
        have P1 := Lib.hid (HBP.out.grown g1 (by simp))
        have B1 := Lib.hid (below_gb HB.out (Nat.le_refl _) g1)
        have c2 : w1.cell? ⟨w.heap.size + 1, 0, none⟩ = some (.int .i64 p.id) := P1.out.cell 0
        have c4 : w1.cell? ⟨w.heap.size + 1, 2, none⟩ = some (.int .i64 p.to) := P1.out.cell 2
        have c5 : w1.cell? ⟨w.heap.size + 1, 3, none⟩ = some (.int .i64 p.cl) := P1.out.cell 3
        have c6 : w1.cell? ⟨w.heap.size + 1, 4, none⟩ = some (.int .i64 p.ln) := P1.out.cell 4
        have s1 := B1.out.size
        have e1 : IntKind.i64.wrap (p.ln - 1) = p.ln - 1 := IntWalk.i64_in _ (by have := HMI.out; omega)
        have u1 : ((k : Int) == 0) = decide (k = 0) := by by_cases h : k = 0 <;> simp [h]
        have u2 : ((k : Int) == p.ln - 1) = decide ((k : Int) = (m : Int) - 1) := by rw [HMI.out]; by_cases h : (k : Int) = (m : Int) - 1 <;> simp [h]
        obtain ⟨t1, ht1⟩ : ∃ t, decide (k = 0) = t := ⟨_, rfl⟩
        obtain ⟨t2, ht2⟩ : ∃ t, decide ((k : Int) = (m : Int) - 1) = t := ⟨_, rfl⟩
        rw [ht1] at u1
        rw [ht2] at u2
        have b3' := Lib.hid (show ∀ u ∈ [Value.int .i64 p.id, .int .i64 p.to, .int .i64 p.cl, .bool t1, .bool t2], u.oneCell' = true by simp [Value.oneCell'])
        have b4' := Lib.hid (show k + 1 ≤ maxLen by unfold maxLen; omega)
        have HTO := Lib.hid (show recV fltC (flitsTo p k) ++ [.int .i64 p.id, .int .i64 p.to, .int .i64 p.cl, .bool t1, .bool t2] = recV fltC (flitsTo p (k + 1)) by rw [flitsTo_next, recV_append, HFA.out, ht1, ht2]; rfl)
        have SZ := Lib.hid (show w.heap.size ≤ (w1.alloc (.cells #[.int .i64 p.id, .int .i64 p.to, .int .i64 p.cl, .bool t1, .bool t2] 95)).heap.size by rw [alloc_size]; omega)
        have W1 := Lib.hid P1.out.lt
        clear g1 b0 b1 b2 b3 b4 b5 b6 ht1 ht2
        go_wp2_with (at_builtin; refine wpList_append_own _ rfl _ _ 92 rfl w.heap.size 95 i0 (fltX flt0) 5 32 Tryz.underlying92 hi hz0 hz1 hz2 rfl (by decide) _ k _ rfl (O1.out.alloc _) ⟨w1.heap.size, 0, none⟩ 1 1 [.int .i64 p.id, .int .i64 p.to, .int .i64 p.cl, .bool t1, .bool t2] rfl rfl (World.news_of_block (cs := #[.int .i64 p.id, .int .i64 p.to, .int .i64 p.cl, .bool t1, .bool t2]) (t := 95) (fr := (0, 0)) (heap_alloc_new w1 _)) b3'.out b4'.out (by omega) SZ.out ?_; intro v' w4 hown4 hgrow4 hnb4; rw [HTO.out] at hown4; have O4 := Lib.hid hown4; have B4 := Lib.hid ((B1.out.alloc (B1.out.size) _).grown hgrow4 SZ.out (fun j hj => (O1.out.lt j hj).1)); have G4 := Lib.hid ((G1.out.alloc _).grown hgrow4 (fun e => HNE.out.1 e.symm)); have P4 := Lib.hid ((P1.out.alloc _).grown hgrow4 (fun e => HNE.out.2 e.symm)); have N4 := Lib.hid (show v'.ownBlock ≠ some w.heap.size ∧ v'.ownBlock ≠ some (w.heap.size + 1) from ⟨fun e => own_ne O4.out G4.out (by decide) e, fun e => own_ne O4.out P4.out (by decide) e⟩); obtain ⟨A4, c4', rfl, _⟩ := own_form hown4; clear hown4 hgrow4 hnb4)
        go_roundw
        case rel => exact ⟨k + 1, by go_num, by omega, O4.out, N4.out, G4.out, P4.out, B4.out⟩
        case measure => simp [lenF]; omega
      · have hkm : k = m := by omega
        have HKM := Lib.hid hkm
        have hl1 : ¬ (k : Int) < p.ln := by have := HMI.out; omega
        clear hkm
        go_wp2_with fail
        go_ret
        refine ⟨_, rfl, ?_, HB.out⟩
        have := HO.out
        rw [HKM.out] at this ⊢
        rw [flitsTo_length]
        exact this
end Go.Proofs.YtfloekbmgjmhbaaGreat
end

section
namespace Go.Proofs.YtfloekbmgjmhbaaGreat
open Go.ChangeShapes Go.WideShapes Go.ChangeAt Go.RowKit
set_option linter.unusedVariables false
set_option maxRecDepth 20000

/-- What stands still while a packet's flits are appended to its source. -/
structure Rs where
  W : Int
  H : Int
  id : Int
  f : Nat
  to : Int
  cl : Int
  ln : Int
  so : Value
  s : Nat
  g1 : Nat
  hb : Nat
  u : Value
  X : List Flt
  D : List Flt
  B : Nat
def Kc (c : Rs) (v : Value) : Nat → Prop
  | 0 => v = .pointer (some ⟨c.g1, 8, none⟩)
  | 1 => v = c.so
  | 2 => v = .pointer (some ⟨c.s + 1, 1, none⟩)
  | 3 => v = .int .i64 (c.f : Int)
  | 4 => v = .pointer (some ⟨c.g1, 8, none⟩)
  | 5 => v = c.so
  | 6 => v = .pointer (some ⟨c.s + 1, 1, none⟩)
  | 7 => v = .int .i64 (c.f : Int)
  | 8 => v = .pointer (some ⟨c.hb, c.f, none⟩)
  | 9 => v = c.u
  | 10 => v = .pointer (some ⟨c.s, 0, none⟩)
  | 11 => v = .pointer (some ⟨c.s, 0, none⟩)
  | 12 => v = .agg #[.int .i64 c.W, .int .i64 c.H]
  | 13 => v = .agg #[.int .i64 c.id, .int .i64 (c.f : Int), .int .i64 c.to, .int .i64 c.cl, .int .i64 c.ln]
  | 16 => v = .pointer (some ⟨c.hb, c.f, none⟩)
  | _ => True
structure Ss (c : Rs) (wx : World) (L : Nat → Bool) (vs : Nat → Value) (wr : World) : Prop where
  g : wx.grownBy wr c.u.ownBlock
  g0 : L 15 = false → wx.grownBy wr none
  q : ∀ k, L k = true → Kc c (vs k) k
  d : L 14 = true → L 15 = false → ∃ A d, vs 14 = .slice A c.D.length d ∧ RecAt 5 fltC wr wr.heap.size A c.D.length c.D
  a : L 15 = true → ∃ A d, vs 15 = .slice A (c.X ++ c.D).length d ∧ wr.ownsRow c.B 95 5 (.slice A (c.X ++ c.D).length d) (c.X ++ c.D).length (recV fltC (c.X ++ c.D)) ∧ ∀ b, (Value.slice A (c.X ++ c.D).length d).ownBlock = some b → c.u.ownBlock = some b ∨ wx.heap.size ≤ b
  p : L 15 = true → L 14 = true
theorem Ss.quiet {c : Rs} {wx wr : World} {L : Nat → Bool} {vs : Nat → Value} (h : Ss c wx L vs wr) {i : Nat} (hL : L i = false) (h14 : i ≠ 14) (h15 : i ≠ 15) {v : Value} (hv : Kc c v i) : Ss c wx (fun j => if j = i then true else L j) (upd vs i v) wr :=
  ⟨h.g, fun hk => h.g0 (by rw [if_neg (Ne.symm h15)] at hk; exact hk), fun k hk => by
    by_cases e : k = i
    · subst e; rw [upd_at]; exact hv
    · rw [if_neg e] at hk; rw [upd_ne _ _ e]; exact h.q k hk,
   fun hk hk2 => by
    rw [if_neg (Ne.symm h14)] at hk
    rw [if_neg (Ne.symm h15)] at hk2
    rw [upd_ne _ _ (Ne.symm h14)]
    exact h.d hk hk2,
   fun hk => by
    rw [if_neg (Ne.symm h15)] at hk
    rw [upd_ne _ _ (Ne.symm h15)]
    exact h.a hk,
   fun hk => by
    rw [if_neg (Ne.symm h15)] at hk
    rw [h.p hk]
    split <;> rfl⟩
def FRs (y z : Na) (N : Nt) (id : Int) (f : Nat) (to cl ln : Int) (w : World) (g1 : Nat) (vs : Nat → Value) : Act := ⟨#[.agg #[.int .i64 N.W, .int .i64 N.H, .slice y.br.A N.br.length y.br.c, .slice y.ta.A N.ta.length y.ta.c, .slice y.tb.A N.tb.length y.tb.c, .slice y.bu.A N.bu.length y.bu.c, .slice y.ow.A N.ow.length y.ow.c, .slice y.tu.A N.tu.length y.tu.c, .slice y.so.A N.so.length y.so.c, .slice y.ar.A N.ar.length y.ar.c, .int .i64 N.ti], .agg #[.int .i64 id, .int .i64 (f : Int), .int .i64 to, .int .i64 cl, .int .i64 ln], .pointer (some ⟨w.heap.size, 0, none⟩), .pointer (some ⟨w.heap.size + 1, 0, none⟩), .pointer (some ⟨w.heap.size + 1 + 1, 0, none⟩), .pointer (some ⟨g1, 0, none⟩), .agg #[.int .i64 N.W, .int .i64 N.H, .slice y.br.A N.br.length y.br.c, .slice y.ta.A N.ta.length y.ta.c, .slice y.tb.A N.tb.length y.tb.c, .slice y.bu.A N.bu.length y.bu.c, .slice y.ow.A N.ow.length y.ow.c, .slice y.tu.A N.tu.length y.tu.c, .slice y.so.A N.so.length y.so.c, .slice y.ar.A N.ar.length y.ar.c, .int .i64 N.ti], .agg #[.int .i64 N.W, .int .i64 N.H, .slice z.br.A N.br.length z.br.c, .slice z.ta.A N.ta.length z.ta.c, .slice z.tb.A N.tb.length z.tb.c, .slice z.bu.A N.bu.length z.bu.c, .slice z.ow.A N.ow.length z.ow.c, .slice z.tu.A N.tu.length z.tu.c, .slice z.so.A N.so.length z.so.c, .slice z.ar.A N.ar.length z.ar.c, .int .i64 N.ti], vs 0, vs 1, vs 2, vs 3, vs 4, vs 5, vs 6, vs 7, vs 8, vs 9, vs 10, vs 11, vs 12, vs 13, vs 14, vs 15, vs 16, undef], []⟩
def Is (c : Rs) (wx : World) (FR : (Nat → Value) → Act) (Lf : Nat → Bool) (a : Act) (wr : World) : Prop :=
  ((∀ k, k < 18 → Lf k = true) ∧ ∃ L2 vs w9, L2 15 = true ∧ a = FR vs ∧ Ss c wx L2 vs w9 ∧ wr = w9.setCell ⟨c.hb, c.f, none⟩ (vs 15)) ∨
  (Lf 17 = false ∧ ∃ vs, a = FR vs ∧ Ss c wx Lf vs wr)
set_option maxHeartbeats 6400000 in
theorem specL16Send (y : Na) (N : Nt) (p : Pkt) (w : World) (h : NetIn w w.heap.size y N) (hn : NetSm N) (hok : netOk N = true) (hp : pktOk N.W N.H p = true) (hcap : (srcN N p).length ≤ 1000) :
    Calls Tryz.prog 54 #[.agg #[.int .i64 N.W, .int .i64 N.H, .slice y.br.A N.br.length y.br.c, .slice y.ta.A N.ta.length y.ta.c, .slice y.tb.A N.tb.length y.tb.c, .slice y.bu.A N.bu.length y.bu.c, .slice y.ow.A N.ow.length y.ow.c, .slice y.tu.A N.tu.length y.tu.c, .slice y.so.A N.so.length y.so.c, .slice y.ar.A N.ar.length y.ar.c, .int .i64 N.ti], .agg #[.int .i64 p.id, .int .i64 p.fr, .int .i64 p.to, .int .i64 p.cl, .int .i64 p.ln]] w (NewNet (sendTo N p) w) := by
  obtain ⟨hf0, hfl, hsrc⟩ := src_there hok hp
  obtain ⟨id, fr, to, cl, ln⟩ := p
  simp only at hf0
  obtain ⟨f, rfl⟩ : ∃ f : Nat, fr = (f : Int) := ⟨fr.toNat, by omega⟩
  simp only [Int.toNat_natCast] at hfl hsrc
  obtain ⟨j0, fi, fz0, fz1, fz2⟩ := info_parts info_flt
  obtain ⟨X, hX⟩ : ∃ X, srcN N ⟨id, (f : Int), to, cl, ln⟩ = X := ⟨_, rfl⟩
  obtain ⟨D, hD⟩ : ∃ D, flitsG N.W N.H ⟨id, (f : Int), to, cl, ln⟩ = D := ⟨_, rfl⟩
  have hD5 : D.length ≤ 5 := by rw [← hD]; exact flitsG_len _ _ _
  have HFO : Hid (∀ w, Calls Tryz.prog 78 #[.agg #[.int .i64 N.W, .int .i64 N.H], .agg #[.int .i64 id, .int .i64 (f : Int), .int .i64 to, .int .i64 cl, .int .i64 ln]] w (NewF D w)) := Lib.hid (fun w => by have h := specFlitsOf N.W N.H ⟨id, (f : Int), to, cl, ln⟩ w; rw [hD] at h; exact h)
  have hST : Hid (sendTo N ⟨id, (f : Int), to, cl, ln⟩ = {N with so := N.so.set f (X ++ D)}) := Lib.hid (by rw [sendTo, hX, hD]; rfl)
  rw [hX] at hsrc hcap
  rw [hST.out]
  have k0 := ((Blk.new w 45 #[.int .i64 N.W, .int .i64 N.H, .slice y.br.A N.br.length y.br.c, .slice y.ta.A N.ta.length y.ta.c, .slice y.tb.A N.tb.length y.tb.c, .slice y.bu.A N.bu.length y.bu.c, .slice y.ow.A N.ow.length y.ow.c, .slice y.tu.A N.tu.length y.tu.c, .slice y.so.A N.so.length y.so.c, .slice y.ar.A N.ar.length y.ar.c, .int .i64 N.ti]).alloc (.cells #[.int .i64 id, .int .i64 (f : Int), .int .i64 to, .int .i64 cl, .int .i64 ln] 65)).alloc (.cells #[.int .i64 0, .int .i64 0, .slice none 0 0, .slice none 0 0, .slice none 0 0, .slice none 0 0, .slice none 0 0, .slice none 0 0, .slice none 0 0, .slice none 0 0, .int .i64 0] 45)
  have k1 := (Blk.new (w.alloc (.cells #[.int .i64 N.W, .int .i64 N.H, .slice y.br.A N.br.length y.br.c, .slice y.ta.A N.ta.length y.ta.c, .slice y.tb.A N.tb.length y.tb.c, .slice y.bu.A N.bu.length y.bu.c, .slice y.ow.A N.ow.length y.ow.c, .slice y.tu.A N.tu.length y.tu.c, .slice y.so.A N.so.length y.so.c, .slice y.ar.A N.ar.length y.ar.c, .int .i64 N.ti] 45)) 65 #[.int .i64 id, .int .i64 (f : Int), .int .i64 to, .int .i64 cl, .int .i64 ln]).alloc (.cells #[.int .i64 0, .int .i64 0, .slice none 0 0, .slice none 0 0, .slice none 0 0, .slice none 0 0, .slice none 0 0, .slice none 0 0, .slice none 0 0, .slice none 0 0, .int .i64 0] 45)
  have k2 := Blk.new ((w.alloc (.cells #[.int .i64 N.W, .int .i64 N.H, .slice y.br.A N.br.length y.br.c, .slice y.ta.A N.ta.length y.ta.c, .slice y.tb.A N.tb.length y.tb.c, .slice y.bu.A N.bu.length y.bu.c, .slice y.ow.A N.ow.length y.ow.c, .slice y.tu.A N.tu.length y.tu.c, .slice y.so.A N.so.length y.so.c, .slice y.ar.A N.ar.length y.ar.c, .int .i64 N.ti] 45)).alloc (.cells #[.int .i64 id, .int .i64 (f : Int), .int .i64 to, .int .i64 cl, .int .i64 ln] 65)) 45 #[.int .i64 0, .int .i64 0, .slice none 0 0, .slice none 0 0, .slice none 0 0, .slice none 0 0, .slice none 0 0, .slice none 0 0, .slice none 0 0, .slice none 0 0, .int .i64 0]
  have ge := gb_alloc (gb_alloc (gb_alloc (gb_refl w none) (.cells #[.int .i64 N.W, .int .i64 N.H, .slice y.br.A N.br.length y.br.c, .slice y.ta.A N.ta.length y.ta.c, .slice y.tb.A N.tb.length y.tb.c, .slice y.bu.A N.bu.length y.bu.c, .slice y.ow.A N.ow.length y.ow.c, .slice y.tu.A N.tu.length y.tu.c, .slice y.so.A N.so.length y.so.c, .slice y.ar.A N.ar.length y.ar.c, .int .i64 N.ti] 45)) (.cells #[.int .i64 id, .int .i64 (f : Int), .int .i64 to, .int .i64 cl, .int .i64 ln] 65)) (.cells #[.int .i64 0, .int .i64 0, .slice none 0 0, .slice none 0 0, .slice none 0 0, .slice none 0 0, .slice none 0 0, .slice none 0 0, .slice none 0 0, .slice none 0 0, .int .i64 0] 45)
  have hsz : (((w.alloc (.cells #[.int .i64 N.W, .int .i64 N.H, .slice y.br.A N.br.length y.br.c, .slice y.ta.A N.ta.length y.ta.c, .slice y.tb.A N.tb.length y.tb.c, .slice y.bu.A N.bu.length y.bu.c, .slice y.ow.A N.ow.length y.ow.c, .slice y.tu.A N.tu.length y.tu.c, .slice y.so.A N.so.length y.so.c, .slice y.ar.A N.ar.length y.ar.c, .int .i64 N.ti] 45)).alloc (.cells #[.int .i64 id, .int .i64 (f : Int), .int .i64 to, .int .i64 cl, .int .i64 ln] 65)).alloc (.cells #[.int .i64 0, .int .i64 0, .slice none 0 0, .slice none 0 0, .slice none 0 0, .slice none 0 0, .slice none 0 0, .slice none 0 0, .slice none 0 0, .slice none 0 0, .int .i64 0] 45)).heap.size = w.heap.size + 3 := by simp only [alloc_size]
  simp only [alloc_size] at k1 k2
  have hin := (h.none (Nat.le_refl _) ge).more ge.size
  have HCP := Lib.hid (specL15Copy y N _ hin hn)
  clear h hin hok hp hf0 hX hD
  go_enter Tryz.func54, Tryz.ntmps54
  go_wp2_with fail
  generalize ((w.alloc (.cells #[.int .i64 N.W, .int .i64 N.H, .slice y.br.A N.br.length y.br.c, .slice y.ta.A N.ta.length y.ta.c, .slice y.tb.A N.tb.length y.tb.c, .slice y.bu.A N.bu.length y.bu.c, .slice y.ow.A N.ow.length y.ow.c, .slice y.tu.A N.tu.length y.tu.c, .slice y.so.A N.so.length y.so.c, .slice y.ar.A N.ar.length y.ar.c, .int .i64 N.ti] 45)).alloc (.cells #[.int .i64 id, .int .i64 (f : Int), .int .i64 to, .int .i64 cl, .int .i64 ln] 65)).alloc (.cells #[.int .i64 0, .int .i64 0, .slice none 0 0, .slice none 0 0, .slice none 0 0, .slice none 0 0, .slice none 0 0, .slice none 0 0, .slice none 0 0, .slice none 0 0, .int .i64 0] 45) = w0 at *
  refine HCP.out.mono ?_
  rintro e w1 ⟨z, rfl, o1, b1⟩
  go_wp2_with fail
  obtain ⟨vb, vs0, va, hr⟩ := o1
  obtain ⟨g1, hg1⟩ : ∃ g, w1.heap.size = g := ⟨_, rfl⟩
  have hsw1 : w.heap.size + 3 ≤ w1.heap.size := by have h1 := b1.size; omega
  have hr1 := hr.gb (gb_alloc (gb_refl w1 none) (.cells #[.int .i64 N.W, .int .i64 N.H, .slice z.br.A N.br.length z.br.c, .slice z.ta.A N.ta.length z.ta.c, .slice z.tb.A N.tb.length z.tb.c, .slice z.bu.A N.bu.length z.bu.c, .slice z.ow.A N.ow.length z.ow.c, .slice z.tu.A N.tu.length z.tu.c, .slice z.so.A N.so.length z.so.c, .slice z.ar.A N.ar.length z.ar.c, .int .i64 N.ti] 45))
  have ka := (k0.below b1 (by omega)).alloc (.cells #[.int .i64 N.W, .int .i64 N.H, .slice z.br.A N.br.length z.br.c, .slice z.ta.A N.ta.length z.ta.c, .slice z.tb.A N.tb.length z.tb.c, .slice z.bu.A N.bu.length z.bu.c, .slice z.ow.A N.ow.length z.ow.c, .slice z.tu.A N.tu.length z.tu.c, .slice z.so.A N.so.length z.so.c, .slice z.ar.A N.ar.length z.ar.c, .int .i64 N.ti] 45)
  have kb := (k1.below b1 (by omega)).alloc (.cells #[.int .i64 N.W, .int .i64 N.H, .slice z.br.A N.br.length z.br.c, .slice z.ta.A N.ta.length z.ta.c, .slice z.tb.A N.tb.length z.tb.c, .slice z.bu.A N.bu.length z.bu.c, .slice z.ow.A N.ow.length z.ow.c, .slice z.tu.A N.tu.length z.tu.c, .slice z.so.A N.so.length z.so.c, .slice z.ar.A N.ar.length z.ar.c, .int .i64 N.ti] 45)
  have kc := (k2.below b1 (by omega)).alloc (.cells #[.int .i64 N.W, .int .i64 N.H, .slice z.br.A N.br.length z.br.c, .slice z.ta.A N.ta.length z.ta.c, .slice z.tb.A N.tb.length z.tb.c, .slice z.bu.A N.bu.length z.bu.c, .slice z.ow.A N.ow.length z.ow.c, .slice z.tu.A N.tu.length z.tu.c, .slice z.so.A N.so.length z.so.c, .slice z.ar.A N.ar.length z.ar.c, .int .i64 N.ti] 45)
  have kd := Blk.new w1 45 #[.int .i64 N.W, .int .i64 N.H, .slice z.br.A N.br.length z.br.c, .slice z.ta.A N.ta.length z.ta.c, .slice z.tb.A N.tb.length z.tb.c, .slice z.bu.A N.bu.length z.bu.c, .slice z.ow.A N.ow.length z.ow.c, .slice z.tu.A N.tu.length z.tu.c, .slice z.so.A N.so.length z.so.c, .slice z.ar.A N.ar.length z.ar.c, .int .i64 N.ti]
  have hgx := gb_alloc (gb_trans ge (gb_of_below b1 none)) (.cells #[.int .i64 N.W, .int .i64 N.H, .slice z.br.A N.br.length z.br.c, .slice z.ta.A N.ta.length z.ta.c, .slice z.tb.A N.tb.length z.tb.c, .slice z.bu.A N.bu.length z.bu.c, .slice z.ow.A N.ow.length z.ow.c, .slice z.tu.A N.tu.length z.tu.c, .slice z.so.A N.so.length z.so.c, .slice z.ar.A N.ar.length z.ar.c, .int .i64 N.ti] 45)
  have hsx : (w1.alloc (.cells #[.int .i64 N.W, .int .i64 N.H, .slice z.br.A N.br.length z.br.c, .slice z.ta.A N.ta.length z.ta.c, .slice z.tb.A N.tb.length z.tb.c, .slice z.bu.A N.bu.length z.bu.c, .slice z.ow.A N.ow.length z.ow.c, .slice z.tu.A N.tu.length z.tu.c, .slice z.so.A N.so.length z.so.c, .slice z.ar.A N.ar.length z.ar.c, .int .i64 N.ti] 45)).heap.size = w1.heap.size + 1 := by rw [alloc_size]
  rw [hg1] at kd hsx hsw1
  have hub := hr1.ub
  rw [hg1] at hr1 hub
  rw [hg1]
  generalize w1.alloc (.cells #[.int .i64 N.W, .int .i64 N.H, .slice z.br.A N.br.length z.br.c, .slice z.ta.A N.ta.length z.ta.c, .slice z.tb.A N.tb.length z.tb.c, .slice z.bu.A N.bu.length z.bu.c, .slice z.ow.A N.ow.length z.ow.c, .slice z.tu.A N.tu.length z.tu.c, .slice z.so.A N.so.length z.so.c, .slice z.ar.A N.ar.length z.ar.c, .int .i64 N.ti] 45) = wx at *
  have hB : w0.heap.size = w.heap.size + 3 := hsz
  rw [hB] at hr1
  -- the source's row and the header
  have hlsf : f < vs0.length := by rw [hr1.ls]; exact hfl
  obtain ⟨u, hu⟩ : ∃ u, vs0[f]? = some u := ⟨_, List.getElem?_eq_getElem hlsf⟩
  have hou := hr1.so.fam.row f u X hu hsrc
  obtain ⟨Au, cu, rfl, _⟩ := own_form hou
  obtain ⟨A0, c0, hsl, hA0⟩ := own_form hr1.so.hd
  obtain ⟨hb, hhb⟩ := hA0 (by omega)
  have hzA : z.so.A = some ⟨hb, 0, none⟩ := by injection hsl with h1 h2 h3; rw [h1, hhb]
  have hhd := hr1.so.hd
  rw [hzA] at hhd
  have hel := hhd.cellAt f (by rw [Nat.mul_one]; exact hfl)
  rw [hu] at hel
  have hfz := hhd.frozenAt f
  have nty : (Value.slice Au X.length cu).ownBlock ≠ some hb := fun e => own_typesG hou hhd (by decide) e rfl
  have nlt : ∀ b, (Value.slice Au X.length cu).ownBlock = some b → w.heap.size + 3 ≤ b ∧ b < g1 := fun b e => ⟨(hou.lt b e).1, hub _ (.inr (.inr (by have := List.mem_of_getElem? hu; simp [this]))) b e⟩
  have HBL := Lib.hid (show w.heap.size + 3 ≤ hb ∧ hb < g1 from ⟨(hhd.lt hb rfl).1, hub _ (.inr (.inl (List.mem_of_getElem? (i := 1) (l := hdsOf z N) rfl))) hb (by rw [hzA]; rfl)⟩)
  have OU := Lib.hid hou
  have NTY := Lib.hid nty
  have NLT := Lib.hid nlt
  have HD := Lib.hid hhd
  have HR := Lib.hid hr1
  have HU := Lib.hid hu
  have HZA := Lib.hid hzA
  have HX9 := Lib.hid hcap
  have KA := Lib.hid ka
  have KB := Lib.hid kb
  have KC := Lib.hid kc
  have KD := Lib.hid kd
  have HGX := Lib.hid hgx
  have HSX := Lib.hid (And.intro hsx hsw1)
  have CB := Lib.hid (show ∀ wr, wx.grownBy wr (Value.slice Au X.length cu).ownBlock → wr.cell? ⟨w.heap.size, 0, none⟩ = some (.int .i64 N.W) ∧ wr.cell? ⟨w.heap.size, 1, none⟩ = some (.int .i64 N.H) ∧ wr.cell? ⟨w.heap.size + 1, 0, none⟩ = some (.int .i64 id) ∧ wr.cell? ⟨w.heap.size + 1, 1, none⟩ = some (.int .i64 (f : Int)) ∧ wr.cell? ⟨w.heap.size + 1, 2, none⟩ = some (.int .i64 to) ∧ wr.cell? ⟨w.heap.size + 1, 3, none⟩ = some (.int .i64 cl) ∧ wr.cell? ⟨w.heap.size + 1, 4, none⟩ = some (.int .i64 ln) ∧ wr.cell? ⟨g1, 8, none⟩ = some (.slice z.so.A N.so.length z.so.c) ∧ wr.cell? ⟨hb, f, none⟩ = some (.slice Au X.length cu) ∧ wr.frozen? ⟨hb, f, none⟩ = false from fun wr hg => by
    have ga := KA.out.grown hg (fun e => by have h1 := (NLT.out _ e.symm).1; omega)
    have gb := KB.out.grown hg (fun e => by have h1 := (NLT.out _ e.symm).1; omega)
    have gd := KD.out.grown hg (fun e => by have h1 := (NLT.out _ e.symm).2; omega)
    have gh := row_keptR HD.out hg (fun j e1 e2 => by cases e2; exact NTY.out e1)
    have ge := gh.cellAt f (by rw [Nat.mul_one]; exact hfl)
    rw [HU.out] at ge
    exact ⟨ga.cell 0, ga.cell 1, gb.cell 0, gb.cell 1, gb.cell 2, gb.cell 3, gb.cell 4, gd.cell 8, ge, gh.frozenAt f⟩)
  clear hzA hr hr1 ka kb kc kd hgx hsx ge hub hB hlsf hu hou hsl hA0 hhb hhd hel hfz nty nlt hg1 k0 k1 k2 b1 hsz hcap
  refine region_inv (by kernel_rfl) (by kernel_rfl) (Is ⟨N.W, N.H, id, f, to, cl, ln, .slice z.so.A N.so.length z.so.c, w.heap.size, g1, hb, .slice Au X.length cu, X, D, w.heap.size + 3⟩ wx (FRs y z N id f to cl ln w g1)) (.inr ⟨rfl, fun _ => undef, rfl, ⟨⟨rfl, rfl, rfl, Nat.le_refl _, fun _ _ _ => rfl⟩, fun _ => ⟨rfl, rfl, rfl, Nat.le_refl _, fun _ _ _ => rfl⟩, fun k hk => (by cases hk), fun hk => (by cases hk), fun hk => (by cases hk), fun hk => (by cases hk)⟩⟩) ?_ ?_
  · intro Lf a wr hI i o ho hLi he K' hK
    rcases hI with ⟨hall, _⟩ | ⟨h17, vs, rfl, hS⟩
    · have h18 := (Array.getElem?_eq_some_iff.1 ho).1
      rw [hall i h18] at hLi
      cases hLi
    · have h18 : i < 18 := (Array.getElem?_eq_some_iff.1 ho).1
      obtain ⟨m0, m1, m2, m3, m4, m5, m6, m7, m8, m9⟩ := CB.out wr hS.g
      have f0 : (0 : Int) ≤ (f : Int) := by omega
      have f1 : (f : Int) < (N.so.length : Int) := by omega
      have hzA := HZA.out
      have hc18 : i = 0 ∨ i = 1 ∨ i = 2 ∨ i = 3 ∨ i = 4 ∨ i = 5 ∨ i = 6 ∨ i = 7 ∨ i = 8 ∨ i = 9 ∨ i = 10 ∨ i = 11 ∨ i = 12 ∨ i = 13 ∨ i = 14 ∨ i = 15 ∨ i = 16 ∨ i = 17 := by omega
      rcases hc18 with rfl | rfl | rfl | rfl | rfl | rfl | rfl | rfl | rfl | rfl | rfl | rfl | rfl | rfl | rfl | rfl | rfl | rfl
      all_goals (simp only [List.getElem?_toArray, List.getElem?_cons_zero, List.getElem?_cons_succ, Option.some.injEq] at ho; subst ho)
      · skip
        clear hzA
        simp only [FRs] at *
        go_simp
        exact hK.out _ _ (.inr ⟨(by simpa using h17), upd vs 0 (.pointer (some ⟨g1, 8, none⟩)), rfl, hS.quiet hLi (by decide) (by decide) rfl⟩)
      · have v0 : vs 0 = .pointer (some ⟨g1, 8, none⟩) := hS.q 0 (he ⟨0, .data⟩ (by simp) rfl)
        clear hzA
        simp only [FRs] at *
        go_simp
        exact hK.out _ _ (.inr ⟨(by simpa using h17), upd vs 1 (.slice z.so.A N.so.length z.so.c), (by simp [FRs, upd, v0]), hS.quiet hLi (by decide) (by decide) rfl⟩)
      · skip
        clear hzA
        simp only [FRs] at *
        go_simp
        exact hK.out _ _ (.inr ⟨(by simpa using h17), upd vs 2 (.pointer (some ⟨w.heap.size + 1, 1, none⟩)), rfl, hS.quiet hLi (by decide) (by decide) rfl⟩)
      · have v2 : vs 2 = .pointer (some ⟨w.heap.size + 1, 1, none⟩) := hS.q 2 (he ⟨2, .data⟩ (by simp) rfl)
        clear hzA
        simp only [FRs] at *
        go_simp
        exact hK.out _ _ (.inr ⟨(by simpa using h17), upd vs 3 (.int .i64 (f : Int)), (by simp [FRs, upd, v2]), hS.quiet hLi (by decide) (by decide) rfl⟩)
      · skip
        clear hzA
        simp only [FRs] at *
        go_simp
        exact hK.out _ _ (.inr ⟨(by simpa using h17), upd vs 4 (.pointer (some ⟨g1, 8, none⟩)), rfl, hS.quiet hLi (by decide) (by decide) rfl⟩)
      · have v4 : vs 4 = .pointer (some ⟨g1, 8, none⟩) := hS.q 4 (he ⟨4, .data⟩ (by simp) rfl)
        clear hzA
        simp only [FRs] at *
        go_simp
        exact hK.out _ _ (.inr ⟨(by simpa using h17), upd vs 5 (.slice z.so.A N.so.length z.so.c), (by simp [FRs, upd, v4]), hS.quiet hLi (by decide) (by decide) rfl⟩)
      · skip
        clear hzA
        simp only [FRs] at *
        go_simp
        exact hK.out _ _ (.inr ⟨(by simpa using h17), upd vs 6 (.pointer (some ⟨w.heap.size + 1, 1, none⟩)), rfl, hS.quiet hLi (by decide) (by decide) rfl⟩)
      · have v6 : vs 6 = .pointer (some ⟨w.heap.size + 1, 1, none⟩) := hS.q 6 (he ⟨6, .data⟩ (by simp) rfl)
        clear hzA
        simp only [FRs] at *
        go_simp
        exact hK.out _ _ (.inr ⟨(by simpa using h17), upd vs 7 (.int .i64 (f : Int)), (by simp [FRs, upd, v6]), hS.quiet hLi (by decide) (by decide) rfl⟩)
      · have v5 : vs 5 = .slice z.so.A N.so.length z.so.c := hS.q 5 (he ⟨5, .data⟩ (by simp) rfl)
        have v7 : vs 7 = .int .i64 (f : Int) := hS.q 7 (he ⟨7, .data⟩ (by simp) rfl)
        (try rw [hzA] at v5)
        skip
        simp only [FRs] at *
        go_simp
        exact hK.out _ _ (.inr ⟨(by simpa using h17), upd vs 8 (.pointer (some ⟨hb, f, none⟩)), (by simp [FRs, upd, v5, v7, hzA]), hS.quiet hLi (by decide) (by decide) rfl⟩)
      · have v8 : vs 8 = .pointer (some ⟨hb, f, none⟩) := hS.q 8 (he ⟨8, .data⟩ (by simp) rfl)
        clear hzA
        simp only [FRs] at *
        go_simp
        exact hK.out _ _ (.inr ⟨(by simpa using h17), upd vs 9 (.slice Au X.length cu), (by simp [FRs, upd, v8]), hS.quiet hLi (by decide) (by decide) rfl⟩)
      · skip
        clear hzA
        simp only [FRs] at *
        go_simp
        exact hK.out _ _ (.inr ⟨(by simpa using h17), upd vs 10 (.pointer (some ⟨w.heap.size, 0, none⟩)), rfl, hS.quiet hLi (by decide) (by decide) rfl⟩)
      · have v10 : vs 10 = .pointer (some ⟨w.heap.size, 0, none⟩) := hS.q 10 (he ⟨10, .data⟩ (by simp) rfl)
        clear hzA
        simp only [FRs] at *
        go_simp
        exact hK.out _ _ (.inr ⟨(by simpa using h17), upd vs 11 (.pointer (some ⟨w.heap.size, 0, none⟩)), (by simp [FRs, upd, v10]), hS.quiet hLi (by decide) (by decide) rfl⟩)
      · have v11 : vs 11 = .pointer (some ⟨w.heap.size, 0, none⟩) := hS.q 11 (he ⟨11, .data⟩ (by simp) rfl)
        clear hzA
        simp only [FRs] at *
        go_simp
        exact hK.out _ _ (.inr ⟨(by simpa using h17), upd vs 12 (.agg #[.int .i64 N.W, .int .i64 N.H]), (by simp [FRs, upd, v11]), hS.quiet hLi (by decide) (by decide) rfl⟩)
      · skip
        clear hzA
        simp only [FRs] at *
        go_simp
        exact hK.out _ _ (.inr ⟨(by simpa using h17), upd vs 13 (.agg #[.int .i64 id, .int .i64 (f : Int), .int .i64 to, .int .i64 cl, .int .i64 ln]), rfl, hS.quiet hLi (by decide) (by decide) rfl⟩)
      · have v12 : vs 12 = .agg #[.int .i64 N.W, .int .i64 N.H] := hS.q 12 (he ⟨12, .data⟩ (by simp) rfl)
        have v13 : vs 13 = .agg #[.int .i64 id, .int .i64 (f : Int), .int .i64 to, .int .i64 cl, .int .i64 ln] := hS.q 13 (he ⟨13, .data⟩ (by simp) rfl)
        have hL15 : Lf 15 = false := by
          cases hc : Lf 15 with
          | false => rfl
          | true => rw [hS.p hc] at hLi; cases hLi
        clear hzA
        simp only [FRs] at *
        go_simp
        refine (HFO.out wr).mono ?_
        rintro e w' ⟨v, rfl, o, b⟩
        obtain ⟨A1, d1, rfl, _⟩ := own_form o
        exact hK.out _ _ (.inr ⟨(by simpa using h17), upd vs 14 (.slice A1 D.length d1), by simp [FRs, upd, v12, v13], ⟨gb_trans hS.g (gb_of_below b _), fun _ => gb_trans (hS.g0 hL15) (gb_of_below b none), fun k hk => by
          by_cases e : k = 14
          · subst e; exact trivial
          · rw [if_neg e] at hk; rw [upd_ne _ _ e]; exact hS.q k hk,
          fun _ _ => ⟨A1, d1, upd_at _ _ _, recAt_own fltL (by decide) o (Nat.le_refl _)⟩, fun hk => (by rw [if_neg (by decide), hL15] at hk; cases hk), fun _ => if_pos rfl⟩⟩)
      · skip
        have v9 : vs 9 = .slice Au X.length cu := hS.q 9 (he ⟨9, .data⟩ (by simp) rfl)
        obtain ⟨A1, d1, v14, r14⟩ := hS.d (he ⟨14, .data⟩ (by simp) rfl) hLi
        have g0 := hS.g0 hLi
        have ou := own_none OU.out g0
        refine step_app_atR fltL (by decide) Tryz.underlying92 wr rfl (.tmp 17) (.tmp 22) rfl j0 fi fz0 fz1 fz2 rfl (by decide) (w.heap.size + 3) X.length D.length d1 wr.heap.size A1 X D (.slice Au X.length cu) v9 v14 ou r14 (by have h1 := HX9.out; omega) (by have h1 := g0.size; have h2 := HSX.out; omega) ?_
        intro v' w' o g hat
        obtain ⟨A2, d2, rfl, _⟩ := own_form o
        have hlen : X.length + D.length = (X ++ D).length := by simp
        rw [hlen] at o hat
        exact hK.out _ _ (.inr ⟨(by simpa using h17), upd vs 15 (.slice A2 (X ++ D).length d2), by simp [FRs, upd, Act.put], ⟨gb_trans hS.g g, fun hk => (by rw [if_pos rfl] at hk; cases hk), fun k hk => by
          by_cases e : k = 15
          · subst e; exact trivial
          · rw [if_neg e] at hk; rw [upd_ne _ _ e]; exact hS.q k hk,
          fun _ hk => (by rw [if_pos rfl] at hk; cases hk),
          fun _ => ⟨A2, d2, upd_at _ _ _, o, fun b hb => by
            rcases hat b hb with h1 | h1
            · exact .inl h1
            · right; have h2 := g0.size; omega⟩, fun _ => (by rw [if_neg (by decide)]; exact (he ⟨14, .data⟩ (by simp) rfl))⟩⟩)
      · have v1 : vs 1 = .slice z.so.A N.so.length z.so.c := hS.q 1 (he ⟨1, .data⟩ (by simp) rfl)
        have v3 : vs 3 = .int .i64 (f : Int) := hS.q 3 (he ⟨3, .data⟩ (by simp) rfl)
        (try rw [hzA] at v1)
        skip
        simp only [FRs] at *
        go_simp
        exact hK.out _ _ (.inr ⟨(by simpa using h17), upd vs 16 (.pointer (some ⟨hb, f, none⟩)), (by simp [FRs, upd, v1, v3, hzA]), hS.quiet hLi (by decide) (by decide) rfl⟩)
      · skip
        have p0 := (he ⟨0, .phase⟩ (by simp) rfl)
        have p1 := (he ⟨1, .phase⟩ (by simp) rfl)
        have p2 := (he ⟨2, .phase⟩ (by simp) rfl)
        have p3 := (he ⟨3, .phase⟩ (by simp) rfl)
        have p4 := (he ⟨4, .phase⟩ (by simp) rfl)
        have p5 := (he ⟨5, .phase⟩ (by simp) rfl)
        have p6 := (he ⟨6, .phase⟩ (by simp) rfl)
        have p7 := (he ⟨7, .phase⟩ (by simp) rfl)
        have p8 := (he ⟨8, .phase⟩ (by simp) rfl)
        have p9 := (he ⟨9, .phase⟩ (by simp) rfl)
        have p10 := (he ⟨10, .phase⟩ (by simp) rfl)
        have p11 := (he ⟨11, .phase⟩ (by simp) rfl)
        have p12 := (he ⟨12, .phase⟩ (by simp) rfl)
        have p13 := (he ⟨13, .phase⟩ (by simp) rfl)
        have p14 := (he ⟨14, .phase⟩ (by simp) rfl)
        have p15 := (he ⟨15, .phase⟩ (by simp) rfl)
        have p16 := (he ⟨16, .data⟩ (by simp) rfl)
        have hall : ∀ k, k < 17 → Lf k = true := fun k hk => by
          have hk17 : k = 0 ∨ k = 1 ∨ k = 2 ∨ k = 3 ∨ k = 4 ∨ k = 5 ∨ k = 6 ∨ k = 7 ∨ k = 8 ∨ k = 9 ∨ k = 10 ∨ k = 11 ∨ k = 12 ∨ k = 13 ∨ k = 14 ∨ k = 15 ∨ k = 16 := by omega
          rcases hk17 with rfl | rfl | rfl | rfl | rfl | rfl | rfl | rfl | rfl | rfl | rfl | rfl | rfl | rfl | rfl | rfl | rfl <;> assumption
        have v16 : vs 16 = .pointer (some ⟨hb, f, none⟩) := hS.q 16 p16
        obtain ⟨A2, d2, v15, o15, h15⟩ := hS.a p15
        have HSS := Lib.hid hS
        have HP := Lib.hid p15
        have V15 := Lib.hid v15
        clear hzA o15 h15 p0 p1 p2 p3 p4 p5 p6 p7 p8 p9 p10 p11 p12 p13 p14 p15 p16
        simp only [FRs] at *
        go_simp
        exact hK.out _ _ (.inl ⟨fun k hk => by show (if k = 17 then true else Lf k) = true; split; rfl; exact hall k (by omega), Lf, vs, wr, HP.out, by simp [FRs, v15, v16], HSS.out, by rw [V15.out]; simp⟩)
  · intro Lf a wo hI hall
    rcases hI with ⟨_, L2, vs, w9, h15, rfl, hS, rfl⟩ | ⟨h17, _⟩
    · obtain ⟨A2, d2, v15, o15, p15⟩ := hS.a h15
      obtain ⟨hrow, hgs⟩ := HR.out.putSo (i := f) (g := hb) (v' := .slice A2 (X ++ D).length d2) (D' := X ++ D) HU.out HZA.out hS.g o15 (fun k hk => p15 k hk)
      have HGS := Lib.hid hgs
      have HN := Lib.hid (show NetOwn (w9.setCell ⟨hb, f, none⟩ (.slice A2 (X ++ D).length d2)) (w.heap.size + 3) (w9.setCell ⟨hb, f, none⟩ (.slice A2 (X ++ D).length d2)).heap.size z {N with so := N.so.set f (X ++ D)} from ⟨_, _, _, hrow⟩)
      have hbl := HBL.out
      have hsx := HSX.out
      have BW := Lib.hid (((gb_below_none HGX.out (Nat.le_refl _)).grown hS.g HGX.out.size (fun j e => by have h1 := (NLT.out j e).1; omega)).grown hgs (by have h1 := HGX.out.size; have h2 := hS.g.size; omega) (fun j e => by cases e; omega))
      have kg := (KD.out.grown hS.g (fun e => by have h1 := (NLT.out _ e.symm).2; omega)).grown hgs (by intro e; cases e; omega)
      have kr := (KC.out.grown hS.g (fun e => by have h1 := (NLT.out _ e.symm).1; omega)).grown hgs (by intro e; cases e; omega)
      have hwl := hS.g.size
      have S9 := Lib.hid (show w.heap.size + 3 ≤ (w9.setCell ⟨hb, f, none⟩ (.slice A2 (X ++ D).length d2)).heap.size by have h1 := hgs.size; omega)
      rw [v15]
      rw [show (⟨N.W, N.H, id, f, to, cl, ln, .slice z.so.A N.so.length z.so.c, w.heap.size, g1, hb, .slice Au X.length cu, X, D, w.heap.size + 3⟩ : Rs).hb = hb from rfl, show (⟨N.W, N.H, id, f, to, cl, ln, .slice z.so.A N.so.length z.so.c, w.heap.size, g1, hb, .slice Au X.length cu, X, D, w.heap.size + 3⟩ : Rs).f = f from rfl]
      generalize w9.setCell ⟨hb, f, none⟩ (.slice A2 (X ++ D).length d2) = wq at *
      have KR := Lib.hid kr
      simp only [FRs]
      have a0 : wq.cell? ⟨g1, 0, none⟩ = some (.int .i64 N.W) := kg.cell 0
      have a1 : wq.cell? ⟨g1, 1, none⟩ = some (.int .i64 N.H) := kg.cell 1
      have a2 : wq.cell? ⟨g1, 2, none⟩ = some (.slice z.br.A N.br.length z.br.c) := kg.cell 2
      have a3 : wq.cell? ⟨g1, 3, none⟩ = some (.slice z.ta.A N.ta.length z.ta.c) := kg.cell 3
      have a4 : wq.cell? ⟨g1, 4, none⟩ = some (.slice z.tb.A N.tb.length z.tb.c) := kg.cell 4
      have a5 : wq.cell? ⟨g1, 5, none⟩ = some (.slice z.bu.A N.bu.length z.bu.c) := kg.cell 5
      have a6 : wq.cell? ⟨g1, 6, none⟩ = some (.slice z.ow.A N.ow.length z.ow.c) := kg.cell 6
      have a7 : wq.cell? ⟨g1, 7, none⟩ = some (.slice z.tu.A N.tu.length z.tu.c) := kg.cell 7
      have a8 : wq.cell? ⟨g1, 8, none⟩ = some (.slice z.so.A N.so.length z.so.c) := kg.cell 8
      have a9 : wq.cell? ⟨g1, 9, none⟩ = some (.slice z.ar.A N.ar.length z.ar.c) := kg.cell 9
      have a10 : wq.cell? ⟨g1, 10, none⟩ = some (.int .i64 N.ti) := kg.cell 10
      have b0 : wq.cell? ⟨w.heap.size + 1 + 1, 0, none⟩ = some (.int .i64 0) := kr.cell 0
      have x0 := kr.frozen 0
      have b1 : wq.cell? ⟨w.heap.size + 1 + 1, 1, none⟩ = some (.int .i64 0) := kr.cell 1
      have x1 := kr.frozen 1
      have b2 : wq.cell? ⟨w.heap.size + 1 + 1, 2, none⟩ = some (.slice none 0 0) := kr.cell 2
      have x2 := kr.frozen 2
      have b3 : wq.cell? ⟨w.heap.size + 1 + 1, 3, none⟩ = some (.slice none 0 0) := kr.cell 3
      have x3 := kr.frozen 3
      have b4 : wq.cell? ⟨w.heap.size + 1 + 1, 4, none⟩ = some (.slice none 0 0) := kr.cell 4
      have x4 := kr.frozen 4
      have b5 : wq.cell? ⟨w.heap.size + 1 + 1, 5, none⟩ = some (.slice none 0 0) := kr.cell 5
      have x5 := kr.frozen 5
      have b6 : wq.cell? ⟨w.heap.size + 1 + 1, 6, none⟩ = some (.slice none 0 0) := kr.cell 6
      have x6 := kr.frozen 6
      have b7 : wq.cell? ⟨w.heap.size + 1 + 1, 7, none⟩ = some (.slice none 0 0) := kr.cell 7
      have x7 := kr.frozen 7
      have b8 : wq.cell? ⟨w.heap.size + 1 + 1, 8, none⟩ = some (.slice none 0 0) := kr.cell 8
      have x8 := kr.frozen 8
      have b9 : wq.cell? ⟨w.heap.size + 1 + 1, 9, none⟩ = some (.slice none 0 0) := kr.cell 9
      have x9 := kr.frozen 9
      have b10 : wq.cell? ⟨w.heap.size + 1 + 1, 10, none⟩ = some (.int .i64 0) := kr.cell 10
      have x10 := kr.frozen 10
      have ng1 : ¬ w.heap.size + 1 + 1 = g1 := by omega
      have ng2 : ¬ g1 = w.heap.size + 1 + 1 := by omega
      clear hS hrow hgs o15 p15 v15 kg kr h15 hall hbl hsx hwl
      go_wp2_with fail
      have kf : Blk (((((((((((wq.setCell ⟨w.heap.size + 1 + 1, 0, none⟩ (.int .i64 N.W)).setCell ⟨w.heap.size + 1 + 1, 1, none⟩ (.int .i64 N.H)).setCell ⟨w.heap.size + 1 + 1, 2, none⟩ (.slice z.br.A N.br.length z.br.c)).setCell ⟨w.heap.size + 1 + 1, 3, none⟩ (.slice z.ta.A N.ta.length z.ta.c)).setCell ⟨w.heap.size + 1 + 1, 4, none⟩ (.slice z.tb.A N.tb.length z.tb.c)).setCell ⟨w.heap.size + 1 + 1, 5, none⟩ (.slice z.bu.A N.bu.length z.bu.c)).setCell ⟨w.heap.size + 1 + 1, 6, none⟩ (.slice z.ow.A N.ow.length z.ow.c)).setCell ⟨w.heap.size + 1 + 1, 7, none⟩ (.slice z.tu.A N.tu.length z.tu.c)).setCell ⟨w.heap.size + 1 + 1, 8, none⟩ (.slice z.so.A N.so.length z.so.c)).setCell ⟨w.heap.size + 1 + 1, 9, none⟩ (.slice z.ar.A N.ar.length z.ar.c)).setCell ⟨w.heap.size + 1 + 1, 10, none⟩ (.int .i64 N.ti)) (w.heap.size + 1 + 1) 45 #[.int .i64 N.W, .int .i64 N.H, .slice z.br.A N.br.length z.br.c, .slice z.ta.A N.ta.length z.ta.c, .slice z.tb.A N.tb.length z.tb.c, .slice z.bu.A N.bu.length z.bu.c, .slice z.ow.A N.ow.length z.ow.c, .slice z.tu.A N.tu.length z.tu.c, .slice z.so.A N.so.length z.so.c, .slice z.ar.A N.ar.length z.ar.c, .int .i64 N.ti] := by
        have hz := (((((((((((KR.out.set_ 0 (.int .i64 N.W)).set_ 1 (.int .i64 N.H)).set_ 2 (.slice z.br.A N.br.length z.br.c)).set_ 3 (.slice z.ta.A N.ta.length z.ta.c)).set_ 4 (.slice z.tb.A N.tb.length z.tb.c)).set_ 5 (.slice z.bu.A N.bu.length z.bu.c)).set_ 6 (.slice z.ow.A N.ow.length z.ow.c)).set_ 7 (.slice z.tu.A N.tu.length z.tu.c)).set_ 8 (.slice z.so.A N.so.length z.so.c)).set_ 9 (.slice z.ar.A N.ar.length z.ar.c)).set_ 10 (.int .i64 N.ti))
        simpa using hz
      have qz : Chg (w.heap.size + 1 + 1) (w.heap.size + 1 + 1 + 1) wq (((((((((((wq.setCell ⟨w.heap.size + 1 + 1, 0, none⟩ (.int .i64 N.W)).setCell ⟨w.heap.size + 1 + 1, 1, none⟩ (.int .i64 N.H)).setCell ⟨w.heap.size + 1 + 1, 2, none⟩ (.slice z.br.A N.br.length z.br.c)).setCell ⟨w.heap.size + 1 + 1, 3, none⟩ (.slice z.ta.A N.ta.length z.ta.c)).setCell ⟨w.heap.size + 1 + 1, 4, none⟩ (.slice z.tb.A N.tb.length z.tb.c)).setCell ⟨w.heap.size + 1 + 1, 5, none⟩ (.slice z.bu.A N.bu.length z.bu.c)).setCell ⟨w.heap.size + 1 + 1, 6, none⟩ (.slice z.ow.A N.ow.length z.ow.c)).setCell ⟨w.heap.size + 1 + 1, 7, none⟩ (.slice z.tu.A N.tu.length z.tu.c)).setCell ⟨w.heap.size + 1 + 1, 8, none⟩ (.slice z.so.A N.so.length z.so.c)).setCell ⟨w.heap.size + 1 + 1, 9, none⟩ (.slice z.ar.A N.ar.length z.ar.c)).setCell ⟨w.heap.size + 1 + 1, 10, none⟩ (.int .i64 N.ti)) := (((((((((((st_in _ _ _ _).sx _ _).sx _ _).sx _ _).sx _ _).sx _ _).sx _ _).sx _ _).sx _ _).sx _ _).sx _ _)
      generalize (((((((((((wq.setCell ⟨w.heap.size + 1 + 1, 0, none⟩ (.int .i64 N.W)).setCell ⟨w.heap.size + 1 + 1, 1, none⟩ (.int .i64 N.H)).setCell ⟨w.heap.size + 1 + 1, 2, none⟩ (.slice z.br.A N.br.length z.br.c)).setCell ⟨w.heap.size + 1 + 1, 3, none⟩ (.slice z.ta.A N.ta.length z.ta.c)).setCell ⟨w.heap.size + 1 + 1, 4, none⟩ (.slice z.tb.A N.tb.length z.tb.c)).setCell ⟨w.heap.size + 1 + 1, 5, none⟩ (.slice z.bu.A N.bu.length z.bu.c)).setCell ⟨w.heap.size + 1 + 1, 6, none⟩ (.slice z.ow.A N.ow.length z.ow.c)).setCell ⟨w.heap.size + 1 + 1, 7, none⟩ (.slice z.tu.A N.tu.length z.tu.c)).setCell ⟨w.heap.size + 1 + 1, 8, none⟩ (.slice z.so.A N.so.length z.so.c)).setCell ⟨w.heap.size + 1 + 1, 9, none⟩ (.slice z.ar.A N.ar.length z.ar.c)).setCell ⟨w.heap.size + 1 + 1, 10, none⟩ (.int .i64 N.ti)) = wf at *
      have r0 := kf.cell 0
      have r1 := kf.cell 1
      have r2 := kf.cell 2
      have r3 := kf.cell 3
      have r4 := kf.cell 4
      have r5 := kf.cell 5
      have r6 := kf.cell 6
      have r7 := kf.cell 7
      have r8 := kf.cell 8
      have r9 := kf.cell 9
      have r10 := kf.cell 10
      simp only [List.getElem?_toArray, List.getElem?_cons_zero, List.getElem?_cons_succ] at r0 r1 r2 r3 r4 r5 r6 r7 r8 r9 r10
      have hno : NetOwn wf (w.heap.size + 3) wf.heap.size z {N with so := N.so.set f (X ++ D)} := (HN.out.heap (fun k h1 h2 => qz.block k h2 (by omega))).upto qz.size
      refine bodyPost_ret (v := .agg #[.int .i64 N.W, .int .i64 N.H, .slice z.br.A N.br.length z.br.c, .slice z.ta.A N.ta.length z.ta.c, .slice z.tb.A N.tb.length z.tb.c, .slice z.bu.A N.bu.length z.bu.c, .slice z.ow.A N.ow.length z.ow.c, .slice z.tu.A N.tu.length z.tu.c, .slice z.so.A N.so.length z.so.c, .slice z.ar.A N.ar.length z.ar.c, .int .i64 N.ti]) (by simp [results, Tryz.results54, go_sem, r0, r1, r2, r3, r4, r5, r6, r7, r8, r9, r10]) rfl ⟨_, by simp only [List.length_set], hno.less (by omega), BW.out.trans (qz.below (.inl (by omega)) (by have h1 := S9.out; omega))⟩
    · rw [hall 17 (by simp)] at h17
      cases h17
end Go.Proofs.YtfloekbmgjmhbaaGreat
end

section
namespace Go.Proofs.YtfloekbmgjmhbaaGreat
open Go.ChangeShapes Go.WideShapes Go.ChangeAt Go.RowKit
set_option linter.unusedVariables false

theorem flitsG_ok {W H : Int} {p : Pkt} (hp : pktOk W H p = true) : lstOk W H (flitsG W H p) = true := by
  rw [lstOk, List.all_eq_true]
  intro x hx
  rw [flitsG_yes hp, flitsTo, List.mem_map] at hx
  obtain ⟨i, _, rfl⟩ := hx
  obtain ⟨_, _, h3, _, h5, _⟩ := pktOk_iff.1 hp
  rw [fltOk, Bool.and_eq_true]
  exact ⟨h3, decide_eq_true h5⟩
theorem flitsG_length {W H : Int} {p : Pkt} (hp : pktOk W H p = true) : ((flitsG W H p).length : Int) = p.ln := by
  have h := (pktOk_iff.1 hp).2.2.2.2.2
  rw [flitsG_yes hp]
  simp [flitsTo]
  omega
theorem sendOk_iff {N : Nt} {p : Pkt} : sendOk N p = true ↔ netOk N = true ∧ pktOk N.W N.H p = true ∧ ((srcN N p).length : Int) + p.ln ≤ 60 := by
  rw [sendOk, Bool.and_eq_true, Bool.and_eq_true, decide_eq_true_eq]
theorem netOk_send {N : Nt} {p : Pkt} (h : sendOk N p = true) : netOk (sendTo N p) = true := by
  obtain ⟨h1, h2, h3⟩ := sendOk_iff.1 h
  obtain ⟨hf0, hfl, hsrc⟩ := src_there h1 h2
  have hl := flitsG_length h2
  have hk := flitsG_ok h2
  unfold netOk at h1 ⊢
  simp only [Bool.and_eq_true] at h1 ⊢
  obtain ⟨g1, g2, g3, g4, g5⟩ := h1
  refine ⟨g1, ?_, g3, g4, ?_⟩
  · unfold sizesN at g2 ⊢
    have := of_decide_eq_true g2
    exact decide_eq_true (by simp only [sendTo, List.length_set]; exact this)
  · rw [List.all_eq_true] at g5 ⊢
    intro D hD
    rcases List.mem_or_eq_of_mem_set hD with h4 | rfl
    · exact g5 D h4
    · have h5 := g5 _ (List.mem_of_getElem? hsrc)
      rw [srcOk, Bool.and_eq_true] at h5 ⊢
      refine ⟨decide_eq_true (by rw [List.length_append]; omega), ?_⟩
      have h6 := h5.2
      rw [lstOk, List.all_eq_true] at h6 hk ⊢
      intro x hx
      rcases List.mem_append.1 hx with h7 | h7
      · exact h6 x h7
      · exact hk x h7
theorem sendG_yes {N : Nt} {p : Pkt} (h : sendOk N p = true) : sendG N p = sendTo N p := if_pos h
theorem sendG_no {N : Nt} {p : Pkt} (h : sendOk N p = false) : sendG N p = N := if_neg (by rw [h]; decide)
theorem netOk_sendG (N : Nt) (p : Pkt) : netOk (sendG N p) = netOk N := by
  cases h : sendOk N p with
  | false => rw [sendG_no h]
  | true => rw [sendG_yes h, netOk_send h, (sendOk_iff.1 h).1]
/-- One source more or less: the sum of the lengths. -/
theorem sumL_set : ∀ {LL : List (List Flt)} {i : Nat} {X Y : List Flt}, LL[i]? = some X → sumL (LL.set i Y) + X.length = sumL LL + Y.length := by
  intro LL
  induction LL with
  | nil => intro i X Y h; simp at h
  | cons a t ih =>
    intro i X Y h
    cases i with
    | zero =>
      rw [List.getElem?_cons_zero] at h
      obtain rfl := Option.some.inj h
      simp only [List.set_cons_zero, sumL, List.map_cons, List.sum_cons]
      omega
    | succ i =>
      rw [List.getElem?_cons_succ] at h
      have := ih (Y := Y) h
      simp only [List.set_cons_succ, sumL, List.map_cons, List.sum_cons] at this ⊢
      omega
theorem sumL_send {N : Nt} {p : Pkt} (h1 : netOk N = true) (h2 : pktOk N.W N.H p = true) : (sumL (sendTo N p).so : Int) = sumL N.so + p.ln := by
  obtain ⟨_, _, hsrc⟩ := src_there h1 h2
  have h := sumL_set (Y := srcN N p ++ flitsG N.W N.H p) hsrc
  have hl := flitsG_length h2
  rw [List.length_append] at h
  simp only [sendTo]
  omega
/-- A network like another one, but for its sources, which are as many and hold at most k flits more. -/
structure NetLike (N R : Nt) (k : Nat) : Prop where
  W : R.W = N.W
  H : R.H = N.H
  br : R.br = N.br
  ta : R.ta = N.ta
  tb : R.tb = N.tb
  bu : R.bu = N.bu
  ow : R.ow = N.ow
  tu : R.tu = N.tu
  so : R.so.length = N.so.length
  ar : R.ar = N.ar
  ti : R.ti = N.ti
  s : sumL R.so ≤ sumL N.so + k
theorem like_refl (N : Nt) : NetLike N N 0 := ⟨rfl, rfl, rfl, rfl, rfl, rfl, rfl, rfl, rfl, rfl, rfl, Nat.le_refl _⟩
theorem NetLike.trans {N R S : Nt} {k j : Nat} (h : NetLike N R k) (g : NetLike R S j) : NetLike N S (k + j) :=
  ⟨g.W.trans h.W, g.H.trans h.H, g.br.trans h.br, g.ta.trans h.ta, g.tb.trans h.tb, g.bu.trans h.bu, g.ow.trans h.ow, g.tu.trans h.tu, g.so.trans h.so, g.ar.trans h.ar, g.ti.trans h.ti, by have := h.s; have := g.s; omega⟩
theorem like_sendG (N : Nt) (p : Pkt) : NetLike N (sendG N p) 5 := by
  cases h : sendOk N p with
  | false =>
    rw [sendG_no h]
    exact ⟨rfl, rfl, rfl, rfl, rfl, rfl, rfl, rfl, rfl, rfl, rfl, by omega⟩
  | true =>
    obtain ⟨h1, h2, h3⟩ := sendOk_iff.1 h
    have h4 := sumL_send h1 h2
    have h5 := (pktOk_iff.1 h2).2.2.2.2.2
    rw [sendG_yes h]
    exact ⟨rfl, rfl, rfl, rfl, rfl, rfl, rfl, rfl, by simp [sendTo], rfl, rfl, by omega⟩
theorem NetLike.sm {N R : Nt} {k : Nat} (h : NetLike N R k) (hs : sizeN N ≤ 1048576) (hk : k ≤ 200) : NetSm R ∧ markSz R ≤ 6000000 := by
  have h1 := h.s
  unfold sizeN at hs
  refine ⟨⟨by rw [h.br]; omega, by rw [h.ta]; omega, by rw [h.tb]; omega, by rw [h.bu]; omega, by rw [h.ow]; omega, by rw [h.tu]; omega, by rw [h.so]; omega, by rw [h.ar]; omega, by rw [h.bu]; omega, by omega, by rw [h.ar]; omega⟩, ?_⟩
  unfold markSz
  rw [h.br, h.ta, h.tb, h.bu, h.ow, h.tu, h.ar]
  omega
/-- Packets sent one after another, and how many were taken. -/
def sendsP (N : Nt) (D : List Pkt) : Nt × Nat := D.foldl (fun s p => (sendG s.1 p, s.2 + if sendOk s.1 p = true then 1 else 0)) (N, 0)
theorem sendsP_nil (N : Nt) : sendsP N [] = (N, 0) := rfl
theorem sendsP_snoc (N : Nt) (D : List Pkt) (p : Pkt) : sendsP N (D ++ [p]) = (sendG (sendsP N D).1 p, (sendsP N D).2 + if sendOk (sendsP N D).1 p = true then 1 else 0) := by
  rw [sendsP, List.foldl_append]
  rfl
theorem sendsP_next {N : Nt} {D : List Pkt} {k : Nat} {p : Pkt} (h : D[k]? = some p) : sendsP N (D.take (k + 1)) = (sendG (sendsP N (D.take k)).1 p, (sendsP N (D.take k)).2 + if sendOk (sendsP N (D.take k)).1 p = true then 1 else 0) := by
  have : D.take (k + 1) = D.take k ++ [p] := by rw [List.take_add_one, h]; rfl
  rw [this, sendsP_snoc]
theorem sendsP_take (N : Nt) (D : List Pkt) (k : Nat) : netOk (sendsP N (D.take k)).1 = netOk N ∧ NetLike N (sendsP N (D.take k)).1 (5 * k) ∧ (sendsP N (D.take k)).2 ≤ k := by
  induction k with
  | zero => exact ⟨rfl, like_refl N, Nat.le_refl _⟩
  | succ k ih =>
    by_cases hk : k < D.length
    · obtain ⟨p, hp⟩ : ∃ p, D[k]? = some p := ⟨_, List.getElem?_eq_getElem hk⟩
      rw [sendsP_next hp]
      refine ⟨?_, ?_, ?_⟩
      · simp only [netOk_sendG]; exact ih.1
      · have := ih.2.1.trans (like_sendG _ p)
        exact this
      · have := ih.2.2
        simp only
        split <;> omega
    · have e : D.take (k + 1) = D.take k := by rw [List.take_of_length_le (by omega), List.take_of_length_le (by omega)]
      rw [e]
      refine ⟨ih.1, ?_, by have := ih.2.2; omega⟩
      have h := ih.2.1
      exact ⟨h.W, h.H, h.br, h.ta, h.tb, h.bu, h.ow, h.tu, h.so, h.ar, h.ti, by have := h.s; omega⟩
theorem netOk_so {N : Nt} {f : Nat} {D : List Flt} (h : netOk N = true) (hD : N.so[f]? = some D) : D.length ≤ 60 := by
  cases hs : srcOk N.W N.H D with
  | false => rw [nk_so hD hs] at h; cases h
  | true =>
    rw [srcOk, Bool.and_eq_true] at hs
    exact of_decide_eq_true hs.1
def allOk (N : Nt) (D : List Pkt) : Bool := netOk N && decide (D.length ≤ 40)
def sendAllG (N : Nt) (D : List Pkt) : Nt := if allOk N D = true then (sendsP N D).1 else N
def sentG (N : Nt) (D : List Pkt) : Int := if allOk N D = true then ((sendsP N D).2 : Int) else -1
theorem like_sendAll (N : Nt) (D : List Pkt) : NetLike N (sendAllG N D) 200 := by
  unfold sendAllG
  split
  · rename_i h
    rw [allOk, Bool.and_eq_true, decide_eq_true_eq] at h
    have h1 := (sendsP_take N D D.length).2.1
    rw [List.take_length] at h1
    exact ⟨h1.W, h1.H, h1.br, h1.ta, h1.tb, h1.bu, h1.ow, h1.tu, h1.so, h1.ar, h1.ti, by have := h1.s; omega⟩
  · exact ⟨rfl, rfl, rfl, rfl, rfl, rfl, rfl, rfl, rfl, rfl, rfl, by omega⟩
end Go.Proofs.YtfloekbmgjmhbaaGreat
end

section
namespace Go.Proofs.YtfloekbmgjmhbaaGreat
open Go.ChangeShapes Go.WideShapes Go.ChangeAt Go.RowKit
set_option linter.unusedVariables false

/-- A mesh as the cells of a block. -/
def meshC (W H : Int) (A : Option Addr) (n cap : Nat) : Array Value := #[.int .i64 W, .int .i64 H, .slice A n cap]
def MeshAt (W H : Int) (L : List Int) (A : Option Addr) (n cap : Nat) (w : World) (k : Nat) (wr : World) : Prop :=
  goodTo W H L k ∧ (w.alloc (.cells (meshC W H A n cap) 39)).grownBy wr none
end Go.Proofs.YtfloekbmgjmhbaaGreat
end

section
namespace Go.Proofs.YtfloekbmgjmhbaaGreat
open Go.ChangeShapes Go.WideShapes Go.ChangeAt Go.RowKit
set_option linter.unusedVariables false

def clB (W H : Int) (A AP AQ : Option Addr) (n cap nP cP nQ cQ : Nat) (w : World) : World := (w.alloc (.cells (meshC W H A n cap) 39)).alloc (.cells #[.slice AP nP cP, .slice AQ nQ cQ] 42)
/-- The boxes as they are. -/
structure ClAt (W H : Int) (A AP AQ : Option Addr) (n cap nP cP nQ cQ : Nat) (w wr : World) : Prop where
  m : Blk wr w.heap.size 39 (meshC W H A n cap)
  t : Blk wr (w.heap.size + 1) 42 #[.slice AP nP cP, .slice AQ nQ cQ]
  g : w.grownBy wr none
section
variable {W H : Int} {A AP AQ : Option Addr} {n cap nP cP nQ cQ : Nat} {w wr w' : World}
theorem clAt_start : ClAt W H A AP AQ n cap nP cP nQ cQ w (clB W H A AP AQ n cap nP cP nQ cQ w) := by
  have ht := Blk.new (w.alloc (.cells (meshC W H A n cap) 39)) 42 #[.slice AP nP cP, .slice AQ nQ cQ]
  rw [alloc_size] at ht
  exact ⟨(Blk.new w 39 _).alloc _, ht, gb_alloc (gb_alloc (gb_refl w none) _) _⟩
theorem ClAt.gb (h : ClAt W H A AP AQ n cap nP cP nQ cQ w wr) (hg : wr.grownBy w' none) : ClAt W H A AP AQ n cap nP cP nQ cQ w w' := ⟨h.m.grown hg (by simp), h.t.grown hg (by simp), gb_trans h.g hg⟩
theorem ClAt.bl (h : ClAt W H A AP AQ n cap nP cP nQ cQ w wr) (hb : Below wr.heap.size wr w') : ClAt W H A AP AQ n cap nP cP nQ cQ w w' := h.gb (gb_of_below hb none)
theorem ClAt.at (h : ClAt W H A AP AQ n cap nP cP nQ cQ w wr) {B : Option Addr} {k : Nat} {M : List Int} (hi : IntAt w w.heap.size B k M) : IntAt wr wr.heap.size B k M := (hi.none (Nat.le_refl _) h.g).more h.g.size
theorem ClAt.sz (h : ClAt W H A AP AQ n cap nP cP nQ cQ w wr) : w.heap.size + 2 ≤ wr.heap.size := by have := h.t.lt; omega
end
end Go.Proofs.YtfloekbmgjmhbaaGreat
end

section
namespace Go.Proofs.YtfloekbmgjmhbaaGreat
open Go.ChangeShapes Go.WideShapes Go.ChangeAt Go.RowKit
set_option linter.unusedVariables false

theorem specNodeAt (W H x y : Int) (w : World) :
    Calls Tryz.prog 99 #[.agg #[.int .i64 W, .int .i64 H], .int .i64 x, .int .i64 y] w (RetI (atG W H x y) none w) := by
  cases hok : okG W H with
  | true =>
    obtain ⟨hW, hH⟩ := okG_cases hok
    by_cases hx : 0 ≤ x ∧ x ≤ W - 1
    · by_cases hy : 0 ≤ y ∧ y ≤ H - 1
      · rcases hW with rfl | rfl | rfl | rfl
        all_goals
          go_enter Tryz.func99, Tryz.ntmps99
          go_wp2_with fail
          refine (specGridOk _ H _).mono ?_
          rintro e w1 ⟨rfl, hg⟩
          have hb := box_blk hg
          have c0 := hb.cell 0
          have c1 := hb.cell 1
          have Hg := Lib.hid hg
          clear hg hb
          simp at c0 c1
          rw [hok]
          go_wp2_with fail
          refine (specInV x 0 _ true (by simp; omega) _).mono ?_
          rintro e w2 ⟨rfl, rfl⟩
          go_wp2_with fail
          refine (specInV y 0 _ true (by simp; omega) _).mono ?_
          rintro e w2 ⟨rfl, rfl⟩
          go_wp2_with fail
          go_ret
          exact ⟨ret_int64 (by unfold atG; rw [if_pos ⟨hok, by omega⟩] <;> omega), box_gb Hg.out⟩
      · go_enter Tryz.func99, Tryz.ntmps99
        go_wp2_with fail
        refine (specGridOk _ H _).mono ?_
        rintro e w1 ⟨rfl, hg⟩
        have hb := box_blk hg
        have c0 := hb.cell 0
        have c1 := hb.cell 1
        have Hg := Lib.hid hg
        clear hg hb
        simp at c0 c1
        rw [hok]
        go_wp2_with fail
        refine (specInV x 0 _ true (by simp; omega) _).mono ?_
        rintro e w2 ⟨rfl, rfl⟩
        go_wp2_with fail
        refine (specInV y 0 _ false (by simp; omega) _).mono ?_
        rintro e w2 ⟨rfl, rfl⟩
        go_wp2_with fail
        go_ret
        exact ⟨ret_int64 (by unfold atG; rw [if_neg (by rintro ⟨_, _⟩; omega)]), box_gb Hg.out⟩
    · go_enter Tryz.func99, Tryz.ntmps99
      go_wp2_with fail
      refine (specGridOk _ H _).mono ?_
      rintro e w1 ⟨rfl, hg⟩
      have hb := box_blk hg
      have c0 := hb.cell 0
      have c1 := hb.cell 1
      have Hg := Lib.hid hg
      clear hg hb
      simp at c0 c1
      rw [hok]
      go_wp2_with fail
      refine (specInV x 0 _ false (by simp; omega) _).mono ?_
      rintro e w2 ⟨rfl, rfl⟩
      go_wp2_with fail
      go_ret
      exact ⟨ret_int64 (by unfold atG; rw [if_neg (by rintro ⟨_, _⟩; omega)]), box_gb Hg.out⟩
  | false =>
    go_enter Tryz.func99, Tryz.ntmps99
    go_wp2_with fail
    refine (specGridOk W H _).mono ?_
    rintro e w1 ⟨rfl, hg⟩
    rw [hok]
    go_wp2_with fail
    go_ret
    exact ⟨ret_int64 (by unfold atG; rw [if_neg (by rintro ⟨h, _⟩; rw [hok] at h; cases h)]), box_gb hg⟩
end Go.Proofs.YtfloekbmgjmhbaaGreat
end

section
namespace Go.Proofs.YtfloekbmgjmhbaaGreat
open Go.ChangeShapes Go.WideShapes Go.ChangeAt Go.RowKit
set_option linter.unusedVariables false

theorem specNodeAtV (W H x y n : Int) (h : atG W H x y = n) (w : World) :
    Calls Tryz.prog 99 #[.agg #[.int .i64 W, .int .i64 H], .int .i64 x, .int .i64 y] w (RetI n none w) := h ▸ specNodeAt W H x y w

theorem specNextNode (W H n p : Int) (w : World) :
    Calls Tryz.prog 94 #[.agg #[.int .i64 W, .int .i64 H], .int .i64 n, .int .i64 p] w (RetI (nextG W H n p) none w) := by
  cases hh : hasG W H n with
  | true =>
    obtain ⟨hW, hH⟩ := okG_cases (hasG_ok hh).1
    obtain ⟨h0, h1⟩ := hasG_le hh
    have hq := row_wrap h0 h1 hW
    obtain ⟨a0, a1, a2, a3, a4⟩ := place_of hh
    have hW1 : 1 ≤ W := by omega
    have hW2 : W ≤ 4 := by omega
    have hH2 : H ≤ 4 := by omega
    have hN : nextG W H n p = (if p = 0 then atG W H (n % W) (n / W - 1) else if p = 1 then atG W H (n % W + 1) (n / W) else if p = 2 then atG W H (n % W) (n / W + 1) else if p = 3 then atG W H (n % W - 1) (n / W) else if p = 4 then n else -1) := by simp [nextG, hh]
    obtain ⟨x, hx⟩ : ∃ x, n % W = x := ⟨_, rfl⟩
    obtain ⟨y, hy⟩ : ∃ y, n / W = y := ⟨_, rfl⟩
    rw [hx, hy] at hN
    rw [hx] at a0 a1
    rw [hy] at a2 a3 hq
    obtain ⟨r, hr⟩ : ∃ r, nextG W H n p = r := ⟨_, rfl⟩
    rw [hr] at hN ⊢
    have hd : n.tdiv W = y := by rw [Int.tdiv_eq_ediv_of_nonneg h0]; exact hy
    clear a4 hW hH hr hq
    by_cases p0 : p = 0
    · subst p0
      simp at hN
      go_enter Tryz.func94, Tryz.ntmps94
      go_wp2_with fail
      refine (specHas W H n _).mono ?_
      rintro e w1 ⟨rfl, hg⟩
      have hb := box_blk hg
      have c0 := hb.cell 0
      have c1 := hb.cell 1
      have Hg := Lib.hid (box_gb hg)
      clear hg hb
      simp at c0 c1
      rw [hh]
      go_wp2_with fail
      simp only [hx]
      refine (specNodeAtV W H (x) (y - 1) r hN.symm _).mono ?_
      rintro e w2 ⟨rfl, hg2⟩
      have Hg2 := Lib.hid hg2
      clear hg2
      go_wp2_with fail
      go_ret
      exact ⟨ret_int64 hN.symm, gb_trans Hg.out Hg2.out⟩
    by_cases p1 : p = 1
    · subst p1
      simp at hN
      go_enter Tryz.func94, Tryz.ntmps94
      go_wp2_with fail
      refine (specHas W H n _).mono ?_
      rintro e w1 ⟨rfl, hg⟩
      have hb := box_blk hg
      have c0 := hb.cell 0
      have c1 := hb.cell 1
      have Hg := Lib.hid (box_gb hg)
      clear hg hb
      simp at c0 c1
      rw [hh]
      go_wp2_with fail
      simp only [hx]
      refine (specNodeAtV W H (x + 1) (y) r hN.symm _).mono ?_
      rintro e w2 ⟨rfl, hg2⟩
      have Hg2 := Lib.hid hg2
      clear hg2
      go_wp2_with fail
      go_ret
      exact ⟨ret_int64 hN.symm, gb_trans Hg.out Hg2.out⟩
    by_cases p2 : p = 2
    · subst p2
      simp at hN
      go_enter Tryz.func94, Tryz.ntmps94
      go_wp2_with fail
      refine (specHas W H n _).mono ?_
      rintro e w1 ⟨rfl, hg⟩
      have hb := box_blk hg
      have c0 := hb.cell 0
      have c1 := hb.cell 1
      have Hg := Lib.hid (box_gb hg)
      clear hg hb
      simp at c0 c1
      rw [hh]
      go_wp2_with fail
      simp only [hx]
      refine (specNodeAtV W H (x) (y + 1) r hN.symm _).mono ?_
      rintro e w2 ⟨rfl, hg2⟩
      have Hg2 := Lib.hid hg2
      clear hg2
      go_wp2_with fail
      go_ret
      exact ⟨ret_int64 hN.symm, gb_trans Hg.out Hg2.out⟩
    by_cases p3 : p = 3
    · subst p3
      simp at hN
      go_enter Tryz.func94, Tryz.ntmps94
      go_wp2_with fail
      refine (specHas W H n _).mono ?_
      rintro e w1 ⟨rfl, hg⟩
      have hb := box_blk hg
      have c0 := hb.cell 0
      have c1 := hb.cell 1
      have Hg := Lib.hid (box_gb hg)
      clear hg hb
      simp at c0 c1
      rw [hh]
      go_wp2_with fail
      simp only [hx]
      refine (specNodeAtV W H (x - 1) (y) r hN.symm _).mono ?_
      rintro e w2 ⟨rfl, hg2⟩
      have Hg2 := Lib.hid hg2
      clear hg2
      go_wp2_with fail
      go_ret
      exact ⟨ret_int64 hN.symm, gb_trans Hg.out Hg2.out⟩
    by_cases p4 : p = 4
    · subst p4
      simp at hN
      go_enter Tryz.func94, Tryz.ntmps94
      go_wp2_with fail
      refine (specHas W H n _).mono ?_
      rintro e w1 ⟨rfl, hg⟩
      have hb := box_blk hg
      have c0 := hb.cell 0
      have c1 := hb.cell 1
      have Hg := Lib.hid (box_gb hg)
      clear hg hb
      simp at c0 c1
      rw [hh]
      go_wp2_with fail
      go_ret
      exact ⟨ret_int64 hN.symm, Hg.out⟩
    simp [p0, p1, p2, p3, p4] at hN
    have q0 : (p == 0) = false := by simpa using p0
    have q1 : (p == 1) = false := by simpa using p1
    have q2 : (p == 2) = false := by simpa using p2
    have q3 : (p == 3) = false := by simpa using p3
    have q4 : (p == 4) = false := by simpa using p4
    clear p0 p1 p2 p3 p4
    · skip
      go_enter Tryz.func94, Tryz.ntmps94
      go_wp2_with fail
      refine (specHas W H n _).mono ?_
      rintro e w1 ⟨rfl, hg⟩
      have hb := box_blk hg
      have c0 := hb.cell 0
      have c1 := hb.cell 1
      have Hg := Lib.hid (box_gb hg)
      clear hg hb
      simp at c0 c1
      rw [hh]
      go_wp2_with fail
      go_ret
      exact ⟨ret_int64 hN.symm, Hg.out⟩
  | false =>
    go_enter Tryz.func94, Tryz.ntmps94
    go_wp2_with fail
    refine (specHas W H n _).mono ?_
    rintro e w1 ⟨rfl, hg⟩
    rw [hh]
    go_wp2_with fail
    go_ret
    exact ⟨ret_int64 (by simp [nextG, hh]), box_gb hg⟩

theorem specNextNodeV (W H n p r : Int) (h : nextG W H n p = r) (w : World) :
    Calls Tryz.prog 94 #[.agg #[.int .i64 W, .int .i64 H], .int .i64 n, .int .i64 p] w (RetI r none w) := h ▸ specNextNode W H n p w
theorem specNodeCountV (W H k : Int) (h : countG W H = k) (w : World) :
    Calls Tryz.prog 49 #[.agg #[.int .i64 W, .int .i64 H]] w (RetI k none w) := h ▸ specNodeCount W H w

theorem specLeads (W H c : Int) (w : World) :
    Calls Tryz.prog 97 #[.agg #[.int .i64 W, .int .i64 H], .int .i64 c] w (RetB (leadsG W H c) w) := by
  obtain ⟨k, hk⟩ : ∃ k, countG W H = k := ⟨_, rfl⟩
  obtain ⟨hk0, hk1⟩ := countG_le W H
  rw [hk] at hk0 hk1
  have hL : leadsG W H c = decide (0 ≤ c ∧ c < 4 * k ∧ 0 ≤ nextG W H (c / 4) (c % 4)) := by rw [leadsG, hk]
  by_cases hc : 0 ≤ c ∧ c ≤ 4 * k - 1
  · have hb : decide (0 ≤ c ∧ c ≤ 4 * k - 1) = true := decide_eq_true hc
    obtain ⟨hc0, hc1⟩ := hc
    have hcN : c ≤ 63 := by omega
    obtain ⟨r, hr⟩ : ∃ r, nextG W H (c / 4) (c % 4) = r := ⟨_, rfl⟩
    have hd : c.tdiv 4 = c / 4 := Int.tdiv_eq_ediv_of_nonneg hc0
    have hm : c.tmod 4 = c % 4 := Int.tmod_eq_emod_of_nonneg hc0
    have hL2 : leadsG W H c = decide (0 ≤ r) := by rw [hL, hr]; exact decide_eq_decide.2 ⟨fun h => h.2.2, fun h => ⟨hc0, by omega, h⟩⟩
    have HL := Lib.hid hL2
    clear hL hL2
    go_enter Tryz.func97, Tryz.ntmps97
    go_wp2_with fail
    refine (specNodeCountV W H k hk _).mono ?_
    rintro e w1 ⟨rfl, hg⟩
    have hb1 := box_blk hg
    have c0 := hb1.cell 0
    have c1 := hb1.cell 1
    have Hg := Lib.hid (box_gb hg)
    clear hg hb1
    simp at c0 c1
    go_wp2_with fail
    refine (specInV c 0 _ true hb _).mono ?_
    rintro e w2 ⟨rfl, rfl⟩
    go_wp2_with fail
    refine (specNextNodeV W H (c / 4) (c % 4) r hr _).mono ?_
    rintro e w3 ⟨rfl, hg3⟩
    have Hg3 := Lib.hid hg3
    clear hg3
    go_wp2_with fail
    go_ret
    exact ⟨ret_bool (by rw [HL.out]), gb_trans Hg.out Hg3.out⟩
  · have hb : decide (0 ≤ c ∧ c ≤ 4 * k - 1) = false := decide_eq_false hc
    have hL2 : leadsG W H c = false := by rw [hL]; exact decide_eq_false (fun h => hc ⟨h.1, by omega⟩)
    clear hc hL
    go_enter Tryz.func97, Tryz.ntmps97
    go_wp2_with fail
    refine (specNodeCountV W H k hk _).mono ?_
    rintro e w1 ⟨rfl, hg⟩
    have Hg := Lib.hid (box_gb hg)
    clear hg
    go_wp2_with fail
    refine (specInV c 0 _ false hb _).mono ?_
    rintro e w2 ⟨rfl, rfl⟩
    go_wp2_with fail
    go_ret
    exact ⟨ret_bool (by rw [hL2]), Hg.out⟩

theorem specLeadsV (W H c : Int) (b : Bool) (h : leadsG W H c = b) (w : World) :
    Calls Tryz.prog 97 #[.agg #[.int .i64 W, .int .i64 H], .int .i64 c] w (RetB b w) := h ▸ specLeads W H c w
end Go.Proofs.YtfloekbmgjmhbaaGreat
end

section
namespace Go.Proofs.YtfloekbmgjmhbaaGreat
open Go.ChangeShapes Go.WideShapes Go.ChangeAt Go.RowKit
set_option linter.unusedVariables false
set_option linter.unusedSimpArgs false

theorem specFind (A : Option Addr) (n cap B : Nat) (L : List Int) (c : Int) (w : World) (h : IntAt w B A n L) (hn : n ≤ 1000000000) :
    Calls Tryz.prog 98 #[.slice A n cap, .int .i64 c] w fun e w' => e = .returned (.bool (inG L c)) ∧ w = w' := by
  have hl := h.1
  have HI := Lib.hid h
  clear h
  go_enter Tryz.func98, Tryz.ntmps98
  go_wp2_with fail
  go_loop [5] (fun i => ∃ k : Nat, i = .int .i64 (k : Int) ∧ k ≤ n ∧ ∀ j, j < k → L.getD j 0 ≠ c) (fun i => n - (intOf i).toNat)
  case atStart => exact ⟨0, rfl, Nat.zero_le _, fun j h => by omega⟩
  case round =>
    obtain ⟨k, rfl, hk, hne⟩ := hrel
    have HNE := Lib.hid hne
    clear hne
    by_cases hlt : k < n
    · obtain ⟨b, off, rfl, hb, hc⟩ := HI.out.at k hlt
      obtain ⟨x, hx⟩ : ∃ x, L.getD k 0 = x := ⟨_, rfl⟩
      rw [hx] at hc
      have HX := Lib.hid hx
      clear hx
      by_cases hxc : x = c
      · subst hxc
        go_wp2_with fail
        go_ret
        exact ⟨ret_bool (inG_yes (by omega) HX.out).symm, rfl⟩
      · have hxb : (x == c) = false := by simpa using hxc
        have HXC := Lib.hid hxc
        clear hxc
        go_wp2_with fail
        go_round
        case rel => exact ⟨k + 1, by go_num, by omega, fun j hj => by
          rcases Nat.lt_succ_iff_lt_or_eq.1 hj with h1 | rfl
          · exact HNE.out j h1
          · rw [HX.out]; exact HXC.out⟩
        case measure => simp [intOf]; omega
    · obtain rfl : k = n := by omega
      go_wp2_with fail
      go_ret
      exact ⟨ret_bool (inG_no (fun j hj => HNE.out j (by omega))).symm, rfl⟩
theorem specFindV (A : Option Addr) (n cap B : Nat) (L : List Int) (c : Int) (b : Bool) (hb : inG L c = b) (w : World) (h : IntAt w B A n L) (hn : n ≤ 1000000000) :
    Calls Tryz.prog 98 #[.slice A n cap, .int .i64 c] w fun e w' => e = .returned (.bool b) ∧ w = w' := hb ▸ specFind A n cap B L c w h hn
end Go.Proofs.YtfloekbmgjmhbaaGreat
end

section
namespace Go.Proofs.YtfloekbmgjmhbaaGreat
open Go.ChangeShapes Go.WideShapes Go.ChangeAt Go.RowKit
set_option linter.unusedVariables false
set_option linter.unusedSimpArgs false

theorem gb_undraw {a b : World} {row : Option Nat} (h : a.drew.grownBy b row) : a.grownBy b row := ⟨h.os, h.tape, h.output, h.size, h.block⟩

set_option maxHeartbeats 3200000 in
theorem specMeshOk (W H : Int) (A : Option Addr) (n cap : Nat) (L : List Int) (w : World) (h : IntAt w w.heap.size A n L) (hn : n ≤ 1000000000) :
    Calls Tryz.prog 92 #[.agg #[.int .i64 W, .int .i64 H, .slice A n cap]] w (RetB (meshG W H L) w) := by
  have hl := h.1
  have HI := Lib.hid h
  clear h
  cases hok : okG W H with
  | false =>
    go_enter Tryz.func92, Tryz.ntmps92
    go_wp2_with fail
    refine (specGridOk W H _).mono ?_
    rintro e w1 ⟨rfl, hg⟩
    rw [hok]
    go_wp2_with fail
    go_ret
    exact ⟨ret_bool (meshG_bad hok).symm, box_gb hg⟩
  | true =>
    go_enter Tryz.func92, Tryz.ntmps92
    go_wp2_with fail
    refine (specGridOk W H _).mono ?_
    rintro e w1 ⟨rfl, hg⟩
    have HM := Lib.hid (show MeshAt W H L A n cap w 0 w1 from ⟨goodTo_zero W H L, hg⟩)
    clear hg
    rw [hok]
    go_wp2_with fail
    go_loopw [3] (fun i wr => ∃ k : Nat, i = .int .i64 (k : Int) ∧ k ≤ n ∧ MeshAt W H L A n cap w k wr) (fun i _ => n - (intOf i).toNat)
    case atStart => exact ⟨0, rfl, Nat.zero_le _, HM.out⟩
    case round =>
      obtain ⟨k, rfl, hk, hgood, hg⟩ := hrel
      have HGo := Lib.hid hgood
      have HG := Lib.hid hg
      have hbk := box_blk hg
      have HBK := Lib.hid hbk
      have a0 : wr.cell? ⟨w.heap.size, 0, none⟩ = some (.int .i64 W) := hbk.cell 0
      have a1 : wr.cell? ⟨w.heap.size, 1, none⟩ = some (.int .i64 H) := hbk.cell 1
      have a2 : wr.cell? ⟨w.heap.size, 2, none⟩ = some (.slice A n cap) := hbk.cell 2
      have hia := HI.out.none (Nat.le_refl _) (box_gb hg)
      have HIA := Lib.hid hia
      clear hg hgood hbk
      by_cases hlt : k < n
      · obtain ⟨b, off, rfl, hb, hc⟩ := hia.at k hlt
        obtain ⟨x, hx⟩ : ∃ x, L.getD k 0 = x := ⟨_, rfl⟩
        rw [hx] at hc
        clear hia
        have hk0 : (0 : Int) ≤ (k : Int) := by omega
        have hk1 : (k : Int) < (n : Int) := by omega
        cases hld : leadsG W H x with
        | false =>
          have HBad := Lib.hid (meshG_no (by omega) (goodAt_lead hx hld))
          have CL := Lib.hid (fun w => specLeadsV W H x false hld w)
          clear hx hld
          go_wp2_with fail
          refine wp_region_held_drew (S := (fun w' => w'.cell? ⟨w.heap.size, 0, none⟩ = some (.int .i64 W) ∧ w'.cell? ⟨w.heap.size, 1, none⟩ = some (.int .i64 H) ∧ w'.cell? ⟨w.heap.size, 2, none⟩ = some (.slice (some ⟨b, off, none⟩) n cap) ∧ w'.cell? ⟨b, off + k, none⟩ = some (.int .i64 x))) (by kernel_rfl) (⟨a0, a1, a2, hc⟩) (fun hHeld => ?_)
          refine wpAnyH_take (i := 0) (v := ?_) rfl (by kernel_rfl) (by kernel_rfl) (by kernel_rfl) (fun _ _ _ h => h) (Or.inl ⟨by rfl, ?_⟩) (by assumption) ?_
          rotate_left
          · intro wq hSw; (try dsimp only at hSw); go_simp; (try with_reducible rfl)
          simp only [List.getElem_toArray, List.getElem_cons_succ, List.getElem_cons_zero, Act.put, List.setIfInBounds_toArray, List.set_cons_zero, List.set_cons_succ]
          refine wpAnyH_take (i := 1) (v := ?_) rfl (by kernel_rfl) (by kernel_rfl) (by kernel_rfl) (fun _ _ _ h => h) (Or.inl ⟨by rfl, ?_⟩) (by assumption) ?_
          rotate_left
          · intro wq hSw; (try dsimp only at hSw); go_simp; (try with_reducible rfl)
          simp only [List.getElem_toArray, List.getElem_cons_succ, List.getElem_cons_zero, Act.put, List.setIfInBounds_toArray, List.set_cons_zero, List.set_cons_succ]
          refine wpAnyH_take (i := 2) (v := ?_) rfl (by kernel_rfl) (by kernel_rfl) (by kernel_rfl) (fun _ _ _ h => h) (Or.inl ⟨by rfl, ?_⟩) (by assumption) ?_
          rotate_left
          · intro wq hSw; (try dsimp only at hSw); go_simp; (try with_reducible rfl)
          simp only [List.getElem_toArray, List.getElem_cons_succ, List.getElem_cons_zero, Act.put, List.setIfInBounds_toArray, List.set_cons_zero, List.set_cons_succ]
          refine wpAnyH_take (i := 3) (v := ?_) rfl (by kernel_rfl) (by kernel_rfl) (by kernel_rfl) (fun _ _ _ h => h) (Or.inl ⟨by rfl, ?_⟩) (by assumption) ?_
          rotate_left
          · intro wq hSw; (try dsimp only at hSw); go_simp; (try with_reducible rfl)
          simp only [List.getElem_toArray, List.getElem_cons_succ, List.getElem_cons_zero, Act.put, List.setIfInBounds_toArray, List.set_cons_zero, List.set_cons_succ]
          refine wpAnyH_take (i := 4) (v := ?_) rfl (by kernel_rfl) (by kernel_rfl) (by kernel_rfl) (fun _ _ _ h => h) (Or.inl ⟨by rfl, ?_⟩) (by assumption) ?_
          rotate_left
          · intro wq hSw; (try dsimp only at hSw); go_simp; (try with_reducible rfl)
          simp only [List.getElem_toArray, List.getElem_cons_succ, List.getElem_cons_zero, Act.put, List.setIfInBounds_toArray, List.set_cons_zero, List.set_cons_succ]
          refine wpAnyH_take (i := 5) (v := ?_) rfl (by kernel_rfl) (by kernel_rfl) (by kernel_rfl) (fun _ _ _ h => h) (Or.inl ⟨by rfl, ?_⟩) (by assumption) ?_
          rotate_left
          · intro wq hSw; (try dsimp only at hSw); go_simp; (try with_reducible rfl)
          simp only [List.getElem_toArray, List.getElem_cons_succ, List.getElem_cons_zero, Act.put, List.setIfInBounds_toArray, List.set_cons_zero, List.set_cons_succ]
          refine wpAnyH_take (i := 6) (v := ?_) rfl (by kernel_rfl) (by kernel_rfl) (by kernel_rfl) (fun _ _ _ h => h) (Or.inl ⟨by rfl, ?_⟩) (by assumption) ?_
          rotate_left
          · intro wq hSw; (try dsimp only at hSw); go_simp; (try with_reducible rfl)
          simp only [List.getElem_toArray, List.getElem_cons_succ, List.getElem_cons_zero, Act.put, List.setIfInBounds_toArray, List.set_cons_zero, List.set_cons_succ]
          refine wpAnyH_ready (rs := [7]) (by kernel_rfl) (by simp) ?_
          refine AllReadyH.cons rfl (fun K hK => ?_) AllReadyH.nil
          go_simp
          (with_reducible refine (CL.out _).mono ?_); rintro e w2 ⟨rfl, hg2⟩; have hg3 := gb_trans HG.out (gb_undraw hg2); have kk := box_blk hg3; have d0 : w2.cell? ⟨w.heap.size, 0, none⟩ = some (.int .i64 W) := kk.cell 0; have d1 : w2.cell? ⟨w.heap.size, 1, none⟩ = some (.int .i64 H) := kk.cell 1; have d2 : w2.cell? ⟨w.heap.size, 2, none⟩ = some (.slice (some ⟨b, off, none⟩) n cap) := kk.cell 2; have dc := (hg2.cell hc (by simp)); have HG3 := Lib.hid hg3; clear hg2 hg3 kk
          try go_wp2_with fail
          refine hK.out _ _ (⟨d0, d1, d2, dc⟩) (fun hHeld => ?_)
          clear hK K
          try simp only [List.getElem_toArray, List.getElem_cons_succ, List.getElem_cons_zero, Act.put, List.setIfInBounds_toArray, List.set_cons_zero, List.set_cons_succ]
          refine wpAnyH_take (i := 8) (v := ?_) rfl (by kernel_rfl) (by kernel_rfl) (by kernel_rfl) (fun _ _ _ h => h) (Or.inl ⟨by rfl, ?_⟩) (by assumption) ?_
          rotate_left
          · intro wq hSw; (try dsimp only at hSw); go_simp; (try with_reducible rfl)
          simp only [List.getElem_toArray, List.getElem_cons_succ, List.getElem_cons_zero, Act.put, List.setIfInBounds_toArray, List.set_cons_zero, List.set_cons_succ]
          refine wpAnyH_take (i := 9) (v := ?_) rfl (by kernel_rfl) (by kernel_rfl) (by kernel_rfl) (fun _ _ _ h => h) (Or.inl ⟨by rfl, ?_⟩) (by assumption) ?_
          rotate_left
          · intro wq hSw; (try dsimp only at hSw); go_simp; (try with_reducible rfl)
          simp only [List.getElem_toArray, List.getElem_cons_succ, List.getElem_cons_zero, Act.put, List.setIfInBounds_toArray, List.set_cons_zero, List.set_cons_succ]
          refine wpAnyH_take (i := 10) (v := undef) rfl (by kernel_rfl) (by kernel_rfl) (by kernel_rfl) (fun _ _ _ h => h) (Or.inr ⟨by rfl, rfl⟩) (by assumption) ?_
          simp only [List.getElem_toArray, List.getElem_cons_succ, List.getElem_cons_zero, Act.put, List.setIfInBounds_toArray, List.set_cons_zero, List.set_cons_succ]
          refine wpAnyH_take (i := 11) (v := undef) rfl (by kernel_rfl) (by kernel_rfl) (by kernel_rfl) (fun _ _ _ h => h) (Or.inr ⟨by rfl, rfl⟩) (by assumption) ?_
          simp only [List.getElem_toArray, List.getElem_cons_succ, List.getElem_cons_zero, Act.put, List.setIfInBounds_toArray, List.set_cons_zero, List.set_cons_succ]
          refine wpAnyH_take (i := 12) (v := undef) rfl (by kernel_rfl) (by kernel_rfl) (by kernel_rfl) (fun _ _ _ h => h) (Or.inr ⟨by rfl, rfl⟩) (by assumption) ?_
          simp only [List.getElem_toArray, List.getElem_cons_succ, List.getElem_cons_zero, Act.put, List.setIfInBounds_toArray, List.set_cons_zero, List.set_cons_succ]
          refine wpAnyH_take (i := 13) (v := undef) rfl (by kernel_rfl) (by kernel_rfl) (by kernel_rfl) (fun _ _ _ h => h) (Or.inr ⟨by rfl, rfl⟩) (by assumption) ?_
          simp only [List.getElem_toArray, List.getElem_cons_succ, List.getElem_cons_zero, Act.put, List.setIfInBounds_toArray, List.set_cons_zero, List.set_cons_succ]
          refine wpAnyH_take (i := 14) (v := undef) rfl (by kernel_rfl) (by kernel_rfl) (by kernel_rfl) (fun _ _ _ h => h) (Or.inr ⟨by rfl, rfl⟩) (by assumption) ?_
          simp only [List.getElem_toArray, List.getElem_cons_succ, List.getElem_cons_zero, Act.put, List.setIfInBounds_toArray, List.set_cons_zero, List.set_cons_succ]
          refine wpAnyH_take (i := 15) (v := undef) rfl (by kernel_rfl) (by kernel_rfl) (by kernel_rfl) (fun _ _ _ h => h) (Or.inr ⟨by rfl, rfl⟩) (by assumption) ?_
          simp only [List.getElem_toArray, List.getElem_cons_succ, List.getElem_cons_zero, Act.put, List.setIfInBounds_toArray, List.set_cons_zero, List.set_cons_succ]
          refine wpAnyH_take (i := 16) (v := undef) rfl (by kernel_rfl) (by kernel_rfl) (by kernel_rfl) (fun _ _ _ h => h) (Or.inr ⟨by rfl, rfl⟩) (by assumption) ?_
          simp only [List.getElem_toArray, List.getElem_cons_succ, List.getElem_cons_zero, Act.put, List.setIfInBounds_toArray, List.set_cons_zero, List.set_cons_succ]
          refine wpAnyH_take (i := 17) (v := undef) rfl (by kernel_rfl) (by kernel_rfl) (by kernel_rfl) (fun _ _ _ h => h) (Or.inr ⟨by rfl, rfl⟩) (by assumption) ?_
          simp only [List.getElem_toArray, List.getElem_cons_succ, List.getElem_cons_zero, Act.put, List.setIfInBounds_toArray, List.set_cons_zero, List.set_cons_succ]
          refine wpAnyH_take (i := 18) (v := undef) rfl (by kernel_rfl) (by kernel_rfl) (by kernel_rfl) (fun _ _ _ h => h) (Or.inr ⟨by rfl, rfl⟩) (by assumption) ?_
          simp only [List.getElem_toArray, List.getElem_cons_succ, List.getElem_cons_zero, Act.put, List.setIfInBounds_toArray, List.set_cons_zero, List.set_cons_succ]
          refine wpAnyH_take (i := 19) (v := undef) rfl (by kernel_rfl) (by kernel_rfl) (by kernel_rfl) (fun _ _ _ h => h) (Or.inr ⟨by rfl, rfl⟩) (by assumption) ?_
          simp only [List.getElem_toArray, List.getElem_cons_succ, List.getElem_cons_zero, Act.put, List.setIfInBounds_toArray, List.set_cons_zero, List.set_cons_succ]
          refine wpAnyH_take (i := 20) (v := undef) rfl (by kernel_rfl) (by kernel_rfl) (by kernel_rfl) (fun _ _ _ h => h) (Or.inr ⟨by rfl, rfl⟩) (by assumption) ?_
          simp only [List.getElem_toArray, List.getElem_cons_succ, List.getElem_cons_zero, Act.put, List.setIfInBounds_toArray, List.set_cons_zero, List.set_cons_succ]
          refine wpAnyH_take (i := 21) (v := undef) rfl (by kernel_rfl) (by kernel_rfl) (by kernel_rfl) (fun _ _ _ h => h) (Or.inr ⟨by rfl, rfl⟩) (by assumption) ?_
          simp only [List.getElem_toArray, List.getElem_cons_succ, List.getElem_cons_zero, Act.put, List.setIfInBounds_toArray, List.set_cons_zero, List.set_cons_succ]
          refine wpAnyH_take (i := 22) (v := undef) rfl (by kernel_rfl) (by kernel_rfl) (by kernel_rfl) (fun _ _ _ h => h) (Or.inr ⟨by rfl, rfl⟩) (by assumption) ?_
          simp only [List.getElem_toArray, List.getElem_cons_succ, List.getElem_cons_zero, Act.put, List.setIfInBounds_toArray, List.set_cons_zero, List.set_cons_succ]
          refine wpAnyH_take (i := 23) (v := undef) rfl (by kernel_rfl) (by kernel_rfl) (by kernel_rfl) (fun _ _ _ h => h) (Or.inr ⟨by rfl, rfl⟩) (by assumption) ?_
          simp only [List.getElem_toArray, List.getElem_cons_succ, List.getElem_cons_zero, Act.put, List.setIfInBounds_toArray, List.set_cons_zero, List.set_cons_succ]
          refine wpAnyH_take (i := 24) (v := undef) rfl (by kernel_rfl) (by kernel_rfl) (by kernel_rfl) (fun _ _ _ h => h) (Or.inr ⟨by rfl, rfl⟩) (by assumption) ?_
          simp only [List.getElem_toArray, List.getElem_cons_succ, List.getElem_cons_zero, Act.put, List.setIfInBounds_toArray, List.set_cons_zero, List.set_cons_succ]
          refine wpAnyH_take (i := 25) (v := undef) rfl (by kernel_rfl) (by kernel_rfl) (by kernel_rfl) (fun _ _ _ h => h) (Or.inr ⟨by rfl, rfl⟩) (by assumption) ?_
          simp only [List.getElem_toArray, List.getElem_cons_succ, List.getElem_cons_zero, Act.put, List.setIfInBounds_toArray, List.set_cons_zero, List.set_cons_succ]
          refine wpAnyH_take (i := 26) (v := ?_) rfl (by kernel_rfl) (by kernel_rfl) (by kernel_rfl) (fun _ _ _ h => h) (Or.inl ⟨by rfl, ?_⟩) (by assumption) ?_
          rotate_left
          · intro wq hSw; (try dsimp only at hSw); go_simp; (try with_reducible rfl)
          simp only [List.getElem_toArray, List.getElem_cons_succ, List.getElem_cons_zero, Act.put, List.setIfInBounds_toArray, List.set_cons_zero, List.set_cons_succ]
          refine wpAnyH_done (by kernel_rfl) ?_ _
          go_wp2_with fail
          go_ret
          exact ⟨ret_bool HBad.out.symm, box_gb HG3.out⟩
        | true =>
          have CL := Lib.hid (fun w => specLeadsV W H x true hld w)
          cases k with
          | zero =>
            have HNx := Lib.hid (goodTo_succ HGo.out (goodAt_first hx hld))
            clear hx hld
            rw [Nat.add_zero] at hc
            go_wp2_with fail
            refine wp_region_held_drew (S := (fun w' => w'.cell? ⟨w.heap.size, 0, none⟩ = some (.int .i64 W) ∧ w'.cell? ⟨w.heap.size, 1, none⟩ = some (.int .i64 H) ∧ w'.cell? ⟨w.heap.size, 2, none⟩ = some (.slice (some ⟨b, off, none⟩) n cap) ∧ w'.cell? ⟨b, off, none⟩ = some (.int .i64 x))) (by kernel_rfl) (⟨a0, a1, a2, hc⟩) (fun hHeld => ?_)
            refine wpAnyH_take (i := 0) (v := ?_) rfl (by kernel_rfl) (by kernel_rfl) (by kernel_rfl) (fun _ _ _ h => h) (Or.inl ⟨by rfl, ?_⟩) (by assumption) ?_
            rotate_left
            · intro wq hSw; (try dsimp only at hSw); go_simp; (try with_reducible rfl)
            simp only [List.getElem_toArray, List.getElem_cons_succ, List.getElem_cons_zero, Act.put, List.setIfInBounds_toArray, List.set_cons_zero, List.set_cons_succ]
            refine wpAnyH_take (i := 1) (v := ?_) rfl (by kernel_rfl) (by kernel_rfl) (by kernel_rfl) (fun _ _ _ h => h) (Or.inl ⟨by rfl, ?_⟩) (by assumption) ?_
            rotate_left
            · intro wq hSw; (try dsimp only at hSw); go_simp; (try with_reducible rfl)
            simp only [List.getElem_toArray, List.getElem_cons_succ, List.getElem_cons_zero, Act.put, List.setIfInBounds_toArray, List.set_cons_zero, List.set_cons_succ]
            refine wpAnyH_take (i := 2) (v := ?_) rfl (by kernel_rfl) (by kernel_rfl) (by kernel_rfl) (fun _ _ _ h => h) (Or.inl ⟨by rfl, ?_⟩) (by assumption) ?_
            rotate_left
            · intro wq hSw; (try dsimp only at hSw); go_simp; (try with_reducible rfl)
            simp only [List.getElem_toArray, List.getElem_cons_succ, List.getElem_cons_zero, Act.put, List.setIfInBounds_toArray, List.set_cons_zero, List.set_cons_succ]
            refine wpAnyH_take (i := 3) (v := ?_) rfl (by kernel_rfl) (by kernel_rfl) (by kernel_rfl) (fun _ _ _ h => h) (Or.inl ⟨by rfl, ?_⟩) (by assumption) ?_
            rotate_left
            · intro wq hSw; (try dsimp only at hSw); go_simp; (try with_reducible rfl)
            simp only [List.getElem_toArray, List.getElem_cons_succ, List.getElem_cons_zero, Act.put, List.setIfInBounds_toArray, List.set_cons_zero, List.set_cons_succ]
            refine wpAnyH_take (i := 4) (v := ?_) rfl (by kernel_rfl) (by kernel_rfl) (by kernel_rfl) (fun _ _ _ h => h) (Or.inl ⟨by rfl, ?_⟩) (by assumption) ?_
            rotate_left
            · intro wq hSw; (try dsimp only at hSw); go_simp; (try with_reducible rfl)
            simp only [List.getElem_toArray, List.getElem_cons_succ, List.getElem_cons_zero, Act.put, List.setIfInBounds_toArray, List.set_cons_zero, List.set_cons_succ]
            refine wpAnyH_take (i := 5) (v := ?_) rfl (by kernel_rfl) (by kernel_rfl) (by kernel_rfl) (fun _ _ _ h => h) (Or.inl ⟨by rfl, ?_⟩) (by assumption) ?_
            rotate_left
            · intro wq hSw; (try dsimp only at hSw); go_simp; (try with_reducible rfl)
            simp only [List.getElem_toArray, List.getElem_cons_succ, List.getElem_cons_zero, Act.put, List.setIfInBounds_toArray, List.set_cons_zero, List.set_cons_succ]
            refine wpAnyH_take (i := 6) (v := ?_) rfl (by kernel_rfl) (by kernel_rfl) (by kernel_rfl) (fun _ _ _ h => h) (Or.inl ⟨by rfl, ?_⟩) (by assumption) ?_
            rotate_left
            · intro wq hSw; (try dsimp only at hSw); go_simp; (try with_reducible rfl)
            simp only [List.getElem_toArray, List.getElem_cons_succ, List.getElem_cons_zero, Act.put, List.setIfInBounds_toArray, List.set_cons_zero, List.set_cons_succ]
            refine wpAnyH_ready (rs := [7]) (by kernel_rfl) (by simp) ?_
            refine AllReadyH.cons rfl (fun K hK => ?_) AllReadyH.nil
            go_simp
            (with_reducible refine (CL.out _).mono ?_); rintro e w2 ⟨rfl, hg2⟩; have hg3 := gb_trans HG.out (gb_undraw hg2); have kk := box_blk hg3; have d0 : w2.cell? ⟨w.heap.size, 0, none⟩ = some (.int .i64 W) := kk.cell 0; have d1 : w2.cell? ⟨w.heap.size, 1, none⟩ = some (.int .i64 H) := kk.cell 1; have d2 : w2.cell? ⟨w.heap.size, 2, none⟩ = some (.slice (some ⟨b, off, none⟩) n cap) := kk.cell 2; have dc := (hg2.cell hc (by simp)); have HG3 := Lib.hid hg3; clear hg2 hg3 kk
            try go_wp2_with fail
            refine hK.out _ _ (⟨d0, d1, d2, dc⟩) (fun hHeld => ?_)
            clear hK K
            try simp only [List.getElem_toArray, List.getElem_cons_succ, List.getElem_cons_zero, Act.put, List.setIfInBounds_toArray, List.set_cons_zero, List.set_cons_succ]
            refine wpAnyH_take (i := 8) (v := ?_) rfl (by kernel_rfl) (by kernel_rfl) (by kernel_rfl) (fun _ _ _ h => h) (Or.inl ⟨by rfl, ?_⟩) (by assumption) ?_
            rotate_left
            · intro wq hSw; (try dsimp only at hSw); go_simp; (try with_reducible rfl)
            simp only [List.getElem_toArray, List.getElem_cons_succ, List.getElem_cons_zero, Act.put, List.setIfInBounds_toArray, List.set_cons_zero, List.set_cons_succ]
            refine wpAnyH_take (i := 9) (v := ?_) rfl (by kernel_rfl) (by kernel_rfl) (by kernel_rfl) (fun _ _ _ h => h) (Or.inl ⟨by rfl, ?_⟩) (by assumption) ?_
            rotate_left
            · intro wq hSw; (try dsimp only at hSw); go_simp; (try with_reducible rfl)
            simp only [List.getElem_toArray, List.getElem_cons_succ, List.getElem_cons_zero, Act.put, List.setIfInBounds_toArray, List.set_cons_zero, List.set_cons_succ]
            refine wpAnyH_take (i := 10) (v := ?_) rfl (by kernel_rfl) (by kernel_rfl) (by kernel_rfl) (fun _ _ _ h => h) (Or.inl ⟨by rfl, ?_⟩) (by assumption) ?_
            rotate_left
            · intro wq hSw; (try dsimp only at hSw); go_simp; (try with_reducible rfl)
            simp only [List.getElem_toArray, List.getElem_cons_succ, List.getElem_cons_zero, Act.put, List.setIfInBounds_toArray, List.set_cons_zero, List.set_cons_succ]
            refine wpAnyH_take (i := 11) (v := ?_) rfl (by kernel_rfl) (by kernel_rfl) (by kernel_rfl) (fun _ _ _ h => h) (Or.inl ⟨by rfl, ?_⟩) (by assumption) ?_
            rotate_left
            · intro wq hSw; (try dsimp only at hSw); go_simp; (try with_reducible rfl)
            simp only [List.getElem_toArray, List.getElem_cons_succ, List.getElem_cons_zero, Act.put, List.setIfInBounds_toArray, List.set_cons_zero, List.set_cons_succ]
            refine wpAnyH_take (i := 12) (v := ?_) rfl (by kernel_rfl) (by kernel_rfl) (by kernel_rfl) (fun _ _ _ h => h) (Or.inl ⟨by rfl, ?_⟩) (by assumption) ?_
            rotate_left
            · intro wq hSw; (try dsimp only at hSw); go_simp; (try with_reducible rfl)
            simp only [List.getElem_toArray, List.getElem_cons_succ, List.getElem_cons_zero, Act.put, List.setIfInBounds_toArray, List.set_cons_zero, List.set_cons_succ]
            refine wpAnyH_take (i := 13) (v := undef) rfl (by kernel_rfl) (by kernel_rfl) (by kernel_rfl) (fun _ _ _ h => h) (Or.inr ⟨by rfl, rfl⟩) (by assumption) ?_
            simp only [List.getElem_toArray, List.getElem_cons_succ, List.getElem_cons_zero, Act.put, List.setIfInBounds_toArray, List.set_cons_zero, List.set_cons_succ]
            refine wpAnyH_take (i := 14) (v := undef) rfl (by kernel_rfl) (by kernel_rfl) (by kernel_rfl) (fun _ _ _ h => h) (Or.inr ⟨by rfl, rfl⟩) (by assumption) ?_
            simp only [List.getElem_toArray, List.getElem_cons_succ, List.getElem_cons_zero, Act.put, List.setIfInBounds_toArray, List.set_cons_zero, List.set_cons_succ]
            refine wpAnyH_take (i := 15) (v := undef) rfl (by kernel_rfl) (by kernel_rfl) (by kernel_rfl) (fun _ _ _ h => h) (Or.inr ⟨by rfl, rfl⟩) (by assumption) ?_
            simp only [List.getElem_toArray, List.getElem_cons_succ, List.getElem_cons_zero, Act.put, List.setIfInBounds_toArray, List.set_cons_zero, List.set_cons_succ]
            refine wpAnyH_take (i := 16) (v := undef) rfl (by kernel_rfl) (by kernel_rfl) (by kernel_rfl) (fun _ _ _ h => h) (Or.inr ⟨by rfl, rfl⟩) (by assumption) ?_
            simp only [List.getElem_toArray, List.getElem_cons_succ, List.getElem_cons_zero, Act.put, List.setIfInBounds_toArray, List.set_cons_zero, List.set_cons_succ]
            refine wpAnyH_take (i := 17) (v := undef) rfl (by kernel_rfl) (by kernel_rfl) (by kernel_rfl) (fun _ _ _ h => h) (Or.inr ⟨by rfl, rfl⟩) (by assumption) ?_
            simp only [List.getElem_toArray, List.getElem_cons_succ, List.getElem_cons_zero, Act.put, List.setIfInBounds_toArray, List.set_cons_zero, List.set_cons_succ]
            refine wpAnyH_take (i := 18) (v := undef) rfl (by kernel_rfl) (by kernel_rfl) (by kernel_rfl) (fun _ _ _ h => h) (Or.inr ⟨by rfl, rfl⟩) (by assumption) ?_
            simp only [List.getElem_toArray, List.getElem_cons_succ, List.getElem_cons_zero, Act.put, List.setIfInBounds_toArray, List.set_cons_zero, List.set_cons_succ]
            refine wpAnyH_take (i := 19) (v := undef) rfl (by kernel_rfl) (by kernel_rfl) (by kernel_rfl) (fun _ _ _ h => h) (Or.inr ⟨by rfl, rfl⟩) (by assumption) ?_
            simp only [List.getElem_toArray, List.getElem_cons_succ, List.getElem_cons_zero, Act.put, List.setIfInBounds_toArray, List.set_cons_zero, List.set_cons_succ]
            refine wpAnyH_take (i := 20) (v := undef) rfl (by kernel_rfl) (by kernel_rfl) (by kernel_rfl) (fun _ _ _ h => h) (Or.inr ⟨by rfl, rfl⟩) (by assumption) ?_
            simp only [List.getElem_toArray, List.getElem_cons_succ, List.getElem_cons_zero, Act.put, List.setIfInBounds_toArray, List.set_cons_zero, List.set_cons_succ]
            refine wpAnyH_take (i := 21) (v := undef) rfl (by kernel_rfl) (by kernel_rfl) (by kernel_rfl) (fun _ _ _ h => h) (Or.inr ⟨by rfl, rfl⟩) (by assumption) ?_
            simp only [List.getElem_toArray, List.getElem_cons_succ, List.getElem_cons_zero, Act.put, List.setIfInBounds_toArray, List.set_cons_zero, List.set_cons_succ]
            refine wpAnyH_take (i := 22) (v := undef) rfl (by kernel_rfl) (by kernel_rfl) (by kernel_rfl) (fun _ _ _ h => h) (Or.inr ⟨by rfl, rfl⟩) (by assumption) ?_
            simp only [List.getElem_toArray, List.getElem_cons_succ, List.getElem_cons_zero, Act.put, List.setIfInBounds_toArray, List.set_cons_zero, List.set_cons_succ]
            refine wpAnyH_take (i := 23) (v := undef) rfl (by kernel_rfl) (by kernel_rfl) (by kernel_rfl) (fun _ _ _ h => h) (Or.inr ⟨by rfl, rfl⟩) (by assumption) ?_
            simp only [List.getElem_toArray, List.getElem_cons_succ, List.getElem_cons_zero, Act.put, List.setIfInBounds_toArray, List.set_cons_zero, List.set_cons_succ]
            refine wpAnyH_take (i := 24) (v := undef) rfl (by kernel_rfl) (by kernel_rfl) (by kernel_rfl) (fun _ _ _ h => h) (Or.inr ⟨by rfl, rfl⟩) (by assumption) ?_
            simp only [List.getElem_toArray, List.getElem_cons_succ, List.getElem_cons_zero, Act.put, List.setIfInBounds_toArray, List.set_cons_zero, List.set_cons_succ]
            refine wpAnyH_take (i := 25) (v := ?_) rfl (by kernel_rfl) (by kernel_rfl) (by kernel_rfl) (fun _ _ _ h => h) (Or.inl ⟨by rfl, ?_⟩) (by assumption) ?_
            rotate_left
            · intro wq hSw; (try dsimp only at hSw); go_simp; (try with_reducible rfl)
            simp only [List.getElem_toArray, List.getElem_cons_succ, List.getElem_cons_zero, Act.put, List.setIfInBounds_toArray, List.set_cons_zero, List.set_cons_succ]
            refine wpAnyH_take (i := 26) (v := ?_) rfl (by kernel_rfl) (by kernel_rfl) (by kernel_rfl) (fun _ _ _ h => h) (Or.inl ⟨by rfl, ?_⟩) (by assumption) ?_
            rotate_left
            · intro wq hSw; (try dsimp only at hSw); go_simp; (try with_reducible rfl)
            simp only [List.getElem_toArray, List.getElem_cons_succ, List.getElem_cons_zero, Act.put, List.setIfInBounds_toArray, List.set_cons_zero, List.set_cons_succ]
            refine wpAnyH_done (by kernel_rfl) ?_ _
            go_wp2_with fail
            go_roundw
            case rel => exact ⟨1, by go_num, by omega, HNx.out, HG3.out⟩
            case measure => simp [intOf] <;> omega
          | succ j =>
            obtain ⟨b', off', hbe, _, hc2⟩ := HIA.out.at j (by omega)
            obtain ⟨rfl, rfl⟩ : b = b' ∧ off = off' := by injection hbe with h1; injection h1 with h2 h3; exact ⟨h2, h3⟩
            obtain ⟨y, hy⟩ : ∃ y, L.getD j 0 = y := ⟨_, rfl⟩
            rw [hy] at hc2
            have hga := goodAt_next hx hy hld
            have e1 : IntKind.i64.wrap ((j : Int) + 1 - 1) = (j : Int) := by rw [Int.add_sub_cancel]; exact IntWalk.i64_in _ (by omega)
            have e2 : IntKind.i64.wrap (((j + 1 : Nat) : Int) - 1) = (j : Int) := by rw [IntWalk.i64_in _ (by omega)]; omega
            have e3 : IntKind.i64.wrap (j : Int) = (j : Int) := IntWalk.i64_in _ (by omega)
            have j0 : (0 : Int) ≤ (j : Int) := by omega
            have j1 : (j : Int) < (n : Int) := by omega
            have j2 : (0 : Int) ≤ (j : Int) + 1 := by omega
            have j3 : (j : Int) + 1 < (n : Int) := by omega
            have j4 : ((j : Int) + 1).toNat = j + 1 := by omega
            by_cases hyx : y < x
            · have hle : decide (x ≤ y) = false := decide_eq_false (by omega)
              have hgd : goodAt W H L (j + 1) = true := by rw [hga]; exact decide_eq_true hyx
              have HNx := Lib.hid (goodTo_succ HGo.out hgd)
              clear hx hy hld hbe hga hgd hyx
              go_wp2_with fail
              first
              | go_region_held3 (fun w' => w'.cell? ⟨w.heap.size, 0, none⟩ = some (.int .i64 W) ∧ w'.cell? ⟨w.heap.size, 1, none⟩ = some (.int .i64 H) ∧ w'.cell? ⟨w.heap.size, 2, none⟩ = some (.slice (some ⟨b, off, none⟩) n cap) ∧ w'.cell? ⟨b, off + (j + 1), none⟩ = some (.int .i64 x) ∧ w'.cell? ⟨b, off + j, none⟩ = some (.int .i64 y))
                  (first | exact ⟨a0, a1, a2, hc, hc2⟩ | exact ⟨d0, d1, d2, dc, dc2⟩)
                  (first | (go_at_call 97; (with_reducible refine (CL.out _).mono ?_); rintro e w2 ⟨rfl, hg2⟩; have hg3 := gb_trans HG.out (gb_undraw hg2); have kk := box_blk hg3; have d0 : w2.cell? ⟨w.heap.size, 0, none⟩ = some (.int .i64 W) := kk.cell 0; have d1 : w2.cell? ⟨w.heap.size, 1, none⟩ = some (.int .i64 H) := kk.cell 1; have d2 : w2.cell? ⟨w.heap.size, 2, none⟩ = some (.slice (some ⟨b, off, none⟩) n cap) := kk.cell 2; have dc := (hg2.cell hc (by simp)); have dc2 := (hg2.cell hc2 (by simp)); have HG3 := Lib.hid hg3; clear hg2 hg3 kk) | fail)
              | fail "held"
              all_goals
                go_wp2_with fail
                go_roundw
                case rel => exact ⟨j + 2, by go_num, by omega, HNx.out, HG3.out⟩
                case measure => simp [intOf] <;> omega
            · have hle : decide (x ≤ y) = true := decide_eq_true (by omega)
              have hgd : goodAt W H L (j + 1) = false := by rw [hga]; exact decide_eq_false hyx
              have HBad := Lib.hid (meshG_no (i := j + 1) (by omega) hgd)
              clear hx hy hld hbe hga hgd hyx
              go_wp2_with fail
              first
              | go_region_held3 (fun w' => w'.cell? ⟨w.heap.size, 0, none⟩ = some (.int .i64 W) ∧ w'.cell? ⟨w.heap.size, 1, none⟩ = some (.int .i64 H) ∧ w'.cell? ⟨w.heap.size, 2, none⟩ = some (.slice (some ⟨b, off, none⟩) n cap) ∧ w'.cell? ⟨b, off + (j + 1), none⟩ = some (.int .i64 x) ∧ w'.cell? ⟨b, off + j, none⟩ = some (.int .i64 y))
                  (first | exact ⟨a0, a1, a2, hc, hc2⟩ | exact ⟨d0, d1, d2, dc, dc2⟩)
                  (first | (go_at_call 97; (with_reducible refine (CL.out _).mono ?_); rintro e w2 ⟨rfl, hg2⟩; have hg3 := gb_trans HG.out (gb_undraw hg2); have kk := box_blk hg3; have d0 : w2.cell? ⟨w.heap.size, 0, none⟩ = some (.int .i64 W) := kk.cell 0; have d1 : w2.cell? ⟨w.heap.size, 1, none⟩ = some (.int .i64 H) := kk.cell 1; have d2 : w2.cell? ⟨w.heap.size, 2, none⟩ = some (.slice (some ⟨b, off, none⟩) n cap) := kk.cell 2; have dc := (hg2.cell hc (by simp)); have dc2 := (hg2.cell hc2 (by simp)); have HG3 := Lib.hid hg3; clear hg2 hg3 kk) | fail)
              | fail "held"
              all_goals
                go_wp2_with fail
                go_ret
                exact ⟨ret_bool HBad.out.symm, box_gb HG3.out⟩
      · obtain rfl : k = n := by omega
        clear hia
        go_wp2_with fail
        go_ret
        exact ⟨ret_bool (meshG_yes hok (by rw [hl]; exact HGo.out)).symm, box_gb HG.out⟩
end Go.Proofs.YtfloekbmgjmhbaaGreat
end

section
namespace Go.Proofs.YtfloekbmgjmhbaaGreat
open Go.ChangeShapes Go.WideShapes Go.ChangeAt Go.RowKit
set_option linter.unusedVariables false

theorem specMeshOkV (W H : Int) (A : Option Addr) (n cap : Nat) (L : List Int) (b : Bool) (hb : meshG W H L = b) (w : World) (h : IntAt w w.heap.size A n L) (hn : n ≤ 1000000000) :
    Calls Tryz.prog 92 #[.agg #[.int .i64 W, .int .i64 H, .slice A n cap]] w (RetB b w) := hb ▸ specMeshOk W H A n cap L w h hn

theorem specHasCh (W H : Int) (A : Option Addr) (n cap : Nat) (L : List Int) (c : Int) (w : World) (h : IntAt w w.heap.size A n L) (hn : n ≤ 1000000000) :
    Calls Tryz.prog 93 #[.agg #[.int .i64 W, .int .i64 H, .slice A n cap], .int .i64 c] w (RetB (hasChG W H L c) w) := by
  have HI := Lib.hid h
  clear h
  cases hld : leadsG W H c with
  | false =>
    go_enter Tryz.func93, Tryz.ntmps93
    go_wp2_with fail
    refine (specLeadsV W H c false hld _).mono ?_
    rintro e w1 ⟨rfl, hg⟩
    have Hg := Lib.hid (box_gb hg)
    clear hg
    go_wp2_with fail
    go_ret
    exact ⟨ret_bool (by simp [hasChG, hld]), Hg.out⟩
  | true =>
    obtain ⟨b, hb⟩ : ∃ b, inG L c = b := ⟨_, rfl⟩
    have hr : hasChG W H L c = !b := by simp [hasChG, hld, hb]
    have HR := Lib.hid hr
    clear hr
    go_enter Tryz.func93, Tryz.ntmps93
    go_wp2_with fail
    refine (specLeadsV W H c true hld _).mono ?_
    rintro e w1 ⟨rfl, hg⟩
    have hbk := box_blk hg
    have a2 := hbk.cell 2
    simp at a2
    have hi := HI.out.none (Nat.le_refl _) (box_gb hg)
    have Hg := Lib.hid (box_gb hg)
    clear hg hbk
    go_wp2_with fail
    refine (specFindV A n cap w.heap.size L c b hb _ hi hn).mono ?_
    rintro e w2 ⟨rfl, rfl⟩
    clear hi
    go_wp2_with fail
    go_ret
    exact ⟨ret_bool (by rw [HR.out]), Hg.out⟩

theorem specHasChV (W H : Int) (A : Option Addr) (n cap : Nat) (L : List Int) (c : Int) (b : Bool) (hb : hasChG W H L c = b) (w : World) (h : IntAt w w.heap.size A n L) (hn : n ≤ 1000000000) :
    Calls Tryz.prog 93 #[.agg #[.int .i64 W, .int .i64 H, .slice A n cap], .int .i64 c] w (RetB b w) := hb ▸ specHasCh W H A n cap L c w h hn
end Go.Proofs.YtfloekbmgjmhbaaGreat
end

section
namespace Go.Proofs.YtfloekbmgjmhbaaGreat
open Go.ChangeShapes Go.WideShapes Go.ChangeAt Go.RowKit
set_option linter.unusedVariables false

theorem box2 {w w1 : World} {T U : TypeId} {cs ds : Array Value} (h : ((w.alloc (.cells cs T)).alloc (.cells ds U)).grownBy w1 none) :
    Blk w1 w.heap.size T cs ∧ Blk w1 (w.heap.size + 1) U ds ∧ w.grownBy w1 none := by
  refine ⟨((Blk.new w T cs).alloc _).grown h (by simp), ?_, gb_trans (gb_alloc (gb_alloc (gb_refl _ _) _) _) h⟩
  have := (Blk.new (w.alloc (.cells cs T)) U ds).grown h (by simp)
  rwa [alloc_size] at this
theorem sq_bounds {k : Int} (h0 : 0 ≤ k) (h1 : k ≤ 16) : 0 ≤ k * k ∧ k * k ≤ 256 := by
  have e : k = (k.toNat : Int) := (Int.toNat_of_nonneg h0).symm
  have h2 : k.toNat ≤ 16 := by omega
  have h3 : k.toNat * k.toNat ≤ 16 * 16 := Nat.mul_le_mul h2 h2
  rw [e, ← Int.natCast_mul]
  omega
end Go.Proofs.YtfloekbmgjmhbaaGreat
end

section
namespace Go.Proofs.YtfloekbmgjmhbaaGreat
open Go.ChangeShapes Go.WideShapes Go.ChangeAt Go.RowKit
set_option linter.unusedVariables false

theorem specSized (W H : Int) (A A2 : Option Addr) (n cap n2 c2 : Nat) (L P : List Int) (b : Bool) (hb : sizedG W H L P = b) (w : World) (h : IntAt w w.heap.size A n L) (hn : n ≤ 1000000000) (hp : P.length = n2) (hn2 : n2 ≤ 1000000000) :
    Calls Tryz.prog 86 #[.agg #[.int .i64 W, .int .i64 H, .slice A n cap], .agg #[.slice A2 n2 c2]] w (RetB b w) := by
  have HI := Lib.hid h
  clear h
  obtain ⟨k, hk⟩ : ∃ k, countG W H = k := ⟨_, rfl⟩
  obtain ⟨hk0, hk1⟩ := countG_le W H
  rw [hk] at hk0 hk1
  obtain ⟨m0, m1⟩ := sq_bounds hk0 hk1
  have hsz : sizedG W H L P = (meshG W H L && decide ((n2 : Int) = k * k)) := by rw [sizedG, hk, hp]
  have hw : wrap64 (k * k) = k * k := IntWalk.wrap64_in _ (by omega)
  have HN := Lib.hid (fun w => specNodeCountV W H k hk w)
  rw [hb] at hsz
  clear hk hk0 hk1 m0 m1 hp hb
  cases hm : meshG W H L with
  | false =>
    have HM := Lib.hid (fun w h => specMeshOkV W H A n cap L false hm w h hn)
    have hf : b = false := by rw [hsz, hm]; rfl
    have HF := Lib.hid hf
    clear hm hf hsz hw
    go_enter Tryz.func86, Tryz.ntmps86
    go_wp2_with fail
    refine (HN.out _).mono ?_
    rintro e w1 ⟨rfl, hg⟩
    obtain ⟨k1, k2, g1⟩ := box2 hg
    have a0 : w1.cell? ⟨w.heap.size, 0, none⟩ = some (.int .i64 W) := k1.cell 0
    have a1 : w1.cell? ⟨w.heap.size, 1, none⟩ = some (.int .i64 H) := k1.cell 1
    have a2 : w1.cell? ⟨w.heap.size, 2, none⟩ = some (.slice A n cap) := k1.cell 2
    have hi := (HI.out.none (Nat.le_refl _) g1).more (B' := w1.heap.size) g1.size
    have G1 := Lib.hid g1
    clear hg k1 k2 g1
    go_wp2_with fail
    refine (HM.out _ hi).mono ?_
    rintro e w2 ⟨rfl, hg2⟩
    have G2 := Lib.hid (gb_trans G1.out hg2)
    clear hg2 hi
    go_wp2_with fail
    go_ret
    exact ⟨ret_bool HF.out.symm, G2.out⟩
  | true =>
    have HM := Lib.hid (fun w h => specMeshOkV W H A n cap L true hm w h hn)
    have hf : b = decide ((n2 : Int) = k * k) := by rw [hsz, hm]; rfl
    have HF := Lib.hid hf
    have HW := Lib.hid hw
    clear hm hf hsz hw
    go_enter Tryz.func86, Tryz.ntmps86
    go_wp2_with fail
    refine (HN.out _).mono ?_
    rintro e w1 ⟨rfl, hg⟩
    obtain ⟨k1, k2, g1⟩ := box2 hg
    have a0 : w1.cell? ⟨w.heap.size, 0, none⟩ = some (.int .i64 W) := k1.cell 0
    have a1 : w1.cell? ⟨w.heap.size, 1, none⟩ = some (.int .i64 H) := k1.cell 1
    have a2 : w1.cell? ⟨w.heap.size, 2, none⟩ = some (.slice A n cap) := k1.cell 2
    have hi := (HI.out.none (Nat.le_refl _) g1).more (B' := w1.heap.size) g1.size
    have G1 := Lib.hid g1
    have K2 := Lib.hid k2
    clear hg k1 k2 g1
    go_wp2_with fail
    refine (HM.out _ hi).mono ?_
    rintro e w2 ⟨rfl, hg2⟩
    have b0 : w2.cell? ⟨w.heap.size + 1, 0, none⟩ = some (.slice A2 n2 c2) := (K2.out.grown hg2 (by simp)).cell 0
    have G2 := Lib.hid (gb_trans G1.out hg2)
    clear hg2 hi a0 a1 a2
    go_wp2_with fail
    go_ret
    exact ⟨ret_bool (by rw [HF.out]; simp only [HW.out]; rfl), G2.out⟩
end Go.Proofs.YtfloekbmgjmhbaaGreat
end

section
namespace Go.Proofs.YtfloekbmgjmhbaaGreat
open Go.ChangeShapes Go.WideShapes Go.ChangeAt Go.RowKit
set_option linter.unusedVariables false
set_option maxRecDepth 20000

/-- A mesh and a table as blocks. -/
def twoB (W H : Int) (A A2 : Option Addr) (n cap n2 c2 : Nat) (w : World) : World := (w.alloc (.cells (meshC W H A n cap) 39)).alloc (.cells #[.slice A2 n2 c2] 40)
section
variable {W H : Int} {A A2 : Option Addr} {n cap n2 c2 : Nat} {w wr : World}
theorem twoB_size : (twoB W H A A2 n cap n2 c2 w).heap.size = w.heap.size + 2 := by unfold twoB; rw [alloc_size, alloc_size]
theorem twoB_below : Below w.heap.size w (twoB W H A A2 n cap n2 c2 w) := ((Below.refl _ _).alloc (Nat.le_refl _) _).alloc (by rw [alloc_size]; omega) _
theorem twoB_mesh (h : Below (w.heap.size + 2) (twoB W H A A2 n cap n2 c2 w) wr) : Blk wr w.heap.size 39 (meshC W H A n cap) :=
  ((Blk.new w 39 (meshC W H A n cap)).alloc _).below h (by omega)
theorem twoB_table (h : Below (w.heap.size + 2) (twoB W H A A2 n cap n2 c2 w) wr) : Blk wr (w.heap.size + 1) 40 #[.slice A2 n2 c2] := by
  have := Blk.new (w.alloc (.cells (meshC W H A n cap) 39)) 40 #[.slice A2 n2 c2]
  rw [alloc_size] at this
  exact this.below h (by omega)
theorem twoB_old (h : Below (w.heap.size + 2) (twoB W H A A2 n cap n2 c2 w) wr) : Below w.heap.size w wr :=
  twoB_below.trans (h.mono (by omega))
theorem twoB_le (h : Below (w.heap.size + 2) (twoB W H A A2 n cap n2 c2 w) wr) : w.heap.size + 2 ≤ wr.heap.size := by have := h.size; rw [twoB_size] at this; exact this
end
theorem new_nil {w wr : World} (h : Below w.heap.size w wr) : (wr.alloc (.cells #[] 3)).ownsRow w.heap.size 3 1 (.slice (some ⟨wr.heap.size, 0, none⟩) 0 0) 0 [] ∧ Below w.heap.size w (wr.alloc (.cells #[] 3)) :=
  ⟨World.ownsRow_made (base := w.heap.size) (e := 3) (size := 1) wr #[] 0 h.size (by decide) rfl, h.alloc h.size _⟩

def lenV : Value → Nat | .slice _ n _ => n | _ => 0
def WalkAt (W H : Int) (A A2 : Option Addr) (n cap n2 c2 : Nat) (w : World) (acc : List Int) (v : Value) (wr : World) : Prop :=
  wr.ownsRow (w.heap.size + 2) 3 1 v acc.length (intsV acc) ∧ Below (w.heap.size + 2) (twoB W H A A2 n cap n2 c2 w) wr

theorem WalkAt.app {W H : Int} {A A2 : Option Addr} {n cap n2 c2 : Nat} {w w3 w4 : World} {acc : List Int} {x : Int} {v v' : Value} {o : Obj} (hb : Below (w.heap.size + 2) (twoB W H A A2 n cap n2 c2 w) w3) (ho : w3.ownsRow (w.heap.size + 2) 3 1 v acc.length (intsV acc))
    (hown4 : w4.ownsRow (w.heap.size + 2) 3 1 v' (acc.length + 1) (intsV acc ++ [.int .i64 x])) (hg : (w3.alloc o).grownBy w4 v.ownBlock) :
    WalkAt W H A A2 n cap n2 c2 w (acc ++ [x]) v' w4 ∧ lenV v' = acc.length + 1 ∧ w4.cell? ⟨w.heap.size, 0, none⟩ = some (.int .i64 W) ∧ w4.cell? ⟨w.heap.size, 1, none⟩ = some (.int .i64 H) := by
  have hX : WalkAt W H A A2 n cap n2 c2 w (acc ++ [x]) v' w4 :=
    ⟨by rw [List.length_append, intsV_append]; exact hown4, (hb.alloc (twoB_le hb) _).grown hg (by have := twoB_le hb; simp; omega) (fun j hj => (ho.lt j hj).1)⟩
  refine ⟨hX, ?_, (twoB_mesh hX.2).cell 0, (twoB_mesh hX.2).cell 1⟩
  obtain ⟨A', c', rfl, _⟩ := own_form hX.1
  simp [lenV]

set_option maxHeartbeats 1600000 in
theorem specWalk (W H : Int) (A A2 : Option Addr) (n cap n2 c2 : Nat) (L P : List Int) (a z : Int) (w : World) (h : IntAt w w.heap.size A n L) (h2 : IntAt w w.heap.size A2 n2 P) (hn : n ≤ 1000000000) (hn2 : n2 ≤ 1000000000)
    (hs : sizedG W H L P = true) (ha : hasG W H a = true) (hz : hasG W H z = true) :
    Calls Tryz.prog 87 #[.agg #[.int .i64 W, .int .i64 H, .slice A n cap], .agg #[.slice A2 n2 c2], .int .i64 a, .int .i64 z] w (NewI (walkOf W H L P a z) w) := by
  obtain ⟨i0, hi, hz0, hz1, hz2⟩ := info_parts info_int
  have hp := h2.1
  have HI := Lib.hid h
  have HP := Lib.hid h2
  clear h h2
  obtain ⟨k, hk⟩ : ∃ k, countG W H = k := ⟨_, rfl⟩
  obtain ⟨hk0, hk1⟩ := countG_le W H
  rw [hk] at hk0 hk1
  have hsq := (sizedG_mesh hs).2
  rw [hp, hk] at hsq
  have HSQ := Lib.hid hsq
  have HN := Lib.hid (fun w => specNodeCountV W H k hk w)
  have HK := Lib.hid hk
  have hzz := hasG_iff.1 hz
  rw [hk] at hzz
  have HZ := Lib.hid hzz
  have HA := Lib.hid ha
  have HRS := Lib.hid (show walkOf W H L P a z = restG W H L P z [] (k.toNat + 1) a by rw [← hk]; exact (rest_start a z).symm)
  obtain ⟨res, hres⟩ : ∃ res, walkOf W H L P a z = res := ⟨_, rfl⟩
  rw [hres] at HRS ⊢
  have hown0 : ((twoB W H A A2 n cap n2 c2 w).alloc (.cells #[] 3)).ownsRow (w.heap.size + 2) 3 1 (.slice (some ⟨w.heap.size + 2, 0, none⟩) 0 0) 0 [] := by
    have := World.ownsRow_made (base := w.heap.size + 2) (e := 3) (size := 1) (twoB W H A A2 n cap n2 c2 w) #[] 0 (by rw [twoB_size]; exact Nat.le_refl _) (by decide) rfl
    rwa [twoB_size] at this
  have HO0 := Lib.hid hown0
  have HB0 := Lib.hid (show Below (w.heap.size + 2) (twoB W H A A2 n cap n2 c2 w) ((twoB W H A A2 n cap n2 c2 w).alloc (.cells #[] 3)) from (Below.refl _ _).alloc (by rw [twoB_size]; exact Nat.le_refl _) _)
  clear hk hs ha hz hsq hzz hres hown0 hp
  go_enter Tryz.func87, Tryz.ntmps87
  go_wp2_with fail
  refine (HN.out _).mono ?_
  rintro e w1 ⟨rfl, hg⟩
  have HX := Lib.hid (show WalkAt W H A A2 n cap n2 c2 w [] (.slice (some ⟨w.heap.size + 2, 0, none⟩) 0 0) w1 from
    ⟨own_none HO0.out hg, below_gb HB0.out (by rw [twoB_size]; exact Nat.le_refl _) hg⟩)
  clear hg
  go_wp2_with fail
  go_loopw [9, 11] (fun v i wr => ∃ (acc : List Int) (x : Int), i = .int .i64 x ∧ (acc.length : Int) ≤ k + 1 ∧ hasG W H x = true ∧ res = restG W H L P z acc (k.toNat + 1 - acc.length) x ∧ WalkAt W H A A2 n cap n2 c2 w acc v wr) (fun v _ _ => 17 - lenV v)
  case atStart => exact ⟨[], a, rfl, by simp; omega, HA.out, HRS.out, HX.out⟩
  case round =>
    obtain ⟨acc, x, rfl, hl, hx, hre, hown, hbel⟩ := hrel
    obtain ⟨Aq, capq, rfl, hAq⟩ := own_form hown
    have HOwn := Lib.hid hown
    have HBel := Lib.hid hbel
    have hl17 : acc.length ≤ 17 := by omega
    have tb := twoB_table hbel
    have b0 : wr.cell? ⟨w.heap.size + 1, 0, none⟩ = some (.slice A2 n2 c2) := tb.cell 0
    have hsw := twoB_le hbel
    have hbo := twoB_old hbel
    have HX := Lib.hid hx
    have HRE := Lib.hid hre
    have HAQ := Lib.hid hAq
    obtain ⟨x0, x1⟩ := hasG_iff.1 hx
    rw [HK.out] at x1
    clear hown hbel tb hx hre hAq
    by_cases hlt : (acc.length : Int) ≤ k
    · obtain ⟨t0, t1⟩ := tab_at HSQ.out x0 x1 HZ.out.1 HZ.out.2
      obtain ⟨j, hj⟩ : ∃ j : Nat, x * k + z = (j : Int) := ⟨(x * k + z).toNat, (Int.toNat_of_nonneg t0).symm⟩
      have hjn : j < n2 := by omega
      have hak := Int.mul_nonneg x0 hk0
      have hz0 := HZ.out.1
      have e1 : wrap64 (x * k) = x * k := IntWalk.wrap64_in _ (by omega)
      have e2 : wrap64 (x * k + z) = (j : Int) := by rw [hj]; exact IntWalk.wrap64_in _ (by omega)
      obtain ⟨b, off, rfl, hbB, hcell⟩ := (HP.out.below hbo).at j hjn
      obtain ⟨p, hpp⟩ : ∃ p, P.getD j 0 = p := ⟨_, rfl⟩
      rw [hpp] at hcell
      have htab : tabG (countG W H) P x z = p := by unfold tabG; rw [HK.out, hj, Int.toNat_natCast]; exact hpp
      obtain ⟨f, hf⟩ : ∃ f, k.toNat + 1 - acc.length = f + 1 := ⟨k.toNat - acc.length, by omega⟩
      have hre := HRE.out
      rw [hf] at hre
      have HF := Lib.hid hf
      have HT := Lib.hid htab
      have HRE2 := Lib.hid hre
      have HHJ := Lib.hid hj
      have x16 : x ≤ 15 := by omega
      have HBO := Lib.hid hbo
      have j0 : (0 : Int) ≤ (j : Int) := by omega
      have j1 : (j : Int) < (n2 : Int) := by omega
      clear hj hpp htab hf hre t0 t1 hak hz0 hbo
      by_cases h4 : p = 4
      · subst h4
        by_cases hxz : x = z
        · have hxb : (x != z) = false := by simpa using hxz
          have HF2 := Lib.hid (HRE2.out.trans (rest_end HT.out hxz))
          clear hxz
          go_wp2_with fail
          go_ret
          refine ⟨_, rfl, ?_, HBO.out⟩
          rw [HF2.out]
          exact own_less HOwn.out (by omega)
        · have hxb : (x != z) = true := by simpa using hxz
          have HF2 := Lib.hid (HRE2.out.trans (rest_lost HT.out hxz))
          clear hxz
          go_wp2_with fail
          go_ret
          obtain ⟨o, b⟩ := new_nil HBO.out
          refine ⟨_, rfl, ?_, b⟩
          rw [HF2.out]
          exact o
      · have h4b : (p == 4) = false := by simpa using h4
        have H4 := Lib.hid h4
        clear h4
        by_cases h03 : 0 ≤ p ∧ p ≤ 3
        · have HIN := Lib.hid (fun w => specInV p 0 3 true (decide_eq_true h03) w)
          obtain ⟨p0, p3⟩ := h03
          have hi2 := (HI.out.below HBO.out).more (B' := wr.heap.size) (by omega)
          have tm := twoB_mesh HBel.out
          have a0 : wr.cell? ⟨w.heap.size, 0, none⟩ = some (.int .i64 W) := tm.cell 0
          have a1 : wr.cell? ⟨w.heap.size, 1, none⟩ = some (.int .i64 H) := tm.cell 1
          have a2 : wr.cell? ⟨w.heap.size, 2, none⟩ = some (.slice A n cap) := tm.cell 2
          have TM := Lib.hid tm
          clear tm
          cases hc : hasChG W H L (4 * x + p) with
          | false =>
            have HC := Lib.hid (fun w h => specHasChV W H A n cap L (4 * x + p) false hc w h hn)
            have HF2 := Lib.hid (HRE2.out.trans (rest_bad HT.out H4.out (by simp [stepsG, hc])))
            clear hc
            go_wp2_with fail
            refine (HIN.out _).mono ?_
            rintro e w2 ⟨rfl, rfl⟩
            go_wp2_with fail
            refine (HC.out _ hi2).mono ?_
            rintro e w3 ⟨rfl, hg3⟩
            have G3 := Lib.hid (gb_below_none hg3 (Nat.le_trans HBO.out.size (Nat.le_refl _)))
            clear hg3 hi2
            go_wp2_with fail
            go_ret
            obtain ⟨o, b⟩ := new_nil (HBO.out.trans G3.out)
            refine ⟨_, rfl, ?_, b⟩
            rw [HF2.out]
            exact o
          | true =>
            have hst : stepsG W H L x p = true := by simp [stepsG, hc, p0, p3]
            have HC := Lib.hid (fun w h => specHasChV W H A n cap L (4 * x + p) true hc w h hn)
            have HF2 := Lib.hid (HRE2.out.trans (rest_go HT.out H4.out hst))
            have HNX := Lib.hid (step_has hst)
            obtain ⟨y, hy⟩ : ∃ y, nextG W H x p = y := ⟨_, rfl⟩
            rw [hy] at HF2 HNX
            have HNN := Lib.hid (fun w => specNextNodeV W H x p y hy w)
            clear hc hst hy
            go_wp2_with fail
            refine (HIN.out _).mono ?_
            rintro e w2 ⟨rfl, rfl⟩
            go_wp2_with fail
            refine (HC.out _ hi2).mono ?_
            rintro e w3 ⟨rfl, hg3⟩
            have G3 := Lib.hid hg3
            have hown1 := own_none HOwn.out hg3
            have hsz1 : w.heap.size + 2 ≤ w3.heap.size := Nat.le_trans hsw hg3.size
            have b3' := Lib.hid (show ∀ u ∈ [Value.int .i64 (4 * x + p)], u.oneCell' = true by simp [Value.oneCell'])
            have b4' := Lib.hid (show acc.length + 1 ≤ maxLen by unfold maxLen; omega)
            clear hg3 hi2 a0 a1 a2 b0
            go_wp2_with (at_builtin; refine wpList_append_own _ rfl _ _ 24 rfl (w.heap.size + 2) 3 i0 (.int .i64 0) 1 8 Tryz.underlying24 hi hz0 hz1 hz2 rfl (by decide) _ acc.length _ rfl (hown1.alloc _) ⟨w3.heap.size, 0, none⟩ 1 1 [.int .i64 (4 * x + p)] rfl rfl (World.news_of_block (cs := #[.int .i64 (4 * x + p)]) (t := 3) (fr := (0, 0)) (heap_alloc_new w3 _)) b3'.out b4'.out (by omega) (by simp; omega) ?_; intro v' w4 hown4 hgrow4 _; obtain ⟨xa, xl, a0, a1⟩ := WalkAt.app (below_gb HBel.out (by rw [twoB_size]; exact Nat.le_refl _) G3.out) hown1 hown4 hgrow4; have HXA := Lib.hid xa; have HLV := Lib.hid xl; clear xa xl hown4 hgrow4)
            refine (HNN.out _).mono ?_
            rintro e w5 ⟨rfl, hg5⟩
            have G5 := Lib.hid hg5
            clear hg5 a0 a1
            go_wp2_with fail
            go_roundw
            case rel => exact ⟨acc ++ [4 * x + p], y, rfl, by simp; omega, HNX.out, by rw [HF2.out]; congr 1; have := HF.out; simp; omega, own_none HXA.out.1 G5.out, below_gb HXA.out.2 (by rw [twoB_size]; exact Nat.le_refl _) G5.out⟩
            case measure => rw [HLV.out]; simp [lenV]; omega
        · have HIN := Lib.hid (fun w => specInV p 0 3 false (decide_eq_false h03) w)
          have HF2 := Lib.hid (HRE2.out.trans (rest_bad HT.out H4.out (by simp [stepsG]; intro u v; exact absurd ⟨u, v⟩ h03)))
          clear h03
          go_wp2_with fail
          refine (HIN.out _).mono ?_
          rintro e w2 ⟨rfl, rfl⟩
          go_wp2_with fail
          go_ret
          obtain ⟨o, b⟩ := new_nil HBO.out
          refine ⟨_, rfl, ?_, b⟩
          rw [HF2.out]
          exact o
    · have hf : k.toNat + 1 - acc.length = 0 := by omega
      have hre := HRE.out
      rw [hf, rest_zero] at hre
      have HF2 := Lib.hid hre
      have HBO := Lib.hid hbo
      clear hf hre hbo
      go_wp2_with fail
      go_ret
      obtain ⟨o, b⟩ := new_nil HBO.out
      refine ⟨_, rfl, ?_, b⟩
      rw [HF2.out]
      exact o
end Go.Proofs.YtfloekbmgjmhbaaGreat
end

section
namespace Go.Proofs.YtfloekbmgjmhbaaGreat
open Go.ChangeShapes Go.WideShapes Go.ChangeAt Go.RowKit
set_option linter.unusedVariables false
set_option maxRecDepth 20000

theorem IntAt.two {w : World} {A A2 B : Option Addr} {n cap n2 c2 m : Nat} {W H : Int} {L : List Int} (h : IntAt w w.heap.size B m L) : IntAt (twoB W H A A2 n cap n2 c2 w) (twoB W H A A2 n cap n2 c2 w).heap.size B m L :=
  (h.below twoB_below).more (by rw [twoB_size]; omega)
theorem IntAt.old {w wr : World} {A A2 B : Option Addr} {n cap n2 c2 m : Nat} {W H : Int} {L : List Int} (h : IntAt w w.heap.size B m L) (hb : Below (w.heap.size + 2) (twoB W H A A2 n cap n2 c2 w) wr) : IntAt wr wr.heap.size B m L :=
  (h.below (twoB_old hb)).more (by have := twoB_le hb; omega)
theorem NewI.old {w wr w' : World} {A A2 : Option Addr} {n cap n2 c2 : Nat} {W H : Int} {L : List Int} {v : Value} (hb : Below (w.heap.size + 2) (twoB W H A A2 n cap n2 c2 w) wr) (ho : w'.ownsRow wr.heap.size 3 1 v L.length (intsV L)) (hw : Below wr.heap.size wr w') : NewI L w (.returned v) w' :=
  ⟨v, rfl, own_less ho (by have := twoB_le hb; omega), (twoB_old hb).trans (hw.mono (by have := twoB_le hb; omega))⟩
theorem below_two {w w1 : World} {A A2 : Option Addr} {n cap n2 c2 : Nat} {W H : Int} (h : (twoB W H A A2 n cap n2 c2 w).grownBy w1 none) : Below (w.heap.size + 2) (twoB W H A A2 n cap n2 c2 w) w1 := gb_below_none h (by rw [twoB_size]; exact Nat.le_refl _)
theorem below_then {w wr w1 : World} {A A2 : Option Addr} {n cap n2 c2 : Nat} {W H : Int} (hb : Below (w.heap.size + 2) (twoB W H A A2 n cap n2 c2 w) wr) (h : wr.grownBy w1 none) : Below (w.heap.size + 2) (twoB W H A A2 n cap n2 c2 w) w1 := below_gb hb (by rw [twoB_size]; exact Nat.le_refl _) h
end Go.Proofs.YtfloekbmgjmhbaaGreat
end

section
namespace Go.Proofs.YtfloekbmgjmhbaaGreat
open Go.ChangeShapes Go.WideShapes Go.ChangeAt Go.RowKit
set_option linter.unusedVariables false
set_option maxRecDepth 20000

def TabAt (W H : Int) (A A2 : Option Addr) (n cap n2 c2 : Nat) (L P : List Int) (w : World) (a b : Nat) (wr : World) : Prop :=
  pairsTo W H L P a b ∧ Below (w.heap.size + 2) (twoB W H A A2 n cap n2 c2 w) wr
theorem specTableOk (W H : Int) (A A2 : Option Addr) (n cap n2 c2 : Nat) (L P : List Int) (w : World) (h : IntAt w w.heap.size A n L) (h2 : IntAt w w.heap.size A2 n2 P) (hn : n ≤ 1000000000) (hn2 : n2 ≤ 1000000000) :
    Calls Tryz.prog 76 #[.agg #[.int .i64 W, .int .i64 H, .slice A n cap], .agg #[.slice A2 n2 c2]] w (RetB (tableG W H L P) w) := by
  have hp := h2.1
  have HI := Lib.hid h
  have HP := Lib.hid h2
  have HT := Lib.hid (show IntAt (twoB W H A A2 n cap n2 c2 w) (twoB W H A A2 n cap n2 c2 w).heap.size A n L from h.two)
  clear h h2
  cases hs : sizedG W H L P with
  | false =>
    have HS := Lib.hid (fun w h => specSized W H A A2 n cap n2 c2 L P false hs w h hn hp hn2)
    have HF := Lib.hid (tableG_unsized hs)
    clear hs
    go_enter Tryz.func76, Tryz.ntmps76
    go_wp2_with fail
    refine (HS.out _ HT.out).mono ?_
    rintro e w1 ⟨rfl, hg⟩
    have G1 := Lib.hid (box2 hg).2.2
    clear hg
    go_wp2_with fail
    go_ret
    exact ⟨ret_bool HF.out.symm, G1.out⟩
  | true =>
    have HS := Lib.hid (fun w h => specSized W H A A2 n cap n2 c2 L P true hs w h hn hp hn2)
    obtain ⟨k, hk⟩ : ∃ k, countG W H = k := ⟨_, rfl⟩
    obtain ⟨hk0, hk1⟩ := countG_le W H
    rw [hk] at hk0 hk1
    have hsq := (sizedG_mesh hs).2
    rw [hp, hk] at hsq
    have HSQ := Lib.hid hsq
    have HN := Lib.hid (fun w => specNodeCountV W H k hk w)
    have HK := Lib.hid hk
    have HSZ := Lib.hid hs
    clear hk hs hsq hp
    go_enter Tryz.func76, Tryz.ntmps76
    go_wp2_with fail
    refine (HS.out _ HT.out).mono ?_
    rintro e w1 ⟨rfl, hg⟩
    have B1 := Lib.hid (below_two hg)
    clear hg
    have a0 : w1.cell? ⟨w.heap.size, 0, none⟩ = some (.int .i64 W) := (twoB_mesh B1.out).cell 0
    have a1 : w1.cell? ⟨w.heap.size, 1, none⟩ = some (.int .i64 H) := (twoB_mesh B1.out).cell 1
    go_wp2_with fail
    refine (HN.out _).mono ?_
    rintro e w2 ⟨rfl, hg⟩
    have X2 := Lib.hid (show TabAt W H A A2 n cap n2 c2 L P w 0 0 w2 from ⟨pairs_zero, below_then B1.out hg⟩)
    clear hg a0 a1
    go_wp2_with fail
    go_loopw [6] (fun i wr => ∃ x : Nat, i = .int .i64 (x : Int) ∧ (x : Int) ≤ k ∧ TabAt W H A A2 n cap n2 c2 L P w x 0 wr) (fun i _ => 17 - (intOf i).toNat)
    case atStart => exact ⟨0, rfl, by omega, X2.out⟩
    case round =>
      obtain ⟨x, rfl, hx, hpr, hbel⟩ := hrel
      have HX := Lib.hid (show TabAt W H A A2 n cap n2 c2 L P w x 0 wr from ⟨hpr, hbel⟩)
      have BX := Lib.hid hbel
      clear hpr hbel
      by_cases hlt : (x : Int) < k
      · go_wp2_with fail
        go_loopw [7] (fun i ws => ∃ y : Nat, i = .int .i64 (y : Int) ∧ (y : Int) ≤ k ∧ TabAt W H A A2 n cap n2 c2 L P w x y ws) (fun i _ => 17 - (intOf i).toNat)
        case atStart => exact ⟨0, rfl, by omega, HX.out⟩
        case round =>
          obtain ⟨y, rfl, hy, hpr, hbel⟩ := hrel
          have HPR := Lib.hid hpr
          have BY := Lib.hid hbel
          clear hpr hbel
          by_cases hly : (y : Int) < k
          · by_cases hxy : x = y
            · subst hxy
              obtain ⟨t0, t1⟩ := tab_at HSQ.out (Int.natCast_nonneg x) hlt (Int.natCast_nonneg x) hlt
              obtain ⟨j, hj⟩ : ∃ j : Nat, (x : Int) * k + x = (j : Int) := ⟨((x : Int) * k + x).toNat, (Int.toNat_of_nonneg t0).symm⟩
              have hjn : j < n2 := by omega
              have hak := Int.mul_nonneg (Int.natCast_nonneg x) hk0
              have e1 : wrap64 ((x : Int) * k) = (x : Int) * k := IntWalk.wrap64_in _ (by omega)
              have e2 : wrap64 ((x : Int) * k + x) = (j : Int) := by rw [hj]; exact IntWalk.wrap64_in _ (by omega)
              have hold := twoB_old BY.out
              obtain ⟨b, off, rfl, hbB, hcell⟩ := (HP.out.below hold).at j hjn
              obtain ⟨p, hpp⟩ : ∃ p, P.getD j 0 = p := ⟨_, rfl⟩
              rw [hpp] at hcell
              have htab : tabG (countG W H) P x x = p := by unfold tabG; rw [HK.out, hj, Int.toNat_natCast]; exact hpp
              have hen := entry_same (W := W) (H := H) (L := L) (P := P) (a := (x : Int))
              rw [htab] at hen
              have j0 : (0 : Int) ≤ (j : Int) := by omega
              have j1 : (j : Int) < (n2 : Int) := by omega
              have b0 : wr.cell? ⟨w.heap.size + 1, 0, none⟩ = some (.slice (some ⟨b, off, none⟩) n2 c2) := (twoB_table BY.out).cell 0
              by_cases h4 : p = 4
              · have hb4 : (p != 4) = false := by simpa using h4
                have HE := Lib.hid (pairs_next HPR.out (hen.trans (decide_eq_true h4)))
                clear hj hpp htab hen h4 t0 t1 hak hold
                go_wp2_with fail
                go_roundw
                case rel => exact ⟨x + 1, by go_num, by omega, HE.out, BY.out⟩
                case measure => simp [intOf]; omega
              · have hb4 : (p != 4) = true := by simpa using h4
                have HE := Lib.hid (tableG_no (W := W) (H := H) (L := L) (P := P) (a := x) (b := x) (by rw [HK.out]; exact hlt) (by rw [HK.out]; exact hlt) (hen.trans (decide_eq_false h4)))
                clear hj hpp htab hen h4 t0 t1 hak hold
                go_wp2_with fail
                go_ret
                exact ⟨ret_bool HE.out.symm, gb_of_below (twoB_old BY.out) none⟩
            · have hb1 : ((x : Int) == (y : Int)) = false := by simp; omega
              have hb2 : ((x : Int) != (y : Int)) = true := by simp; omega
              have hax : hasG W H (x : Int) = true := hasG_iff.2 ⟨by omega, by rw [HK.out]; exact hlt⟩
              have hay : hasG W H (y : Int) = true := hasG_iff.2 ⟨by omega, by rw [HK.out]; exact hly⟩
              have HWK := Lib.hid (fun w h h2 => specWalk W H A A2 n cap n2 c2 L P x y w h h2 hn hn2 HSZ.out hax hay)
              have hen := entry_two (W := W) (H := H) (L := L) (P := P) (a := (x : Int)) (b := (y : Int)) (by omega)
              have HEN := Lib.hid hen
              have a0 : wr.cell? ⟨w.heap.size, 0, none⟩ = some (.int .i64 W) := (twoB_mesh BY.out).cell 0
              have a1 : wr.cell? ⟨w.heap.size, 1, none⟩ = some (.int .i64 H) := (twoB_mesh BY.out).cell 1
              have a2 : wr.cell? ⟨w.heap.size, 2, none⟩ = some (.slice A n cap) := (twoB_mesh BY.out).cell 2
              have b0 : wr.cell? ⟨w.heap.size + 1, 0, none⟩ = some (.slice A2 n2 c2) := (twoB_table BY.out).cell 0
              have hi2 := HI.out.old BY.out
              have hp2 := HP.out.old BY.out
              clear hen hax hay
              go_wp2_with fail
              refine (HWK.out _ hi2 hp2).mono ?_
              rintro e w4 ⟨v, rfl, o4, b4⟩
              obtain ⟨A4, c4, rfl, _⟩ := own_form o4
              have B4 := Lib.hid (below_then BY.out (gb_of_below b4 none))
              obtain ⟨wl, hwl⟩ : ∃ q, walkOf W H L P x y = q := ⟨_, rfl⟩
              rw [hwl] at HEN
              have hlen : wl.length ≤ 16 := by rw [← hwl]; exact walkOf_len _ _
              clear o4 b4 hi2 hp2 a0 a1 a2 b0
              rw [hwl]
              clear hwl
              cases wl with
              | nil =>
                have HE := Lib.hid (tableG_no (W := W) (H := H) (L := L) (P := P) (a := x) (b := y) (by rw [HK.out]; exact hlt) (by rw [HK.out]; exact hly) (HEN.out.trans rfl))
                simp only [List.length_nil]
                go_wp2_with fail
                go_ret
                exact ⟨ret_bool HE.out.symm, gb_of_below (twoB_old B4.out) none⟩
              | cons c cs =>
                have HE := Lib.hid (pairs_next HPR.out (HEN.out.trans rfl))
                obtain ⟨q, hq⟩ : ∃ q, (c :: cs).length = q := ⟨_, rfl⟩
                have hq0 : ((q : Int) == 0) = false := by rw [← hq]; simp; omega
                rw [hq] at hlen ⊢
                clear hq
                go_wp2_with fail
                go_roundw
                case rel => exact ⟨y + 1, by go_num, by omega, HE.out, B4.out⟩
                case measure => simp [intOf]; omega
          · obtain ⟨e1, e2⟩ : (y : Int) = k ∧ True := ⟨by omega, trivial⟩
            have HE := Lib.hid (pairs_row HPR.out (by rw [HK.out]; exact e1))
            clear e1 e2
            go_wp2_with fail
            go_roundw
            case rel => exact ⟨x + 1, by go_num, by omega, HE.out, BY.out⟩
            case measure => simp [intOf]; omega
      · have hxk : (x : Int) = k := by omega
        have HE := Lib.hid (tableG_yes HSZ.out HX.out.1 (by rw [HK.out]; exact hxk))
        clear hxk
        go_wp2_with fail
        go_ret
        exact ⟨ret_bool HE.out.symm, gb_of_below (twoB_old BX.out) none⟩
end Go.Proofs.YtfloekbmgjmhbaaGreat
end

section
namespace Go.Proofs.YtfloekbmgjmhbaaGreat
open Go.ChangeShapes Go.WideShapes Go.ChangeAt Go.RowKit
set_option linter.unusedVariables false

theorem specTableOkV (W H : Int) (A A2 : Option Addr) (n cap n2 c2 : Nat) (L P : List Int) (b : Bool) (hb : tableG W H L P = b) (w : World) (h : IntAt w w.heap.size A n L) (h2 : IntAt w w.heap.size A2 n2 P) (hn : n ≤ 1000000000) (hn2 : n2 ≤ 1000000000) :
    Calls Tryz.prog 76 #[.agg #[.int .i64 W, .int .i64 H, .slice A n cap], .agg #[.slice A2 n2 c2]] w (RetB b w) := hb ▸ specTableOk W H A A2 n cap n2 c2 L P w h h2 hn hn2
theorem below_undrew3 {B : Nat} {a b : World} (h : Below B a.drew b) : Below B a b := ⟨h.os, h.tape, h.output, h.size, h.block⟩
end Go.Proofs.YtfloekbmgjmhbaaGreat
end

section
namespace Go.Proofs.YtfloekbmgjmhbaaGreat
open Go.ChangeShapes Go.WideShapes Go.ChangeAt Go.RowKit
set_option linter.unusedVariables false
set_option maxRecDepth 20000

theorem specClassesOk (W H : Int) (A AP AQ : Option Addr) (n cap nP cP nQ cQ : Nat) (L P Q : List Int) (w : World) (h : IntAt w w.heap.size A n L) (hP : IntAt w w.heap.size AP nP P) (hQ : IntAt w w.heap.size AQ nQ Q) (hn : n ≤ 1000000000) (hnP : nP ≤ 1000000000) (hnQ : nQ ≤ 1000000000) :
    Calls Tryz.prog 50 #[.agg #[.int .i64 W, .int .i64 H, .slice A n cap], .agg #[.slice AP nP cP, .slice AQ nQ cQ]] w (RetB (clsOk W H L P Q) w) := by
  have X0 := Lib.hid (clAt_start (W := W) (H := H) (A := A) (AP := AP) (AQ := AQ) (n := n) (cap := cap) (nP := nP) (cP := cP) (nQ := nQ) (cQ := cQ) (w := w))
  have HI := Lib.hid h
  have HP := Lib.hid hP
  have HQ := Lib.hid hQ
  cases ha : tableG W H L P with
  | false =>
    have HA := Lib.hid (specTableOkV W H A AP n cap nP cP L P false ha _ (X0.out.at h) (X0.out.at hP) hn hnP)
    have HR := Lib.hid (clsOk_no1 (Q := Q) ha)
    clear h hP hQ ha
    go_enter Tryz.func50, Tryz.ntmps50
    go_wp2_with fail
    refine HA.out.mono ?_
    rintro e w1 ⟨rfl, hg⟩
    have X1 := Lib.hid (X0.out.gb hg)
    clear hg
    go_wp2_with fail
    go_ret
    exact ⟨ret_bool HR.out.symm, X1.out.g⟩
  | true =>
    obtain ⟨b, hb⟩ : ∃ b, tableG W H L Q = b := ⟨_, rfl⟩
    have HA := Lib.hid (specTableOkV W H A AP n cap nP cP L P true ha _ (X0.out.at h) (X0.out.at hP) hn hnP)
    have HB := Lib.hid (fun w h hQ => specTableOkV W H A AQ n cap nQ cQ L Q b hb w h hQ hn hnQ)
    have HR := Lib.hid (show clsOk W H L P Q = b by rw [clsOk, ha, hb]; rfl)
    clear h hP hQ ha hb
    go_enter Tryz.func50, Tryz.ntmps50
    go_wp2_with fail
    refine HA.out.mono ?_
    rintro e w1 ⟨rfl, hg⟩
    have X1 := Lib.hid (X0.out.gb hg)
    have m0 : w1.cell? ⟨w.heap.size, 0, none⟩ = some (.int .i64 W) := X1.out.m.cell 0
    have m1 : w1.cell? ⟨w.heap.size, 1, none⟩ = some (.int .i64 H) := X1.out.m.cell 1
    have m2 : w1.cell? ⟨w.heap.size, 2, none⟩ = some (.slice A n cap) := X1.out.m.cell 2
    have t1 : w1.cell? ⟨w.heap.size + 1, 1, none⟩ = some (.slice AQ nQ cQ) := X1.out.t.cell 1
    clear hg
    go_wp2_with fail
    refine (HB.out _ (X1.out.at HI.out) (X1.out.at HQ.out)).mono ?_
    rintro e w2 ⟨rfl, hg⟩
    have X2 := Lib.hid (X1.out.gb hg)
    clear hg m0 m1 m2 t1
    go_wp2_with fail
    go_ret
    exact ⟨ret_bool HR.out.symm, X2.out.g⟩
theorem specClassesOkV (W H : Int) (A AP AQ : Option Addr) (n cap nP cP nQ cQ : Nat) (L P Q : List Int) (b : Bool) (hb : clsOk W H L P Q = b) (w : World) (h : IntAt w w.heap.size A n L) (hP : IntAt w w.heap.size AP nP P) (hQ : IntAt w w.heap.size AQ nQ Q) (hn : n ≤ 1000000000) (hnP : nP ≤ 1000000000) (hnQ : nQ ≤ 1000000000) :
    Calls Tryz.prog 50 #[.agg #[.int .i64 W, .int .i64 H, .slice A n cap], .agg #[.slice AP nP cP, .slice AQ nQ cQ]] w (RetB b w) := hb ▸ specClassesOk W H A AP AQ n cap nP cP nQ cQ L P Q w h hP hQ hn hnP hnQ
end Go.Proofs.YtfloekbmgjmhbaaGreat
end

section
namespace Go.Proofs.YtfloekbmgjmhbaaGreat
open Go.ChangeShapes Go.WideShapes Go.ChangeAt Go.RowKit
set_option linter.unusedVariables false
set_option maxRecDepth 20000

set_option maxHeartbeats 1600000 in
theorem specFlits (W H : Int) (A : Option Addr) (n cap : Nat) (D : List Flt) (w : World) (h : RecAt 5 fltC w w.heap.size A n D) (hn : n ≤ 1000000000) :
    Calls Tryz.prog 52 #[.agg #[.int .i64 W, .int .i64 H], .slice A n cap] w (RetB (lstOk W H D) w) := by
  have HI := Lib.hid h
  have hl := h.1
  have HYES := Lib.hid (lstOk_yes (W := W) (H := H) (D := D))
  have HNO := Lib.hid (fun k x hx hf => lstOk_no (W := W) (H := H) (D := D) (k := k) (x := x) hx hf)
  obtain ⟨r, hr⟩ : ∃ r, lstOk W H D = r := ⟨_, rfl⟩
  rw [hr] at HYES HNO
  rw [hr]
  have GE := Lib.hid (gb_alloc (gb_refl w none) (.cells #[.int .i64 W, .int .i64 H] 37))
  have KE := Lib.hid (Blk.new w 37 #[.int .i64 W, .int .i64 H])
  clear h hr
  go_enter Tryz.func52, Tryz.ntmps52
  go_wp2_with fail
  go_loopw [5] (fun i wr => ∃ k : Nat, i = .int .i64 (k : Int) ∧ k ≤ n ∧ (∀ (j : Nat) x, j < k → D[j]? = some x → fltOk W H x = true) ∧ w.grownBy wr none ∧ Blk wr w.heap.size 37 #[.int .i64 W, .int .i64 H]) (fun i _ => n - (intOf i).toNat)
  case atStart => exact ⟨0, rfl, Nat.zero_le _, fun j x hj => by omega, GE.out, KE.out⟩
  case round =>
    obtain ⟨k, rfl, hk, hall, hg, hbk⟩ := hrel
    have HALL := Lib.hid hall
    have HG := Lib.hid hg
    have HB := Lib.hid hbk
    by_cases hlt : k < n
    · obtain ⟨b, o, x, rfl, _, hx, hc⟩ := (HI.out.none (Nat.le_refl _) hg).at k hlt
      obtain ⟨_, a1, a2, _, _⟩ := flt_five hc
      have g0 : wr.cell? ⟨w.heap.size, 0, none⟩ = some (.int .i64 W) := hbk.cell 0
      have g1 : wr.cell? ⟨w.heap.size, 1, none⟩ = some (.int .i64 H) := hbk.cell 1
      have k0 : (0 : Int) ≤ (k : Int) := by omega
      have k1 : (k : Int) < (n : Int) := by omega
      have HX := Lib.hid hx
      obtain ⟨to, hto⟩ : ∃ t, x.to = t := ⟨_, rfl⟩
      obtain ⟨cl, hcl⟩ : ∃ t, x.cl = t := ⟨_, rfl⟩
      rw [hto] at a1
      rw [hcl] at a2
      cases hh : hasG W H to with
      | true =>
        have C1 := Lib.hid (fun w => specHasV W H to true hh w)
        obtain ⟨cb, hcb⟩ : ∃ b, decide (0 ≤ cl ∧ cl ≤ 1) = b := ⟨_, rfl⟩
        have C2 := Lib.hid (fun w => specInV cl 0 1 cb hcb w)
        have HF := Lib.hid (show fltOk W H x = cb by rw [fltOk, hto, hcl, hh, hcb]; rfl)
        clear hx hc hg hall hbk hh hcb hto hcl
        go_wp2_with fail
        go_region_held3 (fun w' => w'.cell? ⟨w.heap.size, 0, none⟩ = some (.int .i64 W) ∧ w'.cell? ⟨w.heap.size, 1, none⟩ = some (.int .i64 H) ∧ w'.cell? ⟨b, o + k * 5 + 1, none⟩ = some (.int .i64 to) ∧ w'.cell? ⟨b, o + k * 5 + 2, none⟩ = some (.int .i64 cl))
          (first | exact ⟨g0, g1, a1, a2⟩ | exact ⟨d0, d1, d2, d3⟩ | fail)
          (first
            | (go_at_call 77; (with_reducible refine (C1.out _).mono ?_); rintro e w4 ⟨rfl, hg4⟩; have h4 := gb_drF hg4; have d0 := h4.cell g0 (by simp); have d1 := h4.cell g1 (by simp); have d2 := h4.cell a1 (by simp); have d3 := h4.cell a2 (by simp); have G4 := Lib.hid (gb_trans HG.out h4); have B4 := Lib.hid (HB.out.grown h4 (by simp)); clear h4 hg4)
            | (go_at_call 51; (with_reducible refine (C2.out _).mono ?_); rintro e w5 ⟨rfl, rfl⟩)
            | fail)
        all_goals
          clear d0 d1 d2 d3 g0 g1 a1 a2
          cases cb with
          | true =>
            go_wp2_with fail
            go_roundw
            case rel => exact ⟨k + 1, by go_num, by omega, fun j z hj hz => by
              rcases Nat.lt_or_ge j k with h1 | h1
              · exact HALL.out j z h1 hz
              · obtain rfl : j = k := by omega
                rw [HX.out] at hz
                cases hz
                exact HF.out, G4.out, B4.out⟩
            case measure => simp [intOf]; omega
          | false =>
            have HR := Lib.hid (HNO.out k x HX.out HF.out)
            go_wp2_with fail
            go_ret
            exact ⟨ret_bool HR.out.symm, G4.out⟩
      | false =>
        have C1 := Lib.hid (fun w => specHasV W H to false hh w)
        have HF := Lib.hid (show fltOk W H x = false by rw [fltOk, hto, hh]; rfl)
        have HR := Lib.hid (HNO.out k x HX.out HF.out)
        clear hx hc hg hall hbk hh hto hcl
        go_wp2_with fail
        refine wp_region_held_drew (S := (fun w' => w'.cell? ⟨w.heap.size, 0, none⟩ = some (.int .i64 W) ∧ w'.cell? ⟨w.heap.size, 1, none⟩ = some (.int .i64 H) ∧ w'.cell? ⟨b, o + k * 5 + 1, none⟩ = some (.int .i64 to) ∧ w'.cell? ⟨b, o + k * 5 + 2, none⟩ = some (.int .i64 cl))) (by kernel_rfl) (⟨g0, g1, a1, a2⟩) (fun hHeld => ?_)
        refine wpAnyH_take (i := 0) (v := ?_) rfl (by kernel_rfl) (by kernel_rfl) (by kernel_rfl) (fun _ _ _ h => h) (Or.inl ⟨by rfl, ?_⟩) (by assumption) ?_
        rotate_left
        · intro wq hSw; (try dsimp only at hSw); go_simp; (try with_reducible rfl)
        simp only [List.getElem_toArray, List.getElem_cons_zero, Act.put, List.setIfInBounds_toArray, List.set_cons_zero, List.set_cons_succ]
        refine wpAnyH_take (i := 1) (v := ?_) rfl (by kernel_rfl) (by kernel_rfl) (by kernel_rfl) (fun _ _ _ h => h) (Or.inl ⟨by rfl, ?_⟩) (by assumption) ?_
        rotate_left
        · intro wq hSw; (try dsimp only at hSw); go_simp; (try with_reducible rfl)
        simp only [List.getElem_toArray, List.getElem_cons_succ, List.getElem_cons_zero, Act.put, List.setIfInBounds_toArray, List.set_cons_zero, List.set_cons_succ]
        refine wpAnyH_take (i := 2) (v := ?_) rfl (by kernel_rfl) (by kernel_rfl) (by kernel_rfl) (fun _ _ _ h => h) (Or.inl ⟨by rfl, ?_⟩) (by assumption) ?_
        rotate_left
        · intro wq hSw; (try dsimp only at hSw); go_simp; (try with_reducible rfl)
        simp only [List.getElem_toArray, List.getElem_cons_succ, List.getElem_cons_zero, Act.put, List.setIfInBounds_toArray, List.set_cons_zero, List.set_cons_succ]
        refine wpAnyH_take (i := 3) (v := ?_) rfl (by kernel_rfl) (by kernel_rfl) (by kernel_rfl) (fun _ _ _ h => h) (Or.inl ⟨by rfl, ?_⟩) (by assumption) ?_
        rotate_left
        · intro wq hSw; (try dsimp only at hSw); go_simp; (try with_reducible rfl)
        simp only [List.getElem_toArray, List.getElem_cons_succ, List.getElem_cons_zero, Act.put, List.setIfInBounds_toArray, List.set_cons_zero, List.set_cons_succ]
        refine wpAnyH_take (i := 4) (v := ?_) rfl (by kernel_rfl) (by kernel_rfl) (by kernel_rfl) (fun _ _ _ h => h) (Or.inl ⟨by rfl, ?_⟩) (by assumption) ?_
        rotate_left
        · intro wq hSw; (try dsimp only at hSw); go_simp; (try with_reducible rfl)
        simp only [List.getElem_toArray, List.getElem_cons_succ, List.getElem_cons_zero, Act.put, List.setIfInBounds_toArray, List.set_cons_zero, List.set_cons_succ]
        refine wpAnyH_take (i := 5) (v := ?_) rfl (by kernel_rfl) (by kernel_rfl) (by kernel_rfl) (fun _ _ _ h => h) (Or.inl ⟨by rfl, ?_⟩) (by assumption) ?_
        rotate_left
        · intro wq hSw; (try dsimp only at hSw); go_simp; (try with_reducible rfl)
        simp only [List.getElem_toArray, List.getElem_cons_succ, List.getElem_cons_zero, Act.put, List.setIfInBounds_toArray, List.set_cons_zero, List.set_cons_succ]
        refine wpAnyH_ready (rs := [6]) (by kernel_rfl) (by simp) ?_
        refine AllReadyH.cons rfl (fun K hK => ?_) AllReadyH.nil
        go_simp
        refine (C1.out _).mono ?_; rintro e w4 ⟨rfl, hg4⟩; have h4 := gb_drF hg4; have d0 := h4.cell g0 (by simp); have d1 := h4.cell g1 (by simp); have d2 := h4.cell a1 (by simp); have d3 := h4.cell a2 (by simp); have G4 := Lib.hid (gb_trans HG.out h4); clear h4 hg4
        try go_wp2_with fail
        refine hK.out _ _ (⟨d0, d1, d2, d3⟩) (fun hHeld => ?_)
        clear hK K
        try simp only [List.getElem_toArray, List.getElem_cons_succ, List.getElem_cons_zero, Act.put, List.setIfInBounds_toArray, List.set_cons_zero, List.set_cons_succ]
        refine wpAnyH_take (i := 7) (v := ?_) rfl (by kernel_rfl) (by kernel_rfl) (by kernel_rfl) (fun _ _ _ h => h) (Or.inl ⟨by rfl, ?_⟩) (by assumption) ?_
        rotate_left
        · intro wq hSw; (try dsimp only at hSw); go_simp; (try with_reducible rfl)
        simp only [List.getElem_toArray, List.getElem_cons_succ, List.getElem_cons_zero, Act.put, List.setIfInBounds_toArray, List.set_cons_zero, List.set_cons_succ]
        refine wpAnyH_take (i := 8) (v := ?_) rfl (by kernel_rfl) (by kernel_rfl) (by kernel_rfl) (fun _ _ _ h => h) (Or.inl ⟨by rfl, ?_⟩) (by assumption) ?_
        rotate_left
        · intro wq hSw; (try dsimp only at hSw); go_simp; (try with_reducible rfl)
        simp only [List.getElem_toArray, List.getElem_cons_succ, List.getElem_cons_zero, Act.put, List.setIfInBounds_toArray, List.set_cons_zero, List.set_cons_succ]
        refine wpAnyH_take (i := 9) (v := undef) rfl (by kernel_rfl) (by kernel_rfl) (by kernel_rfl) (fun _ _ _ h => h) (Or.inr ⟨by rfl, rfl⟩) (by assumption) ?_
        simp only [List.getElem_toArray, List.getElem_cons_succ, List.getElem_cons_zero, Act.put, List.setIfInBounds_toArray, List.set_cons_zero, List.set_cons_succ]
        refine wpAnyH_take (i := 10) (v := undef) rfl (by kernel_rfl) (by kernel_rfl) (by kernel_rfl) (fun _ _ _ h => h) (Or.inr ⟨by rfl, rfl⟩) (by assumption) ?_
        simp only [List.getElem_toArray, List.getElem_cons_succ, List.getElem_cons_zero, Act.put, List.setIfInBounds_toArray, List.set_cons_zero, List.set_cons_succ]
        refine wpAnyH_take (i := 11) (v := undef) rfl (by kernel_rfl) (by kernel_rfl) (by kernel_rfl) (fun _ _ _ h => h) (Or.inr ⟨by rfl, rfl⟩) (by assumption) ?_
        simp only [List.getElem_toArray, List.getElem_cons_succ, List.getElem_cons_zero, Act.put, List.setIfInBounds_toArray, List.set_cons_zero, List.set_cons_succ]
        refine wpAnyH_take (i := 12) (v := undef) rfl (by kernel_rfl) (by kernel_rfl) (by kernel_rfl) (fun _ _ _ h => h) (Or.inr ⟨by rfl, rfl⟩) (by assumption) ?_
        simp only [List.getElem_toArray, List.getElem_cons_succ, List.getElem_cons_zero, Act.put, List.setIfInBounds_toArray, List.set_cons_zero, List.set_cons_succ]
        refine wpAnyH_take (i := 13) (v := undef) rfl (by kernel_rfl) (by kernel_rfl) (by kernel_rfl) (fun _ _ _ h => h) (Or.inr ⟨by rfl, rfl⟩) (by assumption) ?_
        simp only [List.getElem_toArray, List.getElem_cons_succ, List.getElem_cons_zero, Act.put, List.setIfInBounds_toArray, List.set_cons_zero, List.set_cons_succ]
        refine wpAnyH_take (i := 14) (v := undef) rfl (by kernel_rfl) (by kernel_rfl) (by kernel_rfl) (fun _ _ _ h => h) (Or.inr ⟨by rfl, rfl⟩) (by assumption) ?_
        simp only [List.getElem_toArray, List.getElem_cons_succ, List.getElem_cons_zero, Act.put, List.setIfInBounds_toArray, List.set_cons_zero, List.set_cons_succ]
        refine wpAnyH_take (i := 15) (v := undef) rfl (by kernel_rfl) (by kernel_rfl) (by kernel_rfl) (fun _ _ _ h => h) (Or.inr ⟨by rfl, rfl⟩) (by assumption) ?_
        simp only [List.getElem_toArray, List.getElem_cons_succ, List.getElem_cons_zero, Act.put, List.setIfInBounds_toArray, List.set_cons_zero, List.set_cons_succ]
        refine wpAnyH_take (i := 16) (v := ?_) rfl (by kernel_rfl) (by kernel_rfl) (by kernel_rfl) (fun _ _ _ h => h) (Or.inl ⟨by rfl, ?_⟩) (by assumption) ?_
        rotate_left
        · intro wq hSw; (try dsimp only at hSw); go_simp; (try with_reducible rfl)
        simp only [List.getElem_toArray, List.getElem_cons_succ, List.getElem_cons_zero, Act.put, List.setIfInBounds_toArray, List.set_cons_zero, List.set_cons_succ]
        refine wpAnyH_done (by kernel_rfl) ?_ _
        clear d0 d1 d2 d3 g0 g1 a1 a2
        go_wp2_with fail
        go_ret
        exact ⟨ret_bool HR.out.symm, G4.out⟩
    · obtain rfl : k = n := by omega
      have HR := Lib.hid (HYES.out (fun j x hx => HALL.out j x (by have := (List.getElem?_eq_some_iff.1 hx).1; omega) hx))
      have k1 : ¬ (k : Int) < (k : Int) := by omega
      clear hg hall hbk
      go_wp2_with fail
      go_ret
      exact ⟨ret_bool HR.out.symm, HG.out⟩
end Go.Proofs.YtfloekbmgjmhbaaGreat
end

section
namespace Go.Proofs.YtfloekbmgjmhbaaGreat
open Go.ChangeShapes Go.WideShapes Go.ChangeAt Go.RowKit
set_option linter.unusedVariables false
set_option maxRecDepth 20000

theorem tmod_two (x : Nat) : Int.tmod (x : Int) 2 = ((x % 2 : Nat) : Int) := by
  rw [Int.tmod_eq_emod_of_nonneg (by omega)]; rfl
theorem size_no {N : Nt} {k : Nat} (hk : countG N.W N.H = (k : Int)) (h : ¬ (N.bu.length = 10 * k ∧ N.ow.length = 10 * k ∧ N.tu.length = 5 * k ∧ N.so.length = k ∧ N.ar.length = k ∧ (0 ≤ N.ti ∧ N.ti ≤ 1000000))) : sizesN N = false :=
  decide_eq_false (fun e => h (by rw [hk] at e; omega))
theorem size_yes {N : Nt} {k : Nat} (hk : countG N.W N.H = (k : Int)) (h : N.bu.length = 10 * k ∧ N.ow.length = 10 * k ∧ N.tu.length = 5 * k ∧ N.so.length = k ∧ N.ar.length = k ∧ (0 ≤ N.ti ∧ N.ti ≤ 1000000)) : sizesN N = true :=
  decide_eq_true (by rw [hk]; omega)
set_option maxHeartbeats 6400000 in
theorem specNetOk (y : Na) (N : Nt) (w : World) (h : NetIn w w.heap.size y N) (hn : NetSm N) :
    Calls Tryz.prog 20 #[.agg #[.int .i64 N.W, .int .i64 N.H, .slice y.br.A N.br.length y.br.c, .slice y.ta.A N.ta.length y.ta.c, .slice y.tb.A N.tb.length y.tb.c, .slice y.bu.A N.bu.length y.bu.c, .slice y.ow.A N.ow.length y.ow.c, .slice y.tu.A N.tu.length y.tu.c, .slice y.so.A N.so.length y.so.c, .slice y.ar.A N.ar.length y.ar.c, .int .i64 N.ti]] w (RetB (netOk N) w) := by
  have HI := Lib.hid h
  have HSM := Lib.hid hn
  obtain ⟨kk, hkk⟩ : ∃ kk : Nat, countG N.W N.H = (kk : Int) := ⟨(countG N.W N.H).toNat, by have := (countG_le N.W N.H).1; omega⟩
  have hk16 : kk ≤ 16 := by have := (countG_le N.W N.H).2; omega
  have HNC : Hid (∀ w, Calls Tryz.prog 49 #[.agg #[.int .i64 N.W, .int .i64 N.H]] w (RetI (kk : Int) none w)) := Lib.hid (fun w => by have h := specNodeCount N.W N.H w; rw [hkk] at h; exact h)
  have HSN := Lib.hid (size_no hkk)
  have HSY := Lib.hid (size_yes hkk)
  obtain ⟨b10, hb10⟩ : ∃ b, 10 * kk = b := ⟨_, rfl⟩
  obtain ⟨b5, hb5⟩ : ∃ b, 5 * kk = b := ⟨_, rfl⟩
  rw [hb10, hb5] at HSN HSY
  have e10 : wrap64 (10 * (kk : Int)) = (b10 : Int) := by rw [IntWalk.wrap64_in _ (by omega)]; omega
  have e5 : wrap64 (5 * (kk : Int)) = (b5 : Int) := by rw [IntWalk.wrap64_in _ (by omega)]; omega
  have e10b : 10 * (kk : Int) = (b10 : Int) := by omega
  have e5b : 5 * (kk : Int) = (b5 : Int) := by omega
  have HB160 := Lib.hid (show b10 ≤ 160 ∧ b5 ≤ 80 by omega)
  obtain ⟨r, hr⟩ : ∃ r, netOk N = r := ⟨_, rfl⟩
  have HR := Lib.hid hr
  rw [hr]
  have X0 := Lib.hid (nkAt_start (w := w) (y := y) (N := N))
  have HCK := Lib.hid (fun w h hP hQ => specClassesOk N.W N.H y.br.A y.ta.A y.tb.A N.br.length y.br.c N.ta.length y.ta.c N.tb.length y.tb.c N.br N.ta N.tb w h hP hQ hn.br hn.ta hn.tb)
  have HFL := Lib.hid (fun A n cap D w h hn => specFlits N.W N.H A n cap D w h hn)
  clear h hn hr hkk hb10 hb5
  go_enter Tryz.func20, Tryz.ntmps20
  go_wp2_with fail
  refine (HNC.out _).mono ?_
  rintro e w1 ⟨rfl, g1⟩
  have X1 := Lib.hid (X0.out.gb g1)
  have a0 : w1.cell? ⟨w.heap.size, 0, none⟩ = some (.int .i64 N.W) := X1.out.b.cell 0
  have a1 : w1.cell? ⟨w.heap.size, 1, none⟩ = some (.int .i64 N.H) := X1.out.b.cell 1
  have a2 : w1.cell? ⟨w.heap.size, 2, none⟩ = some (.slice y.br.A N.br.length y.br.c) := X1.out.b.cell 2
  have a3 : w1.cell? ⟨w.heap.size, 3, none⟩ = some (.slice y.ta.A N.ta.length y.ta.c) := X1.out.b.cell 3
  have a4 : w1.cell? ⟨w.heap.size, 4, none⟩ = some (.slice y.tb.A N.tb.length y.tb.c) := X1.out.b.cell 4
  clear g1
  go_wp2_with fail
  have hin1 := X1.out.in HI.out
  refine (HCK.out _ hin1.br hin1.ta hin1.tb).mono ?_
  rintro e w2 ⟨rfl, g2⟩
  have X2 := Lib.hid (X1.out.gb g2)
  clear g2 a0 a1 a2 a3 a4 hin1
  cases hc : clsOk N.W N.H N.br N.ta N.tb with
  | false =>
    have HE := Lib.hid (show false = r from (nk_cls hc).symm.trans HR.out)
    clear hc
    go_wp2_with fail
    go_ret
    exact ⟨ret_bool HE.out, X2.out.g⟩
  | true =>
    have HCO := Lib.hid hc
    clear hc
    have a5 : w2.cell? ⟨w.heap.size, 5, none⟩ = some (.slice y.bu.A N.bu.length y.bu.c) := X2.out.b.cell 5
    have a6 : w2.cell? ⟨w.heap.size, 6, none⟩ = some (.slice y.ow.A N.ow.length y.ow.c) := X2.out.b.cell 6
    have a7 : w2.cell? ⟨w.heap.size, 7, none⟩ = some (.slice y.tu.A N.tu.length y.tu.c) := X2.out.b.cell 7
    have a8 : w2.cell? ⟨w.heap.size, 8, none⟩ = some (.slice y.so.A N.so.length y.so.c) := X2.out.b.cell 8
    have a9 : w2.cell? ⟨w.heap.size, 9, none⟩ = some (.slice y.ar.A N.ar.length y.ar.c) := X2.out.b.cell 9
    have a10 : w2.cell? ⟨w.heap.size, 10, none⟩ = some (.int .i64 N.ti) := X2.out.b.cell 10
    by_cases hbu : N.bu.length = b10
    rotate_left
    · have HE := Lib.hid (show false = r from (nk_size (HSN.out (fun e => by omega))).symm.trans HR.out)
      have Hbu := Lib.hid hbu
      have pbu : ¬ (N.bu.length : Int) = (b10 : Int) := by omega
      clear hbu
      go_wp2_with fail
      go_ret
      exact ⟨ret_bool HE.out, X2.out.g⟩
    have ibu : (N.bu.length : Int) = (b10 : Int) := by omega
    have Hbu := Lib.hid hbu
    clear hbu
    by_cases how : N.ow.length = b10
    rotate_left
    · have HE := Lib.hid (show false = r from (nk_size (HSN.out (fun e => by omega))).symm.trans HR.out)
      have How := Lib.hid how
      have pow : ¬ (N.ow.length : Int) = (b10 : Int) := by omega
      clear how
      go_wp2_with fail
      go_ret
      exact ⟨ret_bool HE.out, X2.out.g⟩
    have iow : (N.ow.length : Int) = (b10 : Int) := by omega
    have How := Lib.hid how
    clear how
    by_cases htu : N.tu.length = b5
    rotate_left
    · have HE := Lib.hid (show false = r from (nk_size (HSN.out (fun e => by omega))).symm.trans HR.out)
      have Htu := Lib.hid htu
      have ptu : ¬ (N.tu.length : Int) = (b5 : Int) := by omega
      clear htu
      go_wp2_with fail
      go_ret
      exact ⟨ret_bool HE.out, X2.out.g⟩
    have itu : (N.tu.length : Int) = (b5 : Int) := by omega
    have Htu := Lib.hid htu
    clear htu
    by_cases hso : N.so.length = kk
    rotate_left
    · have HE := Lib.hid (show false = r from (nk_size (HSN.out (fun e => by omega))).symm.trans HR.out)
      have Hso := Lib.hid hso
      have pso : ¬ (N.so.length : Int) = (kk : Int) := by omega
      clear hso
      go_wp2_with fail
      go_ret
      exact ⟨ret_bool HE.out, X2.out.g⟩
    have iso : (N.so.length : Int) = (kk : Int) := by omega
    have Hso := Lib.hid hso
    clear hso
    by_cases har : N.ar.length = kk
    rotate_left
    · have HE := Lib.hid (show false = r from (nk_size (HSN.out (fun e => by omega))).symm.trans HR.out)
      have Har := Lib.hid har
      have par : ¬ (N.ar.length : Int) = (kk : Int) := by omega
      clear har
      go_wp2_with fail
      go_ret
      exact ⟨ret_bool HE.out, X2.out.g⟩
    have iar : (N.ar.length : Int) = (kk : Int) := by omega
    have Har := Lib.hid har
    clear har
    obtain ⟨tb, htb⟩ : ∃ b, decide (0 ≤ N.ti ∧ N.ti ≤ 1000000) = b := ⟨_, rfl⟩
    have HTI := Lib.hid (fun w => specInV N.ti 0 1000000 tb htb w)
    go_wp2_with fail
    refine (HTI.out _).mono ?_
    rintro e w3 ⟨rfl, rfl⟩
    clear a5 a6 a7 a8 a9 a10
    cases tb with
    | false =>
      have HE := Lib.hid (show false = r from (nk_size (HSN.out (fun e => of_decide_eq_false htb e.2.2.2.2.2))).symm.trans HR.out)
      clear htb
      go_wp2_with fail
      go_ret
      exact ⟨ret_bool HE.out, X2.out.g⟩
    | true =>
      have HSZ := Lib.hid (HSY.out ⟨Hbu.out, How.out, Htu.out, Hso.out, Har.out, of_decide_eq_true htb⟩)
      have HLN := Lib.hid (show N.bu.length = b10 ∧ N.ow.length = b10 ∧ N.tu.length = b5 ∧ N.so.length = kk from ⟨Hbu.out, How.out, Htu.out, Hso.out⟩)
      clear htb Hbu How Htu Hso Har HSN HSY HTI ibu iow itu iso iar
      go_wp2_with fail
      go_loopw [4] (fun i wr => ∃ k : Nat, i = .int .i64 (k : Int) ∧ k ≤ b10 ∧ (∀ j, j < k → bufOk N.W N.H j (N.bu.getD j []) (N.ow.getD j 0) = true) ∧ NkAt w y N wr) (fun i _ => 161 - (intOf i).toNat)
      case atStart => exact ⟨0, rfl, Nat.zero_le _, fun j hj => by omega, X2.out⟩
      case round =>
        obtain ⟨k, rfl, hk, hall, hx⟩ := hrel
        have HALL := Lib.hid hall
        have X3 := Lib.hid hx
        clear hall hx X2
        by_cases hlt : k < b10
        · have l1 : (k : Int) < (b10 : Int) := by omega
          have hin := X3.out.in HI.out
          obtain ⟨bb, off, D, A', c', hA, hbb, hD, hcell, hcp, hrec⟩ := hin.bu.at k (by have := HLN.out.1; omega)
          obtain ⟨ob, oo, hoA, _, hoc⟩ := hin.ow.at k (by have := HLN.out.2.1; omega)
          obtain ⟨ov, hov⟩ : ∃ o, N.ow.getD k 0 = o := ⟨_, rfl⟩
          rw [hov] at hoc
          have b0 : wr.cell? ⟨w.heap.size, 0, none⟩ = some (.int .i64 N.W) := X3.out.b.cell 0
          have b1 : wr.cell? ⟨w.heap.size, 1, none⟩ = some (.int .i64 N.H) := X3.out.b.cell 1
          have b2 : wr.cell? ⟨w.heap.size, 5, none⟩ = some (.slice y.bu.A N.bu.length y.bu.c) := X3.out.b.cell 5
          have b3 : wr.cell? ⟨w.heap.size, 6, none⟩ = some (.slice y.ow.A N.ow.length y.ow.c) := X3.out.b.cell 6
          rw [hA] at b2
          rw [hoA] at b3
          have HOA := Lib.hid hoA
          clear hA hoA
          have k0 : (0 : Int) ≤ (k : Int) := by omega
          have k1 : (k : Int) < (N.bu.length : Int) := by have := HLN.out.1; omega
          have k2 : (k : Int) < (N.ow.length : Int) := by have := HLN.out.2.1; omega
          have HDD := Lib.hid hD
          have HREC := Lib.hid hrec
          have HGD := Lib.hid (show N.bu.getD k [] = D from getD_of hD)
          have HOV := Lib.hid hov
          have HNB := Lib.hid (show ∀ b, bufOk N.W N.H k D ov = b → bufOk N.W N.H k (N.bu.getD k []) (N.ow.getD k 0) = b from fun b h => by rw [getD_of hD, hov]; exact h)
          have hkb : k < N.bu.length := by have := HLN.out.1; omega
          have HKB := Lib.hid hkb
          have hD9 : D.length ≤ 1000000000 := by
            have h1 := sumL_at hD
            have h2 := HSM.out.sbu
            omega
          have HD9 := Lib.hid hD9
          clear hin hD hrec hov hkb hD9 hbb hcp
          by_cases hl3 : D.length ≤ 3
          rotate_left
          · have HE := Lib.hid (show false = r from (nk_buf HKB.out (HNB.out _ (buf_no1 hl3))).symm.trans HR.out)
            have p3 : (3 : Int) < (D.length : Int) := by omega
            go_wp2_with fail
            go_ret
            exact ⟨ret_bool HE.out, X3.out.g⟩
          have p3 : ¬ (3 : Int) < (D.length : Int) := by omega
          go_wp2_with fail
          refine (HFL.out A' D.length c' D _ HREC.out HD9.out).mono ?_
          rintro e w4 ⟨rfl, g4⟩
          have X4 := Lib.hid (X3.out.gb g4)
          have REC4 := Lib.hid (HREC.out.none (Nat.le_refl _) g4)
          have c4 : w4.cell? ⟨w.heap.size, 6, none⟩ = some (.slice (some ⟨ob, oo, none⟩) N.ow.length y.ow.c) := by have h := X4.out.b.cell 6; rw [HOA.out] at h; exact h
          have d4 := g4.cell hoc (by simp)
          clear g4 b0 b1 b2 b3 hoc hcell
          cases hlo : lstOk N.W N.H D with
          | false =>
            have HE := Lib.hid (show false = r from (nk_buf HKB.out (HNB.out _ (buf_no2 hlo))).symm.trans HR.out)
            clear hlo
            go_wp2_with fail
            go_ret
            exact ⟨ret_bool HE.out, X4.out.g⟩
          | true =>
            obtain ⟨ib, hib⟩ : ∃ b, decide (-1 ≤ ov ∧ ov ≤ 4) = b := ⟨_, rfl⟩
            have HOI := Lib.hid (fun w => specInV ov (-1) 4 ib hib w)
            go_wp2_with fail
            refine (HOI.out _).mono ?_
            rintro e w5 ⟨rfl, rfl⟩
            clear c4 d4
            cases ib with
            | false =>
              have HE := Lib.hid (show false = r from (nk_buf HKB.out (HNB.out _ (buf_no3 hib))).symm.trans HR.out)
              clear hlo hib
              go_wp2_with fail
              go_ret
              exact ⟨ret_bool HE.out, X4.out.g⟩
            | true =>
              have HYB := Lib.hid (fun h => HNB.out true (buf_yes hl3 hlo hib h))
              have HN4 := Lib.hid (fun q x hx h => nk_buf HKB.out (HNB.out false (buf_no4 (q := q) (x := x) hx h)))
              have em : Int.tmod (k : Int) 2 = ((k % 2 : Nat) : Int) := tmod_two k
              obtain ⟨md, hmd⟩ : ∃ m : Nat, k % 2 = m := ⟨_, rfl⟩
              have hmd2 : md < 2 := by omega
              rw [hmd] at em HYB HN4
              have em2 : IntKind.i64.wrap (md : Int) = (md : Int) := IntWalk.i64_in _ (by omega)
              clear hlo hib hmd HOI
              go_wp2_with fail
              go_loopw [6] (fun j ws => ∃ q : Nat, j = .int .i64 (q : Int) ∧ q ≤ D.length ∧ (∀ (p : Nat) x, p < q → D[p]? = some x → x.cl = (md : Int)) ∧ NkAt w y N ws ∧ RecAt 5 fltC ws wr.heap.size A' D.length D) (fun j _ => 4 - (intOf j).toNat)
              case atStart => exact ⟨0, rfl, Nat.zero_le _, fun p x hp => by omega, X4.out, REC4.out⟩
              case round =>
                obtain ⟨q, rfl, hq, hqa, hx, hre⟩ := hrel
                have HQA := Lib.hid hqa
                have X5 := Lib.hid hx
                have REC5 := Lib.hid hre
                clear hqa hx hre
                by_cases hql : q < D.length
                · obtain ⟨fb, fo, x, rfl, _, hx, hfc⟩ := REC5.out.at q hql
                  obtain ⟨_, _, f2, _, _⟩ := flt_five hfc
                  have q0 : (0 : Int) ≤ (q : Int) := by omega
                  have q1 : (q : Int) < (D.length : Int) := by omega
                  have HX := Lib.hid hx
                  obtain ⟨cl, hcl⟩ : ∃ t, x.cl = t := ⟨_, rfl⟩
                  have HCL := Lib.hid hcl
                  rw [hcl] at f2
                  clear hx hfc hcl
                  by_cases hce : cl = (md : Int)
                  · have HCE := Lib.hid hce
                    subst hce
                    go_wp2_with fail
                    go_roundw
                    case rel => exact ⟨q + 1, by go_num, by omega, fun p z hp hz => by
                      rcases Nat.lt_or_ge p q with h1 | h1
                      · exact HQA.out p z h1 hz
                      · obtain rfl : p = q := by omega
                        rw [HX.out] at hz
                        cases hz
                        exact HCL.out, X5.out, REC5.out⟩
                    case measure => simp [intOf]; omega
                  · have HE := Lib.hid (show false = r from (HN4.out q x HX.out (by rw [HCL.out]; exact hce)).symm.trans HR.out)
                    go_wp2_with fail
                    go_ret
                    exact ⟨ret_bool HE.out, X5.out.g⟩
                · have q1 : ¬ (q : Int) < (D.length : Int) := by omega
                  have HBO := Lib.hid (HYB.out (fun p x hx => HQA.out p x (by have := (List.getElem?_eq_some_iff.1 hx).1; omega) hx))
                  go_wp2_with fail
                  go_roundw
                  case rel => exact ⟨k + 1, by go_num, by omega, fun j hj => by
                    rcases Nat.lt_or_ge j k with h1 | h1
                    · exact HALL.out j h1
                    · obtain rfl : j = k := by omega
                      exact HBO.out, X5.out⟩
                  case measure => simp [intOf]; omega
        · have l1 : ¬ (k : Int) < (b10 : Int) := by omega
          have HBUF := Lib.hid (show ∀ i, i < N.bu.length → bufOk N.W N.H i (N.bu.getD i []) (N.ow.getD i 0) = true from fun i hi => HALL.out i (by have := HLN.out.1; omega))
          go_wp2_with fail
          go_loopw [7] (fun i wr => ∃ k : Nat, i = .int .i64 (k : Int) ∧ k ≤ b5 ∧ (∀ (j : Nat) t, j < k → N.tu[j]? = some t → decide (0 ≤ t ∧ t ≤ 9) = true) ∧ NkAt w y N wr) (fun i _ => 81 - (intOf i).toNat)
          case atStart => exact ⟨0, rfl, Nat.zero_le _, fun j t hj => by omega, X3.out⟩
          case round =>
            obtain ⟨t, rfl, ht, htall, hx⟩ := hrel
            have HTA := Lib.hid htall
            have X6 := Lib.hid hx
            clear htall hx X3
            by_cases htl : t < b5
            · have l2 : (t : Int) < (b5 : Int) := by omega
              have hin := X6.out.in HI.out
              have htN : t < N.tu.length := by have := HLN.out.2.2.1; omega
              obtain ⟨ub, uo, huA, _, huc⟩ := hin.tu.at t htN
              obtain ⟨tv, htv⟩ : ∃ v, N.tu[t]? = some v := ⟨_, List.getElem?_eq_getElem htN⟩
              rw [getD_of htv] at huc
              have b7 : wr.cell? ⟨w.heap.size, 7, none⟩ = some (.slice y.tu.A N.tu.length y.tu.c) := X6.out.b.cell 7
              rw [huA] at b7
              clear huA
              have t0 : (0 : Int) ≤ (t : Int) := by omega
              have t1 : (t : Int) < (N.tu.length : Int) := by omega
              obtain ⟨ib, hib⟩ : ∃ b, decide (0 ≤ tv ∧ tv ≤ 9) = b := ⟨_, rfl⟩
              have HTI := Lib.hid (fun w => specInV tv 0 9 ib hib w)
              have HTV := Lib.hid htv
              clear hin htv
              go_wp2_with fail
              refine (HTI.out _).mono ?_
              rintro e w5 ⟨rfl, rfl⟩
              cases ib with
              | false =>
                have HE := Lib.hid (show false = r from (nk_tu HTV.out hib).symm.trans HR.out)
                clear hib
                go_wp2_with fail
                go_ret
                exact ⟨ret_bool HE.out, X6.out.g⟩
              | true =>
                have HIB := Lib.hid hib
                clear hib
                go_wp2_with fail
                go_roundw
                case rel => exact ⟨t + 1, by go_num, by omega, fun j v hj hv => by
                  rcases Nat.lt_or_ge j t with h1 | h1
                  · exact HTA.out j v h1 hv
                  · obtain rfl : j = t := by omega
                    rw [HTV.out] at hv
                    cases hv
                    exact HIB.out, X6.out⟩
                case measure => simp [intOf]; omega
            · have l2 : ¬ (t : Int) < (b5 : Int) := by omega
              have HTUR := Lib.hid (show ∀ (i : Nat) t, N.tu[i]? = some t → decide (0 ≤ t ∧ t ≤ 9) = true from fun i v hv => HTA.out i v (by have h1 := HLN.out.2.2.1; have h2 := (List.getElem?_eq_some_iff.1 hv).1; omega) hv)
              go_wp2_with fail
              go_loopw [8] (fun i wr => ∃ k : Nat, i = .int .i64 (k : Int) ∧ k ≤ kk ∧ (∀ (j : Nat) D, j < k → N.so[j]? = some D → srcOk N.W N.H D = true) ∧ NkAt w y N wr) (fun i _ => 17 - (intOf i).toNat)
              case atStart => exact ⟨0, rfl, Nat.zero_le _, fun j D hj => by omega, X6.out⟩
              case round =>
                obtain ⟨s, rfl, hs, hsall, hx⟩ := hrel
                have HSA := Lib.hid hsall
                have X7 := Lib.hid hx
                clear hsall hx X6
                by_cases hsl : s < kk
                · have l3 : (s : Int) < (kk : Int) := by omega
                  have hin := X7.out.in HI.out
                  obtain ⟨sb, so, E, A', c', hA, _, hE, hcell, _, hrec⟩ := hin.so.at s (by have := HLN.out.2.2.2; omega)
                  have b0 : wr.cell? ⟨w.heap.size, 0, none⟩ = some (.int .i64 N.W) := X7.out.b.cell 0
                  have b1 : wr.cell? ⟨w.heap.size, 1, none⟩ = some (.int .i64 N.H) := X7.out.b.cell 1
                  have b2 : wr.cell? ⟨w.heap.size, 8, none⟩ = some (.slice y.so.A N.so.length y.so.c) := X7.out.b.cell 8
                  rw [hA] at b2
                  clear hA
                  have s0 : (0 : Int) ≤ (s : Int) := by omega
                  have s1 : (s : Int) < (N.so.length : Int) := by have := HLN.out.2.2.2; omega
                  have HEE := Lib.hid hE
                  have HREC := Lib.hid hrec
                  have hE9 : E.length ≤ 1000000000 := by
                    have h1 := sumL_at hE
                    have h2 := HSM.out.sso
                    omega
                  have HE9 := Lib.hid hE9
                  clear hin hE hrec hE9
                  by_cases hl6 : E.length ≤ 60
                  rotate_left
                  · have HE := Lib.hid (show false = r from (nk_so HEE.out (src_no1 hl6)).symm.trans HR.out)
                    have p6 : (60 : Int) < (E.length : Int) := by omega
                    go_wp2_with fail
                    refine wp_region_held_drew (S := (fun w' => w'.cell? ⟨w.heap.size, 8, none⟩ = some (.slice (some ⟨sb, so, none⟩) N.so.length y.so.c) ∧ w'.cell? ⟨sb, so + s, none⟩ = some (.slice A' E.length c'))) (by kernel_rfl) (⟨b2, hcell⟩) (fun hHeld => ?_)
                    refine wpAnyH_take (i := 0) (v := ?_) rfl (by kernel_rfl) (by kernel_rfl) (by kernel_rfl) (fun _ _ _ h => h) (Or.inl ⟨by rfl, ?_⟩) (by assumption) ?_
                    rotate_left
                    · intro wq hSw; (try dsimp only at hSw); go_simp; (try with_reducible rfl)
                    simp only [List.getElem_toArray, List.getElem_cons_zero, Act.put, List.setIfInBounds_toArray, List.set_cons_zero, List.set_cons_succ]
                    refine wpAnyH_take (i := 1) (v := ?_) rfl (by kernel_rfl) (by kernel_rfl) (by kernel_rfl) (fun _ _ _ h => h) (Or.inl ⟨by rfl, ?_⟩) (by assumption) ?_
                    rotate_left
                    · intro wq hSw; (try dsimp only at hSw); go_simp; (try with_reducible rfl)
                    simp only [List.getElem_toArray, List.getElem_cons_succ, List.getElem_cons_zero, Act.put, List.setIfInBounds_toArray, List.set_cons_zero, List.set_cons_succ]
                    refine wpAnyH_take (i := 2) (v := ?_) rfl (by kernel_rfl) (by kernel_rfl) (by kernel_rfl) (fun _ _ _ h => h) (Or.inl ⟨by rfl, ?_⟩) (by assumption) ?_
                    rotate_left
                    · intro wq hSw; (try dsimp only at hSw); go_simp; (try with_reducible rfl)
                    simp only [List.getElem_toArray, List.getElem_cons_succ, List.getElem_cons_zero, Act.put, List.setIfInBounds_toArray, List.set_cons_zero, List.set_cons_succ]
                    refine wpAnyH_take (i := 3) (v := ?_) rfl (by kernel_rfl) (by kernel_rfl) (by kernel_rfl) (fun _ _ _ h => h) (Or.inl ⟨by rfl, ?_⟩) (by assumption) ?_
                    rotate_left
                    · intro wq hSw; (try dsimp only at hSw); go_simp; (try with_reducible rfl)
                    simp only [List.getElem_toArray, List.getElem_cons_succ, List.getElem_cons_zero, Act.put, List.setIfInBounds_toArray, List.set_cons_zero, List.set_cons_succ]
                    refine wpAnyH_take (i := 4) (v := ?_) rfl (by kernel_rfl) (by kernel_rfl) (by kernel_rfl) (fun _ _ _ h => h) (Or.inl ⟨by rfl, ?_⟩) (by assumption) ?_
                    rotate_left
                    · intro wq hSw; (try dsimp only at hSw); go_simp; (try with_reducible rfl)
                    simp only [List.getElem_toArray, List.getElem_cons_succ, List.getElem_cons_zero, Act.put, List.setIfInBounds_toArray, List.set_cons_zero, List.set_cons_succ]
                    refine wpAnyH_take (i := 5) (v := ?_) rfl (by kernel_rfl) (by kernel_rfl) (by kernel_rfl) (fun _ _ _ h => h) (Or.inl ⟨by rfl, ?_⟩) (by assumption) ?_
                    rotate_left
                    · intro wq hSw; (try dsimp only at hSw); go_simp; (try with_reducible rfl)
                    simp only [List.getElem_toArray, List.getElem_cons_succ, List.getElem_cons_zero, Act.put, List.setIfInBounds_toArray, List.set_cons_zero, List.set_cons_succ]
                    refine wpAnyH_take (i := 6) (v := ?_) rfl (by kernel_rfl) (by kernel_rfl) (by kernel_rfl) (fun _ _ _ h => h) (Or.inl ⟨by rfl, ?_⟩) (by assumption) ?_
                    rotate_left
                    · intro wq hSw; (try dsimp only at hSw); go_simp; (try with_reducible rfl)
                    simp only [List.getElem_toArray, List.getElem_cons_succ, List.getElem_cons_zero, Act.put, List.setIfInBounds_toArray, List.set_cons_zero, List.set_cons_succ]
                    refine wpAnyH_take (i := 7) (v := ?_) rfl (by kernel_rfl) (by kernel_rfl) (by kernel_rfl) (fun _ _ _ h => h) (Or.inl ⟨by rfl, ?_⟩) (by assumption) ?_
                    rotate_left
                    · intro wq hSw; (try dsimp only at hSw); go_simp; (try with_reducible rfl)
                    simp only [List.getElem_toArray, List.getElem_cons_succ, List.getElem_cons_zero, Act.put, List.setIfInBounds_toArray, List.set_cons_zero, List.set_cons_succ]
                    refine wpAnyH_take (i := 8) (v := undef) rfl (by kernel_rfl) (by kernel_rfl) (by kernel_rfl) (fun _ _ _ h => h) (Or.inr ⟨by rfl, rfl⟩) (by assumption) ?_
                    simp only [List.getElem_toArray, List.getElem_cons_succ, List.getElem_cons_zero, Act.put, List.setIfInBounds_toArray, List.set_cons_zero, List.set_cons_succ]
                    refine wpAnyH_take (i := 9) (v := undef) rfl (by kernel_rfl) (by kernel_rfl) (by kernel_rfl) (fun _ _ _ h => h) (Or.inr ⟨by rfl, rfl⟩) (by assumption) ?_
                    simp only [List.getElem_toArray, List.getElem_cons_succ, List.getElem_cons_zero, Act.put, List.setIfInBounds_toArray, List.set_cons_zero, List.set_cons_succ]
                    refine wpAnyH_take (i := 10) (v := undef) rfl (by kernel_rfl) (by kernel_rfl) (by kernel_rfl) (fun _ _ _ h => h) (Or.inr ⟨by rfl, rfl⟩) (by assumption) ?_
                    simp only [List.getElem_toArray, List.getElem_cons_succ, List.getElem_cons_zero, Act.put, List.setIfInBounds_toArray, List.set_cons_zero, List.set_cons_succ]
                    refine wpAnyH_take (i := 11) (v := undef) rfl (by kernel_rfl) (by kernel_rfl) (by kernel_rfl) (fun _ _ _ h => h) (Or.inr ⟨by rfl, rfl⟩) (by assumption) ?_
                    simp only [List.getElem_toArray, List.getElem_cons_succ, List.getElem_cons_zero, Act.put, List.setIfInBounds_toArray, List.set_cons_zero, List.set_cons_succ]
                    refine wpAnyH_take (i := 12) (v := undef) rfl (by kernel_rfl) (by kernel_rfl) (by kernel_rfl) (fun _ _ _ h => h) (Or.inr ⟨by rfl, rfl⟩) (by assumption) ?_
                    simp only [List.getElem_toArray, List.getElem_cons_succ, List.getElem_cons_zero, Act.put, List.setIfInBounds_toArray, List.set_cons_zero, List.set_cons_succ]
                    refine wpAnyH_take (i := 13) (v := undef) rfl (by kernel_rfl) (by kernel_rfl) (by kernel_rfl) (fun _ _ _ h => h) (Or.inr ⟨by rfl, rfl⟩) (by assumption) ?_
                    simp only [List.getElem_toArray, List.getElem_cons_succ, List.getElem_cons_zero, Act.put, List.setIfInBounds_toArray, List.set_cons_zero, List.set_cons_succ]
                    refine wpAnyH_take (i := 14) (v := undef) rfl (by kernel_rfl) (by kernel_rfl) (by kernel_rfl) (fun _ _ _ h => h) (Or.inr ⟨by rfl, rfl⟩) (by assumption) ?_
                    simp only [List.getElem_toArray, List.getElem_cons_succ, List.getElem_cons_zero, Act.put, List.setIfInBounds_toArray, List.set_cons_zero, List.set_cons_succ]
                    refine wpAnyH_take (i := 15) (v := undef) rfl (by kernel_rfl) (by kernel_rfl) (by kernel_rfl) (fun _ _ _ h => h) (Or.inr ⟨by rfl, rfl⟩) (by assumption) ?_
                    simp only [List.getElem_toArray, List.getElem_cons_succ, List.getElem_cons_zero, Act.put, List.setIfInBounds_toArray, List.set_cons_zero, List.set_cons_succ]
                    refine wpAnyH_take (i := 16) (v := undef) rfl (by kernel_rfl) (by kernel_rfl) (by kernel_rfl) (fun _ _ _ h => h) (Or.inr ⟨by rfl, rfl⟩) (by assumption) ?_
                    simp only [List.getElem_toArray, List.getElem_cons_succ, List.getElem_cons_zero, Act.put, List.setIfInBounds_toArray, List.set_cons_zero, List.set_cons_succ]
                    refine wpAnyH_take (i := 17) (v := undef) rfl (by kernel_rfl) (by kernel_rfl) (by kernel_rfl) (fun _ _ _ h => h) (Or.inr ⟨by rfl, rfl⟩) (by assumption) ?_
                    simp only [List.getElem_toArray, List.getElem_cons_succ, List.getElem_cons_zero, Act.put, List.setIfInBounds_toArray, List.set_cons_zero, List.set_cons_succ]
                    refine wpAnyH_take (i := 18) (v := ?_) rfl (by kernel_rfl) (by kernel_rfl) (by kernel_rfl) (fun _ _ _ h => h) (Or.inl ⟨by rfl, ?_⟩) (by assumption) ?_
                    rotate_left
                    · intro wq hSw; (try dsimp only at hSw); go_simp; (try with_reducible rfl)
                    simp only [List.getElem_toArray, List.getElem_cons_succ, List.getElem_cons_zero, Act.put, List.setIfInBounds_toArray, List.set_cons_zero, List.set_cons_succ]
                    refine wpAnyH_done (by kernel_rfl) ?_ _
                    clear b0 b1 b2 hcell
                    go_wp2_with fail
                    go_ret
                    exact ⟨ret_bool HE.out, gb_drew X7.out.g⟩
                  have p6 : ¬ (60 : Int) < (E.length : Int) := by omega
                  have p7 : decide ((60 : Int) < (E.length : Int)) = false := decide_eq_false p6
                  obtain ⟨lb, hlo⟩ : ∃ b, lstOk N.W N.H E = b := ⟨_, rfl⟩
                  have HFE := Lib.hid (fun w h => HFL.out A' E.length c' E w h HE9.out)
                  rw [hlo] at HFE
                  have HRD := Lib.hid (HREC.out.none (Nat.le_refl _) (gb_drew (gb_refl wr none)))
                  go_wp2_with fail
                  go_region_held3 (fun w' => w'.cell? ⟨w.heap.size, 0, none⟩ = some (.int .i64 N.W) ∧ w'.cell? ⟨w.heap.size, 1, none⟩ = some (.int .i64 N.H) ∧ w'.cell? ⟨w.heap.size, 8, none⟩ = some (.slice (some ⟨sb, so, none⟩) N.so.length y.so.c) ∧ w'.cell? ⟨sb, so + s, none⟩ = some (.slice A' E.length c'))
                    (first | exact ⟨b0, b1, b2, hcell⟩ | exact ⟨d0, d1, d2, d3⟩ | fail)
                    (first
                      | (go_at_call 52; (with_reducible refine (HFE.out _ HRD.out).mono ?_); rintro e w4 ⟨rfl, hg4⟩; have h4 := gb_drF hg4; have d0 := h4.cell b0 (by simp); have d1 := h4.cell b1 (by simp); have d2 := h4.cell b2 (by simp); have d3 := h4.cell hcell (by simp); have X8 := Lib.hid (X7.out.gb h4); clear h4 hg4)
                      | fail)
                  clear d0 d1 d2 d3 b0 b1 b2 hcell
                  cases lb with
                  | false =>
                    have HE := Lib.hid (show false = r from (nk_so HEE.out (src_is hl6 hlo)).symm.trans HR.out)
                    clear hlo
                    go_wp2_with fail
                    go_ret
                    exact ⟨ret_bool HE.out, X8.out.g⟩
                  | true =>
                    have HLO := Lib.hid (src_is hl6 hlo)
                    clear hlo
                    go_wp2_with fail
                    go_roundw
                    case rel => exact ⟨s + 1, by go_num, by omega, fun j D hj hD => by
                      rcases Nat.lt_or_ge j s with h1 | h1
                      · exact HSA.out j D h1 hD
                      · obtain rfl : j = s := by omega
                        rw [HEE.out] at hD
                        cases hD
                        exact HLO.out, X8.out⟩
                    case measure => simp [intOf]; omega
                · have l3 : ¬ (s : Int) < (kk : Int) := by omega
                  have HE := Lib.hid (show true = r from (nk_yes HCO.out HSZ.out HBUF.out HTUR.out (fun i D hD => HSA.out i D (by have h1 := HLN.out.2.2.2; have h2 := (List.getElem?_eq_some_iff.1 hD).1; omega) hD)).symm.trans HR.out)
                  go_wp2_with fail
                  go_ret
                  exact ⟨ret_bool HE.out, X7.out.g⟩
end Go.Proofs.YtfloekbmgjmhbaaGreat
end
