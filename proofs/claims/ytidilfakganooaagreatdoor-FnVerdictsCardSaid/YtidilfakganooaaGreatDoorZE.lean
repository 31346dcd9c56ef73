/- What is proved here: the exact law on CheckTable answers true, for every argument, where the sentinel holds an error; only new blocks are written; a slice of numbers inside an argument can be read; nothing of the program; a table that came in as an argument is a slice of numbers that can be read; nothing of the program; a mesh that came in as an argument is two numbers and a slice of numbers that can be read; nothing of the program; what the model's port of a standard table returns, for nodes that exist; only new blocks are written; what the model's standard table holds; only new blocks are written; the model's safe rules; only new blocks are written; the directions of the four rules, taken one after the other, are the ports of the standard tables; nothing of the program; the program's functions of directions and its four rules, for nodes that exist; only new blocks are written; the table of the rules that the program builds, and what it finds for a rule's number; only new blocks are written; names for what StandardPort and StandardTable return; nothing of the program; a store into a row of the rules' table; whether a grid has a node; what the program's StandardTable returns, for all arguments; only new blocks are written; the program's safe rules, for all arguments, where the sentinel holds an error; only new blocks are written; the exact law on SafeRules answers true, for every argument, where the sentinel holds an error; only new blocks are written; the drawing functions of the given model (a cursor over the bytes of a draw) return numbers in their ranges, for every cursor whose bytes can be read; only the cursor's own block and new blocks are written; a number picked from a list is one of the list; only the cursor's own block and new blocks are written; a drawn grid is a valid one; only new blocks are written; what the model's draw of any grid returns; only the cursor and new blocks are written; the model's draw of a chance answers a Bool; only the cursor's own block and new blocks are written; the channels of a valid mesh are ascending, work, and are as many as neighbors in both directions, without the broken ones; as mathematics, nothing of the program; a mesh drawn off the cursor is a valid one; only the cursor and new blocks are written. -/
import Derived.Test.YtidilfakganooaaGreatDoorZD
import Derived.Deep.Cut
import Derived.Lib.SmallJoins
import Derived.Deep.RegionLaw
import Derived.Laws.Rows
import Derived.Laws.Tables
import Derived.Laws.ResultCell
section
namespace Go.Proofs.YtidilfakganooaaGreatDoor
open Go.ChangeShapes Go.WideShapes Go.ChangeAt Go.RowKit
set_option linter.unusedVariables false
set_option maxRecDepth 20000

set_option maxHeartbeats 6400000 in
theorem walk_FnExactCheckTable (W H : Int) (A : Option Addr) (n cap : Nat) (L : List Int) (A2 : Option Addr) (n2 c2 : Nat) (P : List Int) (w : World) (hw : (Lit.int .i64 W).wf = true) (hh : (Lit.int .i64 H).wf = true) (hnc : n ≤ cap) (hcm : cap ≤ maxLen) (h : IntAt w w.heap.size A n L) (hl : ∀ x ∈ L, (Lit.int .i64 x).wf = true) (hnc2 : n2 ≤ c2) (hcm2 : c2 ≤ maxLen) (h2 : IntAt w w.heap.size A2 n2 P) (hl2 : ∀ x ∈ P, (Lit.int .i64 x).wf = true) (hp : Pre w) :
    Calls Tryz.prog 4 #[.agg #[.int .i64 W, .int .i64 H, .slice A n cap], .agg #[.slice A2 n2 c2]] w fun e w' => e = .returned (.bool true) ∧ Below w.heap.size w w' := by
  have hn9 : n ≤ 9223372036854775807 := Nat.le_trans hnc (Nat.le_trans hcm (by decide))
  have hm9 : n2 ≤ 9223372036854775807 := Nat.le_trans hnc2 (Nat.le_trans hcm2 (by decide))
  have hLn := h.1
  have hPn := h2.1
  have HI := Lib.hid h
  have HPR := Lib.hid (fun w' (hb : Below w.heap.size w w') => hp.below hb)
  have HP := Lib.hid h2
  have HWF := Lib.hid (show WfL L from hl)
  clear hw hh hl hl2 hnc hcm hnc2 hcm2 h h2
  subst hLn
  subst hPn
  by_cases hbig : (1048576 : Int) < (L.length : Int)
  · go_enter Tryz.func4, Tryz.ntmps4
    go_wp2_with fail
    refine (lawsSzMesh W H A L.length cap 1048576 _ hn9 (by omega) (by omega)).mono ?_
    rintro e w1 ⟨rfl, hg1⟩
    rw [if_pos hbig]
    have B1 := Lib.hid (show LawB W H A A2 L.length cap P.length c2 w w1 from LawB.first hg1)
    clear hg1
    go_wp2_with fail
    go_ret
    exact ⟨rfl, B1.out.old⟩
  · have hn : L.length ≤ 1048576 := by omega
    obtain ⟨q, hq⟩ : ∃ q : Int, (1048576 : Int) - (L.length : Int) = q := ⟨_, rfl⟩
    have hq0 : ¬ q < 0 := by omega
    have hq1 : q ≤ 1048576 := by omega
    by_cases hbig2 : q < (P.length : Int)
    · go_enter Tryz.func4, Tryz.ntmps4
      go_wp2_with fail
      refine (lawsSzMesh W H A L.length cap 1048576 _ hn9 (by omega) (by omega)).mono ?_
      rintro e w1 ⟨rfl, hg1⟩
      rw [if_neg (by omega), hq]
      have B1 := Lib.hid (show LawB W H A A2 L.length cap P.length c2 w w1 from LawB.first hg1)
      have a3 : w1.cell? ⟨w.heap.size + 1, 0, none⟩ = some (.slice A2 P.length c2) := B1.out.table.cell 0
      clear hg1 hq
      go_wp2_with fail
      refine (lawsSzTable A2 P.length c2 q _ hm9 (by omega) hq1).mono ?_
      rintro e w2 ⟨rfl, hg2⟩
      rw [if_pos hbig2]
      have B2 := Lib.hid (B1.out.gb hg2)
      clear hg2
      go_wp2_with fail
      go_ret
      exact ⟨rfl, B2.out.old⟩
    · have hn2 : P.length ≤ 1048576 := by omega
      obtain ⟨q2, hq2⟩ : ∃ q2 : Int, q - (P.length : Int) = q2 := ⟨_, rfl⟩
      have hq20 : ¬ q2 < 0 := by omega
      go_enter Tryz.func4, Tryz.ntmps4
      go_wp2_with fail
      refine (lawsSzMesh W H A L.length cap 1048576 _ hn9 (by omega) (by omega)).mono ?_
      rintro e w1 ⟨rfl, hg1⟩
      rw [if_neg (by omega), hq]
      have B1 := Lib.hid (show LawB W H A A2 L.length cap P.length c2 w w1 from LawB.first hg1)
      have a3 : w1.cell? ⟨w.heap.size + 1, 0, none⟩ = some (.slice A2 P.length c2) := B1.out.table.cell 0
      clear hg1 hq
      go_wp2_with fail
      refine (lawsSzTable A2 P.length c2 q _ hm9 (by omega) hq1).mono ?_
      rintro e w2 ⟨rfl, hg2⟩
      rw [if_neg (by omega), hq2]
      have Bw2 := Lib.hid (B1.out.gb hg2)
      clear hg2 hq2 a3 hbig hbig2
      go_wp2_with fail
      obtain ⟨res, hres⟩ : ∃ r, verdG W H L P = r := ⟨_, rfl⟩
      have hrl : res.ranks.length ≤ 128 ∧ res.cycle.length ≤ 128 := by rw [← hres]; exact verd_len
      obtain ⟨z, R, C⟩ := res
      simp only at hrl
      obtain ⟨hRl, hCl⟩ := hrl
      have HSP := Lib.hid (fun A n cap A2 n2 c2 w h h2 hn hn2 => show Calls Tryz.prog 15 #[.agg #[.int .i64 W, .int .i64 H, .slice A n cap], .agg #[.slice A2 n2 c2]] w (NewV ⟨z, R, C⟩ w) from hres ▸ specCheck W H A A2 n cap n2 c2 L P w h h2 hn hn2)
      have HIM := Lib.hid (fun A n cap A2 n2 c2 w h h2 hn hn2 hp => show Calls Tryz.prog 8 #[.agg #[.int .i64 W, .int .i64 H, .slice A n cap], .agg #[.slice A2 n2 c2]] w (NewV ⟨z, R, C⟩ w) from hres ▸ implCheck W H A A2 n cap n2 c2 L P HWF.out w h h2 hn hn2 hp)
      clear hres
      have a0 : w2.cell? ⟨w.heap.size, 0, none⟩ = some (.int .i64 W) := Bw2.out.mesh.cell 0
      have a1 : w2.cell? ⟨w.heap.size, 1, none⟩ = some (.int .i64 H) := Bw2.out.mesh.cell 1
      have a2 : w2.cell? ⟨w.heap.size, 2, none⟩ = some (.slice A L.length cap) := Bw2.out.mesh.cell 2
      have a3 : w2.cell? ⟨w.heap.size + 1, 0, none⟩ = some (.slice A2 P.length c2) := Bw2.out.table.cell 0
      have Bw2d := Lib.hid Bw2.out.dr
      have U2 := Lib.hid (show LawB W H A A2 L.length cap P.length c2 w (w2.alloc (.cells #[.int .i64 0, .slice none 0 0, .slice none 0 0] 34)).drew ∧ Blk (w2.alloc (.cells #[.int .i64 0, .slice none 0 0, .slice none 0 0] 34)).drew w2.heap.size 34 #[.int .i64 0, .slice none 0 0, .slice none 0 0] from ⟨Bw2.out.gb (gb_drew (gb_alloc (gb_refl _ _) _)), (Blk.new w2 34 #[.int .i64 0, .slice none 0 0, .slice none 0 0]).grown (gb_drew (gb_refl _ none)) (by simp)⟩)
      have u0 : (w2.alloc (.cells #[.int .i64 0, .slice none 0 0, .slice none 0 0] 34)).drew.cell? ⟨w.heap.size, 0, none⟩ = some (.int .i64 W) := U2.out.1.mesh.cell 0
      have u1 : (w2.alloc (.cells #[.int .i64 0, .slice none 0 0, .slice none 0 0] 34)).drew.cell? ⟨w.heap.size, 1, none⟩ = some (.int .i64 H) := U2.out.1.mesh.cell 1
      have u2 : (w2.alloc (.cells #[.int .i64 0, .slice none 0 0, .slice none 0 0] 34)).drew.cell? ⟨w.heap.size, 2, none⟩ = some (.slice A L.length cap) := U2.out.1.mesh.cell 2
      have u3 : (w2.alloc (.cells #[.int .i64 0, .slice none 0 0, .slice none 0 0] 34)).drew.cell? ⟨w.heap.size + 1, 0, none⟩ = some (.slice A2 P.length c2) := U2.out.1.table.cell 0
      go_cut [6] from 14 (fun s6 wc => ∃ (bw : Nat) (Ar0 Ac0 : Option Addr) (cr0 cc0 : Nat), s6 = .pointer (some ⟨bw, 0, none⟩) ∧ LawB W H A A2 L.length cap P.length c2 w wc ∧ Blk wc bw 34 #[.int .i64 z, .slice Ar0 R.length cr0, .slice Ac0 C.length cc0] ∧ VRow wc (w.heap.size + 2) (.slice Ar0 R.length cr0) (.slice Ac0 C.length cc0) R.length C.length R C)
      case first =>
        go_region_held3 (fun w' => w'.cell? ⟨w.heap.size, 0, none⟩ = some (.int .i64 W) ∧ w'.cell? ⟨w.heap.size, 1, none⟩ = some (.int .i64 H) ∧ w'.cell? ⟨w.heap.size, 2, none⟩ = some (.slice A L.length cap) ∧ w'.cell? ⟨w.heap.size + 1, 0, none⟩ = some (.slice A2 P.length c2))
          (first | exact ⟨a0, a1, a2, a3⟩ | exact ⟨j0, j1, j2, j3⟩ | exact ⟨k0, k1, k2, k3⟩ | exact ⟨l0, l1, l2, l3⟩ | with_reducible exact ⟨u0, u1, u2, u3⟩ | with_reducible exact ⟨x0, x1, x2, x3⟩ | with_reducible exact ⟨y0, y1, y2, y3⟩ | with_reducible exact ⟨n0, n1, n2, n3⟩ | with_reducible exact ⟨p0, p1, p2, p3⟩ | fail)
          (first
            | (go_at_call 16; (with_reducible refine (lawsToMesh W H A L.length cap L _ ((LawB.bx1 U2.out).at HI.out) hn).mono ?_); rintro e w3 ⟨g6, rfl, o6, b6⟩; have Bw3 := Lib.hid ((LawB.bx1 U2.out).bl b6); have O6 := Lib.hid o6; have j0 : w3.cell? ⟨w.heap.size, 0, none⟩ = some (.int .i64 W) := Bw3.out.mesh.cell 0; have j1 : w3.cell? ⟨w.heap.size, 1, none⟩ = some (.int .i64 H) := Bw3.out.mesh.cell 1; have j2 : w3.cell? ⟨w.heap.size, 2, none⟩ = some (.slice A L.length cap) := Bw3.out.mesh.cell 2; have j3 : w3.cell? ⟨w.heap.size + 1, 0, none⟩ = some (.slice A2 P.length c2) := Bw3.out.table.cell 0; have XA3 := Lib.hid (U2.out.2.below b6 U2.out.2.lt); clear o6 b6)
            | (go_at_call 16; (with_reducible refine (lawsToMesh W H A L.length cap L _ (Bw2d.out.at HI.out) hn).mono ?_); rintro e w3 ⟨g6, rfl, o6, b6⟩; have Bw3 := Lib.hid (Bw2d.out.bl b6); have O6 := Lib.hid o6; have j0 : w3.cell? ⟨w.heap.size, 0, none⟩ = some (.int .i64 W) := Bw3.out.mesh.cell 0; have j1 : w3.cell? ⟨w.heap.size, 1, none⟩ = some (.int .i64 H) := Bw3.out.mesh.cell 1; have j2 : w3.cell? ⟨w.heap.size, 2, none⟩ = some (.slice A L.length cap) := Bw3.out.mesh.cell 2; have j3 : w3.cell? ⟨w.heap.size + 1, 0, none⟩ = some (.slice A2 P.length c2) := Bw3.out.table.cell 0; have U3 := Lib.hid (show LawB W H A A2 L.length cap P.length c2 w (w3.alloc (.cells #[.int .i64 0, .slice none 0 0, .slice none 0 0] 34)) ∧ Blk (w3.alloc (.cells #[.int .i64 0, .slice none 0 0, .slice none 0 0] 34)) w3.heap.size 34 #[.int .i64 0, .slice none 0 0, .slice none 0 0] from ⟨Bw3.out.gb (gb_alloc (gb_refl _ _) _), Blk.new w3 34 #[.int .i64 0, .slice none 0 0, .slice none 0 0]⟩); have x0 : (w3.alloc (.cells #[.int .i64 0, .slice none 0 0, .slice none 0 0] 34)).cell? ⟨w.heap.size, 0, none⟩ = some (.int .i64 W) := U3.out.1.mesh.cell 0; have x1 : (w3.alloc (.cells #[.int .i64 0, .slice none 0 0, .slice none 0 0] 34)).cell? ⟨w.heap.size, 1, none⟩ = some (.int .i64 H) := U3.out.1.mesh.cell 1; have x2 : (w3.alloc (.cells #[.int .i64 0, .slice none 0 0, .slice none 0 0] 34)).cell? ⟨w.heap.size, 2, none⟩ = some (.slice A L.length cap) := U3.out.1.mesh.cell 2; have x3 : (w3.alloc (.cells #[.int .i64 0, .slice none 0 0, .slice none 0 0] 34)).cell? ⟨w.heap.size + 1, 0, none⟩ = some (.slice A2 P.length c2) := U3.out.1.table.cell 0; clear o6 b6)
            | (go_at_call 17; (with_reducible refine (lawsToTable A2 P.length c2 P _ ((LawB.bx1 U3.out).at HP.out) hn2).mono ?_); rintro e w4 ⟨g7, rfl, o7, b7⟩; have Bw4 := Lib.hid ((LawB.bx1 U3.out).bl b7); have O6b := Lib.hid (own_below (O6.out.alloc (.cells #[.int .i64 0, .slice none 0 0, .slice none 0 0] 34)) b7); have O7 := Lib.hid o7; have k0 : w4.cell? ⟨w.heap.size, 0, none⟩ = some (.int .i64 W) := Bw4.out.mesh.cell 0; have k1 : w4.cell? ⟨w.heap.size, 1, none⟩ = some (.int .i64 H) := Bw4.out.mesh.cell 1; have k2 : w4.cell? ⟨w.heap.size, 2, none⟩ = some (.slice A L.length cap) := Bw4.out.mesh.cell 2; have k3 : w4.cell? ⟨w.heap.size + 1, 0, none⟩ = some (.slice A2 P.length c2) := Bw4.out.table.cell 0; have XB4 := Lib.hid (U3.out.2.below b7 U3.out.2.lt); clear o7 b7)
            | (go_at_call 17; (with_reducible refine (lawsToTable A2 P.length c2 P _ (Bw3.out.at HP.out) hn2).mono ?_); rintro e w4 ⟨g7, rfl, o7, b7⟩; have Bw4 := Lib.hid (Bw3.out.bl b7); have O6b := Lib.hid (own_below O6.out b7); have O7 := Lib.hid o7; have k0 : w4.cell? ⟨w.heap.size, 0, none⟩ = some (.int .i64 W) := Bw4.out.mesh.cell 0; have k1 : w4.cell? ⟨w.heap.size, 1, none⟩ = some (.int .i64 H) := Bw4.out.mesh.cell 1; have k2 : w4.cell? ⟨w.heap.size, 2, none⟩ = some (.slice A L.length cap) := Bw4.out.mesh.cell 2; have k3 : w4.cell? ⟨w.heap.size + 1, 0, none⟩ = some (.slice A2 P.length c2) := Bw4.out.table.cell 0; have XA4 := Lib.hid (XA3.out.below b7 XA3.out.lt); clear o7 b7)
            | (go_at_call 17; (with_reducible refine (lawsToTable A2 P.length c2 P _ (Bw3.out.at HP.out) hn2).mono ?_); rintro e w4 ⟨g7, rfl, o7, b7⟩; have Bw4 := Lib.hid (Bw3.out.bl b7); have O6b := Lib.hid (own_below O6.out b7); have O7 := Lib.hid o7; have k0 : w4.cell? ⟨w.heap.size, 0, none⟩ = some (.int .i64 W) := Bw4.out.mesh.cell 0; have k1 : w4.cell? ⟨w.heap.size, 1, none⟩ = some (.int .i64 H) := Bw4.out.mesh.cell 1; have k2 : w4.cell? ⟨w.heap.size, 2, none⟩ = some (.slice A L.length cap) := Bw4.out.mesh.cell 2; have k3 : w4.cell? ⟨w.heap.size + 1, 0, none⟩ = some (.slice A2 P.length c2) := Bw4.out.table.cell 0; have U4 := Lib.hid (show LawB W H A A2 L.length cap P.length c2 w (w4.alloc (.cells #[.int .i64 0, .slice none 0 0, .slice none 0 0] 34)) ∧ Blk (w4.alloc (.cells #[.int .i64 0, .slice none 0 0, .slice none 0 0] 34)) w4.heap.size 34 #[.int .i64 0, .slice none 0 0, .slice none 0 0] from ⟨Bw4.out.gb (gb_alloc (gb_refl _ _) _), Blk.new w4 34 #[.int .i64 0, .slice none 0 0, .slice none 0 0]⟩); have y0 : (w4.alloc (.cells #[.int .i64 0, .slice none 0 0, .slice none 0 0] 34)).cell? ⟨w.heap.size, 0, none⟩ = some (.int .i64 W) := U4.out.1.mesh.cell 0; have y1 : (w4.alloc (.cells #[.int .i64 0, .slice none 0 0, .slice none 0 0] 34)).cell? ⟨w.heap.size, 1, none⟩ = some (.int .i64 H) := U4.out.1.mesh.cell 1; have y2 : (w4.alloc (.cells #[.int .i64 0, .slice none 0 0, .slice none 0 0] 34)).cell? ⟨w.heap.size, 2, none⟩ = some (.slice A L.length cap) := U4.out.1.mesh.cell 2; have y3 : (w4.alloc (.cells #[.int .i64 0, .slice none 0 0, .slice none 0 0] 34)).cell? ⟨w.heap.size + 1, 0, none⟩ = some (.slice A2 P.length c2) := U4.out.1.table.cell 0; clear o7 b7)
            | (go_at_call 15; (with_reducible refine (HSP.out (some ⟨g6, 0, none⟩) L.length L.length (some ⟨g7, 0, none⟩) P.length P.length _ (intAt_own (O6b.out.alloc (.cells #[.int .i64 0, .slice none 0 0, .slice none 0 0] 34)) rfl (Nat.le_refl _)) (intAt_own (O7.out.alloc (.cells #[.int .i64 0, .slice none 0 0, .slice none 0 0] 34)) rfl (Nat.le_refl _)) (by omega) (by omega)).mono ?_); rintro e w5 ⟨vr0, vc0, rfl, o5, b5⟩; obtain ⟨Ar0, cr0, rfl, _⟩ := own_form o5.r; obtain ⟨Ac0, cc0, rfl, _⟩ := own_form o5.c; have Bw5 := Lib.hid ((LawB.bx1 U4.out).bl b5); have R5 := Lib.hid (o5.less (LawB.bx1 U4.out).le); have l0 : w5.cell? ⟨w.heap.size, 0, none⟩ = some (.int .i64 W) := Bw5.out.mesh.cell 0; have l1 : w5.cell? ⟨w.heap.size, 1, none⟩ = some (.int .i64 H) := Bw5.out.mesh.cell 1; have l2 : w5.cell? ⟨w.heap.size, 2, none⟩ = some (.slice A L.length cap) := Bw5.out.mesh.cell 2; have l3 : w5.cell? ⟨w.heap.size + 1, 0, none⟩ = some (.slice A2 P.length c2) := Bw5.out.table.cell 0; have XV5 := Lib.hid (U4.out.2.below b5 U4.out.2.lt); have ST := Lib.hid (vd_old Bw5.out R5.out XV5.out z (by have := U4.out.2.lt; have h1 := LawB.le Bw5.out; have h2 := LawB.le Bw4.out; omega)); have c0' : w5.cell? ⟨w4.heap.size, 0, none⟩ = some (.int .i64 0) := XV5.out.cell 0; have f0' : w5.frozen? ⟨w4.heap.size, 0, none⟩ = false := XV5.out.frozen 0; have c1' : w5.cell? ⟨w4.heap.size, 1, none⟩ = some (.slice none 0 0) := XV5.out.cell 1; have f1' : w5.frozen? ⟨w4.heap.size, 1, none⟩ = false := XV5.out.frozen 1; have c2' : w5.cell? ⟨w4.heap.size, 2, none⟩ = some (.slice none 0 0) := XV5.out.cell 2; have f2' : w5.frozen? ⟨w4.heap.size, 2, none⟩ = false := XV5.out.frozen 2; have p0 : (((w5.setCell ⟨w4.heap.size, 0, none⟩ (.int .i64 z)).setCell ⟨w4.heap.size, 1, none⟩ (.slice Ar0 R.length cr0)).setCell ⟨w4.heap.size, 2, none⟩ (.slice Ac0 C.length cc0)).cell? ⟨w.heap.size, 0, none⟩ = some (.int .i64 W) := ST.out.1.mesh.cell 0; have p1 : (((w5.setCell ⟨w4.heap.size, 0, none⟩ (.int .i64 z)).setCell ⟨w4.heap.size, 1, none⟩ (.slice Ar0 R.length cr0)).setCell ⟨w4.heap.size, 2, none⟩ (.slice Ac0 C.length cc0)).cell? ⟨w.heap.size, 1, none⟩ = some (.int .i64 H) := ST.out.1.mesh.cell 1; have p2 : (((w5.setCell ⟨w4.heap.size, 0, none⟩ (.int .i64 z)).setCell ⟨w4.heap.size, 1, none⟩ (.slice Ar0 R.length cr0)).setCell ⟨w4.heap.size, 2, none⟩ (.slice Ac0 C.length cc0)).cell? ⟨w.heap.size, 2, none⟩ = some (.slice A L.length cap) := ST.out.1.mesh.cell 2; have p3 : (((w5.setCell ⟨w4.heap.size, 0, none⟩ (.int .i64 z)).setCell ⟨w4.heap.size, 1, none⟩ (.slice Ar0 R.length cr0)).setCell ⟨w4.heap.size, 2, none⟩ (.slice Ac0 C.length cc0)).cell? ⟨w.heap.size + 1, 0, none⟩ = some (.slice A2 P.length c2) := ST.out.1.table.cell 0; clear o5 b5)
            | (go_at_call 15; (with_reducible refine (HSP.out (some ⟨g6, 0, none⟩) L.length L.length (some ⟨g7, 0, none⟩) P.length P.length _ (intAt_own O6b.out rfl (Nat.le_refl _)) (intAt_own O7.out rfl (Nat.le_refl _)) (by omega) (by omega)).mono ?_); rintro e w5 ⟨vr0, vc0, rfl, o5, b5⟩; obtain ⟨Ar0, cr0, rfl, _⟩ := own_form o5.r; obtain ⟨Ac0, cc0, rfl, _⟩ := own_form o5.c; have Bw5 := Lib.hid (Bw4.out.bl b5); have R5 := Lib.hid (o5.less Bw4.out.le); have l0 : w5.cell? ⟨w.heap.size, 0, none⟩ = some (.int .i64 W) := Bw5.out.mesh.cell 0; have l1 : w5.cell? ⟨w.heap.size, 1, none⟩ = some (.int .i64 H) := Bw5.out.mesh.cell 1; have l2 : w5.cell? ⟨w.heap.size, 2, none⟩ = some (.slice A L.length cap) := Bw5.out.mesh.cell 2; have l3 : w5.cell? ⟨w.heap.size + 1, 0, none⟩ = some (.slice A2 P.length c2) := Bw5.out.table.cell 0; have XV5 := Lib.hid (XA4.out.below b5 XA4.out.lt); have ST := Lib.hid (vd_old Bw5.out R5.out XV5.out z (by have := XA4.out.lt; have h1 := LawB.le Bw5.out; have h2 := LawB.le Bw2.out; omega)); have c0' : w5.cell? ⟨w2.heap.size, 0, none⟩ = some (.int .i64 0) := XV5.out.cell 0; have f0' : w5.frozen? ⟨w2.heap.size, 0, none⟩ = false := XV5.out.frozen 0; have c1' : w5.cell? ⟨w2.heap.size, 1, none⟩ = some (.slice none 0 0) := XV5.out.cell 1; have f1' : w5.frozen? ⟨w2.heap.size, 1, none⟩ = false := XV5.out.frozen 1; have c2' : w5.cell? ⟨w2.heap.size, 2, none⟩ = some (.slice none 0 0) := XV5.out.cell 2; have f2' : w5.frozen? ⟨w2.heap.size, 2, none⟩ = false := XV5.out.frozen 2; have p0 : (((w5.setCell ⟨w2.heap.size, 0, none⟩ (.int .i64 z)).setCell ⟨w2.heap.size, 1, none⟩ (.slice Ar0 R.length cr0)).setCell ⟨w2.heap.size, 2, none⟩ (.slice Ac0 C.length cc0)).cell? ⟨w.heap.size, 0, none⟩ = some (.int .i64 W) := ST.out.1.mesh.cell 0; have p1 : (((w5.setCell ⟨w2.heap.size, 0, none⟩ (.int .i64 z)).setCell ⟨w2.heap.size, 1, none⟩ (.slice Ar0 R.length cr0)).setCell ⟨w2.heap.size, 2, none⟩ (.slice Ac0 C.length cc0)).cell? ⟨w.heap.size, 1, none⟩ = some (.int .i64 H) := ST.out.1.mesh.cell 1; have p2 : (((w5.setCell ⟨w2.heap.size, 0, none⟩ (.int .i64 z)).setCell ⟨w2.heap.size, 1, none⟩ (.slice Ar0 R.length cr0)).setCell ⟨w2.heap.size, 2, none⟩ (.slice Ac0 C.length cc0)).cell? ⟨w.heap.size, 2, none⟩ = some (.slice A L.length cap) := ST.out.1.mesh.cell 2; have p3 : (((w5.setCell ⟨w2.heap.size, 0, none⟩ (.int .i64 z)).setCell ⟨w2.heap.size, 1, none⟩ (.slice Ar0 R.length cr0)).setCell ⟨w2.heap.size, 2, none⟩ (.slice Ac0 C.length cc0)).cell? ⟨w.heap.size + 1, 0, none⟩ = some (.slice A2 P.length c2) := ST.out.1.table.cell 0; clear o5 b5)
            | (go_at_call 15; (with_reducible refine (HSP.out (some ⟨g6, 0, none⟩) L.length L.length (some ⟨g7, 0, none⟩) P.length P.length _ (intAt_own O6b.out rfl (Nat.le_refl _)) (intAt_own O7.out rfl (Nat.le_refl _)) (by omega) (by omega)).mono ?_); rintro e w5 ⟨vr0, vc0, rfl, o5, b5⟩; obtain ⟨Ar0, cr0, rfl, _⟩ := own_form o5.r; obtain ⟨Ac0, cc0, rfl, _⟩ := own_form o5.c; have Bw5 := Lib.hid (Bw4.out.bl b5); have R5 := Lib.hid (o5.less Bw4.out.le); have l0 : w5.cell? ⟨w.heap.size, 0, none⟩ = some (.int .i64 W) := Bw5.out.mesh.cell 0; have l1 : w5.cell? ⟨w.heap.size, 1, none⟩ = some (.int .i64 H) := Bw5.out.mesh.cell 1; have l2 : w5.cell? ⟨w.heap.size, 2, none⟩ = some (.slice A L.length cap) := Bw5.out.mesh.cell 2; have l3 : w5.cell? ⟨w.heap.size + 1, 0, none⟩ = some (.slice A2 P.length c2) := Bw5.out.table.cell 0; have XV5 := Lib.hid (XB4.out.below b5 XB4.out.lt); have ST := Lib.hid (vd_old Bw5.out R5.out XV5.out z (by have := XB4.out.lt; have h1 := LawB.le Bw5.out; have h2 := LawB.le Bw3.out; omega)); have c0' : w5.cell? ⟨w3.heap.size, 0, none⟩ = some (.int .i64 0) := XV5.out.cell 0; have f0' : w5.frozen? ⟨w3.heap.size, 0, none⟩ = false := XV5.out.frozen 0; have c1' : w5.cell? ⟨w3.heap.size, 1, none⟩ = some (.slice none 0 0) := XV5.out.cell 1; have f1' : w5.frozen? ⟨w3.heap.size, 1, none⟩ = false := XV5.out.frozen 1; have c2' : w5.cell? ⟨w3.heap.size, 2, none⟩ = some (.slice none 0 0) := XV5.out.cell 2; have f2' : w5.frozen? ⟨w3.heap.size, 2, none⟩ = false := XV5.out.frozen 2; have p0 : (((w5.setCell ⟨w3.heap.size, 0, none⟩ (.int .i64 z)).setCell ⟨w3.heap.size, 1, none⟩ (.slice Ar0 R.length cr0)).setCell ⟨w3.heap.size, 2, none⟩ (.slice Ac0 C.length cc0)).cell? ⟨w.heap.size, 0, none⟩ = some (.int .i64 W) := ST.out.1.mesh.cell 0; have p1 : (((w5.setCell ⟨w3.heap.size, 0, none⟩ (.int .i64 z)).setCell ⟨w3.heap.size, 1, none⟩ (.slice Ar0 R.length cr0)).setCell ⟨w3.heap.size, 2, none⟩ (.slice Ac0 C.length cc0)).cell? ⟨w.heap.size, 1, none⟩ = some (.int .i64 H) := ST.out.1.mesh.cell 1; have p2 : (((w5.setCell ⟨w3.heap.size, 0, none⟩ (.int .i64 z)).setCell ⟨w3.heap.size, 1, none⟩ (.slice Ar0 R.length cr0)).setCell ⟨w3.heap.size, 2, none⟩ (.slice Ac0 C.length cc0)).cell? ⟨w.heap.size, 2, none⟩ = some (.slice A L.length cap) := ST.out.1.mesh.cell 2; have p3 : (((w5.setCell ⟨w3.heap.size, 0, none⟩ (.int .i64 z)).setCell ⟨w3.heap.size, 1, none⟩ (.slice Ar0 R.length cr0)).setCell ⟨w3.heap.size, 2, none⟩ (.slice Ac0 C.length cc0)).cell? ⟨w.heap.size + 1, 0, none⟩ = some (.slice A2 P.length c2) := ST.out.1.table.cell 0; clear o5 b5)
            | (go_at_call 15; (with_reducible refine (HSP.out (some ⟨g6, 0, none⟩) L.length L.length (some ⟨g7, 0, none⟩) P.length P.length _ (intAt_own O6b.out rfl (Nat.le_refl _)) (intAt_own O7.out rfl (Nat.le_refl _)) (by omega) (by omega)).mono ?_); rintro e w5 ⟨vr0, vc0, rfl, o5, b5⟩; obtain ⟨Ar0, cr0, rfl, _⟩ := own_form o5.r; obtain ⟨Ac0, cc0, rfl, _⟩ := own_form o5.c; have Bw5 := Lib.hid (Bw4.out.bl b5); have R5 := Lib.hid (o5.less Bw4.out.le); have l0 : w5.cell? ⟨w.heap.size, 0, none⟩ = some (.int .i64 W) := Bw5.out.mesh.cell 0; have l1 : w5.cell? ⟨w.heap.size, 1, none⟩ = some (.int .i64 H) := Bw5.out.mesh.cell 1; have l2 : w5.cell? ⟨w.heap.size, 2, none⟩ = some (.slice A L.length cap) := Bw5.out.mesh.cell 2; have l3 : w5.cell? ⟨w.heap.size + 1, 0, none⟩ = some (.slice A2 P.length c2) := Bw5.out.table.cell 0; have ST := Lib.hid (vd_box Bw5.out R5.out z #[.int .i64 z, .slice Ar0 R.length cr0, .slice Ac0 C.length cc0]); have X0 := Lib.hid (vd_box Bw5.out R5.out z #[.int .i64 0, .slice none 0 0, .slice none 0 0]); have n0 : (w5.alloc (.cells #[.int .i64 z, .slice Ar0 R.length cr0, .slice Ac0 C.length cc0] 34)).cell? ⟨w.heap.size, 0, none⟩ = some (.int .i64 W) := ST.out.1.mesh.cell 0; have n1 : (w5.alloc (.cells #[.int .i64 z, .slice Ar0 R.length cr0, .slice Ac0 C.length cc0] 34)).cell? ⟨w.heap.size, 1, none⟩ = some (.int .i64 H) := ST.out.1.mesh.cell 1; have n2 : (w5.alloc (.cells #[.int .i64 z, .slice Ar0 R.length cr0, .slice Ac0 C.length cc0] 34)).cell? ⟨w.heap.size, 2, none⟩ = some (.slice A L.length cap) := ST.out.1.mesh.cell 2; have n3 : (w5.alloc (.cells #[.int .i64 z, .slice Ar0 R.length cr0, .slice Ac0 C.length cc0] 34)).cell? ⟨w.heap.size + 1, 0, none⟩ = some (.slice A2 P.length c2) := ST.out.1.table.cell 0; have p0 : (w5.alloc (.cells #[.int .i64 0, .slice none 0 0, .slice none 0 0] 34)).cell? ⟨w.heap.size, 0, none⟩ = some (.int .i64 W) := X0.out.1.mesh.cell 0; have p1 : (w5.alloc (.cells #[.int .i64 0, .slice none 0 0, .slice none 0 0] 34)).cell? ⟨w.heap.size, 1, none⟩ = some (.int .i64 H) := X0.out.1.mesh.cell 1; have p2 : (w5.alloc (.cells #[.int .i64 0, .slice none 0 0, .slice none 0 0] 34)).cell? ⟨w.heap.size, 2, none⟩ = some (.slice A L.length cap) := X0.out.1.mesh.cell 2; have p3 : (w5.alloc (.cells #[.int .i64 0, .slice none 0 0, .slice none 0 0] 34)).cell? ⟨w.heap.size + 1, 0, none⟩ = some (.slice A2 P.length c2) := X0.out.1.table.cell 0; clear o5 b5)
            | fail)
        all_goals
          go_wp2_with fail
          go_meet
          case rel => exact ⟨_, _, _, _, _, rfl, ST.out.1, ST.out.2.1, ST.out.2.2⟩
      case rest =>
        obtain ⟨bw, Ar0, Ac0, cr0, cc0, rfl, hB, hK, hR⟩ := hcut
        have BS := Lib.hid hB
        have KS := Lib.hid hK
        have RS := Lib.hid hR
        have a0 : wc.cell? ⟨w.heap.size, 0, none⟩ = some (.int .i64 W) := hB.mesh.cell 0
        have a1 : wc.cell? ⟨w.heap.size, 1, none⟩ = some (.int .i64 H) := hB.mesh.cell 1
        have a2 : wc.cell? ⟨w.heap.size, 2, none⟩ = some (.slice A L.length cap) := hB.mesh.cell 2
        clear hB hK hR
        go_wp2_with fail
        refine (lawsToMesh W H A L.length cap L _ (BS.out.at HI.out) hn).mono ?_
        rintro e w6 ⟨gm, rfl, o6, b6⟩
        have O6 := Lib.hid o6
        have B6 := Lib.hid b6
        have L6 := Lib.hid (show LawB W H A A2 L.length cap P.length c2 w (w6.alloc (.cells (meshC W H (some ⟨gm, 0, none⟩) L.length L.length) 28)) from (BS.out.bl b6).gb (gb_alloc (gb_refl _ _) _))
        have a3 : (w6.alloc (.cells #[.int .i64 W, .int .i64 H, .slice (some ⟨gm, 0, none⟩) L.length L.length] 28)).cell? ⟨w.heap.size + 1, 0, none⟩ = some (.slice A2 P.length c2) := L6.out.table.cell 0
        clear o6 b6 a0 a1 a2
        go_wp2_with fail
        refine (lawsToTable A2 P.length c2 P _ (L6.out.at HP.out) hn2).mono ?_
        rintro e w7 ⟨gp, rfl, o7, b7⟩
        have O7 := Lib.hid o7
        have B7 := Lib.hid b7
        have L7 := Lib.hid (show LawB W H A A2 L.length cap P.length c2 w (w7.alloc (.cells #[.slice (some ⟨gp, 0, none⟩) P.length P.length] 30)) from (L6.out.bl b7).gb (gb_alloc (gb_refl _ _) _))
        have KM7 := Lib.hid (show Blk (w7.alloc (.cells #[.slice (some ⟨gp, 0, none⟩) P.length P.length] 30)) w6.heap.size 28 (meshC W H (some ⟨gm, 0, none⟩) L.length L.length) from (Blk.new w6 28 _).grown (gb_alloc (gb_of_below b7 none) _) (by simp))
        have IM7 := Lib.hid (show IntAt (w7.alloc (.cells #[.slice (some ⟨gp, 0, none⟩) P.length P.length] 30)) (w7.alloc (.cells #[.slice (some ⟨gp, 0, none⟩) P.length P.length] 30)).heap.size (some ⟨gm, 0, none⟩) L.length L from intAt_own (own_none (O6.out.alloc _) (gb_alloc (gb_of_below b7 none) _)) rfl (Nat.le_refl _))
        have IP7 := Lib.hid (show IntAt (w7.alloc (.cells #[.slice (some ⟨gp, 0, none⟩) P.length P.length] 30)) (w7.alloc (.cells #[.slice (some ⟨gp, 0, none⟩) P.length P.length] 30)).heap.size (some ⟨gp, 0, none⟩) P.length P from intAt_own (o7.alloc _) rfl (Nat.le_refl _))
        have q0' : (w7.alloc (.cells #[.slice (some ⟨gp, 0, none⟩) P.length P.length] 30)).cell? ⟨w6.heap.size, 0, none⟩ = some (.int .i64 W) := KM7.out.cell 0
        have q1' : (w7.alloc (.cells #[.slice (some ⟨gp, 0, none⟩) P.length P.length] 30)).cell? ⟨w6.heap.size, 1, none⟩ = some (.int .i64 H) := KM7.out.cell 1
        have q2' : (w7.alloc (.cells #[.slice (some ⟨gp, 0, none⟩) P.length P.length] 30)).cell? ⟨w6.heap.size, 2, none⟩ = some (.slice (some ⟨gm, 0, none⟩) L.length L.length) := KM7.out.cell 2
        clear o7 b7 a3
        go_wp2_with fail
        refine (HIM.out (some ⟨gm, 0, none⟩) L.length L.length (some ⟨gp, 0, none⟩) P.length P.length _ IM7.out IP7.out (by omega) (by omega) (HPR.out _ L7.out.old)).mono ?_
        rintro e w8 ⟨vr8, vc8, rfl, o8, b8⟩
        obtain ⟨Ar8, cr8, rfl, _⟩ := own_form o8.r
        obtain ⟨Ac8, cc8, rfl, _⟩ := own_form o8.c
        have X8 := Lib.hid (vs_start BS.out KS.out RS.out O6.out B6.out O7.out B7.out o8 b8)
        clear o8 b8 q0' q1' q2'
        obtain ⟨b0, hb0⟩ : ∃ b, w6.heap.size = b := ⟨_, rfl⟩
        obtain ⟨b1, hb1⟩ : ∃ b, w7.heap.size = b := ⟨_, rfl⟩
        obtain ⟨bg, hbg⟩ : ∃ b, w8.heap.size = b := ⟨_, rfl⟩
        rw [hb0, hb1, hbg] at X8
        have HBG := Lib.hid hbg
        have c8' : (w8.alloc (.cells #[.int .i64 z, .slice Ar8 R.length cr8, .slice Ac8 C.length cc8] 34)).cell? ⟨bw, 0, none⟩ = some (.int .i64 z) := X8.out.k0.cell 0
        have c9' : (w8.alloc (.cells #[.int .i64 z, .slice Ar8 R.length cr8, .slice Ac8 C.length cc8] 34)).cell? ⟨bw, 1, none⟩ = some (.slice Ar0 R.length cr0) := X8.out.k0.cell 1
        have c10' : (w8.alloc (.cells #[.int .i64 z, .slice Ar8 R.length cr8, .slice Ac8 C.length cc8] 34)).cell? ⟨bw, 2, none⟩ = some (.slice Ac0 C.length cc0) := X8.out.k0.cell 2
        (try rw [hb0, hb1])
        clear hb0 hb1 hbg
        go_wp2_with fail
        (try simp only [HBG.out])
        refine (lawsEqVerdict z _ _ _ _ _ _ R C _ X8.out.r8 X8.out.r0 (by omega) (by omega)).mono ?_
        rintro e w9 ⟨rfl, hg9⟩
        have X9 := Lib.hid (X8.out.gb hg9)
        have X9d := Lib.hid X9.out.dr
        clear hg9 c8' c9' c10'
        have d0 : w9.cell? ⟨w.heap.size, 0, none⟩ = some (.int .i64 W) := X9.out.lb.mesh.cell 0
        have d1 : w9.cell? ⟨w.heap.size, 1, none⟩ = some (.int .i64 H) := X9.out.lb.mesh.cell 1
        have d2 : w9.cell? ⟨w.heap.size, 2, none⟩ = some (.slice A L.length cap) := X9.out.lb.mesh.cell 2
        have d4 : w9.cell? ⟨b0, 0, none⟩ = some (.int .i64 W) := X9.out.km.cell 0
        have d5 : w9.cell? ⟨b0, 1, none⟩ = some (.int .i64 H) := X9.out.km.cell 1
        have d6 : w9.cell? ⟨b0, 2, none⟩ = some (.slice (some ⟨gm, 0, none⟩) L.length L.length) := X9.out.km.cell 2
        go_wp2_with fail
        go_region_held3 (fun w' => w'.cell? ⟨w.heap.size, 0, none⟩ = some (.int .i64 W) ∧ w'.cell? ⟨w.heap.size, 1, none⟩ = some (.int .i64 H) ∧ w'.cell? ⟨w.heap.size, 2, none⟩ = some (.slice A L.length cap) ∧ w'.cell? ⟨b0, 0, none⟩ = some (.int .i64 W) ∧ w'.cell? ⟨b0, 1, none⟩ = some (.int .i64 H) ∧ w'.cell? ⟨b0, 2, none⟩ = some (.slice (some ⟨gm, 0, none⟩) L.length L.length))
          (first | exact ⟨d0, d1, d2, d4, d5, d6⟩ | exact ⟨e0, e1, e2, e4, e5, e6⟩ | exact ⟨f0, f1, f2, f4, f5, f6⟩ | fail)
          (first
            | (go_at_call 16; (with_reducible refine (lawsToMesh W H A L.length cap L _ (X9d.out.lb.at HI.out) hn).mono ?_); rintro e w10 ⟨g9, rfl, o9, b9⟩; have X10 := Lib.hid (X9d.out.bl b9); have O9 := Lib.hid (intAt_own o9 rfl (Nat.le_refl _)); have e0 : w10.cell? ⟨w.heap.size, 0, none⟩ = some (.int .i64 W) := X10.out.lb.mesh.cell 0; have e1 : w10.cell? ⟨w.heap.size, 1, none⟩ = some (.int .i64 H) := X10.out.lb.mesh.cell 1; have e2 : w10.cell? ⟨w.heap.size, 2, none⟩ = some (.slice A L.length cap) := X10.out.lb.mesh.cell 2; have e4 : w10.cell? ⟨b0, 0, none⟩ = some (.int .i64 W) := X10.out.km.cell 0; have e5 : w10.cell? ⟨b0, 1, none⟩ = some (.int .i64 H) := X10.out.km.cell 1; have e6 : w10.cell? ⟨b0, 2, none⟩ = some (.slice (some ⟨gm, 0, none⟩) L.length L.length) := X10.out.km.cell 2; clear o9 b9)
            | (go_at_call 19; (with_reducible refine (lawsEqMesh W H (some ⟨gm, 0, none⟩) (some ⟨g9, 0, none⟩) L.length L.length L.length _ _ L _ (X10.out.atM rfl) O9.out (Nat.le_refl _) (Nat.le_refl _) (by omega)).mono ?_); rintro e w11 ⟨rfl, hgb⟩; have X11 := Lib.hid (X10.out.gb hgb); have f0 : w11.cell? ⟨w.heap.size, 0, none⟩ = some (.int .i64 W) := X11.out.lb.mesh.cell 0; have f1 : w11.cell? ⟨w.heap.size, 1, none⟩ = some (.int .i64 H) := X11.out.lb.mesh.cell 1; have f2 : w11.cell? ⟨w.heap.size, 2, none⟩ = some (.slice A L.length cap) := X11.out.lb.mesh.cell 2; have f4 : w11.cell? ⟨b0, 0, none⟩ = some (.int .i64 W) := X11.out.km.cell 0; have f5 : w11.cell? ⟨b0, 1, none⟩ = some (.int .i64 H) := X11.out.km.cell 1; have f6 : w11.cell? ⟨b0, 2, none⟩ = some (.slice (some ⟨gm, 0, none⟩) L.length L.length) := X11.out.km.cell 2; clear hgb)
            | fail)
        all_goals
          have X11d := Lib.hid X11.out.dr
          clear d0 d1 d2 d4 d5 d6 e0 e1 e2 e4 e5 e6 f0 f1 f2 f4 f5 f6
          have g3 : w11.cell? ⟨w.heap.size + 1, 0, none⟩ = some (.slice A2 P.length c2) := X11.out.lb.table.cell 0
          have g7 : w11.cell? ⟨b1, 0, none⟩ = some (.slice (some ⟨gp, 0, none⟩) P.length P.length) := X11.out.kt.cell 0
          go_wp2_with fail
          go_region_held3 (fun w' => w'.cell? ⟨w.heap.size + 1, 0, none⟩ = some (.slice A2 P.length c2) ∧ w'.cell? ⟨b1, 0, none⟩ = some (.slice (some ⟨gp, 0, none⟩) P.length P.length))
            (first | exact ⟨g3, g7⟩ | exact ⟨h3, h7⟩ | exact ⟨i3, i7⟩ | fail)
            (first
              | (go_at_call 17; (with_reducible refine (lawsToTable A2 P.length c2 P _ (X11d.out.lb.at HP.out) hn2).mono ?_); rintro e w12 ⟨g9, rfl, o9, b9⟩; have X12 := Lib.hid (X11d.out.bl b9); have O12 := Lib.hid (intAt_own o9 rfl (Nat.le_refl _)); have h3 : w12.cell? ⟨w.heap.size + 1, 0, none⟩ = some (.slice A2 P.length c2) := X12.out.lb.table.cell 0; have h7 : w12.cell? ⟨b1, 0, none⟩ = some (.slice (some ⟨gp, 0, none⟩) P.length P.length) := X12.out.kt.cell 0; clear o9 b9)
              | (go_at_call 20; (with_reducible refine (lawsEqTable (some ⟨gp, 0, none⟩) (some ⟨g9, 0, none⟩) P.length P.length P.length _ _ P _ (X12.out.atP rfl) O12.out (Nat.le_refl _) (Nat.le_refl _) (by omega)).mono ?_); rintro e w13 ⟨rfl, hgb⟩; have X13 := Lib.hid (X12.out.gb hgb); have i3 : w13.cell? ⟨w.heap.size + 1, 0, none⟩ = some (.slice A2 P.length c2) := X13.out.lb.table.cell 0; have i7 : w13.cell? ⟨b1, 0, none⟩ = some (.slice (some ⟨gp, 0, none⟩) P.length P.length) := X13.out.kt.cell 0; clear hgb)
              | fail)
          all_goals
            clear g3 g7 h3 h7 i3 i7
            have j4 : w13.cell? ⟨b0, 0, none⟩ = some (.int .i64 W) := X13.out.km.cell 0
            have j5 : w13.cell? ⟨b0, 1, none⟩ = some (.int .i64 H) := X13.out.km.cell 1
            have j6 : w13.cell? ⟨b0, 2, none⟩ = some (.slice (some ⟨gm, 0, none⟩) L.length L.length) := X13.out.km.cell 2
            go_wp2_with fail
            refine (lawsMarkMesh W H _ _ L.length 1 L _ X13.out.om (by omega)).mono ?_
            rintro e w14 ⟨rfl, o14, g14⟩
            obtain ⟨k1, hk1⟩ : ∃ k1, 1 + L.length = k1 := ⟨_, rfl⟩
            rw [hk1]
            have X14 := Lib.hid (X13.out.markM o14 g14)
            clear o14 g14 j4 j5 j6
            have j7 : w14.cell? ⟨b1, 0, none⟩ = some (.slice (some ⟨gp, 0, none⟩) P.length P.length) := X14.out.kt.cell 0
            go_wp2_with fail
            refine (lawsMarkTable _ _ P.length k1 P _ X14.out.ot (by omega)).mono ?_
            rintro e w15 ⟨rfl, o15, g15⟩
            obtain ⟨k2, hk2⟩ : ∃ k2, k1 + P.length = k2 := ⟨_, rfl⟩
            rw [hk2]
            have X15 := Lib.hid (X14.out.markT o15 g15)
            have hk0 : ¬ (k2 : Int) < 0 := by omega
            clear o15 g15 hk1 hk2 j7
            have j8' : w15.cell? ⟨bw, 0, none⟩ = some (.int .i64 z) := X15.out.k0.cell 0
            have j9' : w15.cell? ⟨bw, 1, none⟩ = some (.slice Ar0 R.length cr0) := X15.out.k0.cell 1
            have j10' : w15.cell? ⟨bw, 2, none⟩ = some (.slice Ac0 C.length cc0) := X15.out.k0.cell 2
            have j8 : w15.cell? ⟨bg, 0, none⟩ = some (.int .i64 z) := X15.out.k8.cell 0
            have j9 : w15.cell? ⟨bg, 1, none⟩ = some (.slice Ar8 R.length cr8) := X15.out.k8.cell 1
            have j10 : w15.cell? ⟨bg, 2, none⟩ = some (.slice Ac8 C.length cc8) := X15.out.k8.cell 2
            go_wp2_with fail
            refine (lawsEqVerdict z _ _ _ _ _ _ R C _ X15.out.r8 X15.out.r0 (by omega) (by omega)).mono ?_
            rintro e w16 ⟨rfl, hg16⟩
            have X16 := Lib.hid (X15.out.gb hg16)
            clear hg16 hk0 j8' j9' j10' j8 j9 j10
            have j8 : w16.cell? ⟨bg, 0, none⟩ = some (.int .i64 z) := X16.out.k8.cell 0
            have j9 : w16.cell? ⟨bg, 1, none⟩ = some (.slice Ar8 R.length cr8) := X16.out.k8.cell 1
            have j10 : w16.cell? ⟨bg, 2, none⟩ = some (.slice Ac8 C.length cc8) := X16.out.k8.cell 2
            go_wp2_with fail
            refine (lawsMarkVerdict z _ _ _ R.length C.length 1 R C _ X16.out.r8 (by omega)).mono ?_
            rintro e w17 ⟨rfl, o17, wm, om17, g17, g17b⟩
            obtain ⟨k3, hk3⟩ : ∃ k3, 1 + R.length + C.length = k3 := ⟨_, rfl⟩
            rw [hk3]
            have X17 := Lib.hid (X16.out.markV om17 g17 g17b o17)
            clear o17 om17 g17 g17b j8 j9 j10
            have j8 : w17.cell? ⟨bg, 0, none⟩ = some (.int .i64 z) := X17.out.k8.cell 0
            have j9 : w17.cell? ⟨bg, 1, none⟩ = some (.slice Ar8 R.length cr8) := X17.out.k8.cell 1
            have j10 : w17.cell? ⟨bg, 2, none⟩ = some (.slice Ac8 C.length cc8) := X17.out.k8.cell 2
            go_wp2_with fail
            refine (lawsHeldVerdict z _ _ _ R.length C.length 1 _ X17.out.r8 (by omega)).mono ?_
            rintro e w18 ⟨rfl, hg18⟩
            rw [hk3]
            have X18 := Lib.hid (X17.out.gb hg18)
            clear hg18 j8 j9 j10
            go_wp2_with fail
            have X18d := Lib.hid X18.out.dr
            have U18 := Lib.hid (vs_bxd X18.out #[.int .i64 0, .slice none 0 0, .slice none 0 0])
            have a0 : w18.cell? ⟨w.heap.size, 0, none⟩ = some (.int .i64 W) := X18.out.lb.mesh.cell 0
            have a1 : w18.cell? ⟨w.heap.size, 1, none⟩ = some (.int .i64 H) := X18.out.lb.mesh.cell 1
            have a2 : w18.cell? ⟨w.heap.size, 2, none⟩ = some (.slice A L.length cap) := X18.out.lb.mesh.cell 2
            have a3 : w18.cell? ⟨w.heap.size + 1, 0, none⟩ = some (.slice A2 P.length c2) := X18.out.lb.table.cell 0
            have u0 : (w18.alloc (.cells #[.int .i64 0, .slice none 0 0, .slice none 0 0] 34)).drew.cell? ⟨w.heap.size, 0, none⟩ = some (.int .i64 W) := U18.out.1.lb.mesh.cell 0
            have u1 : (w18.alloc (.cells #[.int .i64 0, .slice none 0 0, .slice none 0 0] 34)).drew.cell? ⟨w.heap.size, 1, none⟩ = some (.int .i64 H) := U18.out.1.lb.mesh.cell 1
            have u2 : (w18.alloc (.cells #[.int .i64 0, .slice none 0 0, .slice none 0 0] 34)).drew.cell? ⟨w.heap.size, 2, none⟩ = some (.slice A L.length cap) := U18.out.1.lb.mesh.cell 2
            have u3 : (w18.alloc (.cells #[.int .i64 0, .slice none 0 0, .slice none 0 0] 34)).drew.cell? ⟨w.heap.size + 1, 0, none⟩ = some (.slice A2 P.length c2) := U18.out.1.lb.table.cell 0
            go_cut [13] from 14 (fun s13 wc => ∃ (bh : Nat) (Arh Ach : Option Addr) (crh cch : Nat), s13 = .pointer (some ⟨bh, 0, none⟩) ∧ VS W H A A2 L.length cap P.length c2 w b0 b1 gm gp L.length P.length (marksI 1 L.length) (marksI k1 P.length) bw bg z (.slice Ar0 R.length cr0) (.slice Ac0 C.length cc0) (.slice Ar8 R.length cr8) (.slice Ac8 C.length cc8) R.length C.length R C (marksI 1 R.length) (marksI (1 + R.length) C.length) wc ∧ Blk wc bh 34 #[.int .i64 z, .slice Arh R.length crh, .slice Ach C.length cch] ∧ VRow wc (w.heap.size + 2) (.slice Arh R.length crh) (.slice Ach C.length cch) R.length C.length R C)
            case first =>
              go_region_held3 (fun w' => w'.cell? ⟨w.heap.size, 0, none⟩ = some (.int .i64 W) ∧ w'.cell? ⟨w.heap.size, 1, none⟩ = some (.int .i64 H) ∧ w'.cell? ⟨w.heap.size, 2, none⟩ = some (.slice A L.length cap) ∧ w'.cell? ⟨w.heap.size + 1, 0, none⟩ = some (.slice A2 P.length c2))
                (first | exact ⟨a0, a1, a2, a3⟩ | exact ⟨j0, j1, j2, j3⟩ | exact ⟨t0, t1, t2, t3⟩ | exact ⟨l0, l1, l2, l3⟩ | with_reducible exact ⟨u0, u1, u2, u3⟩ | with_reducible exact ⟨x0, x1, x2, x3⟩ | with_reducible exact ⟨y0, y1, y2, y3⟩ | with_reducible exact ⟨n0, n1, n2, n3⟩ | with_reducible exact ⟨p0, p1, p2, p3⟩ | fail)
                (first
                  | (go_at_call 16; (with_reducible refine (lawsToMesh W H A L.length cap L _ ((VS.bx1 U18.out).lb.at HI.out) hn).mono ?_); rintro e w19 ⟨g6, rfl, o6, b6⟩; have X19 := Lib.hid ((VS.bx1 U18.out).bl b6); have O6 := Lib.hid o6; have j0 : w19.cell? ⟨w.heap.size, 0, none⟩ = some (.int .i64 W) := X19.out.lb.mesh.cell 0; have j1 : w19.cell? ⟨w.heap.size, 1, none⟩ = some (.int .i64 H) := X19.out.lb.mesh.cell 1; have j2 : w19.cell? ⟨w.heap.size, 2, none⟩ = some (.slice A L.length cap) := X19.out.lb.mesh.cell 2; have j3 : w19.cell? ⟨w.heap.size + 1, 0, none⟩ = some (.slice A2 P.length c2) := X19.out.lb.table.cell 0; have XA3 := Lib.hid (U18.out.2.below b6 U18.out.2.lt); clear o6 b6)
                  | (go_at_call 16; (with_reducible refine (lawsToMesh W H A L.length cap L _ (X18d.out.lb.at HI.out) hn).mono ?_); rintro e w19 ⟨g6, rfl, o6, b6⟩; have X19 := Lib.hid (X18d.out.bl b6); have O6 := Lib.hid o6; have j0 : w19.cell? ⟨w.heap.size, 0, none⟩ = some (.int .i64 W) := X19.out.lb.mesh.cell 0; have j1 : w19.cell? ⟨w.heap.size, 1, none⟩ = some (.int .i64 H) := X19.out.lb.mesh.cell 1; have j2 : w19.cell? ⟨w.heap.size, 2, none⟩ = some (.slice A L.length cap) := X19.out.lb.mesh.cell 2; have j3 : w19.cell? ⟨w.heap.size + 1, 0, none⟩ = some (.slice A2 P.length c2) := X19.out.lb.table.cell 0; have U19 := Lib.hid (vs_bx X19.out #[.int .i64 0, .slice none 0 0, .slice none 0 0]); have x0 : (w19.alloc (.cells #[.int .i64 0, .slice none 0 0, .slice none 0 0] 34)).cell? ⟨w.heap.size, 0, none⟩ = some (.int .i64 W) := U19.out.1.lb.mesh.cell 0; have x1 : (w19.alloc (.cells #[.int .i64 0, .slice none 0 0, .slice none 0 0] 34)).cell? ⟨w.heap.size, 1, none⟩ = some (.int .i64 H) := U19.out.1.lb.mesh.cell 1; have x2 : (w19.alloc (.cells #[.int .i64 0, .slice none 0 0, .slice none 0 0] 34)).cell? ⟨w.heap.size, 2, none⟩ = some (.slice A L.length cap) := U19.out.1.lb.mesh.cell 2; have x3 : (w19.alloc (.cells #[.int .i64 0, .slice none 0 0, .slice none 0 0] 34)).cell? ⟨w.heap.size + 1, 0, none⟩ = some (.slice A2 P.length c2) := U19.out.1.lb.table.cell 0; clear o6 b6)
                  | (go_at_call 17; (with_reducible refine (lawsToTable A2 P.length c2 P _ ((VS.bx1 U19.out).lb.at HP.out) hn2).mono ?_); rintro e w20 ⟨g7, rfl, o7, b7⟩; have X20 := Lib.hid ((VS.bx1 U19.out).bl b7); have O6b := Lib.hid (own_below (O6.out.alloc (.cells #[.int .i64 0, .slice none 0 0, .slice none 0 0] 34)) b7); have O7 := Lib.hid o7; have t0 : w20.cell? ⟨w.heap.size, 0, none⟩ = some (.int .i64 W) := X20.out.lb.mesh.cell 0; have t1 : w20.cell? ⟨w.heap.size, 1, none⟩ = some (.int .i64 H) := X20.out.lb.mesh.cell 1; have t2 : w20.cell? ⟨w.heap.size, 2, none⟩ = some (.slice A L.length cap) := X20.out.lb.mesh.cell 2; have t3 : w20.cell? ⟨w.heap.size + 1, 0, none⟩ = some (.slice A2 P.length c2) := X20.out.lb.table.cell 0; have XB4 := Lib.hid (U19.out.2.below b7 U19.out.2.lt); clear o7 b7)
                  | (go_at_call 17; (with_reducible refine (lawsToTable A2 P.length c2 P _ (X19.out.lb.at HP.out) hn2).mono ?_); rintro e w20 ⟨g7, rfl, o7, b7⟩; have X20 := Lib.hid (X19.out.bl b7); have O6b := Lib.hid (own_below O6.out b7); have O7 := Lib.hid o7; have t0 : w20.cell? ⟨w.heap.size, 0, none⟩ = some (.int .i64 W) := X20.out.lb.mesh.cell 0; have t1 : w20.cell? ⟨w.heap.size, 1, none⟩ = some (.int .i64 H) := X20.out.lb.mesh.cell 1; have t2 : w20.cell? ⟨w.heap.size, 2, none⟩ = some (.slice A L.length cap) := X20.out.lb.mesh.cell 2; have t3 : w20.cell? ⟨w.heap.size + 1, 0, none⟩ = some (.slice A2 P.length c2) := X20.out.lb.table.cell 0; have XA4 := Lib.hid (XA3.out.below b7 XA3.out.lt); clear o7 b7)
                  | (go_at_call 17; (with_reducible refine (lawsToTable A2 P.length c2 P _ (X19.out.lb.at HP.out) hn2).mono ?_); rintro e w20 ⟨g7, rfl, o7, b7⟩; have X20 := Lib.hid (X19.out.bl b7); have O6b := Lib.hid (own_below O6.out b7); have O7 := Lib.hid o7; have t0 : w20.cell? ⟨w.heap.size, 0, none⟩ = some (.int .i64 W) := X20.out.lb.mesh.cell 0; have t1 : w20.cell? ⟨w.heap.size, 1, none⟩ = some (.int .i64 H) := X20.out.lb.mesh.cell 1; have t2 : w20.cell? ⟨w.heap.size, 2, none⟩ = some (.slice A L.length cap) := X20.out.lb.mesh.cell 2; have t3 : w20.cell? ⟨w.heap.size + 1, 0, none⟩ = some (.slice A2 P.length c2) := X20.out.lb.table.cell 0; have U20 := Lib.hid (vs_bx X20.out #[.int .i64 0, .slice none 0 0, .slice none 0 0]); have y0 : (w20.alloc (.cells #[.int .i64 0, .slice none 0 0, .slice none 0 0] 34)).cell? ⟨w.heap.size, 0, none⟩ = some (.int .i64 W) := U20.out.1.lb.mesh.cell 0; have y1 : (w20.alloc (.cells #[.int .i64 0, .slice none 0 0, .slice none 0 0] 34)).cell? ⟨w.heap.size, 1, none⟩ = some (.int .i64 H) := U20.out.1.lb.mesh.cell 1; have y2 : (w20.alloc (.cells #[.int .i64 0, .slice none 0 0, .slice none 0 0] 34)).cell? ⟨w.heap.size, 2, none⟩ = some (.slice A L.length cap) := U20.out.1.lb.mesh.cell 2; have y3 : (w20.alloc (.cells #[.int .i64 0, .slice none 0 0, .slice none 0 0] 34)).cell? ⟨w.heap.size + 1, 0, none⟩ = some (.slice A2 P.length c2) := U20.out.1.lb.table.cell 0; clear o7 b7)
                  | (go_at_call 8; (with_reducible refine (HIM.out (some ⟨g6, 0, none⟩) L.length L.length (some ⟨g7, 0, none⟩) P.length P.length _ (intAt_own (O6b.out.alloc (.cells #[.int .i64 0, .slice none 0 0, .slice none 0 0] 34)) rfl (Nat.le_refl _)) (intAt_own (O7.out.alloc (.cells #[.int .i64 0, .slice none 0 0, .slice none 0 0] 34)) rfl (Nat.le_refl _)) (by omega) (by omega) (HPR.out _ (VS.bx1 U20.out).lb.old)).mono ?_); rintro e w21 ⟨vrh, vch, rfl, o5, b5⟩; obtain ⟨Arh, crh, rfl, _⟩ := own_form o5.r; obtain ⟨Ach, cch, rfl, _⟩ := own_form o5.c; have X21 := Lib.hid ((VS.bx1 U20.out).bl b5); have R21 := Lib.hid (o5.less (LawB.le (VS.bx1 U20.out).lb)); have l0 : w21.cell? ⟨w.heap.size, 0, none⟩ = some (.int .i64 W) := X21.out.lb.mesh.cell 0; have l1 : w21.cell? ⟨w.heap.size, 1, none⟩ = some (.int .i64 H) := X21.out.lb.mesh.cell 1; have l2 : w21.cell? ⟨w.heap.size, 2, none⟩ = some (.slice A L.length cap) := X21.out.lb.mesh.cell 2; have l3 : w21.cell? ⟨w.heap.size + 1, 0, none⟩ = some (.slice A2 P.length c2) := X21.out.lb.table.cell 0; have XV5 := Lib.hid (U20.out.2.below b5 U20.out.2.lt); have ST := Lib.hid (vs_old X21.out R21.out XV5.out (LawB.le X20.out.lb) (by have := X20.out.k0.lt; omega) (by have := X20.out.k8.lt; omega)); have c0' : w21.cell? ⟨w20.heap.size, 0, none⟩ = some (.int .i64 0) := XV5.out.cell 0; have f0' : w21.frozen? ⟨w20.heap.size, 0, none⟩ = false := XV5.out.frozen 0; have c1' : w21.cell? ⟨w20.heap.size, 1, none⟩ = some (.slice none 0 0) := XV5.out.cell 1; have f1' : w21.frozen? ⟨w20.heap.size, 1, none⟩ = false := XV5.out.frozen 1; have c2' : w21.cell? ⟨w20.heap.size, 2, none⟩ = some (.slice none 0 0) := XV5.out.cell 2; have f2' : w21.frozen? ⟨w20.heap.size, 2, none⟩ = false := XV5.out.frozen 2; have p0 : (((w21.setCell ⟨w20.heap.size, 0, none⟩ (.int .i64 z)).setCell ⟨w20.heap.size, 1, none⟩ (.slice Arh R.length crh)).setCell ⟨w20.heap.size, 2, none⟩ (.slice Ach C.length cch)).cell? ⟨w.heap.size, 0, none⟩ = some (.int .i64 W) := ST.out.1.lb.mesh.cell 0; have p1 : (((w21.setCell ⟨w20.heap.size, 0, none⟩ (.int .i64 z)).setCell ⟨w20.heap.size, 1, none⟩ (.slice Arh R.length crh)).setCell ⟨w20.heap.size, 2, none⟩ (.slice Ach C.length cch)).cell? ⟨w.heap.size, 1, none⟩ = some (.int .i64 H) := ST.out.1.lb.mesh.cell 1; have p2 : (((w21.setCell ⟨w20.heap.size, 0, none⟩ (.int .i64 z)).setCell ⟨w20.heap.size, 1, none⟩ (.slice Arh R.length crh)).setCell ⟨w20.heap.size, 2, none⟩ (.slice Ach C.length cch)).cell? ⟨w.heap.size, 2, none⟩ = some (.slice A L.length cap) := ST.out.1.lb.mesh.cell 2; have p3 : (((w21.setCell ⟨w20.heap.size, 0, none⟩ (.int .i64 z)).setCell ⟨w20.heap.size, 1, none⟩ (.slice Arh R.length crh)).setCell ⟨w20.heap.size, 2, none⟩ (.slice Ach C.length cch)).cell? ⟨w.heap.size + 1, 0, none⟩ = some (.slice A2 P.length c2) := ST.out.1.lb.table.cell 0; clear o5 b5)
                  | (go_at_call 8; (with_reducible refine (HIM.out (some ⟨g6, 0, none⟩) L.length L.length (some ⟨g7, 0, none⟩) P.length P.length _ (intAt_own O6b.out rfl (Nat.le_refl _)) (intAt_own O7.out rfl (Nat.le_refl _)) (by omega) (by omega) (HPR.out _ X20.out.lb.old)).mono ?_); rintro e w21 ⟨vrh, vch, rfl, o5, b5⟩; obtain ⟨Arh, crh, rfl, _⟩ := own_form o5.r; obtain ⟨Ach, cch, rfl, _⟩ := own_form o5.c; have X21 := Lib.hid (X20.out.bl b5); have R21 := Lib.hid (o5.less (LawB.le X20.out.lb)); have l0 : w21.cell? ⟨w.heap.size, 0, none⟩ = some (.int .i64 W) := X21.out.lb.mesh.cell 0; have l1 : w21.cell? ⟨w.heap.size, 1, none⟩ = some (.int .i64 H) := X21.out.lb.mesh.cell 1; have l2 : w21.cell? ⟨w.heap.size, 2, none⟩ = some (.slice A L.length cap) := X21.out.lb.mesh.cell 2; have l3 : w21.cell? ⟨w.heap.size + 1, 0, none⟩ = some (.slice A2 P.length c2) := X21.out.lb.table.cell 0; have XV5 := Lib.hid (XA4.out.below b5 XA4.out.lt); have ST := Lib.hid (vs_old X21.out R21.out XV5.out (LawB.le X18.out.lb) (by have := X18.out.k0.lt; omega) (by have := X18.out.k8.lt; omega)); have c0' : w21.cell? ⟨w18.heap.size, 0, none⟩ = some (.int .i64 0) := XV5.out.cell 0; have f0' : w21.frozen? ⟨w18.heap.size, 0, none⟩ = false := XV5.out.frozen 0; have c1' : w21.cell? ⟨w18.heap.size, 1, none⟩ = some (.slice none 0 0) := XV5.out.cell 1; have f1' : w21.frozen? ⟨w18.heap.size, 1, none⟩ = false := XV5.out.frozen 1; have c2' : w21.cell? ⟨w18.heap.size, 2, none⟩ = some (.slice none 0 0) := XV5.out.cell 2; have f2' : w21.frozen? ⟨w18.heap.size, 2, none⟩ = false := XV5.out.frozen 2; have p0 : (((w21.setCell ⟨w18.heap.size, 0, none⟩ (.int .i64 z)).setCell ⟨w18.heap.size, 1, none⟩ (.slice Arh R.length crh)).setCell ⟨w18.heap.size, 2, none⟩ (.slice Ach C.length cch)).cell? ⟨w.heap.size, 0, none⟩ = some (.int .i64 W) := ST.out.1.lb.mesh.cell 0; have p1 : (((w21.setCell ⟨w18.heap.size, 0, none⟩ (.int .i64 z)).setCell ⟨w18.heap.size, 1, none⟩ (.slice Arh R.length crh)).setCell ⟨w18.heap.size, 2, none⟩ (.slice Ach C.length cch)).cell? ⟨w.heap.size, 1, none⟩ = some (.int .i64 H) := ST.out.1.lb.mesh.cell 1; have p2 : (((w21.setCell ⟨w18.heap.size, 0, none⟩ (.int .i64 z)).setCell ⟨w18.heap.size, 1, none⟩ (.slice Arh R.length crh)).setCell ⟨w18.heap.size, 2, none⟩ (.slice Ach C.length cch)).cell? ⟨w.heap.size, 2, none⟩ = some (.slice A L.length cap) := ST.out.1.lb.mesh.cell 2; have p3 : (((w21.setCell ⟨w18.heap.size, 0, none⟩ (.int .i64 z)).setCell ⟨w18.heap.size, 1, none⟩ (.slice Arh R.length crh)).setCell ⟨w18.heap.size, 2, none⟩ (.slice Ach C.length cch)).cell? ⟨w.heap.size + 1, 0, none⟩ = some (.slice A2 P.length c2) := ST.out.1.lb.table.cell 0; clear o5 b5)
                  | (go_at_call 8; (with_reducible refine (HIM.out (some ⟨g6, 0, none⟩) L.length L.length (some ⟨g7, 0, none⟩) P.length P.length _ (intAt_own O6b.out rfl (Nat.le_refl _)) (intAt_own O7.out rfl (Nat.le_refl _)) (by omega) (by omega) (HPR.out _ X20.out.lb.old)).mono ?_); rintro e w21 ⟨vrh, vch, rfl, o5, b5⟩; obtain ⟨Arh, crh, rfl, _⟩ := own_form o5.r; obtain ⟨Ach, cch, rfl, _⟩ := own_form o5.c; have X21 := Lib.hid (X20.out.bl b5); have R21 := Lib.hid (o5.less (LawB.le X20.out.lb)); have l0 : w21.cell? ⟨w.heap.size, 0, none⟩ = some (.int .i64 W) := X21.out.lb.mesh.cell 0; have l1 : w21.cell? ⟨w.heap.size, 1, none⟩ = some (.int .i64 H) := X21.out.lb.mesh.cell 1; have l2 : w21.cell? ⟨w.heap.size, 2, none⟩ = some (.slice A L.length cap) := X21.out.lb.mesh.cell 2; have l3 : w21.cell? ⟨w.heap.size + 1, 0, none⟩ = some (.slice A2 P.length c2) := X21.out.lb.table.cell 0; have XV5 := Lib.hid (XB4.out.below b5 XB4.out.lt); have ST := Lib.hid (vs_old X21.out R21.out XV5.out (LawB.le X19.out.lb) (by have := X19.out.k0.lt; omega) (by have := X19.out.k8.lt; omega)); have c0' : w21.cell? ⟨w19.heap.size, 0, none⟩ = some (.int .i64 0) := XV5.out.cell 0; have f0' : w21.frozen? ⟨w19.heap.size, 0, none⟩ = false := XV5.out.frozen 0; have c1' : w21.cell? ⟨w19.heap.size, 1, none⟩ = some (.slice none 0 0) := XV5.out.cell 1; have f1' : w21.frozen? ⟨w19.heap.size, 1, none⟩ = false := XV5.out.frozen 1; have c2' : w21.cell? ⟨w19.heap.size, 2, none⟩ = some (.slice none 0 0) := XV5.out.cell 2; have f2' : w21.frozen? ⟨w19.heap.size, 2, none⟩ = false := XV5.out.frozen 2; have p0 : (((w21.setCell ⟨w19.heap.size, 0, none⟩ (.int .i64 z)).setCell ⟨w19.heap.size, 1, none⟩ (.slice Arh R.length crh)).setCell ⟨w19.heap.size, 2, none⟩ (.slice Ach C.length cch)).cell? ⟨w.heap.size, 0, none⟩ = some (.int .i64 W) := ST.out.1.lb.mesh.cell 0; have p1 : (((w21.setCell ⟨w19.heap.size, 0, none⟩ (.int .i64 z)).setCell ⟨w19.heap.size, 1, none⟩ (.slice Arh R.length crh)).setCell ⟨w19.heap.size, 2, none⟩ (.slice Ach C.length cch)).cell? ⟨w.heap.size, 1, none⟩ = some (.int .i64 H) := ST.out.1.lb.mesh.cell 1; have p2 : (((w21.setCell ⟨w19.heap.size, 0, none⟩ (.int .i64 z)).setCell ⟨w19.heap.size, 1, none⟩ (.slice Arh R.length crh)).setCell ⟨w19.heap.size, 2, none⟩ (.slice Ach C.length cch)).cell? ⟨w.heap.size, 2, none⟩ = some (.slice A L.length cap) := ST.out.1.lb.mesh.cell 2; have p3 : (((w21.setCell ⟨w19.heap.size, 0, none⟩ (.int .i64 z)).setCell ⟨w19.heap.size, 1, none⟩ (.slice Arh R.length crh)).setCell ⟨w19.heap.size, 2, none⟩ (.slice Ach C.length cch)).cell? ⟨w.heap.size + 1, 0, none⟩ = some (.slice A2 P.length c2) := ST.out.1.lb.table.cell 0; clear o5 b5)
                  | (go_at_call 8; (with_reducible refine (HIM.out (some ⟨g6, 0, none⟩) L.length L.length (some ⟨g7, 0, none⟩) P.length P.length _ (intAt_own O6b.out rfl (Nat.le_refl _)) (intAt_own O7.out rfl (Nat.le_refl _)) (by omega) (by omega) (HPR.out _ X20.out.lb.old)).mono ?_); rintro e w21 ⟨vrh, vch, rfl, o5, b5⟩; obtain ⟨Arh, crh, rfl, _⟩ := own_form o5.r; obtain ⟨Ach, cch, rfl, _⟩ := own_form o5.c; have X21 := Lib.hid (X20.out.bl b5); have R21 := Lib.hid (o5.less (LawB.le X20.out.lb)); have l0 : w21.cell? ⟨w.heap.size, 0, none⟩ = some (.int .i64 W) := X21.out.lb.mesh.cell 0; have l1 : w21.cell? ⟨w.heap.size, 1, none⟩ = some (.int .i64 H) := X21.out.lb.mesh.cell 1; have l2 : w21.cell? ⟨w.heap.size, 2, none⟩ = some (.slice A L.length cap) := X21.out.lb.mesh.cell 2; have l3 : w21.cell? ⟨w.heap.size + 1, 0, none⟩ = some (.slice A2 P.length c2) := X21.out.lb.table.cell 0; have ST := Lib.hid (vs_box X21.out R21.out #[.int .i64 z, .slice Arh R.length crh, .slice Ach C.length cch]); have X0 := Lib.hid (vs_box X21.out R21.out #[.int .i64 0, .slice none 0 0, .slice none 0 0]); have n0 : (w21.alloc (.cells #[.int .i64 z, .slice Arh R.length crh, .slice Ach C.length cch] 34)).cell? ⟨w.heap.size, 0, none⟩ = some (.int .i64 W) := ST.out.1.lb.mesh.cell 0; have n1 : (w21.alloc (.cells #[.int .i64 z, .slice Arh R.length crh, .slice Ach C.length cch] 34)).cell? ⟨w.heap.size, 1, none⟩ = some (.int .i64 H) := ST.out.1.lb.mesh.cell 1; have n2 : (w21.alloc (.cells #[.int .i64 z, .slice Arh R.length crh, .slice Ach C.length cch] 34)).cell? ⟨w.heap.size, 2, none⟩ = some (.slice A L.length cap) := ST.out.1.lb.mesh.cell 2; have n3 : (w21.alloc (.cells #[.int .i64 z, .slice Arh R.length crh, .slice Ach C.length cch] 34)).cell? ⟨w.heap.size + 1, 0, none⟩ = some (.slice A2 P.length c2) := ST.out.1.lb.table.cell 0; have p0 : (w21.alloc (.cells #[.int .i64 0, .slice none 0 0, .slice none 0 0] 34)).cell? ⟨w.heap.size, 0, none⟩ = some (.int .i64 W) := X0.out.1.lb.mesh.cell 0; have p1 : (w21.alloc (.cells #[.int .i64 0, .slice none 0 0, .slice none 0 0] 34)).cell? ⟨w.heap.size, 1, none⟩ = some (.int .i64 H) := X0.out.1.lb.mesh.cell 1; have p2 : (w21.alloc (.cells #[.int .i64 0, .slice none 0 0, .slice none 0 0] 34)).cell? ⟨w.heap.size, 2, none⟩ = some (.slice A L.length cap) := X0.out.1.lb.mesh.cell 2; have p3 : (w21.alloc (.cells #[.int .i64 0, .slice none 0 0, .slice none 0 0] 34)).cell? ⟨w.heap.size + 1, 0, none⟩ = some (.slice A2 P.length c2) := X0.out.1.lb.table.cell 0; clear o5 b5)
                  | fail)
              all_goals
                go_wp2_with fail
                go_meet
                case rel => exact ⟨_, _, _, _, _, rfl, ST.out.1, ST.out.2.1, ST.out.2.2⟩
            case rest =>
              obtain ⟨bh, Arh, Ach, crh, cch, rfl, hX, hK, hR⟩ := hcut
              have X22 := Lib.hid hX
              have RH := Lib.hid hR
              have e0 : wc.cell? ⟨bh, 0, none⟩ = some (.int .i64 z) := hK.cell 0
              have e1 : wc.cell? ⟨bh, 1, none⟩ = some (.slice Arh R.length crh) := hK.cell 1
              have e2 : wc.cell? ⟨bh, 2, none⟩ = some (.slice Ach C.length cch) := hK.cell 2
              have j8' : wc.cell? ⟨bw, 0, none⟩ = some (.int .i64 z) := hX.k0.cell 0
              have j9' : wc.cell? ⟨bw, 1, none⟩ = some (.slice Ar0 R.length cr0) := hX.k0.cell 1
              have j10' : wc.cell? ⟨bw, 2, none⟩ = some (.slice Ac0 C.length cc0) := hX.k0.cell 2
              clear hX hK hR a0 a1 a2 a3 u0 u1 u2 u3
              go_wp2_with fail
              refine (lawsEqVerdict z _ _ _ _ _ _ R C _ RH.out X22.out.r0 (by omega) (by omega)).mono ?_
              rintro e w23 ⟨rfl, hg23⟩
              have X23 := Lib.hid (X22.out.gb hg23)
              clear hg23 e0 e1 e2 j8' j9' j10'
              have j8 : w23.cell? ⟨bg, 0, none⟩ = some (.int .i64 z) := X23.out.k8.cell 0
              have j9 : w23.cell? ⟨bg, 1, none⟩ = some (.slice Ar8 R.length cr8) := X23.out.k8.cell 1
              have j10 : w23.cell? ⟨bg, 2, none⟩ = some (.slice Ac8 C.length cc8) := X23.out.k8.cell 2
              go_wp2_with fail
              refine (lawsHeldVerdict z _ _ _ R.length C.length 1 _ X23.out.r8 (by omega)).mono ?_
              rintro e w24 ⟨rfl, hg24⟩
              rw [hk3]
              have X24 := Lib.hid (X23.out.gb hg24)
              clear hg24 j8 j9 j10
              go_wp2_with fail
              go_ret
              exact ⟨rfl, X24.out.lb.old⟩
end Go.Proofs.YtidilfakganooaaGreatDoor
end

section
namespace Go.Proofs.YtidilfakganooaaGreatDoor
open Go.ChangeShapes Go.WideShapes Go.ChangeAt Go.RowKit
set_option linter.unusedVariables false

section
variable {H : Type} {enc : TypeId × Value → H} {w : World} {spare : Nat → Bool} {held : Bool} {base fuel : Nat}

theorem intAt_of (x : Addr) (l : Nat) (zs : List Int) (hl : l ≤ zs.length) (hcell : ∀ i, i < zs.length → w.cell? (x.add i) = some (.int .i64 (zs.getD i 0))) :
    IntAt w w.heap.size (some x) l (zs.take l) := ⟨by simp; omega, fun hn => by
  obtain ⟨b, off, spot⟩ := x
  have hc := hcell 0 (by omega)
  have hspot : spot = none := by simpa [Addr.add] using World.cell?_spot hc
  subst hspot
  have hlt : b < w.heap.size := by simpa [Addr.add] using World.block_lt_of_cell? _ _ hc
  refine ⟨b, off, rfl, hlt, fun k y hy => ?_⟩
  have hkl : k < l := by
    rcases Nat.lt_or_ge k l with h1 | h1
    · exact h1
    · rw [List.getElem?_eq_none (by simp; omega)] at hy; cases hy
  rw [List.getElem?_take_of_lt hkl] at hy
  have h2 := hcell k (by omega)
  rw [List.getD_eq_getElem?_getD, hy] at h2
  simpa [Addr.add_lit] using h2⟩

/-- A cell that reads as a slice of integers. -/
theorem open_intS {cs : List Value} {y : DataW H × List MemPlace} (hf : DataW.trod enc Tryz.prog w base spare held fuel 26 cs = some y) :
    ∃ (A : Option Addr) (n cap : Nat) (L : List Int), cs = [.slice A n cap] ∧ n ≤ cap ∧ cap ≤ maxLen ∧ IntAt w w.heap.size A n L ∧ ∀ x ∈ L, (Lit.int .i64 x).wf = true := by
  rcases open_ints Tryz.underlying26 Tryz.underlying3 (by kernel_rfl) hf with ⟨hcs, _⟩ | ⟨x, l, c, zs, hcs, _, hl, hm, hz, _, hcell, hwz⟩
  · exact ⟨none, 0, 0, [], hcs, Nat.le_refl _, Nat.zero_le _, IntAt.nil _ _ _, fun x h => by cases h⟩
  · refine ⟨some x, l, c, zs.take l, hcs, hl, hm, intAt_of x l zs (by rw [hz]; split <;> omega) hcell, fun y hy => hwz y (List.mem_of_mem_take hy)⟩
end
end Go.Proofs.YtidilfakganooaaGreatDoor
end

section
namespace Go.Proofs.YtidilfakganooaaGreatDoor
open Go.ChangeShapes Go.WideShapes Go.ChangeAt Go.RowKit
set_option linter.unusedVariables false
set_option maxRecDepth 20000

section
variable {H : Type} {enc : TypeId × Value → H} {w : World} {spare : Nat → Bool} {held : Bool} {base : Nat}
theorem open_table {r : Reach} {b0 : Nat} {v : Value} {d : DataW H} {p : List MemPlace}
    (hv : Value.okWide Tryz.prog w r b0 42 v) (h : DataW.Trod enc Tryz.prog w base spare held 42 v d p) :
    ∃ (A : Option Addr) (n cap : Nat) (P : List Int), v = .agg #[.slice A n cap] ∧ n ≤ cap ∧ cap ≤ maxLen ∧ IntAt w w.heap.size A n P ∧ ∀ x ∈ P, (Lit.int .i64 x).wf = true := by
  obtain ⟨cs, rfl, hsz⟩ := okWide_struct Tryz.underlying42 hv
  have hC : Tryz.prog.cellsOf 42 = 1 := by kernel_rfl
  have hS : Tryz.prog.cellsOf 26 = 1 := by kernel_rfl
  obtain ⟨c0, rfl⟩ : ∃ c, cs = #[c] := by
    obtain ⟨l⟩ := cs
    have h1 : l.length = 1 := hsz.trans hC
    obtain ⟨c, rfl⟩ := List.length_eq_one_iff.1 h1
    exact ⟨c, rfl⟩
  obtain ⟨fuel, hf⟩ := h
  obtain ⟨y0, n, hx, _, h0⟩ := trod_struct1 Tryz.underlying42 hf
  simp [Value.cells, hS] at h0
  obtain ⟨A, l, cap, P, e2, i1, i2, i3, i4⟩ := open_intS h0
  simp at e2
  subst e2
  exact ⟨A, l, cap, P, rfl, i1, i2, i3, i4⟩
end
end Go.Proofs.YtidilfakganooaaGreatDoor
end

section
namespace Go.Proofs.YtidilfakganooaaGreatDoor
open Go.ChangeShapes Go.WideShapes Go.ChangeAt Go.RowKit
set_option linter.unusedVariables false

section
variable {H : Type} {enc : TypeId × Value → H} {w : World} {spare : Nat → Bool} {held : Bool} {base fuel : Nat}
set_option maxRecDepth 100000 in
theorem open_mesh {r : Reach} {b0 : Nat} {v : Value} {d : DataW H} {p : List MemPlace}
    (hv : Value.okWide Tryz.prog w r b0 41 v) (h : DataW.Trod enc Tryz.prog w base spare held 41 v d p) :
    ∃ (W Hh : Int) (A : Option Addr) (n cap : Nat) (L : List Int), v = .agg #[.int .i64 W, .int .i64 Hh, .slice A n cap] ∧ (Lit.int .i64 W).wf = true ∧ (Lit.int .i64 Hh).wf = true ∧ n ≤ cap ∧ cap ≤ maxLen ∧ IntAt w w.heap.size A n L ∧ ∀ x ∈ L, (Lit.int .i64 x).wf = true := by
  obtain ⟨cs, rfl, hsz⟩ := okWide_struct Tryz.underlying41 hv
  have hC : Tryz.prog.cellsOf 41 = 3 := by kernel_rfl
  have hG : Tryz.prog.cellsOf 39 = 2 := by kernel_rfl
  have hS : Tryz.prog.cellsOf 26 = 1 := by kernel_rfl
  have hI : Tryz.prog.cellsOf 3 = 1 := by kernel_rfl
  obtain ⟨c0, c1, c2, rfl⟩ := Go.Joins.array3 (hsz.trans hC)
  obtain ⟨fuel, hf⟩ := h
  obtain ⟨y0, y1, n, hx, _, h0, h1⟩ := trod_struct2 Tryz.underlying41 hf
  obtain ⟨z0, z1, m, _, _, g0, g1⟩ := trod_struct2 Tryz.underlying39 h0
  simp [Value.cells, hG, hS, hI] at h1 g0 g1
  obtain ⟨W, e0, _, w0⟩ := DataW.trod_int Tryz.underlying3 g0
  obtain ⟨Hh, e1, _, w1⟩ := DataW.trod_int Tryz.underlying3 g1
  obtain ⟨A, l, cap, L, e2, i1, i2, i3, i4⟩ := open_intS h1
  simp at e0 e1 e2
  subst e0 e1 e2
  exact ⟨W, Hh, A, l, cap, L, rfl, w0, w1, i1, i2, i3, i4⟩
end
end Go.Proofs.YtidilfakganooaaGreatDoor
end

section
namespace Go.Proofs.YtidilfakganooaaGreatDoor
open Go.ChangeShapes Go.WideShapes Go.ChangeAt Go.RowKit
set_option linter.unusedVariables false
set_option linter.unusedSimpArgs false

theorem specColumn (x u : Int) (w : World) :
    Calls Tryz.prog 102 #[.int .i64 x, .int .i64 u] w fun e w' => e = .returned (.int .i64 (colPort x u)) ∧ w = w' := by
  by_cases h : u < x
  all_goals
    go_enter Tryz.func102, Tryz.ntmps102
    go_wp2_with fail
    go_ret
    exact ⟨ret_int64 (by simp [colPort, h]), rfl⟩
theorem specRow (y v : Int) (w : World) :
    Calls Tryz.prog 103 #[.int .i64 y, .int .i64 v] w fun e w' => e = .returned (.int .i64 (rowPort y v)) ∧ w = w' := by
  by_cases h : v < y
  all_goals
    go_enter Tryz.func103, Tryz.ntmps103
    go_wp2_with fail
    go_ret
    exact ⟨ret_int64 (by simp [rowPort, h]), rfl⟩

set_option maxRecDepth 100000 in
set_option maxHeartbeats 1600000 in
theorem specStdPort (W H r a b : Int) (hr1 : 1 ≤ r) (hr4 : r ≤ 4) (ha : hasG W H a = true) (hb : hasG W H b = true) (w : World) :
    Calls Tryz.prog 77 #[.agg #[.int .i64 W, .int .i64 H], .int .i64 r, .int .i64 a, .int .i64 b] w (RetI (stdPort W r a b) none w) := by
  obtain ⟨hW, hH⟩ := okG_cases (hasG_ok ha).1
  obtain ⟨a0, a1⟩ := hasG_le ha
  obtain ⟨b0, b1⟩ := hasG_le hb
  have qa := row_wrap a0 a1 hW
  have qb := row_wrap b0 b1 hW
  obtain ⟨res, hres⟩ : ∃ p, stdPort W r a b = p := ⟨_, rfl⟩
  rw [hres]
  have hS := hres
  unfold stdPort at hS
  obtain ⟨p1, p2, p3, p4, _⟩ := place_of ha
  obtain ⟨s1, s2, s3, s4, _⟩ := place_of hb
  obtain ⟨x, hx⟩ : ∃ x, a % W = x := ⟨_, rfl⟩
  obtain ⟨y, hy⟩ : ∃ y, a / W = y := ⟨_, rfl⟩
  obtain ⟨u, hu⟩ : ∃ u, b % W = u := ⟨_, rfl⟩
  obtain ⟨v, hv⟩ : ∃ v, b / W = v := ⟨_, rfl⟩
  rw [hx, hy, hu, hv] at hS
  have hW1 : 1 ≤ W ∧ W ≤ 4 := by omega
  have hH2 : H ≤ 4 := by omega
  obtain ⟨hWa, hWb⟩ := hW1
  have da : a.tdiv W = y := by rw [Int.tdiv_eq_ediv_of_nonneg a0]; exact hy
  have db : b.tdiv W = v := by rw [Int.tdiv_eq_ediv_of_nonneg b0]; exact hv
  have ta : a.tmod W = x := by rw [Int.tmod_eq_emod_of_nonneg a0]; exact hx
  have tb : b.tmod W = u := by rw [Int.tmod_eq_emod_of_nonneg b0]; exact hu
  rw [hx] at p1 p2
  rw [hy] at p3 p4 qa
  rw [hu] at s1 s2
  rw [hv] at s3 s4 qb
  have hWn : W ≠ 0 := by omega
  clear hW hH hres hy hv
  by_cases hab : a = b
  · have hq : (a == b) = true := by simpa using hab
    rw [if_pos hab] at hS
    have HS := Lib.hid hS
    clear hab hS da db qa qb ta tb
    go_enter Tryz.func77, Tryz.ntmps77
    go_wp2_with fail
    go_ret
    exact ⟨ret_int64 HS.out, gb_alloc (gb_refl _ _) _⟩
  · have hq : (a == b) = false := by simpa using hab
    rw [if_neg hab] at hS
    clear hab
    have hr : r = 1 ∨ r = 2 ∨ r = 3 ∨ r = 4 := by omega
    clear hr1 hr4
    rcases hr with rfl | rfl | rfl | rfl
    · by_cases hc : x = u
      · have hf : firstG (mixRule 1 b) x y u v = false := by simp [firstG, mixRule, hc]
        have hb1 : (x != u) = false := by simpa using hc
        rw [hf] at hS
        simp only [if_true, if_false, Bool.false_eq_true] at hS
        have HS := Lib.hid hS
        clear hf hS hc
        go_enter Tryz.func77, Tryz.ntmps77
        go_wp2_with fail
        refine (specRow y v _).mono ?_
        rintro e w1 ⟨rfl, rfl⟩
        go_wp2_with fail
        go_ret
        exact ⟨ret_int64 HS.out, gb_alloc (gb_refl _ _) _⟩
      · have hf : firstG (mixRule 1 b) x y u v = true := by simp [firstG, mixRule, hc]
        have hb1 : (x != u) = true := by simpa using hc
        rw [hf] at hS
        simp only [if_true] at hS
        have HS := Lib.hid hS
        clear hf hS hc
        go_enter Tryz.func77, Tryz.ntmps77
        go_wp2_with fail
        refine (specColumn x u _).mono ?_
        rintro e w1 ⟨rfl, rfl⟩
        go_wp2_with fail
        go_ret
        exact ⟨ret_int64 HS.out, gb_alloc (gb_refl _ _) _⟩
    · by_cases hc : y = v
      · have hf : firstG (mixRule 2 b) x y u v = true := by simp [firstG, mixRule, hc]
        have hb1 : (y == v) = true := by simpa using hc
        rw [hf] at hS
        simp only [if_true] at hS
        have HS := Lib.hid hS
        clear hf hS hc
        go_enter Tryz.func77, Tryz.ntmps77
        go_wp2_with fail
        refine (specColumn x u _).mono ?_
        rintro e w1 ⟨rfl, rfl⟩
        go_wp2_with fail
        go_ret
        exact ⟨ret_int64 HS.out, gb_alloc (gb_refl _ _) _⟩
      · have hf : firstG (mixRule 2 b) x y u v = false := by simp [firstG, mixRule, hc]
        have hb1 : (y == v) = false := by simpa using hc
        rw [hf] at hS
        simp only [if_true, if_false, Bool.false_eq_true] at hS
        have HS := Lib.hid hS
        clear hf hS hc
        go_enter Tryz.func77, Tryz.ntmps77
        go_wp2_with fail
        refine (specRow y v _).mono ?_
        rintro e w1 ⟨rfl, rfl⟩
        go_wp2_with fail
        go_ret
        exact ⟨ret_int64 HS.out, gb_alloc (gb_refl _ _) _⟩
    · by_cases hc : u < x
      · have hf : firstG (mixRule 3 b) x y u v = true := by simp [firstG, mixRule, hc]
        rw [hf] at hS
        simp only [if_true] at hS
        have HS := Lib.hid hS
        clear hf hS
        go_enter Tryz.func77, Tryz.ntmps77
        go_wp2_with fail
        refine (specColumn x u _).mono ?_
        rintro e w1 ⟨rfl, rfl⟩
        go_wp2_with fail
        go_ret
        exact ⟨ret_int64 HS.out, gb_alloc (gb_refl _ _) _⟩
      · have hl := hc
        clear hc
        by_cases hc : y = v
        · have hf : firstG (mixRule 3 b) x y u v = true := by simp [firstG, mixRule, hl, hc]
          have hb1 : (y == v) = true := by simpa using hc
          rw [hf] at hS
          simp only [if_true] at hS
          have HS := Lib.hid hS
          clear hf hS hc
          go_enter Tryz.func77, Tryz.ntmps77
          go_wp2_with fail
          refine (specColumn x u _).mono ?_
          rintro e w1 ⟨rfl, rfl⟩
          go_wp2_with fail
          go_ret
          exact ⟨ret_int64 HS.out, gb_alloc (gb_refl _ _) _⟩
        · have hf : firstG (mixRule 3 b) x y u v = false := by simp [firstG, mixRule, hl, hc]
          have hb1 : (y == v) = false := by simpa using hc
          rw [hf] at hS
          simp only [if_true, if_false, Bool.false_eq_true] at hS
          have HS := Lib.hid hS
          clear hf hS hc
          go_enter Tryz.func77, Tryz.ntmps77
          go_wp2_with fail
          refine (specRow y v _).mono ?_
          rintro e w1 ⟨rfl, rfl⟩
          go_wp2_with fail
          go_ret
          exact ⟨ret_int64 HS.out, gb_alloc (gb_refl _ _) _⟩
    · rcases (show b % 2 = 0 ∨ b % 2 = 1 by omega) with hpar | hpar
      · by_cases hc : x = u
        · have hf : firstG (mixRule 4 b) x y u v = false := by simp [firstG, mixRule, hpar, hc]
          have hb1 : (x != u) = false := by simpa using hc
          rw [hf] at hS
          simp only [if_true, if_false, Bool.false_eq_true] at hS
          have HS := Lib.hid hS
          clear hf hS hc
          go_enter Tryz.func77, Tryz.ntmps77
          go_wp2_with fail
          refine (specRow y v _).mono ?_
          rintro e w1 ⟨rfl, rfl⟩
          go_wp2_with fail
          go_ret
          exact ⟨ret_int64 HS.out, gb_alloc (gb_refl _ _) _⟩
        · have hf : firstG (mixRule 4 b) x y u v = true := by simp [firstG, mixRule, hpar, hc]
          have hb1 : (x != u) = true := by simpa using hc
          rw [hf] at hS
          simp only [if_true] at hS
          have HS := Lib.hid hS
          clear hf hS hc
          go_enter Tryz.func77, Tryz.ntmps77
          go_wp2_with fail
          refine (specColumn x u _).mono ?_
          rintro e w1 ⟨rfl, rfl⟩
          go_wp2_with fail
          go_ret
          exact ⟨ret_int64 HS.out, gb_alloc (gb_refl _ _) _⟩
      · by_cases hc : y = v
        · have hf : firstG (mixRule 4 b) x y u v = true := by simp [firstG, mixRule, hpar, hc]
          have hb1 : (y == v) = true := by simpa using hc
          rw [hf] at hS
          simp only [if_true] at hS
          have HS := Lib.hid hS
          clear hf hS hc
          go_enter Tryz.func77, Tryz.ntmps77
          go_wp2_with fail
          refine (specColumn x u _).mono ?_
          rintro e w1 ⟨rfl, rfl⟩
          go_wp2_with fail
          go_ret
          exact ⟨ret_int64 HS.out, gb_alloc (gb_refl _ _) _⟩
        · have hf : firstG (mixRule 4 b) x y u v = false := by simp [firstG, mixRule, hpar, hc]
          have hb1 : (y == v) = false := by simpa using hc
          rw [hf] at hS
          simp only [if_true, if_false, Bool.false_eq_true] at hS
          have HS := Lib.hid hS
          clear hf hS hc
          go_enter Tryz.func77, Tryz.ntmps77
          go_wp2_with fail
          refine (specRow y v _).mono ?_
          rintro e w1 ⟨rfl, rfl⟩
          go_wp2_with fail
          go_ret
          exact ⟨ret_int64 HS.out, gb_alloc (gb_refl _ _) _⟩
end Go.Proofs.YtidilfakganooaaGreatDoor
end

section
namespace Go.Proofs.YtidilfakganooaaGreatDoor
open Go.ChangeShapes Go.WideShapes Go.ChangeAt Go.RowKit
set_option linter.unusedVariables false

theorem gb_undraw1 {a b : World} {row : Option Nat} (h : a.drew.grownBy b row) : a.grownBy b row := ⟨h.os, h.tape, h.output, h.size, h.block⟩
/-- A new table with these entries. -/
def NewTabS (P : List Int) (w : World) (e : Ending) (w' : World) : Prop :=
  ∃ v, e = .returned (.agg #[v]) ∧ w'.ownsRow w.heap.size 3 1 v P.length (intsV P) ∧ Below w.heap.size w w'
def MakeAt (W H r : Int) (w : World) (k : Nat) (v : Value) (wr : World) : Prop :=
  Blk wr w.heap.size 25 #[.int .i64 W, .int .i64 H] ∧ Blk wr (w.heap.size + 1) 30 #[.slice none 0 0] ∧ Blk wr (w.heap.size + 1 + 1) 30 #[v] ∧
  wr.ownsRow (w.heap.size + 3) 3 1 v k (intsV (stdTo W H r k)) ∧ Below w.heap.size w wr
theorem MakeAt.app {W H r : Int} {w wr w5 : World} {k : Nat} {v v' : Value} {o : Obj} (h : MakeAt W H r w k v wr) (hg : (wr.alloc o).grownBy w5 v.ownBlock)
    (ho : w5.ownsRow (w.heap.size + 3) 3 1 v' (k + 1) (intsV (stdTo W H r k) ++ [.int .i64 (stdPort W r ((k : Int) / countG W H) ((k : Int) % countG W H))])) :
    MakeAt W H r w (k + 1) v' (w5.setCell ⟨w.heap.size + 1 + 1, 0, none⟩ v') := by
  obtain ⟨h0, h1, h2, hown, hb⟩ := h
  have hne : ∀ g, g < w.heap.size + 3 → some g ≠ v.ownBlock := fun g hg e => by have := (hown.lt g e.symm).1; omega
  refine ⟨((h0.alloc o).grown hg (hne _ (by omega))).far (by show w.heap.size ≠ w.heap.size + 1 + 1; omega) _, ((h1.alloc o).grown hg (hne _ (by omega))).far (by show w.heap.size + 1 ≠ w.heap.size + 1 + 1; omega) _, ?_, ?_, ?_⟩
  · have := ((h2.alloc o).grown hg (hne _ (by omega))).set_ 0 v'
    simpa using this
  · rw [stdTo_succ, intsV_append]
    exact ownsRow_setCell_below ho (by show w.heap.size + 1 + 1 < w.heap.size + 3; omega) _
  · have h3 := (hb.alloc hb.size o).grown hg (by have := hb.size; simp; omega) (fun j hj => by have := (hown.lt j hj).1; omega)
    exact gb_below_none (gb_setCell (gb_of_below h3 none) (.inr (by show w.heap.size ≤ w.heap.size + 1 + 1; omega)) _) (Nat.le_refl _)
theorem MakeAt.none {W H r : Int} {w wr w5 : World} {k : Nat} {v : Value} (h : MakeAt W H r w k v wr) (hg : wr.grownBy w5 none) : MakeAt W H r w k v w5 :=
  ⟨h.1.grown hg (by simp), h.2.1.grown hg (by simp), h.2.2.1.grown hg (by simp), own_none h.2.2.2.1 hg, below_gb h.2.2.2.2 (Nat.le_refl _) hg⟩

theorem specNodeCountV2 (W H k : Int) (h : countG W H = k) (w : World) :
    Calls Tryz.prog 64 #[.agg #[.int .i64 W, .int .i64 H]] w (RetI k none w) := h ▸ specNodeCount W H w

set_option maxRecDepth 100000 in
theorem specMake (W H r : Int) (hok : okG W H = true) (hr1 : 1 ≤ r) (hr4 : r ≤ 4) (w : World) :
    Calls Tryz.prog 49 #[.agg #[.int .i64 W, .int .i64 H], .int .i64 r] w (NewTabS (stdTab W H r) w) := by
  obtain ⟨i0, hi, hz0, hz1, hz2⟩ := info_parts info_int
  obtain ⟨k, hk⟩ : ∃ k, countG W H = k := ⟨_, rfl⟩
  obtain ⟨hk0, hk1⟩ := countG_le W H
  have hsq := sq_int W H
  have hsl := sq_le W H
  rw [hk] at hk0 hk1 hsq
  obtain ⟨m0, m1⟩ := sq_bounds hk0 hk1
  have HSQ := Lib.hid hsq
  have hw : wrap64 (k * k) = k * k := IntWalk.wrap64_in _ (by omega)
  have HN := Lib.hid (fun w => specNodeCountV2 W H k hk w)
  have HK := Lib.hid hk
  have hk1' : 1 ≤ k := by
    obtain ⟨hW, hH⟩ := okG_cases hok
    have hkc : k = W * H := by rw [← hk]; simp [countG, hok]
    rw [hkc]
    rcases hW with rfl | rfl | rfl | rfl <;> rcases hH with rfl | rfl | rfl | rfl <;> decide
  have HR := Lib.hid (And.intro hr1 hr4)
  have hB : MakeAt W H r w 0 (.slice none 0 0) (((w.alloc (.cells #[.int .i64 W, .int .i64 H] 25)).alloc (.cells #[.slice none 0 0] 30)).alloc (.cells #[.slice none 0 0] 30)) := by
    refine ⟨(((Blk.new w _ _).alloc _).alloc _), ?_, ?_, World.ownsRow_nil _ _ _ _, ?_⟩
    · have := Blk.new (w.alloc (.cells #[.int .i64 W, .int .i64 H] 25)) 30 #[.slice none 0 0]
      rw [alloc_size] at this
      exact this.alloc _
    · have := Blk.new ((w.alloc (.cells #[.int .i64 W, .int .i64 H] 25)).alloc (.cells #[.slice none 0 0] 30)) 30 #[.slice none 0 0]
      rw [alloc_size, alloc_size] at this
      exact this
    · exact gb_below_none (gb_alloc (gb_alloc (gb_alloc (gb_refl w none) _) _) _) (Nat.le_refl _)
  have HB := Lib.hid hB
  clear hk hsq hB hr1 hr4 hok
  go_enter Tryz.func49, Tryz.ntmps49
  go_wp2_with fail
  refine (HN.out _).mono ?_
  rintro e w1 ⟨rfl, hg⟩
  have HX := Lib.hid (HB.out.none hg)
  clear hg
  go_wp2_with fail
  go_loopw [7] (fun i wr => ∃ (x : Nat) (v : Value), i = .int .i64 (x : Int) ∧ (x : Int) ≤ k * k ∧ MakeAt W H r w x v wr) (fun i _ => 257 - (intOf i).toNat)
  case atStart => exact ⟨0, _, rfl, by omega, HX.out⟩
  case round =>
    obtain ⟨x, v, rfl, hx, hmk⟩ := hrel
    have HMK := Lib.hid hmk
    have a0 : wr.cell? ⟨w.heap.size, 0, none⟩ = some (.int .i64 W) := hmk.1.cell 0
    have a1 : wr.cell? ⟨w.heap.size, 1, none⟩ = some (.int .i64 H) := hmk.1.cell 1
    have b1 : wr.cell? ⟨w.heap.size + 1, 0, none⟩ = some (.slice none 0 0) := hmk.2.1.cell 0
    have b2 : wr.cell? ⟨w.heap.size + 1 + 1, 0, none⟩ = some v := hmk.2.2.1.cell 0
    have f1 := hmk.2.1.frozen 0
    have f2 := hmk.2.2.1.frozen 0
    by_cases hlt : (x : Int) < k * k
    · obtain ⟨hax, hay⟩ := pair_at (W := W) (H := H) (i := x) (by have := HSQ.out; omega)
      obtain ⟨u, hu⟩ : ∃ u, (x : Int) / countG W H = u := ⟨_, rfl⟩
      obtain ⟨y, hy⟩ : ∃ y, (x : Int) % countG W H = y := ⟨_, rfl⟩
      rw [hu] at hax
      rw [hy] at hay
      have hu15 := hasG_le hax
      have hy15 := hasG_le hay
      have HU := Lib.hid hu
      have HY := Lib.hid hy
      rw [HK.out] at hu hy
      have q1 : (x : Int).tdiv k = u := by rw [Int.tdiv_eq_ediv_of_nonneg (by omega)]; exact hu
      have q2 : (x : Int).tmod k = y := by rw [Int.tmod_eq_emod_of_nonneg (by omega)]; exact hy
      have q3 : IntKind.i64.wrap u = u := IntWalk.i64_in _ (by omega)
      have q4 : IntKind.i64.wrap y = y := IntWalk.i64_in _ (by omega)
      have q5 : (k == 0) = false := by simp; omega
      have q6 : k ≠ 0 := by omega
      obtain ⟨p, hp⟩ : ∃ p, stdPort W r u y = p := ⟨_, rfl⟩
      have HPT := Lib.hid (fun w => hp ▸ specStdPort W H r u y HR.out.1 HR.out.2 hax hay w)
      have HP := Lib.hid hp
      have hx257 : x + 1 ≤ maxLen := by unfold maxLen; omega
      have hx8 : (x + 1) * 8 ≤ 140737488355328 := by omega
      have c4 : ∀ z ∈ [Value.int .i64 p], z.oneCell' = true := by simp [Value.oneCell']
      clear hax hay hu hy hmk hp
      go_wp2_with fail
      go_region_law
        (first
          | (go_simp; (with_reducible refine (HPT.out _).mono ?_); rintro e w4 ⟨rfl, hg4⟩; have M4 := Lib.hid (HMK.out.none (gb_undraw1 hg4)); have d0 : w4.cell? ⟨w.heap.size, 0, none⟩ = some (.int .i64 W) := M4.out.1.cell 0; have d1 : w4.cell? ⟨w.heap.size, 1, none⟩ = some (.int .i64 H) := M4.out.1.cell 1; have d2 : w4.cell? ⟨w.heap.size + 1 + 1, 0, none⟩ = some v := M4.out.2.2.1.cell 0; have d3 : (w4.alloc (.cells #[.int .i64 p] 3)).cell? ⟨w.heap.size + 1 + 1, 0, none⟩ = some v := (M4.out.2.2.1.alloc _).cell 0; have s4 : w.heap.size + 3 ≤ (w4.alloc (.cells #[.int .i64 p] 3)).heap.size := by have := M4.out.2.2.1.lt; rw [alloc_size]; omega
             have o4 := M4.out.2.2.2.1.alloc (.cells #[.int .i64 p] 3); clear hg4; go_simp)
          | (refine step_append_lies _ (by rfl) _ _ _ (by rfl) (w.heap.size + 3) 3 i0 _ 1 8 Tryz.underlying26 hi hz0 hz1 hz2 rfl (by omega) v x (intsV (stdTo W H r x)) (by rfl) o4
              ⟨w4.heap.size, 0, none⟩ 1 1 [.int .i64 p] (by rfl) (by rfl) (World.news_of_block (cs := #[.int .i64 p]) (t := 3) (fr := (0, 0)) (heap_alloc_new w4 _)) c4
              (by omega) hx257 hx8 s4 (w4.heap.size + 1) (by simp) ?_; intro g cap w5 hown5 hgrow hat hltg; have M5 := Lib.hid (MakeAt.app M4.out hgrow (by rw [HU.out, HY.out, HP.out]; exact hown5)); have hne : ∀ j, j < w.heap.size + 3 → some j ≠ v.ownBlock := fun j hj e => by have := (M4.out.2.2.2.1.lt j e.symm).1; omega
             have k0 := (M4.out.1.alloc (.cells #[.int .i64 p] 3)).grown hgrow (hne _ (by omega)); have k2 := (M4.out.2.2.1.alloc (.cells #[.int .i64 p] 3)).grown hgrow (hne _ (by omega)); have e0 : w5.cell? ⟨w.heap.size, 0, none⟩ = some (.int .i64 W) := k0.cell 0; have e1 : w5.cell? ⟨w.heap.size, 1, none⟩ = some (.int .i64 H) := k0.cell 1; have e2 : w5.cell? ⟨w.heap.size + 1 + 1, 0, none⟩ = some v := k2.cell 0; have f5 := k2.frozen 0; clear k0 k2 hne hown5 hgrow hat hltg)
          | fail)
      all_goals
        go_wp2_with fail
        go_roundw
        case rel => exact ⟨x + 1, _, by go_num, by omega, M5.out⟩
        case measure => simp [intOf]; omega
    · have hxk : x = sqG W H := by have := HSQ.out; omega
      have HE := Lib.hid hxk
      obtain ⟨Av, cv, rfl, _⟩ := own_form hmk.2.2.2.1
      clear hxk
      have h1 := (hmk.2.1.set_ 0 (.slice Av x cv)).cell 0
      simp at h1
      have O := Lib.hid hmk.2.2.2.1
      have BE := Lib.hid hmk.2.2.2.2
      clear hmk
      go_wp2_with fail
      refine bodyPost_ret (v := .agg #[.slice Av x cv]) (by simp [results, Tryz.results49, go_sem, h1]) rfl ⟨_, rfl, ?_, ?_⟩
      · have := ownsRow_setCell_below O.out (a := ⟨w.heap.size + 1, 0, none⟩) (by show w.heap.size + 1 < w.heap.size + 3; omega) (.slice Av x cv)
        rw [stdTab, stdTo_len, ← HE.out]
        exact own_less this (by omega)
      · exact gb_below_none (gb_setCell (gb_of_below BE.out none) (.inr (by show w.heap.size ≤ w.heap.size + 1; omega)) _) (Nat.le_refl _)
end Go.Proofs.YtidilfakganooaaGreatDoor
end

section
namespace Go.Proofs.YtidilfakganooaaGreatDoor
open Go.ChangeShapes Go.WideShapes Go.ChangeAt Go.RowKit
set_option linter.unusedVariables false
set_option maxRecDepth 20000

theorem safe_no {W H : Int} (h : okG W H = false) : safeG W H = [] := if_neg (by simp [h])
theorem safe_is {W H : Int} (h : okG W H = true) : safeG W H = safeTo W H 4 := if_pos h
theorem specGridOkV2 (W H : Int) (b : Bool) (h : okG W H = b) (w : World) :
    Calls Tryz.prog 48 #[.agg #[.int .i64 W, .int .i64 H]] w (RetB b w) := h ▸ specGridOk W H w
/-- The box of the grid and the list so far. -/
structure SrAt (W H : Int) (w : World) (k : Nat) (v : Value) (wr : World) : Prop where
  g : Blk wr w.heap.size 25 #[.int .i64 W, .int .i64 H]
  r : wr.ownsRow (w.heap.size + 1) 3 1 v (safeTo W H k).length (intsV (safeTo W H k))
  b : Below w.heap.size w wr
theorem SrAt.gb {W H : Int} {w wr w' : World} {k : Nat} {v : Value} (h : SrAt W H w k v wr) (hg : wr.grownBy w' none) : SrAt W H w k v w' := ⟨h.g.grown hg (by simp), own_none h.r hg, below_gb h.b (Nat.le_refl _) hg⟩
theorem SrAt.sz {W H : Int} {w wr : World} {k : Nat} {v : Value} (h : SrAt W H w k v wr) : w.heap.size + 1 ≤ wr.heap.size := by have := h.g.lt; omega

set_option maxHeartbeats 1600000 in
theorem specSafe (W H : Int) (w : World) :
    Calls Tryz.prog 25 #[.agg #[.int .i64 W, .int .i64 H]] w (NewI (safeG W H) w) := by
  obtain ⟨i0, hi, hz0, hz1, hz2⟩ := info_parts info_int
  have X0 := Lib.hid (show SrAt W H w 0 (.slice (some ⟨w.heap.size + 1, 0, none⟩) 0 0) ((w.alloc (.cells #[.int .i64 W, .int .i64 H] 25)).alloc (.cells #[] 3)) from by
    have e : (w.alloc (.cells #[.int .i64 W, .int .i64 H] 25)).heap.size = w.heap.size + 1 := alloc_size _ _
    have h1 := World.ownsRow_made (base := w.heap.size + 1) (e := 3) (size := 1) (w.alloc (.cells #[.int .i64 W, .int .i64 H] 25)) #[] 0 (by omega) (by decide) rfl
    rw [e] at h1
    exact ⟨(Blk.new w 25 #[.int .i64 W, .int .i64 H]).alloc _, h1, ((Below.refl _ _).alloc (Nat.le_refl _) _).alloc (by omega) _⟩)
  cases hok : okG W H with
  | false =>
    have HG := Lib.hid (fun w => specGridOkV2 W H false hok w)
    have HE := Lib.hid (safe_no hok)
    clear hok
    go_enter Tryz.func25, Tryz.ntmps25
    go_wp2_with fail
    go_loopw [3, 4] (fun v i wr => v = .slice (some ⟨w.heap.size + 1, 0, none⟩) 0 0 ∧ i = .int .i64 1 ∧ SrAt W H w 0 v wr) (fun _ _ _ => 0)
    case atStart => exact ⟨rfl, rfl, X0.out⟩
    case round =>
      obtain ⟨rfl, rfl, hx⟩ := hrel
      have X1 := Lib.hid hx
      have a0 : wr.cell? ⟨w.heap.size, 0, none⟩ = some (.int .i64 W) := hx.g.cell 0
      have a1 : wr.cell? ⟨w.heap.size, 1, none⟩ = some (.int .i64 H) := hx.g.cell 1
      clear hx
      go_wp2_with fail
      refine (HG.out _).mono ?_
      rintro e w1 ⟨rfl, hg⟩
      have X2 := Lib.hid (X1.out.gb hg)
      clear hg
      go_wp2_with fail
      go_ret
      exact ⟨_, rfl, by rw [HE.out]; exact own_less X2.out.r (by omega), X2.out.b⟩
  | true =>
    have HG := Lib.hid (fun w => specGridOkV2 W H true hok w)
    have HE := Lib.hid (safe_is hok)
    have HMK := Lib.hid (fun r h1 h4 w => specMake W H r hok h1 h4 w)
    have HCK := Lib.hid (fun A2 n2 c2 P w h2 hn2 => specCheck W H none A2 0 0 n2 c2 [] P w (IntAt.nil w w.heap.size none) h2 (by omega) hn2)
    clear hok
    go_enter Tryz.func25, Tryz.ntmps25
    go_wp2_with fail
    go_loopw [3, 4] (fun v i wr => ∃ k : Nat, i = .int .i64 ((k : Int) + 1) ∧ k ≤ 4 ∧ SrAt W H w k v wr) (fun _ i _ => 5 - (intOf i).toNat)
    case atStart => exact ⟨0, rfl, by omega, X0.out⟩
    case round =>
      obtain ⟨k, rfl, hk, hx⟩ := hrel
      have X1 := Lib.hid hx
      have a0 : wr.cell? ⟨w.heap.size, 0, none⟩ = some (.int .i64 W) := hx.g.cell 0
      have a1 : wr.cell? ⟨w.heap.size, 1, none⟩ = some (.int .i64 H) := hx.g.cell 1
      obtain ⟨Ar, cr, rfl, _⟩ := own_form hx.r
      clear hx
      by_cases hlt : k < 4
      · have k4 : (k : Int) + 1 ≤ 4 := by omega
        go_wp2_with fail
        refine (HG.out _).mono ?_
        rintro e w1 ⟨rfl, hg⟩
        have X2 := Lib.hid (X1.out.gb hg)
        have b0 : w1.cell? ⟨w.heap.size, 0, none⟩ = some (.int .i64 W) := X2.out.g.cell 0
        have b1 : w1.cell? ⟨w.heap.size, 1, none⟩ = some (.int .i64 H) := X2.out.g.cell 1
        clear hg a0 a1
        have HMK2 := Lib.hid (fun w => HMK.out ((k : Int) + 1) (by omega) (by omega) w)
        have HLT := Lib.hid hlt
        have HSL := Lib.hid (safeTo_len W H k)
        obtain ⟨z, hz⟩ : ∃ z, (verdG W H [] (stdTab W H ((k : Int) + 1))).code = z := ⟨_, rfl⟩
        obtain ⟨P, hP⟩ : ∃ P, stdTab W H ((k : Int) + 1) = P := ⟨_, rfl⟩
        have HPL := Lib.hid (show P.length ≤ 256 by rw [← hP]; unfold stdTab; rw [stdTo_len]; exact sqG_le)
        have HZ := Lib.hid (show safeB W H ((k : Int) + 1) = decide (z = 1) by unfold safeB; rw [hz])
        rw [hP] at HMK2 hz
        have HZ2 := Lib.hid hz
        clear hlt hz hP
        have hfld : ∀ (x : Int) (b c : Value) (w : World), (Instr.field 34 (.agg #[.int .i64 x, b, c]) 0).run Tryz.prog w = .ok (.int .i64 x) w := fun x b c w => by kernel_rfl
        go_wp2_with fail
        go_region_held3 (fun w' => w'.cell? ⟨w.heap.size, 0, none⟩ = some (.int .i64 W) ∧ w'.cell? ⟨w.heap.size, 1, none⟩ = some (.int .i64 H))
          (first | exact ⟨b0, b1⟩ | exact ⟨d0, d1⟩ | exact ⟨f0, f1⟩ | fail)
          (first
            | (go_at_call 15; (with_reducible refine (HCK.out A4 P.length c4 P _ I4.out (by have := HPL.out; omega)).mono ?_); rintro e w5 ⟨vr, vc, rfl, ⟨or5, oc5, _⟩, b5⟩; obtain ⟨Av, cv, rfl, _⟩ := own_form or5; obtain ⟨Aw, cw, rfl, _⟩ := own_form oc5; have X5 := Lib.hid (X4.out.gb (gb_of_below b5 none)); have f0 : w5.cell? ⟨w.heap.size, 0, none⟩ = some (.int .i64 W) := X5.out.g.cell 0; have f1 : w5.cell? ⟨w.heap.size, 1, none⟩ = some (.int .i64 H) := X5.out.g.cell 1; rw [HZ2.out]; clear or5 oc5 b5)
            | (go_at_call 49; (with_reducible refine (HMK2.out _).mono ?_); rintro e w4 ⟨v4, rfl, o4, b4⟩; obtain ⟨A4, c4, rfl, _⟩ := own_form o4; have I4 := Lib.hid (intAt_own o4 rfl (Nat.le_refl w4.heap.size)); have X4 := Lib.hid ((X2.out.gb (gb_drew (gb_refl w1 none))).gb (gb_of_below b4 none)); have d0 : w4.cell? ⟨w.heap.size, 0, none⟩ = some (.int .i64 W) := X4.out.g.cell 0; have d1 : w4.cell? ⟨w.heap.size, 1, none⟩ = some (.int .i64 H) := X4.out.g.cell 1; clear o4 b4)
            | fail)
        all_goals
          clear b0 b1 d0 d1 f0 f1 hfld
          have hkw : IntKind.i64.wrap ((k : Int) + 1 + 1) = ((k + 1 : Nat) : Int) + 1 := by have := HLT.out; rw [IntWalk.i64_in _ (by omega)]; omega
          by_cases hz1' : z = 1
          · have HE2 := Lib.hid (show safeTo W H (k + 1) = safeTo W H k ++ [(k : Int) + 1] by rw [safeTo_next, if_pos (by rw [HZ.out]; exact decide_eq_true hz1')])
            have hnb := Lib.hid (World.news_of_block (w := w5.alloc (.cells #[.int .i64 ((k : Int) + 1)] 3)) (B := w5.heap.size) (cs := #[.int .i64 ((k : Int) + 1)]) (t := 3) (fr := (0, 0)) (heap_alloc_new w5 _))
            have b3 := Lib.hid (show ∀ u ∈ [Value.int .i64 ((k : Int) + 1)], u.oneCell' = true by simp [Value.oneCell'])
            have b4 := Lib.hid (show (safeTo W H k).length + 1 ≤ maxLen by have := HSL.out; unfold maxLen; omega)
            have b5 := Lib.hid (show ((safeTo W H k).length + 1) * 8 ≤ 140737488355328 by have := HSL.out; omega)
            have b6 := Lib.hid (show w.heap.size + 1 ≤ (w5.alloc (.cells #[.int .i64 ((k : Int) + 1)] 3)).heap.size by have := X5.out.sz; rw [alloc_size]; omega)
            subst hz1'
            go_wp2_with (at_builtin; refine wpList_append_own _ rfl _ _ 26 rfl (w.heap.size + 1) 3 i0 (.int .i64 0) 1 8 Tryz.underlying26 hi hz0 hz1 hz2 rfl (by decide) _ (safeTo W H k).length _ rfl (X5.out.r.alloc _) ⟨w5.heap.size, 0, none⟩ 1 1 [.int .i64 ((k : Int) + 1)] rfl rfl hnb.out b3.out b4.out b5.out b6.out ?_; intro v' w6 hown6 hgrow6 _)
            have X6 := Lib.hid (show SrAt W H w (k + 1) v' w6 from by
              refine ⟨(X5.out.g.alloc _).grown hgrow6 (fun e => own_ne X5.out.r X5.out.g (by decide) e.symm), by rw [HE2.out, List.length_append, intsV_append]; exact hown6, (X5.out.b.alloc (by have := X5.out.sz; omega) _).grown hgrow6 (by have := b6.out; omega) (fun j hj => by have := (X5.out.r.lt j hj).1; omega)⟩)
            clear hown6 hgrow6
            go_wp2_with fail
            go_roundw
            case rel => exact ⟨k + 1, by go_num, by have := HLT.out; omega, X6.out⟩
            case measure => have := HLT.out; simp [intOf]; omega
          · have HE2 := Lib.hid (show safeTo W H (k + 1) = safeTo W H k by rw [safeTo_next, if_neg (by rw [HZ.out]; simp [hz1'])])
            have hzb : (z == 1) = false := beq_eq_false_iff_ne.2 hz1'
            have X6 := Lib.hid (show SrAt W H w (k + 1) _ w5 from ⟨X5.out.g, by rw [HE2.out]; exact X5.out.r, X5.out.b⟩)
            go_wp2_with fail
            go_roundw
            case rel => exact ⟨k + 1, by go_num, by have := HLT.out; omega, X6.out⟩
            case measure => have := HLT.out; simp [intOf]; omega
      · obtain rfl : k = 4 := by omega
        go_wp2_with fail
        go_ret
        exact ⟨_, rfl, by rw [HE.out]; exact own_less X1.out.r (by omega), X1.out.b⟩
end Go.Proofs.YtidilfakganooaaGreatDoor
end

section
namespace Go.Proofs.YtidilfakganooaaGreatDoor
open Go.ChangeShapes Go.WideShapes Go.ChangeAt Go.RowKit
set_option linter.unusedVariables false
set_option linter.unusedSimpArgs false

def towardG (s g lo hi : Int) : Int := if g < s then lo else if g > s then hi else 4
def rowTo (W a b : Int) : Int := towardG (a % W) (b % W) 3 1
def colTo (W a b : Int) : Int := towardG (a / W) (b / W) 0 2
def xyG (W a b : Int) : Int := if rowTo W a b = 4 then colTo W a b else rowTo W a b
def yxG (W a b : Int) : Int := if colTo W a b = 4 then rowTo W a b else colTo W a b
def westG (W a b : Int) : Int := if rowTo W a b = 3 then 3 else yxG W a b
def mixG (W a b : Int) : Int := if b % 2 = 0 then xyG W a b else yxG W a b

theorem same_place {W H a b : Int} (ha : hasG W H a = true) (hb : hasG W H b = true) : a = b ↔ a % W = b % W ∧ a / W = b / W := by
  obtain ⟨_, _, _, _, ea⟩ := place_of ha
  obtain ⟨_, _, _, _, eb⟩ := place_of hb
  exact ⟨fun h => by subst h; exact ⟨rfl, rfl⟩, fun ⟨h1, h2⟩ => by rw [← ea, ← eb, h1, h2]⟩
theorem xy_first {x u y v : Int} : (if towardG x u 3 1 = 4 then towardG y v 0 2 else towardG x u 3 1) = if x = u ∧ y = v then 4 else if x ≠ u then colPort x u else rowPort y v := by
  simp only [towardG, colPort, rowPort]
  split <;> split <;> (try split) <;> (try split) <;> (try split) <;> omega
theorem yx_first {x u y v : Int} : (if towardG y v 0 2 = 4 then towardG x u 3 1 else towardG y v 0 2) = if x = u ∧ y = v then 4 else if y = v then colPort x u else rowPort y v := by
  simp only [towardG, colPort, rowPort]
  split <;> split <;> (try split) <;> (try split) <;> (try split) <;> omega
theorem xy_std {W H a b : Int} (ha : hasG W H a = true) (hb : hasG W H b = true) : xyG W a b = stdPort W 1 a b := by
  refine (xy_first (x := a % W) (u := b % W) (y := a / W) (v := b / W)).trans ?_
  have hp := same_place ha hb
  by_cases h : a = b
  · rw [if_pos (hp.1 h), stdPort, if_pos h]
  · rw [if_neg (fun e => h (hp.2 e)), stdPort, if_neg h]
    simp [firstG, mixRule]
theorem yx_std {W H a b : Int} (ha : hasG W H a = true) (hb : hasG W H b = true) : yxG W a b = stdPort W 2 a b := by
  refine (yx_first (x := a % W) (u := b % W) (y := a / W) (v := b / W)).trans ?_
  have hp := same_place ha hb
  by_cases h : a = b
  · rw [if_pos (hp.1 h), stdPort, if_pos h]
  · rw [if_neg (fun e => h (hp.2 e)), stdPort, if_neg h]
    simp [firstG, mixRule]
theorem west_first {x u y v : Int} : (if towardG x u 3 1 = 3 then 3 else if towardG y v 0 2 = 4 then towardG x u 3 1 else towardG y v 0 2) = if x = u ∧ y = v then 4 else if u < x ∨ y = v then colPort x u else rowPort y v := by
  simp only [towardG, colPort, rowPort]
  repeat' split
  all_goals omega
theorem west_std {W H a b : Int} (ha : hasG W H a = true) (hb : hasG W H b = true) : westG W a b = stdPort W 3 a b := by
  refine (west_first (x := a % W) (u := b % W) (y := a / W) (v := b / W)).trans ?_
  have hp := same_place ha hb
  by_cases h : a = b
  · rw [if_pos (hp.1 h), stdPort, if_pos h]
  · rw [if_neg (fun e => h (hp.2 e)), stdPort, if_neg h]
    simp [firstG, mixRule]
theorem mix_std {W H a b : Int} (ha : hasG W H a = true) (hb : hasG W H b = true) : mixG W a b = stdPort W 4 a b := by
  unfold mixG
  have h1 := xy_std ha hb
  have h2 := yx_std ha hb
  by_cases h : b % 2 = 0
  · rw [if_pos h, h1]
    simp [stdPort, mixRule, h]
  · rw [if_neg h, h2]
    have : b % 2 = 1 := by omega
    simp [stdPort, mixRule, this]
end Go.Proofs.YtidilfakganooaaGreatDoor
end

section
namespace Go.Proofs.YtidilfakganooaaGreatDoor
open Go.ChangeShapes Go.WideShapes Go.ChangeAt Go.RowKit
set_option linter.unusedVariables false

theorem implToward (s g lo hi : Int) (w : World) :
    Calls Tryz.prog 130 #[.int .i64 s, .int .i64 g, .int .i64 lo, .int .i64 hi] w (RetI (towardG s g lo hi) none w) := by
  by_cases h1 : g < s
  · go_enter Tryz.func130, Tryz.ntmps130
    go_wp2_with fail
    go_ret
    exact ⟨ret_int64 (by simp [towardG, h1]), gb_refl _ _⟩
  · by_cases h2 : g > s
    all_goals
      go_enter Tryz.func130, Tryz.ntmps130
      go_wp2_with fail
      go_ret
      exact ⟨ret_int64 (by unfold towardG; first | rw [if_neg (Int.not_lt.2 h1), if_pos h2] | rw [if_neg (Int.not_lt.2 h1), if_neg (Int.not_lt.2 h2)]), gb_refl _ _⟩
theorem implTowardV (s g lo hi r : Int) (h : towardG s g lo hi = r) (w : World) :
    Calls Tryz.prog 130 #[.int .i64 s, .int .i64 g, .int .i64 lo, .int .i64 hi] w (RetI r none w) := h ▸ implToward s g lo hi w

theorem implInRow (W H a b r : Int) (ha : hasG W H a = true) (hb : hasG W H b = true) (hr : rowTo W a b = r) (w : World) :
    Calls Tryz.prog 126 #[.agg #[.int .i64 W, .int .i64 H], .int .i64 a, .int .i64 b] w (RetI r none w) := by
  obtain ⟨x, hx⟩ : ∃ x, a % W = x := ⟨_, rfl⟩
  obtain ⟨u, hu⟩ : ∃ u, b % W = u := ⟨_, rfl⟩
  obtain ⟨y, hy⟩ : ∃ y, a / W = y := ⟨_, rfl⟩
  obtain ⟨v, hv⟩ : ∃ v, b / W = v := ⟨_, rfl⟩
  have HA := Lib.hid (fun w => implPlace W H a x y ha hx hy w)
  have HB := Lib.hid (fun w => implPlace W H b u v hb hu hv w)
  have HT := Lib.hid (fun w => implTowardV x u 3 1 r (by rw [← hr, rowTo, hx, hu]) w)
  clear ha hb hr hx hu hy hv
  go_enter Tryz.func126, Tryz.ntmps126
  go_wp2_with fail
  refine (HA.out _).mono ?_
  rintro e w1 ⟨rfl, g1⟩
  have hb1 := boxi_blk g1
  have a0 : w1.cell? ⟨w.heap.size, 0, none⟩ = some (.int .i64 W) := hb1.cell 0
  have a1 : w1.cell? ⟨w.heap.size, 1, none⟩ = some (.int .i64 H) := hb1.cell 1
  have HG1 := Lib.hid g1
  clear g1 hb1
  go_wp2_with fail
  refine (HB.out _).mono ?_
  rintro e w2 ⟨rfl, g2⟩
  have HG2 := Lib.hid (gb_trans HG1.out g2)
  clear g2
  go_wp2_with fail
  refine (HT.out _).mono ?_
  rintro e w3 ⟨rfl, g3⟩
  have HG3 := Lib.hid (gb_trans HG2.out g3)
  clear g3
  go_wp2_with fail
  go_ret
  exact ⟨rfl, boxi_gb HG3.out⟩
theorem implInColumn (W H a b r : Int) (ha : hasG W H a = true) (hb : hasG W H b = true) (hr : colTo W a b = r) (w : World) :
    Calls Tryz.prog 127 #[.agg #[.int .i64 W, .int .i64 H], .int .i64 a, .int .i64 b] w (RetI r none w) := by
  obtain ⟨x, hx⟩ : ∃ x, a % W = x := ⟨_, rfl⟩
  obtain ⟨u, hu⟩ : ∃ u, b % W = u := ⟨_, rfl⟩
  obtain ⟨y, hy⟩ : ∃ y, a / W = y := ⟨_, rfl⟩
  obtain ⟨v, hv⟩ : ∃ v, b / W = v := ⟨_, rfl⟩
  have HA := Lib.hid (fun w => implPlace W H a x y ha hx hy w)
  have HB := Lib.hid (fun w => implPlace W H b u v hb hu hv w)
  have HT := Lib.hid (fun w => implTowardV y v 0 2 r (by rw [← hr, colTo, hy, hv]) w)
  clear ha hb hr hx hu hy hv
  go_enter Tryz.func127, Tryz.ntmps127
  go_wp2_with fail
  refine (HA.out _).mono ?_
  rintro e w1 ⟨rfl, g1⟩
  have hb1 := boxi_blk g1
  have a0 : w1.cell? ⟨w.heap.size, 0, none⟩ = some (.int .i64 W) := hb1.cell 0
  have a1 : w1.cell? ⟨w.heap.size, 1, none⟩ = some (.int .i64 H) := hb1.cell 1
  have HG1 := Lib.hid g1
  clear g1 hb1
  go_wp2_with fail
  refine (HB.out _).mono ?_
  rintro e w2 ⟨rfl, g2⟩
  have HG2 := Lib.hid (gb_trans HG1.out g2)
  clear g2
  go_wp2_with fail
  refine (HT.out _).mono ?_
  rintro e w3 ⟨rfl, g3⟩
  have HG3 := Lib.hid (gb_trans HG2.out g3)
  clear g3
  go_wp2_with fail
  go_ret
  exact ⟨rfl, boxi_gb HG3.out⟩

theorem implXY (W H a b r : Int) (ha : hasG W H a = true) (hb : hasG W H b = true) (hr : xyG W a b = r) (w : World) :
    Calls Tryz.prog 115 #[.agg #[.int .i64 W, .int .i64 H], .int .i64 a, .int .i64 b] w (RetI r none w) := by
  obtain ⟨p, hp⟩ : ∃ p, rowTo W a b = p := ⟨_, rfl⟩
  obtain ⟨q, hq⟩ : ∃ q, colTo W a b = q := ⟨_, rfl⟩
  unfold xyG at hr
  rw [hp, hq] at hr
  have HA := Lib.hid (fun w => implInRow W H a b p ha hb hp w)
  have HB := Lib.hid (fun w => implInColumn W H a b q ha hb hq w)
  clear ha hb hp hq
  by_cases h4 : p = 4
  · rw [if_pos h4] at hr
    have h5 : (p != 4) = false := by simpa using h4
    subst hr
    clear h4
    go_enter Tryz.func115, Tryz.ntmps115
    go_wp2_with fail
    refine (HA.out _).mono ?_
    rintro e w1 ⟨rfl, g1⟩
    have hb1 := boxi_blk g1
    have a0 : w1.cell? ⟨w.heap.size, 0, none⟩ = some (.int .i64 W) := hb1.cell 0
    have a1 : w1.cell? ⟨w.heap.size, 1, none⟩ = some (.int .i64 H) := hb1.cell 1
    have HG1 := Lib.hid g1
    clear g1 hb1
    go_wp2_with fail
    refine (HB.out _).mono ?_
    rintro e w2 ⟨rfl, g2⟩
    have HG2 := Lib.hid (gb_trans HG1.out g2)
    clear g2
    go_wp2_with fail
    go_ret
    exact ⟨rfl, boxi_gb HG2.out⟩
  · rw [if_neg h4] at hr
    have h5 : (p != 4) = true := by simpa using h4
    subst hr
    clear h4
    go_enter Tryz.func115, Tryz.ntmps115
    go_wp2_with fail
    refine (HA.out _).mono ?_
    rintro e w1 ⟨rfl, g1⟩
    have HG1 := Lib.hid g1
    clear g1
    go_wp2_with fail
    go_ret
    exact ⟨rfl, boxi_gb HG1.out⟩
theorem implYX (W H a b r : Int) (ha : hasG W H a = true) (hb : hasG W H b = true) (hr : yxG W a b = r) (w : World) :
    Calls Tryz.prog 116 #[.agg #[.int .i64 W, .int .i64 H], .int .i64 a, .int .i64 b] w (RetI r none w) := by
  obtain ⟨p, hp⟩ : ∃ p, colTo W a b = p := ⟨_, rfl⟩
  obtain ⟨q, hq⟩ : ∃ q, rowTo W a b = q := ⟨_, rfl⟩
  unfold yxG at hr
  rw [hp, hq] at hr
  have HA := Lib.hid (fun w => implInColumn W H a b p ha hb hp w)
  have HB := Lib.hid (fun w => implInRow W H a b q ha hb hq w)
  clear ha hb hp hq
  by_cases h4 : p = 4
  · rw [if_pos h4] at hr
    have h5 : (p != 4) = false := by simpa using h4
    subst hr
    clear h4
    go_enter Tryz.func116, Tryz.ntmps116
    go_wp2_with fail
    refine (HA.out _).mono ?_
    rintro e w1 ⟨rfl, g1⟩
    have hb1 := boxi_blk g1
    have a0 : w1.cell? ⟨w.heap.size, 0, none⟩ = some (.int .i64 W) := hb1.cell 0
    have a1 : w1.cell? ⟨w.heap.size, 1, none⟩ = some (.int .i64 H) := hb1.cell 1
    have HG1 := Lib.hid g1
    clear g1 hb1
    go_wp2_with fail
    refine (HB.out _).mono ?_
    rintro e w2 ⟨rfl, g2⟩
    have HG2 := Lib.hid (gb_trans HG1.out g2)
    clear g2
    go_wp2_with fail
    go_ret
    exact ⟨rfl, boxi_gb HG2.out⟩
  · rw [if_neg h4] at hr
    have h5 : (p != 4) = true := by simpa using h4
    subst hr
    clear h4
    go_enter Tryz.func116, Tryz.ntmps116
    go_wp2_with fail
    refine (HA.out _).mono ?_
    rintro e w1 ⟨rfl, g1⟩
    have HG1 := Lib.hid g1
    clear g1
    go_wp2_with fail
    go_ret
    exact ⟨rfl, boxi_gb HG1.out⟩
theorem implWest (W H a b r : Int) (ha : hasG W H a = true) (hb : hasG W H b = true) (hr : westG W a b = r) (w : World) :
    Calls Tryz.prog 117 #[.agg #[.int .i64 W, .int .i64 H], .int .i64 a, .int .i64 b] w (RetI r none w) := by
  obtain ⟨p, hp⟩ : ∃ p, rowTo W a b = p := ⟨_, rfl⟩
  obtain ⟨q, hq⟩ : ∃ q, yxG W a b = q := ⟨_, rfl⟩
  unfold westG at hr
  rw [hp, hq] at hr
  have HA := Lib.hid (fun w => implInRow W H a b p ha hb hp w)
  have HB := Lib.hid (fun w => implYX W H a b q ha hb hq w)
  clear ha hb hp hq
  by_cases h4 : p = 3
  · rw [if_pos h4] at hr
    have h5 : (p == 3) = true := by simpa using h4
    subst hr
    clear h4
    go_enter Tryz.func117, Tryz.ntmps117
    go_wp2_with fail
    refine (HA.out _).mono ?_
    rintro e w1 ⟨rfl, g1⟩
    have HG1 := Lib.hid g1
    clear g1
    go_wp2_with fail
    go_ret
    exact ⟨rfl, boxi_gb HG1.out⟩
  · rw [if_neg h4] at hr
    have h5 : (p == 3) = false := by simpa using h4
    subst hr
    clear h4
    go_enter Tryz.func117, Tryz.ntmps117
    go_wp2_with fail
    refine (HA.out _).mono ?_
    rintro e w1 ⟨rfl, g1⟩
    have hb1 := boxi_blk g1
    have a0 : w1.cell? ⟨w.heap.size, 0, none⟩ = some (.int .i64 W) := hb1.cell 0
    have a1 : w1.cell? ⟨w.heap.size, 1, none⟩ = some (.int .i64 H) := hb1.cell 1
    have HG1 := Lib.hid g1
    clear g1 hb1
    go_wp2_with fail
    refine (HB.out _).mono ?_
    rintro e w2 ⟨rfl, g2⟩
    have HG2 := Lib.hid (gb_trans HG1.out g2)
    clear g2
    go_wp2_with fail
    go_ret
    exact ⟨rfl, boxi_gb HG2.out⟩
theorem implMixed (W H a b r : Int) (ha : hasG W H a = true) (hb : hasG W H b = true) (hr : mixG W a b = r) (w : World) :
    Calls Tryz.prog 118 #[.agg #[.int .i64 W, .int .i64 H], .int .i64 a, .int .i64 b] w (RetI r none w) := by
  obtain ⟨p, hp⟩ : ∃ p, xyG W a b = p := ⟨_, rfl⟩
  obtain ⟨q, hq⟩ : ∃ q, yxG W a b = q := ⟨_, rfl⟩
  unfold mixG at hr
  rw [hp, hq] at hr
  have HA := Lib.hid (fun w => implXY W H a b p ha hb hp w)
  have HB := Lib.hid (fun w => implYX W H a b q ha hb hq w)
  obtain ⟨b0, b1⟩ := hasG_le hb
  have hm : b.tmod 2 = b % 2 := by rw [Int.tmod_eq_emod_of_nonneg b0]
  clear ha hb hp hq
  rcases (show b % 2 = 0 ∨ b % 2 = 1 by omega) with h4 | h4
  · rw [if_pos h4] at hr
    rw [h4] at hm
    subst hr
    clear h4
    go_enter Tryz.func118, Tryz.ntmps118
    go_wp2_with fail
    refine (HA.out _).mono ?_
    rintro e w1 ⟨rfl, g1⟩
    have HG1 := Lib.hid g1
    clear g1
    go_wp2_with fail
    go_ret
    exact ⟨rfl, boxi_gb HG1.out⟩
  · rw [if_neg (by omega)] at hr
    rw [h4] at hm
    subst hr
    clear h4
    go_enter Tryz.func118, Tryz.ntmps118
    go_wp2_with fail
    refine (HB.out _).mono ?_
    rintro e w1 ⟨rfl, g1⟩
    have HG1 := Lib.hid g1
    clear g1
    go_wp2_with fail
    go_ret
    exact ⟨rfl, boxi_gb HG1.out⟩
end Go.Proofs.YtidilfakganooaaGreatDoor
end

section
namespace Go.Proofs.YtidilfakganooaaGreatDoor
open Go.ChangeShapes Go.WideShapes Go.ChangeAt Go.RowKit
set_option linter.unusedVariables false

theorem gb_row {w : World} {g : Nat} {old cs : Array Value} {t : TypeId} (h : Blk w g t old) : Blk (w.setRow g cs) g t cs ∧ w.grownBy (w.setRow g cs) (some g) := by
  refine ⟨setRow_heap w g old cs t (0, 0) h, rfl, rfl, rfl, ?_, fun i hi hne => ?_⟩
  · simp [World.setRow]
  · have hne' : g ≠ i := fun e => hne (by rw [e])
    simp [World.setRow, Array.getElem?_modify, hne']
theorem gb_fresh {a b c : World} {g : Nat} (h : a.grownBy b none) (k : b.grownBy c (some g)) (hg : a.heap.size ≤ g) : a.grownBy c none :=
  ⟨k.os.trans h.os, k.tape.trans h.tape, k.output.trans h.output, Nat.le_trans h.size k.size, fun i hi hne => (k.block i (Nat.lt_of_lt_of_le hi h.size) (fun e => by cases e; omega)).trans (h.block i hi hne)⟩

/-- A rule as two cells: its name and its function. -/
def ruleName (r : Int) : ByteArray := if r = 1 then ⟨#[120, 121]⟩ else if r = 2 then ⟨#[121, 120]⟩ else if r = 3 then ⟨#[119, 101, 115, 116]⟩ else if r = 4 then ⟨#[109, 105, 120, 101, 100]⟩ else ⟨#[]⟩
def ruleFn (r : Int) : Value := if r = 1 then .func (.func 115) #[] #[] else if r = 2 then .func (.func 116) #[] #[] else if r = 3 then .func (.func 117) #[] #[] else if r = 4 then .func (.func 118) #[] #[] else .nilFunc
def ruleC (r : Int) : Array Value := #[.string (ruleName r), ruleFn r]
def rulesC : Array Value := #[.string (ruleName 0), ruleFn 0, .string (ruleName 1), ruleFn 1, .string (ruleName 2), ruleFn 2, .string (ruleName 3), ruleFn 3, .string (ruleName 4), ruleFn 4]
theorem rules_info : (Tryz.prog.info? 148).map (·.size) = some 10 := by kernel_rfl
theorem rule_info : (Tryz.prog.info? 116).map (·.size) = some 2 := by kernel_rfl

theorem rules_one : rulesC.all (·.oneCell') = true := by simp [rulesC, ruleFn, Value.oneCell']
theorem rule_one (r : Int) : (ruleC r).all (·.oneCell') = true := by
  simp only [ruleC, ruleFn]
  repeat' split
  all_goals simp [Value.oneCell']

theorem implRules (w : World) :
    Calls Tryz.prog 104 #[] w fun e w' => e = .returned (.agg rulesC) ∧ w.grownBy w' none := by
  go_enter Tryz.func104, Tryz.ntmps104
  go_wp2_with (refine wpList_store_row (P := Tryz.prog) rfl 148 (.tmp 0) (.tmp 5) rfl w.heap.size rulesC rfl rfl 148 _ (Blk.new _ _ _) rules_info rfl rules_one ?_)
  obtain ⟨b1, g1⟩ := gb_row (cs := rulesC) (Blk.new w 148 (#[.string ⟨#[]⟩, .nilFunc, .string ⟨#[]⟩, .nilFunc, .string ⟨#[]⟩, .nilFunc, .string ⟨#[]⟩, .nilFunc, .string ⟨#[]⟩, .nilFunc]))
  exact bodyPost_ret (v := .agg rulesC) (results_cell_row Tryz.results104 _ _ w.heap.size _ rulesC (0, 0) _ rfl b1 Tryz.underlying148 rfl rules_info) rfl ⟨rfl, gb_fresh (gb_alloc (gb_refl _ _) _) g1 (Nat.le_refl _)⟩

theorem index_rules (r : Int) (h1 : 1 ≤ r) (h4 : r ≤ 4) (w : World) :
    (Instr.index 148 (.agg rulesC) (.int .i64 r)).run Tryz.prog w = .ok (.agg (ruleC r)) w := by
  have hr : r = 1 ∨ r = 2 ∨ r = 3 ∨ r = 4 := by omega
  rcases hr with rfl | rfl | rfl | rfl
  all_goals simp [Instr.index, run_underlying Tryz.underlying148, asIntOf, part, go_sem, rulesC, ruleC]
theorem wpList_indexRule {ops : Array Oper} {rest : List Oper} {op : Oper} {a : Act} {w : World} {Q : Exit → Act → World → Prop} (hgd : op.guard = none) (x y : Operand) (ho : op.op = .index 148 x y)
    (r : Int) (hx : a.eval x = .agg rulesC) (hy : a.eval y = .int .i64 r) (h1 : 1 ≤ r) (h4 : r ≤ 4)
    (h : wpList Tryz.prog ops Q rest (a.put op.dst (.agg (ruleC r))) w) : wpList Tryz.prog ops Q (op :: rest) a w :=
  wpList_plain hgd fun _ hK => by
    unfold Oper.wp execOp
    simp only [ho, hx, hy, index_rules r h1 h4, Sem.run_bind, Result.andThen_ok]
    exact hK _ _ h
theorem ruleC_out {r : Int} (h : r < 1 ∨ 4 < r) : ruleC r = #[.string ⟨#[]⟩, .nilFunc] := by
  have a1 : r ≠ 1 := by omega
  have a2 : r ≠ 2 := by omega
  have a3 : r ≠ 3 := by omega
  have a4 : r ≠ 4 := by omega
  simp [ruleC, ruleName, ruleFn, a1, a2, a3, a4]
theorem ret_rule {tmps : Array Value} {w : World} {g : Nat} {cs : Array Value} {b : Bool} (hb : Blk w g 116 cs) (hs : (Tryz.prog.info? 116).map (·.size) = some cs.size)
    (hp : tmps.getD 2 undef = .pointer (some ⟨g, 0, none⟩)) (hq : tmps.getD 3 undef = .bool b) : (results Tryz.f78 tmps).run Tryz.prog w = .ok (.tuple #[.agg cs, .bool b]) w := by
  rw [results_cell_tmp Tryz.results78, hp, hq]
  simp only [asAddr, Sem.run_pure, Result.andThen_ok, run_loadVar_row w g _ _ cs (0, 0) _ hb Tryz.underlying116 rfl hs]
/-- The rule that was found, and whether there is one. -/
theorem implFindRule (r : Int) (b : Bool) (hb : decide (1 ≤ r ∧ r ≤ 4) = b) (w : World) :
    Calls Tryz.prog 78 #[.int .i64 r] w fun e w' => e = .returned (.tuple #[.agg (ruleC r), .bool b]) ∧ w.grownBy w' none := by
  have HZ := Lib.hid (Blk.new w 116 #[.string ⟨#[]⟩, .nilFunc])
  by_cases h1 : r < 1
  · have HC := Lib.hid (ruleC_out (.inl h1))
    obtain rfl : false = b := by rw [← hb]; simp; omega
    clear hb
    go_enter Tryz.func78, Tryz.ntmps78
    go_wp2_with (refine wpList_store_row (P := Tryz.prog) rfl 116 (.tmp 2) (.tmp 10) rfl w.heap.size #[.string ⟨#[]⟩, .nilFunc] rfl rfl 116 _ HZ.out rule_info rfl (by simp [Value.oneCell']) ?_)
    obtain ⟨b1, g1⟩ := gb_row (cs := #[.string ⟨#[]⟩, .nilFunc]) HZ.out
    rw [HC.out]
    exact bodyPost_ret (v := .tuple #[.agg #[.string ⟨#[]⟩, .nilFunc], .bool false]) (ret_rule b1 rule_info rfl rfl) rfl ⟨rfl, gb_fresh (gb_alloc (gb_refl _ _) _) g1 (Nat.le_refl _)⟩
  · by_cases h4 : r > 4
    · have HC := Lib.hid (ruleC_out (.inr h4))
      obtain rfl : false = b := by rw [← hb]; simp; omega
      clear hb
      go_enter Tryz.func78, Tryz.ntmps78
      go_wp2_with (refine wpList_store_row (P := Tryz.prog) rfl 116 (.tmp 2) (.tmp 10) rfl w.heap.size #[.string ⟨#[]⟩, .nilFunc] rfl rfl 116 _ HZ.out rule_info rfl (by simp [Value.oneCell']) ?_)
      obtain ⟨b1, g1⟩ := gb_row (cs := #[.string ⟨#[]⟩, .nilFunc]) HZ.out
      rw [HC.out]
      exact bodyPost_ret (v := .tuple #[.agg #[.string ⟨#[]⟩, .nilFunc], .bool false]) (ret_rule b1 rule_info rfl rfl) rfl ⟨rfl, gb_fresh (gb_alloc (gb_refl _ _) _) g1 (Nat.le_refl _)⟩
    · have h1' : 1 ≤ r := by omega
      have h4' : r ≤ 4 := by omega
      obtain rfl : true = b := by rw [← hb]; simp; omega
      clear hb
      go_enter Tryz.func78, Tryz.ntmps78
      go_wp2_with fail
      refine (implRules _).mono ?_
      rintro e w1 ⟨rfl, g1⟩
      have HB1 := Lib.hid (boxi_blk g1)
      have HG1 := Lib.hid (boxi_gb g1)
      clear g1
      go_wp2_with (first | (refine wpList_indexRule rfl (.tmp 11) (.tmp 12) rfl r rfl rfl h1' h4' ?_) | (refine wpList_store_row (P := Tryz.prog) rfl 116 (.tmp 2) (.tmp 13) rfl w.heap.size (ruleC r) rfl rfl 116 _ HB1.out rule_info rfl (rule_one r) ?_))
      obtain ⟨b2, g2⟩ := gb_row (cs := ruleC r) HB1.out
      exact bodyPost_ret (v := .tuple #[.agg (ruleC r), .bool true]) (ret_rule b2 rule_info rfl rfl) rfl ⟨rfl, gb_fresh HG1.out g2 (Nat.le_refl _)⟩
end Go.Proofs.YtidilfakganooaaGreatDoor
end

section
namespace Go.Proofs.YtidilfakganooaaGreatDoor
open Go.ChangeShapes Go.WideShapes Go.ChangeAt Go.RowKit
set_option linter.unusedVariables false

def portAll (W H r a b : Int) : Int := if (hasG W H a && hasG W H b && decide (1 ≤ r ∧ r ≤ 4)) = true then stdPort W r a b else -1
def stdOk (W H r : Int) : Bool := okG W H && decide (1 ≤ r ∧ r ≤ 4)
def stdRes (W H r : Int) : List Int := if stdOk W H r = true then stdTab W H r else []
/-- A new table and whether there is one. -/
def RetTab (P : List Int) (b : Bool) (w : World) (e : Ending) (w' : World) : Prop :=
  ∃ v, e = .returned (.tuple #[.agg #[v], .bool b]) ∧ w'.ownsRow w.heap.size 3 1 v P.length (intsV P) ∧ Below w.heap.size w w'
theorem stdRes_length (W H r : Int) : (stdRes W H r).length ≤ 256 := by
  unfold stdRes
  split
  · rw [stdTab, stdTo_len]; exact sq_le W H
  · simp
end Go.Proofs.YtidilfakganooaaGreatDoor
end

section
namespace Go.Proofs.YtidilfakganooaaGreatDoor
open Go.ChangeShapes Go.WideShapes Go.ChangeAt Go.RowKit
set_option linter.unusedVariables false

theorem wpList_storeRule {ops : Array Oper} {rest : List Oper} {op : Oper} {a : Act} {w : World} {Q : Exit → Act → World → Prop} (hgd : op.guard = none) (x y : Operand) (ho : op.op = .store 116 x y)
    (g : Nat) (old : Array Value) (s : ByteArray) (F : Value) (hF : (#[.string s, F] : Array Value).all (·.oneCell') = true) (hx : a.eval x = .pointer (some ⟨g, 0, none⟩)) (hy : a.eval y = .agg #[.string s, F]) (hb : Blk w g 116 old) (hl : old.size = 2)
    (h : ∀ w', Blk w' g 116 #[.string s, F] → w.grownBy w' (some g) → wpList Tryz.prog ops Q rest (a.put op.dst undef) w') : wpList Tryz.prog ops Q (op :: rest) a w :=
  wpList_store_row (P := Tryz.prog) hgd _ x y ho g #[.string s, F] hx hy _ old hb rule_info hl hF (h _ (gb_row hb).1 (gb_row hb).2)

theorem implHasNodeV (W H n : Int) (b : Bool) (h : hasG W H n = b) (w : World) :
    Calls Tryz.prog 123 #[.agg #[.int .i64 W, .int .i64 H], .int .i64 n] w (RetB b w) := h ▸ implHasNode W H n w
end Go.Proofs.YtidilfakganooaaGreatDoor
end

section
namespace Go.Proofs.YtidilfakganooaaGreatDoor
open Go.ChangeShapes Go.WideShapes Go.ChangeAt Go.RowKit
set_option linter.unusedVariables false

/-- The function of a rule that exists can be called and returns the port. -/
theorem ruleFn_calls {r : Int} (h1 : 1 ≤ r) (h4 : r ≤ 4) : ∃ f, ruleFn r = .func (.func f) #[] #[] ∧ (∀ args w, (callFunc f args).run Tryz.prog w = .ok (.enter f args) w) ∧
    ∀ (W H a b : Int), hasG W H a = true → hasG W H b = true → ∀ w, Calls Tryz.prog f #[.agg #[.int .i64 W, .int .i64 H], .int .i64 a, .int .i64 b] w (RetI (stdPort W r a b) none w) := by
  have hr : r = 1 ∨ r = 2 ∨ r = 3 ∨ r = 4 := by omega
  rcases hr with rfl | rfl | rfl | rfl
  · exact ⟨_, rfl, Tryz.call115, fun W H a b ha hb w => implXY W H a b _ ha hb (xy_std ha hb) w⟩
  · exact ⟨_, rfl, Tryz.call116, fun W H a b ha hb w => implYX W H a b _ ha hb (yx_std ha hb) w⟩
  · exact ⟨_, rfl, Tryz.call117, fun W H a b ha hb w => implWest W H a b _ ha hb (west_std ha hb) w⟩
  · exact ⟨_, rfl, Tryz.call118, fun W H a b ha hb w => implMixed W H a b _ ha hb (mix_std ha hb) w⟩

theorem implGridOkV (W H : Int) (b : Bool) (h : okG W H = b) (w : World) :
    Calls Tryz.prog 79 #[.agg #[.int .i64 W, .int .i64 H]] w (RetB b w) := h ▸ implGridOk W H w
theorem implNodeCountV2 (W H k : Int) (h : countG W H = k) (w : World) :
    Calls Tryz.prog 71 #[.agg #[.int .i64 W, .int .i64 H]] w (RetI k none w) := h ▸ implNodeCount W H w

/-- The call's own blocks: the grid, the result, the rule; and the ports so far. -/
def StdAt (W H r : Int) (s : ByteArray) (F : Value) (g : Nat) (w : World) (k : Nat) (v : Value) (wr : World) : Prop :=
  Blk wr w.heap.size 25 #[.int .i64 W, .int .i64 H] ∧ Blk wr (w.heap.size + 1) 30 #[.slice none 0 0] ∧ Blk wr g 116 #[.string s, F] ∧
  wr.ownsRow (g + 1) 3 1 v k (intsV (stdTo W H r k)) ∧ Below w.heap.size w wr

theorem StdAt.app {W H r p : Int} {s : ByteArray} {F : Value} {g : Nat} {w wr w5 : World} {k : Nat} {v v' : Value} {o : Obj} (h : StdAt W H r s F g w k v wr) (hgw : w.heap.size + 2 ≤ g)
    (hg : (wr.alloc o).grownBy w5 v.ownBlock) (ho : w5.ownsRow (g + 1) 3 1 v' (k + 1) (intsV (stdTo W H r k) ++ [.int .i64 p])) (hp : stdTo W H r (k + 1) = stdTo W H r k ++ [p]) : StdAt W H r s F g w (k + 1) v' w5 := by
  obtain ⟨h0, h1, h2, hown, hb⟩ := h
  have hne : ∀ j, j < g + 1 → some j ≠ v.ownBlock := fun j hj e => by have := (hown.lt j e.symm).1; omega
  refine ⟨(h0.alloc o).grown hg (hne _ (by omega)), (h1.alloc o).grown hg (hne _ (by omega)), (h2.alloc o).grown hg (hne _ (by omega)), ?_, ?_⟩
  · rw [hp, intsV_append]; exact ho
  · exact (hb.alloc hb.size o).grown hg (by have := hb.size; simp; omega) (fun j hj => by have := (hown.lt j hj).1; omega)
theorem StdAt.none {W H r : Int} {s : ByteArray} {F : Value} {g : Nat} {w wr w5 : World} {k : Nat} {v : Value} (h : StdAt W H r s F g w k v wr) (hg : wr.grownBy w5 none) : StdAt W H r s F g w k v w5 :=
  ⟨h.1.grown hg (by simp), h.2.1.grown hg (by simp), h.2.2.1.grown hg (by simp), own_none h.2.2.2.1 hg, below_gb h.2.2.2.2 (Nat.le_refl _) hg⟩
theorem stdTo_pair {W H r : Int} {x y k : Nat} (hk : (k : Int) = countG W H) (hy : y < k) : stdTo W H r (x * k + y + 1) = stdTo W H r (x * k + y) ++ [stdPort W r (x : Int) (y : Int)] := by
  have e1 : ((x * k + y : Nat) : Int) / (k : Int) = x := by rw [← Int.natCast_ediv, pair_div hy]
  have e2 : ((x * k + y : Nat) : Int) % (k : Int) = y := by rw [← Int.natCast_emod, pair_mod hy]
  rw [stdTo_succ, ← hk, e1, e2]
theorem has_cnt {W H : Int} {x k : Nat} (hk : (k : Int) = countG W H) (hx : x < k) : hasG W H (x : Int) = true := hasG_iff.2 ⟨by omega, by omega⟩

theorem implStdTab (W H r : Int) (w : World) :
    Calls Tryz.prog 50 #[.agg #[.int .i64 W, .int .i64 H], .int .i64 r] w (RetTab (stdRes W H r) (stdOk W H r) w) := by
  obtain ⟨P, hP⟩ : ∃ P, stdRes W H r = P := ⟨_, rfl⟩
  obtain ⟨b, hb⟩ : ∃ b, stdOk W H r = b := ⟨_, rfl⟩
  rw [hP, hb]
  obtain ⟨s, hs⟩ : ∃ s, ruleName r = s := ⟨_, rfl⟩
  obtain ⟨i0, hi, hz0, hz1, hz2⟩ := info_parts info_int
  have hbk0 := (Blk.new w 25 #[.int .i64 W, .int .i64 H]).alloc (.cells #[.slice none 0 0] 30)
  have hbk1 := Blk.new (w.alloc (.cells #[.int .i64 W, .int .i64 H] 25)) 30 #[.slice none 0 0]
  rw [alloc_size] at hbk1
  have K0 := Lib.hid hbk0
  have K1 := Lib.hid hbk1
  have KG := Lib.hid (gb_alloc (gb_alloc (gb_refl w none) (.cells #[.int .i64 W, .int .i64 H] 25)) (.cells #[.slice none 0 0] 30))
  clear hbk0 hbk1
  cases hr : decide (1 ≤ r ∧ r ≤ 4) with
  | false =>
    have HF := Lib.hid (fun w => implFindRule r false hr w)
    obtain ⟨F, hF⟩ : ∃ F, ruleFn r = F := ⟨_, rfl⟩
    have HR : Hid (ruleC r = #[.string s, F]) := Lib.hid (by rw [ruleC, hF, hs])
    have H1 : Hid ((#[.string s, F] : Array Value).all (·.oneCell') = true) := Lib.hid (by rw [← HR.out]; exact rule_one r)
    have hB : b = false := by rw [← hb, stdOk, hr]; simp
    have hPP : P = [] := by rw [← hP, stdRes, hb, hB]; rfl
    subst hB
    subst hPP
    clear hF hr hs hb hP
    go_enter Tryz.func50, Tryz.ntmps50
    go_wp2_with fail
    refine (HF.out _).mono ?_
    rintro e w1 ⟨rfl, g1⟩
    have HB0 := Lib.hid ((K0.out.grown g1 (by simp)).alloc (.cells #[.string ⟨#[]⟩, .nilFunc] 116))
    have HB1 := Lib.hid ((K1.out.grown g1 (by simp)).alloc (.cells #[.string ⟨#[]⟩, .nilFunc] 116))
    have HG1 := Lib.hid (gb_trans KG.out g1)
    have HNE : Hid (w.heap.size + 2 ≤ w1.heap.size) := Lib.hid (by have := g1.size; rw [alloc_size, alloc_size] at this; exact this)
    clear g1
    rw [HR.out]
    have HZ := Lib.hid (Blk.new w1 116 #[.string ⟨#[]⟩, .nilFunc])
    go_wp2_with (refine wpList_storeRule rfl (.tmp 6) (.tmp 15) rfl w1.heap.size _ s F H1.out rfl rfl HZ.out rfl ?_
                 intro w2 hb2 hg2
                 have hb3 := HB0.out.grown hg2 (fun e => by have := Option.some.inj e; have := HNE.out; omega)
                 have hb4 := HB1.out.grown hg2 (fun e => by have := Option.some.inj e; have := HNE.out; omega)
                 have c0 : w2.cell? ⟨w.heap.size, 0, none⟩ = some (.int .i64 W) := hb3.cell 0
                 have c1 : w2.cell? ⟨w.heap.size, 1, none⟩ = some (.int .i64 H) := hb3.cell 1
                 have c2 : w2.cell? ⟨w.heap.size + 1, 0, none⟩ = some (.slice none 0 0) := hb4.cell 0
                 have c3 := hb4.frozen 0
                 have HB4 := Lib.hid hb4
                 have HG2 := Lib.hid (gb_fresh (gb_alloc HG1.out _) hg2 HG1.out.size)
                 clear hg2 hb2 hb3 hb4)
    have h1 := (HB4.out.set_ 0 (.slice none 0 0)).cell 0
    simp at h1
    refine bodyPost_ret (v := .tuple #[.agg #[.slice none 0 0], .bool false]) (by simp [results, Tryz.results50, go_sem, h1]) rfl ⟨_, rfl, World.ownsRow_nil _ _ _ _, ?_⟩
    exact gb_below_none (gb_setCell HG2.out (.inr (by show w.heap.size ≤ w.heap.size + 1; omega)) _) (Nat.le_refl _)
  | true =>
    have HF := Lib.hid (fun w => implFindRule r true hr w)
    cases ho : okG W H with
    | false =>
      obtain ⟨F, hF⟩ : ∃ F, ruleFn r = F := ⟨_, rfl⟩
      have HR : Hid (ruleC r = #[.string s, F]) := Lib.hid (by rw [ruleC, hF, hs])
      have H1 : Hid ((#[.string s, F] : Array Value).all (·.oneCell') = true) := Lib.hid (by rw [← HR.out]; exact rule_one r)
      have hB : b = false := by rw [← hb, stdOk, ho, hr]; simp
      have hPP : P = [] := by rw [← hP, stdRes, hb, hB]; rfl
      subst hB
      subst hPP
      have HO := Lib.hid (fun w => implGridOkV W H false ho w)
      clear hF hr hs hb hP ho
      go_enter Tryz.func50, Tryz.ntmps50
      go_wp2_with fail
      refine (HF.out _).mono ?_
      rintro e w1 ⟨rfl, g1⟩
      have HB0 := Lib.hid ((K0.out.grown g1 (by simp)).alloc (.cells #[.string ⟨#[]⟩, .nilFunc] 116))
      have HB1 := Lib.hid ((K1.out.grown g1 (by simp)).alloc (.cells #[.string ⟨#[]⟩, .nilFunc] 116))
      have HG1 := Lib.hid (gb_trans KG.out g1)
      have HNE : Hid (w.heap.size + 2 ≤ w1.heap.size) := Lib.hid (by have := g1.size; rw [alloc_size, alloc_size] at this; exact this)
      clear g1
      rw [HR.out]
      have HZ := Lib.hid (Blk.new w1 116 #[.string ⟨#[]⟩, .nilFunc])
      go_wp2_with (refine wpList_storeRule rfl (.tmp 6) (.tmp 15) rfl w1.heap.size _ s F H1.out rfl rfl HZ.out rfl ?_
                   intro w2 hb2 hg2
                   have hb3 := HB0.out.grown hg2 (fun e => by have := Option.some.inj e; have := HNE.out; omega)
                   have hb4 := HB1.out.grown hg2 (fun e => by have := Option.some.inj e; have := HNE.out; omega)
                   have c0 : w2.cell? ⟨w.heap.size, 0, none⟩ = some (.int .i64 W) := hb3.cell 0
                   have c1 : w2.cell? ⟨w.heap.size, 1, none⟩ = some (.int .i64 H) := hb3.cell 1
                   have c2 : w2.cell? ⟨w.heap.size + 1, 0, none⟩ = some (.slice none 0 0) := hb4.cell 0
                   have c3 := hb4.frozen 0
                   have HB4 := Lib.hid hb4
                   have HG2 := Lib.hid (gb_fresh (gb_alloc HG1.out _) hg2 HG1.out.size)
                   clear hg2 hb2 hb3 hb4)
      refine (HO.out _).mono ?_
      rintro e w3 ⟨rfl, g3⟩
      have hb5 := HB4.out.grown g3 (by simp)
      have d2 : w3.cell? ⟨w.heap.size + 1, 0, none⟩ = some (.slice none 0 0) := hb5.cell 0
      have d3 := hb5.frozen 0
      have HB5 := Lib.hid hb5
      have HG3 := Lib.hid (gb_trans HG2.out g3)
      clear g3 hb5
      go_wp2_with fail
      have h1 := (HB5.out.set_ 0 (.slice none 0 0)).cell 0
      simp at h1
      refine bodyPost_ret (v := .tuple #[.agg #[.slice none 0 0], .bool false]) (by simp [results, Tryz.results50, go_sem, h1]) rfl ⟨_, rfl, World.ownsRow_nil _ _ _ _, ?_⟩
      exact gb_below_none (gb_setCell HG3.out (.inr (by show w.heap.size ≤ w.heap.size + 1; omega)) _) (Nat.le_refl _)
    | true =>
      obtain ⟨f, hf, hgo, hcall⟩ := ruleFn_calls (r := r) (by simp at hr; omega) (by simp at hr; omega)
      have HR : Hid (ruleC r = #[.string s, .func (.func f) #[] #[]]) := Lib.hid (by rw [ruleC, hf, hs])
      have hB : b = true := by rw [← hb, stdOk, ho, hr]; rfl
      have hPP : P = stdTab W H r := by rw [← hP, stdRes, hb, hB]; rfl
      subst hB
      obtain ⟨k, hk⟩ : ∃ k, cntN W H = k := ⟨_, rfl⟩
      have hki := cntN_int W H
      have hk1 := cntN_le W H
      rw [hk] at hki hk1
      have HO := Lib.hid (fun w => implGridOkV W H true ho w)
      have HN := Lib.hid (fun w => implNodeCountV2 W H (k : Int) hki.symm w)
      have HC := Lib.hid (fun a b ha hb w => hcall W H a b ha hb w)
      have HK := Lib.hid hk
      have HPP := Lib.hid hPP
      clear hcall hf hr hs ho hb hP hki hk hPP
      go_enter Tryz.func50, Tryz.ntmps50
      go_wp2_with fail
      refine (HF.out _).mono ?_
      rintro e w1 ⟨rfl, g1⟩
      have hb0 := (K0.out.grown g1 (by simp)).alloc (.cells #[.string ⟨#[]⟩, .nilFunc] 116)
      have hb1 := (K1.out.grown g1 (by simp)).alloc (.cells #[.string ⟨#[]⟩, .nilFunc] 116)
      have HB0 := Lib.hid hb0
      have HB1 := Lib.hid hb1
      have HG1 := Lib.hid (gb_trans KG.out g1)
      have HNE : Hid (w.heap.size + 2 ≤ w1.heap.size) := Lib.hid (by have := g1.size; rw [alloc_size, alloc_size] at this; exact this)
      clear g1 hb0 hb1
      rw [HR.out]
      have HZ := Lib.hid (Blk.new w1 116 #[.string ⟨#[]⟩, .nilFunc])
      go_wp2_with (refine wpList_storeRule rfl (.tmp 6) (.tmp 15) rfl w1.heap.size _ s (.func (.func f) #[] #[]) (by simp [Value.oneCell']) rfl rfl HZ.out rfl ?_
                   intro w2 hb2 hg2
                   have hb3 := HB0.out.grown hg2 (fun e => by have := Option.some.inj e; have := HNE.out; omega)
                   have hb4 := HB1.out.grown hg2 (fun e => by have := Option.some.inj e; have := HNE.out; omega)
                   have c0 : w2.cell? ⟨w.heap.size, 0, none⟩ = some (.int .i64 W) := hb3.cell 0
                   have c1 : w2.cell? ⟨w.heap.size, 1, none⟩ = some (.int .i64 H) := hb3.cell 1
                   have HB3 := Lib.hid hb3
                   have HB4 := Lib.hid hb4
                   have HB2 := Lib.hid hb2
                   have HG2 := Lib.hid (gb_fresh (gb_alloc HG1.out _) hg2 HG1.out.size)
                   clear hg2 hb2 hb3 hb4)
      refine (HO.out _).mono ?_
      rintro e w3 ⟨rfl, g3⟩
      have hb0 := HB3.out.grown g3 (by simp)
      have c0 : w3.cell? ⟨w.heap.size, 0, none⟩ = some (.int .i64 W) := hb0.cell 0
      have c1 : w3.cell? ⟨w.heap.size, 1, none⟩ = some (.int .i64 H) := hb0.cell 1
      have HB5 := Lib.hid hb0
      have HB6 := Lib.hid (HB4.out.grown g3 (by simp))
      have HB7 := Lib.hid (HB2.out.grown g3 (by simp))
      have HG3 := Lib.hid (gb_trans HG2.out g3)
      clear g3 hb0
      go_wp2_with fail
      refine (HN.out _).mono ?_
      rintro e w4 ⟨rfl, g4⟩
      have hb0 := HB5.out.grown g4 (by simp)
      have HB8 := Lib.hid hb0
      have HB9 := Lib.hid (HB6.out.grown g4 (by simp))
      have HB10 := Lib.hid (HB7.out.grown g4 (by simp))
      have HG4 := Lib.hid (gb_trans HG3.out g4)
      clear g4 hb0
      have HSZ : Hid (w1.heap.size + 1 ≤ w4.heap.size) := Lib.hid (by have := HB10.out.lt; omega)
      have hkk : k * k ≤ 256 := Nat.mul_le_mul hk1 hk1
      have hmul : wrap64 ((k : Int) * (k : Int)) = ((k * k : Nat) : Int) := by rw [← Int.natCast_mul]; exact IntWalk.wrap64_in _ (by omega)
      go_wp2_with (at_make; refine wpList_make_own _ rfl _ _ 26 rfl (w1.heap.size + 1) 3 i0 (.int .i64 0) 1 Tryz.underlying26 hi hz0 hz1 .i64 .i64 _ (k * k) rfl rfl (by omega) (by rw [hz2]; omega) (by unfold maxLen; omega) HSZ.out ?_; intro w5 hown5 hgrow5
                   have HX := Lib.hid (show StdAt W H r s (.func (.func f) #[] #[]) w1.heap.size w 0 _ w5 from ⟨HB8.out.grown hgrow5 (by simp), HB9.out.grown hgrow5 (by simp), HB10.out.grown hgrow5 (by simp), hown5, gb_below_none (gb_trans HG4.out hgrow5) (Nat.le_refl _)⟩); clear hown5 hgrow5)
      obtain ⟨g, hg⟩ : ∃ g, w1.heap.size = g := ⟨_, rfl⟩
      rw [hg] at HX HNE
      (try rw [hg])
      clear hg hmul
      have HKI : Hid ((k : Int) = countG W H) := Lib.hid (by rw [← HK.out, cntN_int])
      go_loopw [9, 32] (fun v i wr => ∃ x : Nat, i = .int .i64 (x : Int) ∧ x ≤ k ∧ StdAt W H r s (.func (.func f) #[] #[]) g w (x * k) v wr) (fun _ i _ => 17 - (intOf i).toNat)
      case atStart => exact ⟨0, rfl, Nat.zero_le _, by rw [Nat.zero_mul]; exact HX.out⟩
      case round =>
        obtain ⟨x, rfl, hxk, hst⟩ := hrel
        have HS0 := Lib.hid hst
        clear hst
        by_cases hlt : x < k
        · have HXK := Lib.hid hlt
          go_wp2_with fail
          go_loopw [9, 36] (fun v i wr => ∃ y : Nat, i = .int .i64 (y : Int) ∧ y ≤ k ∧ StdAt W H r s (.func (.func f) #[] #[]) g w (x * k + y) v wr) (fun _ i _ => 17 - (intOf i).toNat)
          case atStart => exact ⟨0, rfl, Nat.zero_le _, HS0.out⟩
          case round =>
            obtain ⟨y, rfl, hyk, hst⟩ := hrel
            have HS1 := Lib.hid hst
            by_cases hlt2 : y < k
            · have a0 : wr.cell? ⟨w.heap.size, 0, none⟩ = some (.int .i64 W) := hst.1.cell 0
              have a1 : wr.cell? ⟨w.heap.size, 1, none⟩ = some (.int .i64 H) := hst.1.cell 1
              have a2 : wr.cell? ⟨g, 1, none⟩ = some (.func (.func f) #[] #[]) := hst.2.2.1.cell 1
              have hlen : x * k + y < k * k := by
                have h1 : (x + 1) * k ≤ k * k := Nat.mul_le_mul_right k HXK.out
                rw [Nat.add_mul, Nat.one_mul] at h1
                omega
              have hax := has_cnt HKI.out HXK.out
              have hay := has_cnt HKI.out hlt2
              have HE := Lib.hid (stdTo_pair (r := r) (x := x) HKI.out hlt2)
              clear hst
              go_wp2_with fail
              refine (HC.out x y hax hay _).mono ?_
              rintro e w6 ⟨rfl, g6⟩
              have hs6 := HS1.out.none g6
              have HS6 := Lib.hid hs6
              have hown6 := hs6.2.2.2.1
              have hsz6 : g + 1 ≤ w6.heap.size := hs6.2.2.1.lt
              have b3' := Lib.hid (show ∀ u ∈ [Value.int .i64 (stdPort W r x y)], u.oneCell' = true by simp [Value.oneCell'])
              have b4' := Lib.hid (show x * k + y + 1 ≤ maxLen by unfold maxLen; omega)
              clear g6 hs6 a0 a1 a2 hax hay
              go_wp2_with (at_builtin; refine wpList_append_own _ rfl _ _ 26 rfl (g + 1) 3 i0 (.int .i64 0) 1 8 Tryz.underlying26 hi hz0 hz1 hz2 rfl (by decide) _ (x * k + y) _ rfl (hown6.alloc _) ⟨w6.heap.size, 0, none⟩ 1 1 [.int .i64 (stdPort W r x y)] rfl rfl (World.news_of_block (cs := #[.int .i64 (stdPort W r x y)]) (t := 3) (fr := (0, 0)) (heap_alloc_new w6 _)) b3'.out b4'.out (by omega) (by simp; omega) ?_; intro v' w7 hown7 hgrow7 _; have HS7 := Lib.hid (HS6.out.app HNE.out hgrow7 hown7 HE.out); clear hown7 hgrow7 hown6)
              go_roundw
              case rel => exact ⟨y + 1, by go_num, by omega, HS7.out⟩
              case measure => simp [intOf]; omega
            · obtain rfl : y = k := by omega
              clear hst
              go_wp2_with fail
              go_roundw
              case rel => exact ⟨x + 1, by go_num, by omega, by rw [Nat.add_mul, Nat.one_mul]; exact HS1.out⟩
              case measure => simp [intOf]; omega
        · obtain rfl : x = k := by omega
          obtain ⟨Av, cv, rfl, _⟩ := own_form HS0.out.2.2.2.1
          have h1 := (HS0.out.2.1.set_ 0 (.slice Av (x * x) cv)).cell 0
          simp at h1
          have f1 := HS0.out.2.1.frozen 0
          have a1 : wr.cell? ⟨w.heap.size + 1, 0, none⟩ = some (.slice none 0 0) := HS0.out.2.1.cell 0
          go_wp2_with fail
          have HSQ := Lib.hid (show sqG W H = x * x from by rw [← HK.out]; rfl)
          refine bodyPost_ret (v := .tuple #[.agg #[.slice Av (x * x) cv], .bool true]) (by simp [results, Tryz.results50, go_sem, h1]) rfl ⟨_, rfl, ?_, ?_⟩
          · have := ownsRow_setCell_below HS0.out.2.2.2.1 (a := ⟨w.heap.size + 1, 0, none⟩) (by show w.heap.size + 1 < g + 1; have := HNE.out; omega) (.slice Av (x * x) cv)
            rw [HPP.out, stdTab, stdTo_len, HSQ.out]
            exact own_less this (by have := HNE.out; omega)
          · exact gb_below_none (gb_setCell (gb_of_below HS0.out.2.2.2.2 none) (.inr (by show w.heap.size ≤ w.heap.size + 1; omega)) _) (Nat.le_refl _)
end Go.Proofs.YtidilfakganooaaGreatDoor
end

section
namespace Go.Proofs.YtidilfakganooaaGreatDoor
open Go.ChangeShapes Go.WideShapes Go.ChangeAt Go.RowKit
set_option linter.unusedVariables false
set_option maxRecDepth 20000

theorem sf_no {W H : Int} (h : okG W H = false) : safeG W H = [] := if_neg (by simp [h])
theorem sf_is {W H : Int} (h : okG W H = true) : safeG W H = safeTo W H 4 := if_pos h
/-- The box of the grid and the list so far. -/
structure SfAt (W H : Int) (w : World) (S : List Int) (v : Value) (wr : World) : Prop where
  g : Blk wr w.heap.size 25 #[.int .i64 W, .int .i64 H]
  r : wr.ownsRow (w.heap.size + 1) 3 1 v S.length (intsV S)
  b : Below w.heap.size w wr
theorem SfAt.gb {W H : Int} {w wr w' : World} {S : List Int} {v : Value} (h : SfAt W H w S v wr) (hg : wr.grownBy w' none) : SfAt W H w S v w' := ⟨h.g.grown hg (by simp), own_none h.r hg, below_gb h.b (Nat.le_refl _) hg⟩
theorem SfAt.sz {W H : Int} {w wr : World} {S : List Int} {v : Value} (h : SfAt W H w S v wr) : w.heap.size + 1 ≤ wr.heap.size := by have := h.g.lt; omega
theorem sf_start (W H : Int) (w : World) : SfAt W H w [] (.slice none 0 0) (w.alloc (.cells #[.int .i64 W, .int .i64 H] 25)) :=
  ⟨Blk.new w 25 #[.int .i64 W, .int .i64 H], World.ownsRow_nil _ _ _ _, (Below.refl _ _).alloc (Nat.le_refl _) _⟩

set_option maxHeartbeats 1600000 in
theorem implSafe (W H : Int) (w : World) (hp : Pre w) :
    Calls Tryz.prog 27 #[.agg #[.int .i64 W, .int .i64 H]] w (NewI (safeG W H) w) := by
  obtain ⟨i0, hi, hz0, hz1, hz2⟩ := info_parts info_int
  have X0 := Lib.hid (sf_start W H w)
  have HPR := Lib.hid hp
  clear hp
  cases hok : okG W H with
  | false =>
    have HST := Lib.hid (fun r w => show Calls Tryz.prog 50 #[.agg #[.int .i64 W, .int .i64 H], .int .i64 r] w (RetTab [] false w) from by
      have h1 : stdOk W H r = false := by rw [stdOk, hok]; rfl
      have h2 : stdRes W H r = [] := by rw [stdRes, h1]; rfl
      have := implStdTab W H r w
      rwa [h1, h2] at this)
    have HE := Lib.hid (sf_no hok)
    clear hok
    go_enter Tryz.func27, Tryz.ntmps27
    go_wp2_with fail
    go_loopw [3, 4] (fun v i wr => v = .slice none 0 0 ∧ ∃ k : Nat, i = .int .i64 ((k : Int) + 1) ∧ k ≤ 4 ∧ SfAt W H w [] v wr) (fun _ i _ => 5 - (intOf i).toNat)
    case atStart => exact ⟨rfl, 0, rfl, by omega, X0.out⟩
    case round =>
      obtain ⟨rfl, k, rfl, hk, hx⟩ := hrel
      have X1 := Lib.hid hx
      have a0 : wr.cell? ⟨w.heap.size, 0, none⟩ = some (.int .i64 W) := hx.g.cell 0
      have a1 : wr.cell? ⟨w.heap.size, 1, none⟩ = some (.int .i64 H) := hx.g.cell 1
      clear hx
      by_cases hlt : k < 4
      · have k4 : (k : Int) + 1 ≤ 4 := by omega
        go_wp2_with fail
        refine (HST.out _ _).mono ?_
        rintro e w1 ⟨v1, rfl, o1, b1⟩
        obtain ⟨A1, c1, rfl, _⟩ := own_form o1
        have X2 := Lib.hid (X1.out.gb (gb_alloc (gb_of_below b1 none) (.cells #[.slice A1 0 c1] 30)))
        clear o1 b1 a0 a1
        go_wp2_with fail
        go_roundw
        case rel => exact ⟨rfl, k + 1, by go_num, by omega, X2.out⟩
        case measure => simp [intOf]; omega
      · obtain rfl : k = 4 := by omega
        go_wp2_with fail
        go_ret
        exact ⟨_, rfl, by rw [HE.out]; exact World.ownsRow_nil _ _ _ _, X1.out.b⟩
  | true =>
    have HST := Lib.hid (fun (r : Int) w (h1 : 1 ≤ r) (h4 : r ≤ 4) => show Calls Tryz.prog 50 #[.agg #[.int .i64 W, .int .i64 H], .int .i64 r] w (RetTab (stdTab W H r) true w) from by
      have h3 : stdOk W H r = true := by rw [stdOk, hok, decide_eq_true (show 1 ≤ r ∧ r ≤ 4 from ⟨h1, h4⟩)]; rfl
      have h2 : stdRes W H r = stdTab W H r := by rw [stdRes, h3]; rfl
      have := implStdTab W H r w
      rwa [h3, h2] at this)
    have HE := Lib.hid (sf_is hok)
    have HCK := Lib.hid (fun A2 n2 c2 P w h2 hn2 hp => implCheck W H none A2 0 0 n2 c2 [] P (fun x h => by cases h) w (IntAt.nil w w.heap.size none) h2 (by omega) hn2 hp)
    clear hok
    go_enter Tryz.func27, Tryz.ntmps27
    go_wp2_with fail
    go_loopw [3, 4] (fun v i wr => ∃ k : Nat, i = .int .i64 ((k : Int) + 1) ∧ k ≤ 4 ∧ SfAt W H w (safeTo W H k) v wr) (fun _ i _ => 5 - (intOf i).toNat)
    case atStart => exact ⟨0, rfl, by omega, X0.out⟩
    case round =>
      obtain ⟨k, rfl, hk, hx⟩ := hrel
      have X1 := Lib.hid hx
      have a0 : wr.cell? ⟨w.heap.size, 0, none⟩ = some (.int .i64 W) := hx.g.cell 0
      have a1 : wr.cell? ⟨w.heap.size, 1, none⟩ = some (.int .i64 H) := hx.g.cell 1
      obtain ⟨Ar, cr, rfl, _⟩ := own_form hx.r
      clear hx
      by_cases hlt : k < 4
      · have k4 : (k : Int) + 1 ≤ 4 := by omega
        have HLT := Lib.hid hlt
        have HSL := Lib.hid (safeTo_len W H k)
        obtain ⟨z, hz⟩ : ∃ z, (verdG W H [] (stdTab W H ((k : Int) + 1))).code = z := ⟨_, rfl⟩
        have HST2 := Lib.hid (fun w => HST.out ((k : Int) + 1) w (by omega) k4)
        obtain ⟨P, hP⟩ : ∃ P, stdTab W H ((k : Int) + 1) = P := ⟨_, rfl⟩
        have HPL := Lib.hid (show P.length ≤ 256 by rw [← hP]; unfold stdTab; rw [stdTo_len]; exact sqG_le)
        have HZ := Lib.hid (show safeB W H ((k : Int) + 1) = decide (z = 1) by unfold safeB; rw [hz])
        rw [hP] at HST2 hz
        have HZ2 := Lib.hid hz
        clear hlt hz hP
        have hfld : ∀ (x : Int) (b c : Value) (w : World), (Instr.field 34 (.agg #[.int .i64 x, b, c]) 0).run Tryz.prog w = .ok (.int .i64 x) w := fun x b c w => by kernel_rfl
        go_wp2_with fail
        refine (HST2.out _).mono ?_
        rintro e w1 ⟨v1, rfl, o1, b1⟩
        obtain ⟨A1, c1, rfl, _⟩ := own_form o1
        obtain ⟨n1, hn1⟩ : ∃ n, P.length = n := ⟨_, rfl⟩
        rw [hn1] at o1 HPL
        rw [hn1]
        have hga := gb_alloc (gb_of_below b1 none) (.cells #[.slice A1 n1 c1] 30)
        have X2 := Lib.hid (X1.out.gb hga)
        have I1 := Lib.hid (intAt_own (o1.alloc (.cells #[.slice A1 n1 c1] 30)) hn1 (Nat.le_refl _))
        have b0 : (w1.alloc (.cells #[.slice A1 n1 c1] 30)).cell? ⟨w.heap.size, 0, none⟩ = some (.int .i64 W) := X2.out.g.cell 0
        have b2 : (w1.alloc (.cells #[.slice A1 n1 c1] 30)).cell? ⟨w.heap.size, 1, none⟩ = some (.int .i64 H) := X2.out.g.cell 1
        clear o1 b1 a0 a1 hga hn1
        go_wp2_with fail
        refine (HCK.out A1 n1 c1 P _ I1.out (by have := HPL.out; omega) (HPR.out.below X2.out.b)).mono ?_
        rintro e w5 ⟨vr, vc, rfl, ⟨or5, oc5, _⟩, b5⟩
        obtain ⟨Av, cv, rfl, _⟩ := own_form or5
        obtain ⟨Aw, cw, rfl, _⟩ := own_form oc5
        have X5 := Lib.hid (X2.out.gb (gb_of_below b5 none))
        rw [HZ2.out]
        clear or5 oc5 b5 b0 b2
        by_cases hz1' : z = 1
        · have HE2 := Lib.hid (show safeTo W H (k + 1) = safeTo W H k ++ [(k : Int) + 1] by rw [safeTo_next, if_pos (by rw [HZ.out]; exact decide_eq_true hz1')])
          have hnb := Lib.hid (World.news_of_block (w := w5.alloc (.cells #[.int .i64 ((k : Int) + 1)] 3)) (B := w5.heap.size) (cs := #[.int .i64 ((k : Int) + 1)]) (t := 3) (fr := (0, 0)) (heap_alloc_new w5 _))
          have b3 := Lib.hid (show ∀ u ∈ [Value.int .i64 ((k : Int) + 1)], u.oneCell' = true by simp [Value.oneCell'])
          have b4 := Lib.hid (show (safeTo W H k).length + 1 ≤ maxLen by have := HSL.out; unfold maxLen; omega)
          have b5 := Lib.hid (show ((safeTo W H k).length + 1) * 8 ≤ 140737488355328 by have := HSL.out; omega)
          have b6 := Lib.hid (show w.heap.size + 1 ≤ (w5.alloc (.cells #[.int .i64 ((k : Int) + 1)] 3)).heap.size by have := X5.out.sz; rw [alloc_size]; omega)
          subst hz1'
          go_wp2_with (at_builtin; refine wpList_append_own _ rfl _ _ 26 rfl (w.heap.size + 1) 3 i0 (.int .i64 0) 1 8 Tryz.underlying26 hi hz0 hz1 hz2 rfl (by decide) _ (safeTo W H k).length _ rfl (X5.out.r.alloc _) ⟨w5.heap.size, 0, none⟩ 1 1 [.int .i64 ((k : Int) + 1)] rfl rfl hnb.out b3.out b4.out b5.out b6.out ?_; intro v' w6 hown6 hgrow6 _)
          have X6 := Lib.hid (show SfAt W H w (safeTo W H (k + 1)) v' w6 from by
            refine ⟨(X5.out.g.alloc _).grown hgrow6 (fun e => own_ne X5.out.r X5.out.g (by decide) e.symm), by rw [HE2.out, List.length_append, intsV_append]; exact hown6, (X5.out.b.alloc (by have := X5.out.sz; omega) _).grown hgrow6 (by have := b6.out; omega) (fun j hj => by have := (X5.out.r.lt j hj).1; omega)⟩)
          clear hown6 hgrow6
          go_wp2_with fail
          go_roundw
          case rel => exact ⟨k + 1, by go_num, by have := HLT.out; omega, X6.out⟩
          case measure => have := HLT.out; simp [intOf]; omega
        · have HE2 := Lib.hid (show safeTo W H (k + 1) = safeTo W H k by rw [safeTo_next, if_neg (by rw [HZ.out]; simp [hz1'])])
          have hzb : (z == 1) = false := beq_eq_false_iff_ne.2 hz1'
          have X6 := Lib.hid (show SfAt W H w (safeTo W H (k + 1)) (.slice Ar (safeTo W H k).length cr) w5 from ⟨X5.out.g, by rw [HE2.out]; exact X5.out.r, X5.out.b⟩)
          go_wp2_with fail
          go_roundw
          case rel => exact ⟨k + 1, by go_num, by have := HLT.out; omega, X6.out⟩
          case measure => have := HLT.out; simp [intOf]; omega
      · obtain rfl : k = 4 := by omega
        go_wp2_with fail
        go_ret
        exact ⟨_, rfl, by rw [HE.out]; exact own_less X1.out.r (by omega), X1.out.b⟩
end Go.Proofs.YtidilfakganooaaGreatDoor
end

section
namespace Go.Proofs.YtidilfakganooaaGreatDoor
open Go.ChangeShapes Go.WideShapes Go.ChangeAt Go.RowKit
set_option linter.unusedVariables false
set_option maxRecDepth 20000

theorem walk_FnExactSafeRules (W H : Int) (w : World) (w0 : (Lit.int .i64 W).wf = true) (w1 : (Lit.int .i64 H).wf = true) (hp : Pre w) :
    Calls Tryz.prog 5 #[.agg #[.int .i64 W, .int .i64 H]] w fun e w' => e = .returned (.bool true) ∧ Below w.heap.size w w' := by
  have HPR := Lib.hid (fun w' (hb : Below w.heap.size w w') => hp.below hb)
  have HSP := Lib.hid (fun w => specSafe W H w)
  have HIM := Lib.hid (fun w hp => implSafe W H w hp)
  have hlen := safeG_len W H
  obtain ⟨S, hS⟩ : ∃ S, safeG W H = S := ⟨_, rfl⟩
  rw [hS] at HSP HIM hlen
  clear w0 w1 hp hS
  go_enter Tryz.func5, Tryz.ntmps5
  go_wp2_with fail
  refine (lawsToGrid W H _).mono ?_
  rintro e w1 ⟨rfl, hg1⟩
  have Hb1 := Lib.hid (box_blk hg1)
  have Hg1 := Lib.hid (gb_below_none (box_gb hg1) (Nat.le_refl _))
  clear hg1
  go_wp2_with fail
  refine (HSP.out _).mono ?_
  rintro e w2 ⟨v0, rfl, o2, b2⟩
  obtain ⟨A0, c0, rfl, _⟩ := own_form o2
  have HV0 := Lib.hid (fun k hk => (o2.lt k hk).2)
  have R2 := Lib.hid (own_less o2 Hg1.out.size)
  have Hb2 := Lib.hid (Hb1.out.below b2 Hb1.out.lt)
  have Hg2 := Lib.hid (below_gb Hg1.out (Nat.le_refl _) (gb_of_below b2 none))
  have a0 := Hb2.out.cell 0
  have a1 := Hb2.out.cell 1
  simp at a0 a1
  clear o2 b2
  go_wp2_with fail
  refine (lawsToGrid W H _).mono ?_
  rintro e w3 ⟨rfl, hg3⟩
  have R3 := Lib.hid (own_none R2.out hg3)
  have Hb3 := Lib.hid (Hb2.out.grown hg3 (by simp))
  have Hg3 := Lib.hid (below_gb Hg2.out (Nat.le_refl _) hg3)
  have HS3 := Lib.hid hg3.size
  clear hg3 a0 a1
  go_wp2_with fail
  refine (HIM.out _ (HPR.out _ Hg3.out)).mono ?_
  rintro e w4 ⟨v8, rfl, o4, b4⟩
  obtain ⟨A8, c8, rfl, _⟩ := own_form o4
  have HV8 := Lib.hid (fun k hk => (o4.lt k hk).1)
  have R8 := Lib.hid (own_less o4 Hg3.out.size)
  have R4 := Lib.hid (own_none R3.out (gb_of_below b4 none))
  have Hb4 := Lib.hid (Hb3.out.below b4 Hb3.out.lt)
  have Hg4 := Lib.hid (below_gb Hg3.out (Nat.le_refl _) (gb_of_below b4 none))
  clear o4 b4
  go_wp2_with fail
  refine (lawsEqOwn _ _ _ _ S _ R8.out R4.out (by omega)).mono ?_
  rintro e w5 ⟨rfl, hg5⟩
  have R85 := Lib.hid (own_none R8.out hg5)
  have R05 := Lib.hid (own_none R4.out hg5)
  have Hb5 := Lib.hid (Hb4.out.grown hg5 (by simp))
  have Hg5 := Lib.hid (below_gb Hg4.out (Nat.le_refl _) hg5)
  clear hg5
  go_wp2_with fail
  refine (lawsMarkI _ _ S.length 1 S _ R85.out (by omega)).mono ?_
  rintro e w6 ⟨rfl, o6, g6⟩
  obtain ⟨k1, hk1⟩ : ∃ k1, 1 + S.length = k1 := ⟨_, rfl⟩
  rw [hk1]
  have R86 := Lib.hid o6
  have R06 := Lib.hid (R05.out.kept g6 (by
    by_cases h : (Value.slice A0 S.length c0).ownBlock = none
    · exact .inl h
    · right
      intro e
      cases hb : (Value.slice A0 S.length c0).ownBlock with
      | none => exact h hb
      | some k =>
        rw [hb] at e
        have h1 := HV0.out k hb
        have h2 := HV8.out k e.symm
        have h3 := HS3.out
        omega))
  have Hb6 := Lib.hid (Hb5.out.grown g6 (fun e => own_ne R85.out Hb5.out (by decide) e.symm))
  have Hg6 := Lib.hid (Hg5.out.grown g6 Hg5.out.size (fun k e => (R85.out.lt k e).1))
  clear o6 g6
  go_wp2_with fail
  refine (lawsHeldOwn _ _ S.length 1 _ R86.out (by omega)).mono ?_
  rintro e w7 ⟨rfl, hg7⟩
  rw [hk1]
  have R87 := Lib.hid (own_none R86.out hg7)
  have R07 := Lib.hid (own_none R06.out hg7)
  have Hb7 := Lib.hid (Hb6.out.grown hg7 (by simp))
  have Hg7 := Lib.hid (below_gb Hg6.out (Nat.le_refl _) hg7)
  have a0 := Hb7.out.cell 0
  have a1 := Hb7.out.cell 1
  simp at a0 a1
  clear hg7
  go_wp2_with fail
  refine (lawsToGrid W H _).mono ?_
  rintro e w8 ⟨rfl, hg8⟩
  have R88 := Lib.hid (own_none R87.out hg8)
  have R08 := Lib.hid (own_none R07.out hg8)
  have Hg8 := Lib.hid (below_gb Hg7.out (Nat.le_refl _) hg8)
  clear hg8 a0 a1
  go_wp2_with fail
  refine (HIM.out _ (HPR.out _ Hg8.out)).mono ?_
  rintro e w9 ⟨v9, rfl, o9, b9⟩
  obtain ⟨A9, c9, rfl, _⟩ := own_form o9
  have R9 := Lib.hid o9
  have R89 := Lib.hid (own_none R88.out (gb_of_below b9 none))
  have R09 := Lib.hid (own_none R08.out (gb_of_below b9 none))
  have Hg9 := Lib.hid (below_gb Hg8.out (Nat.le_refl _) (gb_of_below b9 none))
  clear o9 b9
  go_wp2_with fail
  refine (lawsEqOwn _ _ _ _ S _ R9.out R09.out (by omega)).mono ?_
  rintro e w10 ⟨rfl, hg10⟩
  have R8a := Lib.hid (own_none R89.out hg10)
  have Hg10 := Lib.hid (below_gb Hg9.out (Nat.le_refl _) hg10)
  clear hg10
  go_wp2_with fail
  refine (lawsHeldOwn _ _ S.length 1 _ R8a.out (by omega)).mono ?_
  rintro e w11 ⟨rfl, hg11⟩
  rw [hk1]
  have Hg11 := Lib.hid (below_gb Hg10.out (Nat.le_refl _) hg11)
  clear hg11
  go_wp2_with fail
  go_ret
  exact ⟨rfl, Hg11.out⟩
end Go.Proofs.YtidilfakganooaaGreatDoor
end

section
namespace Go.Proofs.YtidilfakganooaaGreatDoor
open Go.ChangeShapes Go.WideShapes Go.ChangeAt Go.RowKit
set_option linter.unusedVariables false

/-- Block g is a cursor over a row of bytes that lies in an older block. -/
def Cur (w : World) (g : Nat) : Prop :=
  ∃ (A : Option Addr) (n cap i : Nat) (h : Int), Blk w g 85 #[.slice A n cap, .int .i64 i, .int .i64 h] ∧ i ≤ n ∧ n ≤ 1048576 ∧ ByteRow w g A n
theorem Cur.lt {w : World} {g : Nat} (h : Cur w g) : g < w.heap.size := by obtain ⟨A, n, cap, i, h, hb, _⟩ := h; exact hb.lt
theorem Cur.grown {w w' : World} {g : Nat} {row : Option Nat} (h : Cur w g) (hg : w.grownBy w' row) (hr : ∀ k, row = some k → g < k) : Cur w' g := by
  have hlt := h.lt
  obtain ⟨A, n, cap, i, h, hb, hi, hn, hr'⟩ := h
  exact ⟨A, n, cap, i, h, hb.grown hg (fun e => by have := hr g e.symm; omega), hi, hn, hr'.keep fun p hp => World.cell?_of_block (hg.block p.block (by omega) (fun e => by have := hr _ e.symm; omega))⟩
theorem Cur.other {w w' : World} {g : Nat} {base : Nat} {e : TypeId} {size n : Nat} {v : Value} {xs : List Value} (h : Cur w g) (hg : w.grownBy w' v.ownBlock) (ho : w.ownsRow base e size v n xs) (hbase : g < base) : Cur w' g :=
  h.grown hg (fun k hk => by have := (ho.lt k hk).1; omega)

/-- An integer between lo and hi is returned; only the cursor and new blocks are written. -/
def DrawnI (lo hi : Int) (g : Nat) (w : World) (e : Ending) (w' : World) : Prop := ∃ n : Int, e = .returned (.int .i64 n) ∧ lo ≤ n ∧ n ≤ hi ∧ Cur w' g ∧ w.grownBy w' (some g)
def DrawnB (g : Nat) (w : World) (e : Ending) (w' : World) : Prop := ∃ b : Bool, e = .returned (.bool b) ∧ Cur w' g ∧ w.grownBy w' (some g)

theorem Cur.of {w w' : World} {g : Nat} {A : Option Addr} {n cap i' : Nat} {cs : Array Value} {h' : Int} (hb : Blk w g 85 cs) (hr : ByteRow w g A n) (hg : w.grownBy w' (some g))
    (hb' : Blk w' g 85 #[.slice A n cap, .int .i64 i', .int .i64 h']) (hi : i' ≤ n) (hn : n ≤ 1048576) : Cur w' g := by
  have hlt := hb.lt
  exact ⟨A, n, cap, i', h', hb', hi, hn, hr.keep fun p hp => World.cell?_of_block (hg.block p.block (by omega) (fun e => by cases e; omega))⟩

theorem l01Byte (g : Nat) (w : World) (hcur : Cur w g) :
    Calls Tryz.prog 81 #[.pointer (some ⟨g, 0, none⟩)] w (DrawnI 0 255 g w) := by
  obtain ⟨A, n, cap, i, h, hb, hi, hn, hr⟩ := hcur
  have c0 : w.cell? ⟨g, 0, none⟩ = some (.slice A n cap) := hb.cell 0
  have c1 : w.cell? ⟨g, 1, none⟩ = some (.int .i64 i) := hb.cell 1
  have c2 : w.cell? ⟨g, 2, none⟩ = some (.int .i64 h) := hb.cell 2
  have f1 := hb.frozen 1
  have f2 := hb.frozen 2
  have Hb : Hid (Blk w g 85 #[.slice A n cap, .int .i64 i, .int .i64 h]) := hb
  have Hr : Hid (ByteRow w g A n) := hr
  by_cases hlt : i < n
  · obtain ⟨b, off, rfl, hbg, hcell⟩ := hr (by omega)
    obtain ⟨v, hv0, hv1, cv⟩ := hcell i hlt
    have hne : ¬ g = b := by omega
    have hd : decide ((i : Int) < (n : Int)) = true := by simp; omega
    clear hb hr hcell
    go_enter Tryz.func81, Tryz.ntmps81
    go_wp2
    go_quiet (fail)
    go_wp2
    go_quiet (fail)
    go_wp2
    go_quiet (fail)
    go_wp2
    go_ret
    refine ⟨_, rfl, (band_u _ 255 (by omega)).1, (band_u _ 255 (by omega)).2, ?_, ?_⟩
    · refine Cur.of Hb.out Hr.out ?_ (i' := i + 1) (((Hb.out.set_ 2 _).drewN _).set_ 1 _) (by omega) hn
      repeat (first | exact gb_refl _ _ | refine gb_drewN ?_ _ | refine gb_setCell ?_ (.inl rfl) _)
    · repeat (first | exact gb_refl _ _ | refine gb_drewN ?_ _ | refine gb_setCell ?_ (.inl rfl) _)
  · have hd : decide ((i : Int) < (n : Int)) = false := by simp; omega
    clear hb hr
    go_enter Tryz.func81, Tryz.ntmps81
    go_wp2
    go_quiet (fail)
    go_wp2
    go_quiet (fail)
    go_wp2
    go_ret
    refine ⟨_, rfl, (band_u _ 255 (by omega)).1, (band_u _ 255 (by omega)).2, ?_, ?_⟩
    · refine Cur.of Hb.out Hr.out ?_ (i' := i) (((Hb.out.set_ 2 _).drewN _).drewN _) hi hn
      repeat (first | exact gb_refl _ _ | refine gb_drewN ?_ _ | refine gb_setCell ?_ (.inl rfl) _)
    · repeat (first | exact gb_refl _ _ | refine gb_drewN ?_ _ | refine gb_setCell ?_ (.inl rfl) _)

/-- A drawn number below n: 0 where n is not above 0. -/
def DrawnBelow (n : Int) (g : Nat) (w : World) (e : Ending) (w' : World) : Prop := ∃ r : Int, e = .returned (.int .i64 r) ∧ 0 ≤ r ∧ (0 < n → r < n) ∧ (n ≤ 0 → r = 0) ∧ Cur w' g ∧ w.grownBy w' (some g)

theorem l01Below (n : Int) (g : Nat) (w : World) (hcur : Cur w g) :
    Calls Tryz.prog 52 #[.pointer (some ⟨g, 0, none⟩), .int .i64 n] w (DrawnBelow n g w) := by
  by_cases h0 : n ≤ 0
  · go_enter Tryz.func52, Tryz.ntmps52
    go_wp2
    go_ret
    exact ⟨0, rfl, by omega, by omega, fun _ => rfl, hcur, gb_refl _ _⟩
  · by_cases h1 : n ≤ 256
    · go_enter Tryz.func52, Tryz.ntmps52
      go_wp2_with fail
      refine (l01Byte g _ hcur).mono ?_
      rintro e w1 ⟨r, rfl, hr0, hr1, hcur1, hg1⟩
      have hm0 : 0 ≤ r % n := Int.emod_nonneg _ (by omega)
      have hm1 : r % n < n := Int.emod_lt_of_pos _ (by omega)
      go_wp2_with fail
      go_ret
      exact ⟨r % n, rfl, hm0, fun _ => hm1, fun h => (by omega), hcur1, hg1⟩
    · go_enter Tryz.func52, Tryz.ntmps52
      go_wp2_with fail
      refine (l01Byte g _ hcur).mono ?_
      rintro e w1 ⟨r1, rfl, hr10, hr11, hcur1, hg1⟩
      go_wp2_with fail
      refine (l01Byte g _ hcur1).mono ?_
      rintro e w2 ⟨r2, rfl, hr20, hr21, hcur2, hg2⟩
      go_wp2_with fail
      refine (l01Byte g _ hcur2).mono ?_
      rintro e w3 ⟨r3, rfl, hr30, hr31, hcur3, hg3⟩
      go_wp2_with fail
      refine (l01Byte g _ hcur3).mono ?_
      rintro e w4 ⟨r4, rfl, hr40, hr41, hcur4, hg4⟩
      have hm0 : 0 ≤ (r1 * 16777216 + r2 * 65536 + r3 * 256 + r4) % n := Int.emod_nonneg _ (by omega)
      have hm1 : (r1 * 16777216 + r2 * 65536 + r3 * 256 + r4) % n < n := Int.emod_lt_of_pos _ (by omega)
      go_wp2_with fail
      go_ret
      exact ⟨_, rfl, hm0, fun _ => hm1, fun h => (by omega), hcur4, gb_trans hg1 (gb_trans hg2 (gb_trans hg3 hg4))⟩

/-- A new cursor over the bytes of a draw. -/
def NewCur (w : World) (e : Ending) (w' : World) : Prop := ∃ g : Nat, e = .returned (.pointer (some ⟨g, 0, none⟩)) ∧ w.heap.size ≤ g ∧ Cur w' g ∧ Below w.heap.size w w'

set_option maxRecDepth 100000 in
theorem l01New (A : Option Addr) (n cap : Nat) (w : World) (hr : ByteRow w w.heap.size A n) (hn : n ≤ 1048576) :
    Calls Tryz.prog 32 #[.slice A n cap] w (NewCur w) := by
  have Hr : Hid (ByteRow w w.heap.size A n) := hr
  go_enter Tryz.func32, Tryz.ntmps32
  go_wp2
  go_loop [3, 4] (fun h i => ∃ (k : Nat) (z : Int), k ≤ n ∧ i = .int .i64 k ∧ h = .int .i64 z) (fun _ i => n - (intOf i).toNat)
  case atStart => exact ⟨0, _, Nat.zero_le _, rfl, rfl⟩
  case round =>
    obtain ⟨k, z, hk, rfl, rfl⟩ := hrel
    by_cases hlt : k < n
    · obtain ⟨b, off, rfl, hbg, hcell⟩ := hr (by omega)
      obtain ⟨v, hv0, hv1, cv⟩ := hcell k hlt
      by_cases h4 : k < 4000
      · clear hcell hr
        go_wp2
        go_round
        case rel => exact ⟨k + 1, _, by omega, by go_num, rfl⟩
        case measure => simp [intOf]; omega
      · clear hcell hr
        go_wp2
        go_ret
        exact ⟨w.heap.size, rfl, Nat.le_refl _, ⟨_, n, cap, 0, z, Blk.new _ _ _, Nat.zero_le _, hn, Hr.out.keep fun p hp => World.cell?_of_block (Below.heap_alloc _ _ _ hp)⟩, (Below.refl _ _).alloc (Nat.le_refl _) _⟩
    · clear hr
      go_wp2
      go_ret
      exact ⟨w.heap.size, rfl, Nat.le_refl _, ⟨_, n, cap, 0, z, Blk.new _ _ _, Nat.zero_le _, hn, Hr.out.keep fun p hp => World.cell?_of_block (Below.heap_alloc _ _ _ hp)⟩, (Below.refl _ _).alloc (Nat.le_refl _) _⟩
end Go.Proofs.YtidilfakganooaaGreatDoor
end

section
namespace Go.Proofs.YtidilfakganooaaGreatDoor
open Go.ChangeShapes Go.WideShapes Go.ChangeAt Go.RowKit
set_option linter.unusedVariables false

/-- A 64-bit integer is returned for which P holds. -/
def DrawnP (P : Int → Prop) (g : Nat) (w : World) (e : Ending) (w' : World) : Prop := ∃ n : Int, e = .returned (.int .i64 n) ∧ P n ∧ Cur w' g ∧ w.grownBy w' (some g)
def IsI64 (n : Int) : Prop := (Lit.int .i64 n).wf = true

theorem l01PickInt (P : Int → Prop) (b m cap : Nat) (g : Nat) (w : World) (hcur : Cur w g) (hm : 0 < m) (hb : b ≠ g) (hbs : b < w.heap.size)
    (hL : ∀ k, k < m → ∃ x : Int, P x ∧ w.cell? ⟨b, k, none⟩ = some (.int .i64 x)) :
    Calls Tryz.prog 84 #[.pointer (some ⟨g, 0, none⟩), .slice (some ⟨b, 0, none⟩) m cap] w (DrawnP P g w) := by
  have HL := Lib.hid hL
  clear hL
  go_enter Tryz.func84, Tryz.ntmps84
  go_wp2_with fail
  refine (l01Below m g _ hcur).mono ?_
  rintro e w1 ⟨r, rfl, hr0, hr1, hr2, hcur1, hg1⟩
  obtain ⟨k, rfl⟩ : ∃ k : Nat, r = k := ⟨r.toNat, by omega⟩
  have hk : k < m := by omega
  obtain ⟨x, hx, hc⟩ := HL.out k hk
  have hc1 : w1.cell? ⟨b, k, none⟩ = some (.int .i64 x) := hg1.cell hc (fun e => hb (by cases e; rfl))
  clear hr2
  go_wp2_with fail
  go_ret
  exact ⟨x, rfl, hx, hcur1, hg1⟩

theorem pick_new (P : Int → Prop) (L : List Int) (T : TypeId) (cs : Array Value) (m cap : Nat) (g : Nat) (w : World) (hcur : Cur w g) (hcs : cs = (L.map fun x => Value.int .i64 x).toArray) (hm : m = L.length) (h0 : 0 < m) (hP : ∀ x ∈ L, P x) :
    Calls Tryz.prog 84 #[.pointer (some ⟨g, 0, none⟩), .slice (some ⟨w.heap.size, 0, none⟩) m cap] (w.alloc (.cells cs T)) (DrawnP P g w) := by
  have hlt := hcur.lt
  have hal : w.grownBy (w.alloc (.cells cs T)) none := gb_alloc (gb_refl _ _) _
  have hal2 : w.grownBy (w.alloc (.cells cs T)) (some g) := gb_alloc (gb_refl _ _) _
  refine (l01PickInt P w.heap.size m cap g _ (hcur.grown hal (fun k e => by cases e)) h0 (by omega) (by simp) ?_).mono ?_
  · intro k hk
    have hk' : k < L.length := by omega
    refine ⟨L[k], hP _ (List.getElem_mem hk'), ?_⟩
    rw [(Blk.new w T cs).cell k, hcs]
    simp [hk']
  · rintro e w' ⟨x, rfl, hx, hc, hg⟩
    exact ⟨x, rfl, hx, hc, gb_trans hal2 hg⟩

theorem pick_at (P : Int → Prop) (L : List Int) (T : TypeId) (cs : Array Value) (m cap b : Nat) (g : Nat) (w : World) (hb : b = w.heap.size) (hcur : Cur w g) (hcs : cs = (L.map fun x => Value.int .i64 x).toArray) (hm : m = L.length) (h0 : 0 < m) (hP : ∀ x ∈ L, P x) :
    Calls Tryz.prog 84 #[.pointer (some ⟨g, 0, none⟩), .slice (some ⟨b, 0, none⟩) m cap] (w.alloc (.cells cs T)) (DrawnP P g w) := by
  subst hb
  exact pick_new P L T cs m cap g w hcur hcs hm h0 hP

theorem i64_small {n : Int} (h0 : -1000 ≤ n) (h1 : n ≤ 1000000001) : IsI64 n := WalkArith.wf_i64 (by omega)
end Go.Proofs.YtidilfakganooaaGreatDoor
end

section
namespace Go.Proofs.YtidilfakganooaaGreatDoor
open Go.ChangeShapes Go.WideShapes Go.ChangeAt Go.RowKit
set_option linter.unusedVariables false

/-- A grid with sides from 1 to 4 is returned; only the cursor and new blocks are written. -/
def DrawnGridC (g : Nat) (w : World) (e : Ending) (w' : World) : Prop := ∃ W H : Int, e = .returned (.agg #[.int .i64 W, .int .i64 H]) ∧ okG W H = true ∧ Cur w' g ∧ w.grownBy w' (some g)
def Side (n : Int) : Prop := 1 ≤ n ∧ n ≤ 4

theorem gb_set2 {a w : World} {row : Option Nat} {b : Nat} (h : a.grownBy w row) (hb : a.heap.size ≤ b) (x y : Value) : a.grownBy ((w.setCell ⟨b, 0, none⟩ x).setCell ⟨b, 1, none⟩ y) row :=
  gb_setCell (gb_setCell h (.inr hb) x) (.inr hb) y
theorem cur_set2 {w : World} {g b : Nat} (h : Cur w g) (hb : g < b) (x y : Value) : Cur ((w.setCell ⟨b, 0, none⟩ x).setCell ⟨b, 1, none⟩ y) g := by
  have hg : w.grownBy ((w.setCell ⟨b, 0, none⟩ x).setCell ⟨b, 1, none⟩ y) (some b) := gb_setCell (gb_setCell (gb_refl w (some b)) (.inl rfl) x) (.inl rfl) y
  exact h.grown hg (fun k e => by cases e; exact hb)

theorem l02Grid (g : Nat) (w : World) (hcur : Cur w g) :
    Calls Tryz.prog 80 #[.pointer (some ⟨g, 0, none⟩)] w (DrawnGridC g w) := by
  have hlt := hcur.lt
  have hc0 : Cur (w.alloc (.cells #[.int .i64 0, .int .i64 0] 25)) g := hcur.grown (gb_alloc (gb_refl _ none) _) (fun k e => by cases e)
  have HB := Lib.hid (Blk.new w 25 #[.int .i64 0, .int .i64 0])
  have HA := Lib.hid (show w.grownBy (w.alloc (.cells #[.int .i64 0, .int .i64 0] 25)) (some g) from gb_alloc (gb_refl _ _) _)
  clear hcur
  go_enter Tryz.func80, Tryz.ntmps80
  go_wp2_with fail
  refine (pick_at Side [1, 2, 2, 3, 3, 4] _ _ 6 6 _ g _ (by simp) hc0 rfl rfl (by omega) (by unfold Side; decide)).mono ?_
  rintro e w1 ⟨W, rfl, hW, hcur1, hg1⟩
  have hb1 := HB.out.grown hg1 (fun e => by cases e; omega)
  have HW := Lib.hid hW
  have HG1 := Lib.hid (gb_trans HA.out hg1)
  have HB1 := Lib.hid hb1
  clear hc0 hW hg1 hb1
  go_wp2_with fail
  refine (pick_at Side [1, 2, 2, 3, 3, 4] _ _ 6 6 _ g _ rfl hcur1 rfl rfl (by omega) (by unfold Side; decide)).mono ?_
  rintro e w2 ⟨H, rfl, hH, hcur2, hg2⟩
  have hb2 := HB1.out.grown hg2 (fun e => by cases e; omega)
  have HH := Lib.hid hH
  have HG2 := Lib.hid (gb_trans HG1.out hg2)
  have HB2 := Lib.hid hb2
  have HC2 := Lib.hid hcur2
  have c0 := hb2.cell 0
  have c1 := hb2.cell 1
  have f0 := hb2.frozen 0
  have f1 := hb2.frozen 1
  simp at c0 c1
  clear hcur1 hcur2 hg2 hb2
  go_wp2_with fail
  have d0 := (HB2.out.set_ 0 (.int .i64 W)).cell 1
  have d1 := ((HB2.out.set_ 0 (.int .i64 W)).set_ 1 (.int .i64 H)).cell 0
  have d2 := ((HB2.out.set_ 0 (.int .i64 W)).set_ 1 (.int .i64 H)).cell 1
  simp at d0 d1 d2
  refine bodyPost_ret (v := .agg #[.int .i64 W, .int .i64 H]) (by simp [results, Tryz.results80, go_sem, d1, d2]) rfl ⟨W, H, rfl, okG_iff.2 ⟨HW.out.1, HW.out.2, HH.out.1, HH.out.2⟩, ?_, ?_⟩
  · exact cur_set2 HC2.out hlt _ _
  · exact gb_set2 HG2.out (Nat.le_refl _) _ _
end Go.Proofs.YtidilfakganooaaGreatDoor
end

section
namespace Go.Proofs.YtidilfakganooaaGreatDoor
open Go.ChangeShapes Go.WideShapes Go.ChangeAt Go.RowKit
set_option linter.unusedVariables false
set_option maxRecDepth 20000

/-- Some grid; only the cursor and new blocks are written. -/
def DrawnAnyG (g : Nat) (w : World) (e : Ending) (w' : World) : Prop := ∃ W H : Int, e = .returned (.agg #[.int .i64 W, .int .i64 H]) ∧ Cur w' g ∧ w.grownBy w' (some g)
/-- The box of the result, the box of the grid so far. -/
structure GA (w : World) (g b : Nat) (a1 a2 : Int) (wr : World) : Prop where
  r : Blk wr w.heap.size 25 #[.int .i64 0, .int .i64 0]
  k : Blk wr b 25 #[.int .i64 a1, .int .i64 a2]
  c : Cur wr g
  h : w.grownBy wr (some g)
  lt : w.heap.size < b
  gl : g < w.heap.size
section
variable {w wr w' : World} {g b : Nat} {a1 a2 x : Int}
theorem GA.gb (h : GA w g b a1 a2 wr) (hg : wr.grownBy w' (some g)) (hc : Cur w' g) : GA w g b a1 a2 w' :=
  ⟨h.r.grown hg (fun e => by have := Option.some.inj e; have := h.gl; omega), h.k.grown hg (fun e => by have := Option.some.inj e; have := h.gl; have := h.lt; omega), hc, gb_trans h.h hg, h.lt, h.gl⟩
theorem GA.al (h : GA w g b a1 a2 wr) (o : Obj) : GA w g b a1 a2 (wr.alloc o) :=
  ⟨h.r.alloc o, h.k.alloc o, h.c.grown (gb_alloc (gb_refl wr none) o) (fun k e => by cases e), gb_alloc h.h o, h.lt, h.gl⟩
theorem GA.put0 (h : GA w g b a1 a2 wr) (x : Int) : GA w g b x a2 (wr.setCell ⟨b, 0, none⟩ (.int .i64 x)) := by
  have hg : wr.grownBy (wr.setCell ⟨b, 0, none⟩ (.int .i64 x)) (some b) := gb_setCell (gb_refl wr (some b)) (.inl rfl) _
  have hl := h.lt
  have hgl := h.gl
  refine ⟨h.r.grown hg (fun e => by have := Option.some.inj e; omega), ?_, h.c.grown hg (fun k e => by have := Option.some.inj e; omega), gb_setCell h.h (.inr (Nat.le_of_lt hl)) _, hl, hgl⟩
  have := h.k.set_ 0 (.int .i64 x)
  simpa using this
theorem GA.put1 (h : GA w g b a1 a2 wr) (x : Int) : GA w g b a1 x (wr.setCell ⟨b, 1, none⟩ (.int .i64 x)) := by
  have hg : wr.grownBy (wr.setCell ⟨b, 1, none⟩ (.int .i64 x)) (some b) := gb_setCell (gb_refl wr (some b)) (.inl rfl) _
  have hl := h.lt
  have hgl := h.gl
  refine ⟨h.r.grown hg (fun e => by have := Option.some.inj e; omega), ?_, h.c.grown hg (fun k e => by have := Option.some.inj e; omega), gb_setCell h.h (.inr (Nat.le_of_lt hl)) _, hl, hgl⟩
  have := h.k.set_ 1 (.int .i64 x)
  simpa using this
theorem GA.cells (h : GA w g b a1 a2 wr) : wr.cell? ⟨b, 0, none⟩ = some (.int .i64 a1) ∧ wr.cell? ⟨b, 1, none⟩ = some (.int .i64 a2) ∧ wr.frozen? ⟨b, 0, none⟩ = false ∧ wr.frozen? ⟨b, 1, none⟩ = false ∧
    wr.cell? ⟨w.heap.size, 0, none⟩ = some (.int .i64 0) ∧ wr.cell? ⟨w.heap.size, 1, none⟩ = some (.int .i64 0) ∧ wr.frozen? ⟨w.heap.size, 0, none⟩ = false ∧ wr.frozen? ⟨w.heap.size, 1, none⟩ = false :=
  ⟨h.k.cell 0, h.k.cell 1, h.k.frozen 0, h.k.frozen 1, h.r.cell 0, h.r.cell 1, h.r.frozen 0, h.r.frozen 1⟩
theorem GA.fin (h : GA w g b a1 a2 wr) : Blk ((wr.setCell ⟨w.heap.size, 0, none⟩ (.int .i64 a1)).setCell ⟨w.heap.size, 1, none⟩ (.int .i64 a2)) w.heap.size 25 #[.int .i64 a1, .int .i64 a2] ∧
    Cur ((wr.setCell ⟨w.heap.size, 0, none⟩ (.int .i64 a1)).setCell ⟨w.heap.size, 1, none⟩ (.int .i64 a2)) g ∧ w.grownBy ((wr.setCell ⟨w.heap.size, 0, none⟩ (.int .i64 a1)).setCell ⟨w.heap.size, 1, none⟩ (.int .i64 a2)) (some g) := by
  refine ⟨?_, cur_set2 h.c h.gl _ _, gb_set2 h.h (Nat.le_refl _) _ _⟩
  have := (h.r.set_ 0 (.int .i64 a1)).set_ 1 (.int .i64 a2)
  simpa using this
end
theorem l02Any (g : Nat) (w : World) (hcur : Cur w g) :
    Calls Tryz.prog 83 #[.pointer (some ⟨g, 0, none⟩)] w (DrawnAnyG g w) := by
  have hlt := hcur.lt
  have hc0 : Cur (w.alloc (.cells #[.int .i64 0, .int .i64 0] 25)) g := hcur.grown (gb_alloc (gb_refl _ none) _) (fun k e => by cases e)
  have HB := Lib.hid (Blk.new w 25 #[.int .i64 0, .int .i64 0])
  have HA := Lib.hid (show w.grownBy (w.alloc (.cells #[.int .i64 0, .int .i64 0] 25)) (some g) from gb_alloc (gb_refl _ _) _)
  clear hcur
  go_enter Tryz.func83, Tryz.ntmps83
  go_wp2_with fail
  refine (l02Grid g _ hc0).mono ?_
  rintro e w1 ⟨W, H, rfl, _, hcur1, hg1⟩
  have hs := hg1.size
  rw [alloc_size] at hs
  have X1 := Lib.hid (show GA w g w1.heap.size W H (w1.alloc (.cells #[.int .i64 W, .int .i64 H] 25)) from
    ⟨(HB.out.grown hg1 (fun e => by have := Option.some.inj e; omega)).alloc _, Blk.new w1 25 _, hcur1.grown (gb_alloc (gb_refl _ none) _) (fun k e => by cases e), gb_alloc (gb_trans HA.out hg1) _, by omega, hlt⟩)
  clear hc0 hcur1 hg1 hs
  go_wp2_with fail
  refine (l01Below 12 g _ X1.out.c).mono ?_
  rintro e w2 ⟨x, rfl, _, _, _, hc2, hg2⟩
  have X2 := Lib.hid (X1.out.gb hg2 hc2)
  obtain ⟨b, hb⟩ : ∃ b, w1.heap.size = b := ⟨_, rfl⟩
  rw [hb] at X2 ⊢
  clear hc2 hg2 hb
  by_cases x0 : x = 0
  · subst x0
    go_wp2_with fail
    refine (pick_new (fun _ => True) [0, 4, 5, -1] _ _ 4 4 g w2 X2.out.c rfl rfl (by omega) (fun _ _ => trivial)).mono ?_
    rintro e w3 ⟨n, rfl, _, hc3, hg3⟩
    have X3 := Lib.hid (X2.out.gb hg3 hc3)
    obtain ⟨c0, c1, f0, f1, d0, d1, h0, h1⟩ := X3.out.cells
    obtain ⟨e0, e1, _, _, i0, i1, j0, j1⟩ := (X3.out.put0 n).cells
    clear hc3 hg3
    go_wp2_with fail
    obtain ⟨hB, hC, hG⟩ := (X3.out.put0 n).fin
    have r0 := hB.cell 0
    have r1 := hB.cell 1
    simp at r0 r1
    refine bodyPost_ret (v := .agg #[.int .i64 n, .int .i64 H]) (by simp [results, Tryz.results83, go_sem, r0, r1]) rfl ⟨_, _, rfl, hC, hG⟩
  · have x0b : (x == 0) = false := beq_eq_false_iff_ne.2 x0
    by_cases x1 : x = 1
    · subst x1
      clear x0 x0b
      go_wp2_with fail
      refine (pick_new (fun _ => True) [0, 4, 5, 9223372036854775807] _ _ 4 4 g w2 X2.out.c rfl rfl (by omega) (fun _ _ => trivial)).mono ?_
      rintro e w3 ⟨n, rfl, _, hc3, hg3⟩
      have X3 := Lib.hid (X2.out.gb hg3 hc3)
      obtain ⟨c0, c1, f0, f1, d0, d1, h0, h1⟩ := X3.out.cells
      obtain ⟨e0, e1, _, _, i0, i1, j0, j1⟩ := (X3.out.put1 n).cells
      clear hc3 hg3
      go_wp2_with fail
      obtain ⟨hB, hC, hG⟩ := (X3.out.put1 n).fin
      have r0 := hB.cell 0
      have r1 := hB.cell 1
      simp at r0 r1
      refine bodyPost_ret (v := .agg #[.int .i64 W, .int .i64 n]) (by simp [results, Tryz.results83, go_sem, r0, r1]) rfl ⟨_, _, rfl, hC, hG⟩
    · have x1b : (x == 1) = false := beq_eq_false_iff_ne.2 x1
      obtain ⟨c0, c1, f0, f1, d0, d1, h0, h1⟩ := X2.out.cells
      go_wp2_with fail
      obtain ⟨hB, hC, hG⟩ := X2.out.fin
      have r0 := hB.cell 0
      have r1 := hB.cell 1
      simp at r0 r1
      refine bodyPost_ret (v := .agg #[.int .i64 W, .int .i64 H]) (by simp [results, Tryz.results83, go_sem, r0, r1]) rfl ⟨_, _, rfl, hC, hG⟩
end Go.Proofs.YtidilfakganooaaGreatDoor
end

section
namespace Go.Proofs.YtidilfakganooaaGreatDoor
open Go.ChangeShapes Go.WideShapes Go.ChangeAt Go.RowKit
set_option linter.unusedVariables false

theorem l01Once (n : Int) (g : Nat) (w : World) (hcur : Cur w g) :
    Calls Tryz.prog 105 #[.pointer (some ⟨g, 0, none⟩), .int .i64 n] w (DrawnB g w) := by
  go_enter Tryz.func105, Tryz.ntmps105
  go_wp2_with fail
  refine (l01Below n g _ hcur).mono ?_
  rintro e w1 ⟨r, rfl, hr0, hr1, hr2, hcur1, hg1⟩
  go_wp2_with fail
  go_ret
  exact ⟨_, rfl, hcur1, hg1⟩
end Go.Proofs.YtidilfakganooaaGreatDoor
end

section
namespace Go.Proofs.YtidilfakganooaaGreatDoor
open Go.ChangeShapes Go.WideShapes Go.ChangeAt Go.RowKit
set_option linter.unusedVariables false

theorem getD_at {L : List Int} {i : Nat} (h : i < L.length) : L.getD i 0 = L[i] := by
  rw [List.getD_eq_getElem?_getD, List.getElem?_eq_getElem h]; rfl
/-- Strictly ascending lists with the same elements are the same. -/
theorem sorted_ext : ∀ (A B : List Int), A.Pairwise (· < ·) → B.Pairwise (· < ·) → (∀ x, x ∈ A ↔ x ∈ B) → A = B
  | [], [], _, _, _ => rfl
  | [], b :: B, _, _, h => by have := (h b).2 (List.mem_cons_self ..); cases this
  | a :: A, [], _, _, h => by have := (h a).1 (List.mem_cons_self ..); cases this
  | a :: A, b :: B, hA, hB, h => by
    obtain ⟨ha, hA'⟩ := List.pairwise_cons.1 hA
    obtain ⟨hb, hB'⟩ := List.pairwise_cons.1 hB
    have e : a = b := by
      rcases List.mem_cons.1 ((h a).1 (List.mem_cons_self ..)) with e | h1
      · exact e
      · rcases List.mem_cons.1 ((h b).2 (List.mem_cons_self ..)) with e | h2
        · exact e.symm
        · have h3 := hb a h1; have h4 := ha b h2; omega
    subst e
    rw [sorted_ext A B hA' hB' (fun x => ⟨fun hx => by
      rcases List.mem_cons.1 ((h x).1 (List.mem_cons_of_mem _ hx)) with e | h1
      · have := ha x hx; omega
      · exact h1, fun hx => by
      rcases List.mem_cons.1 ((h x).2 (List.mem_cons_of_mem _ hx)) with e | h1
      · have := hb x hx; omega
      · exact h1⟩)]

def allTo (W H : Int) (k : Nat) : List Int := ((List.range k).map fun c : Nat => (c : Int)).filter (leadsG W H)
theorem range_sorted (k : Nat) : ((List.range k).map fun c : Nat => (c : Int)).Pairwise (· < ·) := by
  rw [List.pairwise_map]
  exact List.pairwise_lt_range.imp (fun h => by omega)
theorem chansTo_sorted (W H : Int) (L : List Int) (k : Nat) : (chansTo W H L k).Pairwise (· < ·) := (range_sorted k).filter _
theorem allTo_sorted (W H : Int) (k : Nat) : (allTo W H k).Pairwise (· < ·) := (range_sorted k).filter _
theorem sorted_at {A : List Int} (h : A.Pairwise (· < ·)) {i j : Nat} (hij : i < j) (hj : j < A.length) : A.getD i 0 < A.getD j 0 := by
  rw [getD_at (by omega), getD_at hj]
  exact (List.pairwise_iff_getElem.1 h) i j (by omega) hj hij
theorem leads_range {W H c : Int} (h : leadsG W H c = true) : 0 ≤ c ∧ c < 4 * countG W H := by
  simp only [leadsG, decide_eq_true_eq] at h
  exact ⟨h.1, h.2.1⟩
theorem mem_all {W H x : Int} : x ∈ allTo W H (4 * countG W H).toNat ↔ leadsG W H x = true := by
  simp only [allTo, List.mem_filter, List.mem_map, List.mem_range]
  constructor
  · exact fun h => h.2
  · intro h
    obtain ⟨h0, h1⟩ := leads_range h
    exact ⟨⟨x.toNat, by omega, by omega⟩, h⟩

/-- A valid mesh: its broken channels are ascending and lead somewhere. -/
theorem mesh_sorted {W H : Int} {L : List Int} (h : meshG W H L = true) : L.Pairwise (· < ·) ∧ ∀ x ∈ L, leadsG W H x = true := by
  obtain ⟨hok, hg⟩ := meshG_ok h
  have hstep : ∀ i, i + 1 < L.length → L.getD i 0 < L.getD (i + 1) 0 := fun i hi => by
    have := hg (i + 1) hi
    simp only [goodAt, Nat.add_sub_cancel, Bool.and_eq_true, Bool.or_eq_true, decide_eq_true_eq] at this
    rcases this.2 with h1 | h1
    · omega
    · exact h1
  have hmono : ∀ d i, i + d + 1 < L.length → L.getD i 0 < L.getD (i + d + 1) 0 := by
    intro d
    induction d with
    | zero => exact fun i hi => hstep i hi
    | succ d ih => exact fun i hi => Int.lt_trans (ih i (by omega)) (hstep (i + d + 1) hi)
  refine ⟨List.pairwise_iff_getElem.2 fun i j hi hj hij => ?_, fun x hx => ?_⟩
  · have := hmono (j - i - 1) i (by omega)
    rw [show i + (j - i - 1) + 1 = j by omega, getD_at hi, getD_at hj] at this
    exact this
  · obtain ⟨i, hi, rfl⟩ := List.getElem_of_mem hx
    have := hg i hi
    simp only [goodAt, Bool.and_eq_true] at this
    rw [← getD_at hi]; exact this.1
theorem mesh_of_sorted {W H : Int} {L : List Int} (hok : okG W H = true) (hs : L.Pairwise (· < ·)) (hl : ∀ x ∈ L, leadsG W H x = true) : meshG W H L = true := by
  refine meshG_yes hok fun i hi => ?_
  simp only [goodAt, Bool.and_eq_true, Bool.or_eq_true, decide_eq_true_eq]
  refine ⟨by rw [getD_at hi]; exact hl _ (List.getElem_mem hi), ?_⟩
  rcases Nat.eq_zero_or_pos i with h | h
  · exact .inl h
  · exact .inr (sorted_at hs (by omega) hi)

theorem inG_iff {L : List Int} {x : Int} : inG L x = true ↔ x ∈ L := by unfold inG; exact List.contains_iff_mem
theorem filter_split (p q : Int → Bool) : ∀ A : List Int, ((A.filter p).filter q).length + (A.filter fun x => p x && !q x).length = (A.filter p).length
  | [] => rfl
  | a :: A => by
    have ih := filter_split p q A
    cases hp : p a <;> cases hq : q a <;> simp only [List.filter_cons, hp, hq, if_true, Bool.true_and, Bool.false_and, Bool.not_true, Bool.not_false, Bool.false_eq_true, if_false, List.length_cons] <;> omega
/-- How many channels lead somewhere. -/
theorem all_count {W H : Int} (hok : okG W H = true) : (((allTo W H (4 * countG W H).toNat).length : Nat) : Int) = 2 * (W - 1) * H + 2 * W * (H - 1) := by
  obtain ⟨hW, hH⟩ := okG_cases hok
  rcases hW with rfl | rfl | rfl | rfl <;> rcases hH with rfl | rfl | rfl | rfl <;> decide +kernel
/-- How many channels there are. -/
theorem chans_count {W H : Int} {L : List Int} (h : meshG W H L = true) : ((chansG W H L).length : Int) = 2 * (W - 1) * H + 2 * W * (H - 1) - (L.length : Int) := by
  obtain ⟨hs, hl⟩ := mesh_sorted h
  have hok := (meshG_ok h).1
  have h1 := filter_split (leadsG W H) (inG L) ((List.range (4 * countG W H).toNat).map fun c : Nat => (c : Int))
  have h2 : (((List.range (4 * countG W H).toNat).map fun c : Nat => (c : Int)).filter (leadsG W H)).filter (inG L) = L := by
    refine sorted_ext _ _ ((allTo_sorted W H _).filter _) hs fun x => ?_
    rw [List.mem_filter, inG_iff]
    constructor
    · exact fun hx => hx.2
    · exact fun hx => ⟨mem_all.2 (hl x hx), hx⟩
  rw [h2] at h1
  have h3 : (chansG W H L) = ((List.range (4 * countG W H).toNat).map fun c : Nat => (c : Int)).filter fun x => leadsG W H x && !inG L x := by
    simp only [chansG, h, if_true, chansTo]; rfl
  have h4 := all_count hok
  rw [h3]
  have h5 : (allTo W H (4 * countG W H).toNat).length = (((List.range (4 * countG W H).toNat).map fun c : Nat => (c : Int)).filter (leadsG W H)).length := rfl
  omega
/-- What the law asks of one channel. -/
theorem chans_at {W H : Int} {L : List Int} (h : meshG W H L = true) {i : Nat} {x : Int} (hi : i < (chansG W H L).length) (hx : (chansG W H L).getD i 0 = x) :
    hasChannelG W H L x = true ∧ inG L x = false ∧ (∀ j, i = j + 1 → (chansG W H L).getD j 0 < x) := by
  have hm : x ∈ chansG W H L := by rw [← hx, getD_at hi]; exact List.getElem_mem hi
  have hs : (chansG W H L).Pairwise (· < ·) := by simp only [chansG, h, if_true]; exact chansTo_sorted W H L _
  have hc : hasChG W H L x = true := by
    simp only [chansG, h, if_true, chansTo, List.mem_filter] at hm
    exact hm.2
  refine ⟨by simp [hasChannelG, h, hc], ?_, fun j hj => ?_⟩
  · simp only [hasChG, Bool.and_eq_true, Bool.not_eq_true'] at hc
    exact hc.2
  · rw [← hx]; exact sorted_at hs (by omega) hi
end Go.Proofs.YtidilfakganooaaGreatDoor
end

section
namespace Go.Proofs.YtidilfakganooaaGreatDoor
open Go.ChangeShapes Go.WideShapes Go.ChangeAt Go.RowKit
set_option linter.unusedVariables false

theorem gb_set3 {a w : World} {row : Option Nat} {b : Nat} (h : a.grownBy w row) (hb : a.heap.size ≤ b) (x y z : Value) : a.grownBy (((w.setCell ⟨b, 0, none⟩ x).setCell ⟨b, 1, none⟩ y).setCell ⟨b, 2, none⟩ z) row :=
  gb_setCell (gb_set2 h hb x y) (.inr hb) z
theorem cur_set3 {w : World} {g b : Nat} (h : Cur w g) (hb : g < b) (x y z : Value) : Cur (((w.setCell ⟨b, 0, none⟩ x).setCell ⟨b, 1, none⟩ y).setCell ⟨b, 2, none⟩ z) g := by
  have hg : w.grownBy (((w.setCell ⟨b, 0, none⟩ x).setCell ⟨b, 1, none⟩ y).setCell ⟨b, 2, none⟩ z) (some b) := gb_setCell (gb_setCell (gb_setCell (gb_refl w (some b)) (.inl rfl) x) (.inl rfl) y) (.inl rfl) z
  exact h.grown hg (fun k e => by cases e; exact hb)

/-- A valid mesh is returned; only the cursor and new blocks are written. -/
def DrawnMeshC (g : Nat) (w : World) (e : Ending) (w' : World) : Prop :=
  ∃ (W H : Int) (v : Value) (L : List Int), e = .returned (.agg #[.int .i64 W, .int .i64 H, v]) ∧ meshG W H L = true ∧ w'.ownsRow (w.heap.size + 1) 3 1 v L.length (intsV L) ∧ L.length ≤ 64 ∧ Cur w' g ∧ w.grownBy w' (some g)

/-- The loop: the broken channels below k. -/
def MeshTo (g : Nat) (w : World) (q : Nat) (W H : Int) (k : Nat) (wr : World) : Prop :=
  ∃ (v : Value) (L : List Int), Blk wr q 28 #[.int .i64 W, .int .i64 H, v] ∧ wr.ownsRow (q + 1) 3 1 v L.length (intsV L) ∧ L.Pairwise (· < ·) ∧ (∀ x ∈ L, leadsG W H x = true ∧ x < (k : Int)) ∧ L.length ≤ k ∧
    Blk wr w.heap.size 28 #[.int .i64 0, .int .i64 0, .slice none 0 0] ∧ Cur wr g ∧ w.grownBy wr (some g)

theorem MeshTo.keep {g : Nat} {w wr w' : World} {q k : Nat} {W H : Int} (h : MeshTo g w q W H k wr) (hlt : g < w.heap.size) (hq : w.heap.size ≤ q) (hg : wr.grownBy w' (some g)) (hc : Cur w' g) : MeshTo g w q W H k w' := by
  obtain ⟨v, L, k3, o, hs, hL, hlen, k2, _, hgw⟩ := h
  exact ⟨v, L, k3.grown hg (fun e => by cases e; omega), o.kept hg (.inr (fun e => by have := (o.lt g e).1; omega)), hs, hL, hlen, k2.grown hg (fun e => by cases e; omega), hc, gb_trans hgw hg⟩
theorem MeshTo.cur {g : Nat} {w wr : World} {q k : Nat} {W H : Int} (h : MeshTo g w q W H k wr) : Cur wr g := by obtain ⟨_, _, _, _, _, _, _, _, hc, _⟩ := h; exact hc
theorem MeshTo.still {g : Nat} {w wr w' : World} {q k : Nat} {W H : Int} (h : MeshTo g w q W H k wr) (hlt : g < w.heap.size) (hq : w.heap.size ≤ q) (hg : wr.grownBy w' none) : MeshTo g w q W H k w' :=
  h.keep hlt hq (gb_of_none hg _) (h.cur.grown hg (fun k e => by cases e))
theorem MeshTo.next {g : Nat} {w wr : World} {q k : Nat} {W H : Int} (h : MeshTo g w q W H k wr) : MeshTo g w q W H (k + 1) wr := by
  obtain ⟨v, L, k3, o, hs, hL, hlen, r⟩ := h
  exact ⟨v, L, k3, o, hs, fun x hx => ⟨(hL x hx).1, by have := (hL x hx).2; omega⟩, by omega, r⟩
theorem gb_then_below {a b c : World} {row : Option Nat} (h : a.grownBy b row) (k : Below a.heap.size b c) : a.grownBy c row :=
  ⟨k.os.trans h.os, k.tape.trans h.tape, k.output.trans h.output, Nat.le_trans h.size k.size, fun i hi hne => (k.block i hi).trans (h.block i hi hne)⟩
theorem cur_one {w : World} {g b j : Nat} (h : Cur w g) (hb : g < b) (x : Value) : Cur (w.setCell ⟨b, j, none⟩ x) g := by
  have hg : w.grownBy (w.setCell ⟨b, j, none⟩ x) (some b) := gb_setCell (gb_refl w (some b)) (.inl rfl) x
  exact h.grown hg (fun k e => by cases e; exact hb)
theorem own_one {w : World} {base n : Nat} {v : Value} {l : List Value} (h : w.ownsRow base 3 1 v n l) : v.oneCell' = true := by
  obtain ⟨A, cap, rfl, _⟩ := own_form h
  rfl
theorem mesh_done {g : Nat} {w wr : World} {q k : Nat} {W H : Int} {v : Value} {L : List Int} (hok : okG W H = true) (hs : L.Pairwise (· < ·)) (hl : ∀ x ∈ L, leadsG W H x = true) (hlen : L.length ≤ k) (hk : k ≤ 64)
    (o : wr.ownsRow (q + 1) 3 1 v L.length (intsV L)) (hc : Cur wr g) (hgw : w.grownBy wr (some g)) (hlt : g < w.heap.size) (hq : w.heap.size + 1 ≤ q) :
    meshG W H L = true ∧ (((wr.setCell ⟨w.heap.size, 0, none⟩ (.int .i64 W)).setCell ⟨w.heap.size, 1, none⟩ (.int .i64 H)).setCell ⟨w.heap.size, 2, none⟩ v).ownsRow (w.heap.size + 1) 3 1 v L.length (intsV L) ∧ L.length ≤ 64 ∧
      Cur (((wr.setCell ⟨w.heap.size, 0, none⟩ (.int .i64 W)).setCell ⟨w.heap.size, 1, none⟩ (.int .i64 H)).setCell ⟨w.heap.size, 2, none⟩ v) g ∧
      w.grownBy (((wr.setCell ⟨w.heap.size, 0, none⟩ (.int .i64 W)).setCell ⟨w.heap.size, 1, none⟩ (.int .i64 H)).setCell ⟨w.heap.size, 2, none⟩ v) (some g) :=
  ⟨mesh_of_sorted hok hs hl, own_less (ownsRow_setCell_below (ownsRow_setCell_below (ownsRow_setCell_below o (by show w.heap.size < _; omega) _) (by show w.heap.size < _; omega) _) (by show w.heap.size < _; omega) _) (by omega), by omega,
    cur_set3 hc hlt _ _ _, gb_set3 hgw (Nat.le_refl _) _ _ _⟩

theorem l03Mesh (g : Nat) (w : World) (hcur : Cur w g) :
    Calls Tryz.prog 82 #[.pointer (some ⟨g, 0, none⟩)] w (DrawnMeshC g w) := by
  obtain ⟨i0, hi, hz0, hz1, hz2⟩ := info_parts info_int
  have hlt := hcur.lt
  have hc0 : Cur (w.alloc (.cells #[.int .i64 0, .int .i64 0, .slice none 0 0] 28)) g := hcur.grown (gb_alloc (gb_refl _ none) _) (fun k e => by cases e)
  have HB := Lib.hid (Blk.new w 28 #[.int .i64 0, .int .i64 0, .slice none 0 0])
  have HA := Lib.hid (show w.grownBy (w.alloc (.cells #[.int .i64 0, .int .i64 0, .slice none 0 0] 28)) (some g) from gb_alloc (gb_refl _ _) _)
  clear hcur
  go_enter Tryz.func82, Tryz.ntmps82
  go_wp2_with fail
  refine (l02Grid g _ hc0).mono ?_
  rintro e w1 ⟨W, H, rfl, hok, hc1, hg1⟩
  have HG1 := Lib.hid (gb_trans HA.out hg1)
  have hsz1 : w.heap.size + 1 ≤ w1.heap.size := by have := hg1.size; simpa using this
  have hb1 := HB.out.grown hg1 (fun e => by cases e; omega)
  have HM0 := Lib.hid (show MeshTo g w w1.heap.size W H 0 (w1.alloc (.cells #[.int .i64 W, .int .i64 H, .slice none 0 0] 28)) from
    ⟨.slice none 0 0, [], Blk.new w1 28 #[.int .i64 W, .int .i64 H, .slice none 0 0], World.ownsRow_nil _ _ _ _, List.Pairwise.nil, (fun x h => by cases h), Nat.le_refl _, hb1.alloc _,
      hc1.grown (gb_alloc (gb_refl _ none) _) (fun k e => by cases e), gb_alloc HG1.out _⟩)
  have HOK := Lib.hid hok
  clear hc0 hg1 hb1 hok hc1
  go_wp2_with fail
  refine (l01Once _ _ _ HM0.out.cur).mono ?_
  rintro e w2 ⟨b, rfl, hc2, hg2⟩
  have HM2 := Lib.hid (HM0.out.keep hlt (by omega) hg2 hc2)
  clear hc2 hg2
  cases b with
  | false =>
    obtain ⟨v, L, k3, o, hs, hL, hlen, k2, hc, hgw⟩ := HM2.out
    have a0 : w2.cell? ⟨w1.heap.size, 0, none⟩ = some (.int .i64 W) := k3.cell 0
    have a1 : w2.cell? ⟨w1.heap.size, 1, none⟩ = some (.int .i64 H) := k3.cell 1
    have a2 : w2.cell? ⟨w1.heap.size, 2, none⟩ = some v := k3.cell 2
    have z0 : w2.cell? ⟨w.heap.size, 0, none⟩ = some (.int .i64 0) := k2.cell 0
    have z1 : w2.cell? ⟨w.heap.size, 1, none⟩ = some (.int .i64 0) := k2.cell 1
    have z2 : w2.cell? ⟨w.heap.size, 2, none⟩ = some (.slice none 0 0) := k2.cell 2
    have f0 := k2.frozen 0
    have f1 := k2.frozen 1
    have f2 := k2.frozen 2
    have v1 := own_one o
    have kk := ((k2.set_ 0 (.int .i64 W)).set_ 1 (.int .i64 H)).set_ 2 v
    have HRes := Lib.hid (mesh_done (L := L) HOK.out hs (fun x hx => (hL x hx).1) hlen (by omega) o hc hgw hlt hsz1)
    have y0 := kk.cell 0
    have y1 := kk.cell 1
    have y2 := kk.cell 2
    simp at y0 y1 y2
    have Y := Lib.hid (And.intro y0 (And.intro y1 y2))
    obtain ⟨A, cap, rfl, _⟩ := own_form o
    clear k3 o hs hL hlen k2 hc hgw kk y0 y1 y2 v1
    go_wp2_with fail
    obtain ⟨y0, y1, y2⟩ := Y.out
    refine bodyPost_ret (v := .agg #[.int .i64 W, .int .i64 H, .slice A L.length cap]) (by simp [results, Tryz.results82, go_sem, y0, y1, y2]) rfl ⟨W, H, .slice A L.length cap, L, rfl, HRes.out.1, HRes.out.2.1, HRes.out.2.2.1, HRes.out.2.2.2.1, HRes.out.2.2.2.2⟩
  | true =>
    obtain ⟨cn, hcn⟩ : ∃ k, countG W H = k := ⟨_, rfl⟩
    obtain ⟨hcn0, hcn1⟩ := countG_le W H
    rw [hcn] at hcn0 hcn1
    have NC := Lib.hid (fun w => specNodeCountV W H cn hcn w)
    clear hcn
    go_wp2_with fail
    go_loopw [4] (fun i wr => ∃ k : Nat, i = .int .i64 (k : Int) ∧ (k : Int) ≤ 4 * cn ∧ MeshTo g w w1.heap.size W H k wr) (fun i _ => 64 - (intOf i).toNat)
    case atStart => exact ⟨0, rfl, by omega, HM2.out⟩
    case round =>
      obtain ⟨k, rfl, hk, hm⟩ := hrel
      have HM := Lib.hid hm
      have b0 : wr.cell? ⟨w1.heap.size, 0, none⟩ = some (.int .i64 W) := by obtain ⟨v, L, k3, _⟩ := hm; exact k3.cell 0
      have b1 : wr.cell? ⟨w1.heap.size, 1, none⟩ = some (.int .i64 H) := by obtain ⟨v, L, k3, _⟩ := hm; exact k3.cell 1
      clear hm
      by_cases hlk : (k : Int) < 4 * cn
      · have hld : decide ((k : Int) < 4 * cn) = true := decide_eq_true hlk
        go_wp2_with fail
        refine (NC.out _).mono ?_
        rintro e w3 ⟨rfl, hg3⟩
        have HM3 := Lib.hid (HM.out.still hlt (by omega) hg3)
        have d0 : w3.cell? ⟨w1.heap.size, 0, none⟩ = some (.int .i64 W) := by obtain ⟨v, L, k3, _⟩ := HM3.out; exact k3.cell 0
        have d1 : w3.cell? ⟨w1.heap.size, 1, none⟩ = some (.int .i64 H) := by obtain ⟨v, L, k3, _⟩ := HM3.out; exact k3.cell 1
        clear hg3 b0 b1
        go_wp2_with fail
        cases hle : leadsG W H (k : Int) with
        | false =>
          refine (specLeadsV W H k false hle _).mono ?_
          rintro e w4 ⟨rfl, hg4⟩
          have HM4 := Lib.hid (HM3.out.still hlt (by omega) hg4)
          clear hg4 d0 d1
          go_wp2_with fail
          go_roundw
          case rel => exact ⟨k + 1, by go_num, by omega, HM4.out.next⟩
          case measure => simp [intOf]; omega
        | true =>
          refine (specLeadsV W H k true hle _).mono ?_
          rintro e w4 ⟨rfl, hg4⟩
          have HM4 := Lib.hid (HM3.out.still hlt (by omega) hg4)
          clear hg4 d0 d1
          go_wp2_with fail
          refine (l01Once _ _ _ HM4.out.cur).mono ?_
          rintro e w5 ⟨bb, rfl, hc5, hg5⟩
          have HM5 := Lib.hid (HM4.out.keep hlt (by omega) hg5 hc5)
          clear hc5 hg5
          cases bb with
          | false =>
            go_wp2_with fail
            go_roundw
            case rel => exact ⟨k + 1, by go_num, by omega, HM5.out.next⟩
            case measure => simp [intOf]; omega
          | true =>
            obtain ⟨v, L, k3, o, hs, hL, hlen, k2, hc, hgw⟩ := HM5.out
            have a2 : w5.cell? ⟨w1.heap.size, 2, none⟩ = some v := k3.cell 2
            have HK3 := Lib.hid k3
            have HS := Lib.hid (And.intro hs hL)
            have HLe := Lib.hid hlen
            have HK2 := Lib.hid k2
            have HC := Lib.hid hc
            have HGW := Lib.hid hgw
            have HO := Lib.hid o
            have hq5 := k3.lt
            have b3' := Lib.hid (show ∀ u ∈ [Value.int .i64 (k : Int)], u.oneCell' = true by simp [Value.oneCell'])
            have b4' := Lib.hid (show L.length + 1 ≤ maxLen by unfold maxLen; omega)
            have HLE := Lib.hid hle
            obtain ⟨A, cap, rfl, _⟩ := own_form o
            clear k3 o hs hL k2 hc hgw hle
            go_wp2_with (at_builtin; refine wpList_append_own _ rfl _ _ 26 rfl (w1.heap.size + 1) 3 i0 (.int .i64 0) 1 8 Tryz.underlying26 hi hz0 hz1 hz2 rfl (by decide) _ L.length _ rfl (HO.out.alloc _) ⟨w5.heap.size, 0, none⟩ 1 1 [.int .i64 (k : Int)] rfl rfl (World.news_of_block (cs := #[.int .i64 (k : Int)]) (t := 3) (fr := (0, 0)) (heap_alloc_new w5 _)) b3'.out b4'.out (by omega) (by simp; omega) ?_; intro v' w6 hown6 hgrow6 _; obtain ⟨A', cap', rfl, _⟩ := own_form hown6; have kx := (HK3.out.alloc (.cells #[.int .i64 (k : Int)] 3)).grown hgrow6 (fun e => by have := (HO.out.lt _ e.symm).1; omega); have HX6 := Lib.hid kx; have e2 := kx.cell 2; have f2 := kx.frozen 2; simp at e2; have HO6 := Lib.hid hown6; have HGr6 := Lib.hid hgrow6; clear kx hown6 hgrow6)
            refine ⟨⟨k + 1, by go_num, by omega, .slice A' (L.length + 1) cap', L ++ [(k : Int)], ?_, ?_, ?_, ?_, ?_, ?_, ?_, ?_⟩, by simp [intOf]; omega⟩
            · exact HX6.out.set_ 2 (.slice A' (L.length + 1) cap')
            · have h1 := ownsRow_setCell_below HO6.out (a := ⟨w1.heap.size, 2, none⟩) (by show w1.heap.size < _; omega) (.slice A' (L.length + 1) cap')
              rw [List.length_append, intsV_append]
              exact h1
            · rw [List.pairwise_append]
              exact ⟨HS.out.1, List.pairwise_singleton _ _, fun x hx y hy => by rw [List.mem_singleton.1 hy]; exact (HS.out.2 x hx).2⟩
            · intro x hx
              rcases List.mem_append.1 hx with h | h
              · exact ⟨(HS.out.2 x h).1, by have := (HS.out.2 x h).2; omega⟩
              · rw [List.mem_singleton.1 h]; exact ⟨HLE.out, by omega⟩
            · rw [List.length_append, List.length_singleton]; have := HLe.out; omega
            · exact ((HK2.out.alloc _).grown HGr6.out (fun e => by have := (HO.out.lt _ e.symm).1; omega)).far (by show w.heap.size ≠ w1.heap.size; omega) _
            · exact cur_one ((HC.out.grown (gb_alloc (gb_refl _ none) _) (fun k e => by cases e)).grown HGr6.out (fun j e => by have := (HO.out.lt j e).1; omega)) (by omega) _
            · have h1 : w.grownBy (w5.alloc (.cells #[.int .i64 (k : Int)] 3)) (some g) := gb_alloc HGW.out _
              have h2 : Below w.heap.size (w5.alloc (.cells #[.int .i64 (k : Int)] 3)) w6 := (Below.refl _ _).grown HGr6.out h1.size (fun j e => by have := (HO.out.lt j e).1; omega)
              exact gb_setCell (gb_then_below h1 h2) (.inr (by show w.heap.size ≤ w1.heap.size; omega)) _
      · have hld : decide ((k : Int) < 4 * cn) = false := decide_eq_false hlk
        go_wp2_with fail
        refine (NC.out _).mono ?_
        rintro e w3 ⟨rfl, hg3⟩
        have HM3 := Lib.hid (HM.out.still hlt (by omega) hg3)
        clear hg3 b0 b1
        obtain ⟨v, L, k3, o, hs, hL, hlen, k2, hc, hgw⟩ := HM3.out
        have a0 : w3.cell? ⟨w1.heap.size, 0, none⟩ = some (.int .i64 W) := k3.cell 0
        have a1 : w3.cell? ⟨w1.heap.size, 1, none⟩ = some (.int .i64 H) := k3.cell 1
        have a2 : w3.cell? ⟨w1.heap.size, 2, none⟩ = some v := k3.cell 2
        have z0 : w3.cell? ⟨w.heap.size, 0, none⟩ = some (.int .i64 0) := k2.cell 0
        have z1 : w3.cell? ⟨w.heap.size, 1, none⟩ = some (.int .i64 0) := k2.cell 1
        have z2 : w3.cell? ⟨w.heap.size, 2, none⟩ = some (.slice none 0 0) := k2.cell 2
        have f0 := k2.frozen 0
        have f1 := k2.frozen 1
        have f2 := k2.frozen 2
        have v1 := own_one o
        have kk := ((k2.set_ 0 (.int .i64 W)).set_ 1 (.int .i64 H)).set_ 2 v
        have HRes := Lib.hid (mesh_done (L := L) HOK.out hs (fun x hx => (hL x hx).1) hlen (by omega) o hc hgw hlt hsz1)
        have y0 := kk.cell 0
        have y1 := kk.cell 1
        have y2 := kk.cell 2
        simp at y0 y1 y2
        have Y := Lib.hid (And.intro y0 (And.intro y1 y2))
        obtain ⟨A, cap, rfl, _⟩ := own_form o
        clear k3 o hs hL hlen k2 hc hgw kk y0 y1 y2 v1
        go_wp2_with fail
        obtain ⟨y0, y1, y2⟩ := Y.out
        refine bodyPost_ret (v := .agg #[.int .i64 W, .int .i64 H, .slice A L.length cap]) (by simp [results, Tryz.results82, go_sem, y0, y1, y2]) rfl ⟨W, H, .slice A L.length cap, L, rfl, HRes.out.1, HRes.out.2.1, HRes.out.2.2.1, HRes.out.2.2.2.1, HRes.out.2.2.2.2⟩
end Go.Proofs.YtidilfakganooaaGreatDoor
end
