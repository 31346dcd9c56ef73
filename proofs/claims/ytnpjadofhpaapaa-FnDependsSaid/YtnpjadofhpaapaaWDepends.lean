/- What is proved here: the law on the dependencies of standard tables answers true, for every draw; only new blocks are written. -/
import Derived.Test.YtnpjadofhpaapaaDrawTable
import Derived.Test.YtnpjadofhpaapaaBig
import Derived.Test.YtnpjadofhpaapaaDependsI
import Derived.Test.YtnpjadofhpaapaaSuccI
import Derived.Test.YtnpjadofhpaapaaDepR
import Derived.Test.YtnpjadofhpaapaaHasL
import Derived.Test.YtnpjadofhpaapaaNextI
namespace Go.Proofs.Ytnpjadofhpaapaa
open Go.ChangeShapes Go.WideShapes Go.ChangeAt Go.RowKit
set_option linter.unusedVariables false
set_option maxRecDepth 20000

/-- The mesh and its dependencies. -/
structure DrAt (W H : Int) (D : List Dep) (w : World) (b0 N : Nat) (v : Value) (wr : World) : Prop where
  mb : Blk wr b0 28 #[.int .i64 W, .int .i64 H, .slice none 0 0]
  ro : wr.ownsRow w.heap.size 36 2 v N (depV D)
  lb : Below w.heap.size w wr
section
variable {W H : Int} {D : List Dep} {w wr w' : World} {b0 N : Nat} {v : Value}
theorem DrAt.gb (h : DrAt W H D w b0 N v wr) (hg : wr.grownBy w' none) : DrAt W H D w b0 N v w' := ⟨h.mb.grown hg (by simp), own_none h.ro hg, below_gb h.lb (Nat.le_refl _) hg⟩
theorem gb_drW {a b : World} {row : Option Nat} (h : a.drew.grownBy b row) : a.grownBy b row := ⟨h.os, h.tape, h.output, h.size, h.block⟩
theorem DrAt.four {g c : Nat} (h : DrAt W H D w b0 N (.slice (some ⟨g, 0, none⟩) N c) wr) {k : Nat} {x : Dep} (hk : k < D.length) (hx : atD D k = x) :
    wr.cell? ⟨b0, 0, none⟩ = some (.int .i64 W) ∧ wr.cell? ⟨b0, 1, none⟩ = some (.int .i64 H) ∧ wr.cell? ⟨g, k * 2, none⟩ = some (.int .i64 x.1) ∧ wr.cell? ⟨g, k * 2 + 1, none⟩ = some (.int .i64 x.2) := by
  obtain ⟨h1, h2⟩ := dep_cell h.ro k hk
  rw [hx] at h1 h2
  exact ⟨h.mb.cell 0, h.mb.cell 1, h1, h2⟩
end

set_option maxHeartbeats 1600000 in
theorem walk_FnDepends (A : Option Addr) (n cap : Nat) (w : World) (hr : ByteRow w w.heap.size A n) :
    Calls Try.prog 3 #[.slice A n cap] w fun e w' => e = .returned (.bool true) ∧ Below w.heap.size w w' := by
  by_cases hbig : 1048576 < n
  · go_enter Try.func3, Try.ntmps3
    go_wp2_with fail
    refine (lawsBig A n cap _).mono ?_
    rintro e w1 ⟨rfl, rfl⟩
    rw [decide_eq_true hbig]
    go_wp2_with fail
    go_ret
    exact ⟨rfl, Below.refl _ _⟩
  · have HR := Lib.hid hr
    have hn : n ≤ 1048576 := by omega
    clear hr
    go_enter Try.func3, Try.ntmps3
    go_wp2_with fail
    refine (lawsBig A n cap _).mono ?_
    rintro e w1 ⟨rfl, rfl⟩
    rw [decide_eq_false hbig]
    go_wp2_with fail
    refine (drawTable A n cap _ HR.out hn).mono ?_
    rintro e w1 ⟨W, H, r, v, rfl, hok, hr1, hr4, ho, hb⟩
    have hpl : (stdTab W H r).length ≤ 256 := by rw [stdTab, stdTo_len]; exact sq_le W H
    obtain ⟨P, hP⟩ : ∃ P, stdTab W H r = P := ⟨_, rfl⟩
    rw [hP] at hpl ho
    obtain ⟨A2, c2, rfl, _⟩ := own_form ho
    obtain ⟨W2, hW2⟩ : ∃ W2, W2 = (w1.alloc (.cells #[.int .i64 W, .int .i64 H, .slice none 0 0] 28)).alloc (.cells #[.slice A2 P.length c2] 30) := ⟨_, rfl⟩
    have hg2 : w1.grownBy W2 none := by rw [hW2]; exact gb_alloc (gb_alloc (gb_refl w1 none) _) _
    have hbm : Blk W2 w1.heap.size 28 #[.int .i64 W, .int .i64 H, .slice none 0 0] := by rw [hW2]; exact (Blk.new w1 _ _).alloc _
    have hbt : Blk W2 (w1.heap.size + 1) 30 #[.slice A2 P.length c2] := by
      have := Blk.new (w1.alloc (.cells #[.int .i64 W, .int .i64 H, .slice none 0 0] 28)) 30 #[.slice A2 P.length c2]
      rw [alloc_size] at this
      rw [hW2]
      exact this
    have HIA := Lib.hid (show IntAt W2 W2.heap.size A2 P.length P from ((intAt_own ho rfl (Nat.le_refl _)).none (Nat.le_refl _) hg2).more hg2.size)
    have HBM := Lib.hid hbm
    have HLB := Lib.hid (below_gb hb (Nat.le_refl _) hg2)
    have HCD := Lib.hid (fun w h2 => show Calls Try.prog 12 #[.agg #[.int .i64 W, .int .i64 H, .slice none 0 0], .agg #[.slice A2 P.length c2]] w (NewD (depG W H [] P) w) from implDependsOf W H none A2 0 0 P.length c2 [] P wfl_nilD w (IntAt.nil _ _ _) h2 (by omega) (by omega))
    have hdl := depG_len (W := W) (H := H) (L := []) (P := P)
    have HOK := Lib.hid (depG_ok (W := W) (H := H) (L := []) (P := P))
    have HIN := Lib.hid (fun d h => depG_in (W := W) (H := H) (L := []) (P := P) (d := d) h)
    have HST := Lib.hid (fun d h => depG_step (W := W) (H := H) (L := []) (P := P) (d := d) h)
    obtain ⟨D, hD⟩ : ∃ D, depG W H [] P = D := ⟨_, rfl⟩
    rw [hD] at HCD hdl HOK HIN HST
    have a0 : W2.cell? ⟨w1.heap.size, 0, none⟩ = some (.int .i64 W) := hbm.cell 0
    have a1 : W2.cell? ⟨w1.heap.size, 1, none⟩ = some (.int .i64 H) := hbm.cell 1
    have a2 : W2.cell? ⟨w1.heap.size, 2, none⟩ = some (.slice none 0 0) := hbm.cell 2
    have a3 : W2.cell? ⟨w1.heap.size + 1, 0, none⟩ = some (.slice A2 P.length c2) := hbt.cell 0
    rw [hW2] at a0 a1 a2 a3
    have HW2 := Lib.hid hW2
    clear hok hr1 hr4 ho hb hg2 hbm hbt hD hW2 hP
    go_wp2_with fail
    rw [← HW2.out]
    refine (HCD.out _ HIA.out).mono ?_
    rintro e w3 ⟨v3, rfl, o3, b3⟩
    have X3 := Lib.hid (show DrAt W H D w w1.heap.size D.length v3 w3 from ⟨HBM.out.below b3 HBM.out.lt, own_less o3 HLB.out.size, HLB.out.trans (b3.mono HLB.out.size)⟩)
    obtain ⟨A3, c3, rfl, h3⟩ := own_form o3
    have H3 := Lib.hid h3
    obtain ⟨b0, hb0⟩ : ∃ b, w1.heap.size = b := ⟨_, rfl⟩
    rw [hb0] at X3
    obtain ⟨N, hN⟩ : ∃ N, D.length = N := ⟨_, rfl⟩
    rw [hN] at X3 hdl H3
    have HN := Lib.hid hN
    clear o3 b3 h3 a0 a1 a2 a3
    go_wp2_with fail
    (try rw [hb0])
    (try rw [hN])
    clear hb0 hN
    go_loopw [6] (fun i wr => ∃ j : Nat, i = .int .i64 (j : Int) ∧ j ≤ N ∧ DrAt W H D w b0 N (.slice A3 N c3) wr) (fun i _ => 4097 - (Go.RowKit.intOf i).toNat)
    case atStart => exact ⟨0, rfl, Nat.zero_le _, X3.out⟩
    case round =>
      obtain ⟨j, rfl, hj, hx⟩ := hrel
      have X7 := Lib.hid hx
      clear hx
      by_cases hlt : j < N
      · have j0 : (0 : Int) ≤ (j : Int) := by omega
        have j1 : (j : Int) < (N : Int) := by omega
        obtain ⟨gv, hgv⟩ := H3.out (by omega)
        subst hgv
        have hjD : j < D.length := by rw [HN.out]; exact hlt
        obtain ⟨x, hx⟩ : ∃ z, atD D j = z := ⟨_, rfl⟩
        have hm : x ∈ D := hx ▸ atD_mem hjD
        obtain ⟨x0, x1, x2, x3⟩ := HIN.out x hm
        have hst := HST.out x hm
        obtain ⟨y, hy⟩ : ∃ y, x.2 / 4 = y := ⟨_, rfl⟩
        obtain ⟨u, hu⟩ : ∃ u, x.1 / 4 = u := ⟨_, rfl⟩
        obtain ⟨p, hp⟩ : ∃ p, x.1 % 4 = p := ⟨_, rfl⟩
        rw [hy, hu, hp] at hst
        have CN := Lib.hid (fun w => implNextNodeV W H u p y hst.symm w)
        have CS := Lib.hid (fun (w' : World) (h : w'.ownsRow w.heap.size 36 2 (.slice (some ⟨gv, 0, none⟩) N c3) N (depV D)) => implSuccessors (some ⟨gv, 0, none⟩) N c3 D x.1 w' (depAt_own h (Nat.le_refl _)) (by omega))
        have hsl := succ_length D x.1
        have hsh := succ_has hm
        obtain ⟨S, hS⟩ : ∃ S, succD D x.1 = S := ⟨_, rfl⟩
        rw [hS] at CS hsl hsh
        have CH := Lib.hid (fun A5 c5 w h => lawsHasV A5 S.length c5 (w.heap.size) S x.2 true hsh w h (by rw [HN.out] at hsl; omega))
        have q1 : x.2.tdiv 4 = y := by rw [Int.tdiv_eq_ediv_of_nonneg x2, hy]
        have q2 : x.1.tdiv 4 = u := by rw [Int.tdiv_eq_ediv_of_nonneg x0, hu]
        have q3 : x.1.tmod 4 = p := by rw [Int.tmod_eq_emod_of_nonneg x0, hp]
        have q4 : IntKind.i64.wrap y = y := IntWalk.i64_in _ (by omega)
        have q5 : IntKind.i64.wrap u = u := IntWalk.i64_in _ (by omega)
        have q6 : IntKind.i64.wrap p = p := IntWalk.i64_in _ (by omega)
        obtain ⟨a0, a1, a2, a3⟩ := X7.out.four hjD hx
        have HJD := Lib.hid hjD
        have HX := Lib.hid hx
        clear hx hm x0 x1 x2 x3 hst hy hu hp hsl hsh hS hjD
        go_wp2_with fail
        go_region_held3 (fun w' => w'.cell? ⟨b0, 0, none⟩ = some (.int .i64 W) ∧ w'.cell? ⟨b0, 1, none⟩ = some (.int .i64 H) ∧ w'.cell? ⟨gv, j * 2, none⟩ = some (.int .i64 x.1) ∧ w'.cell? ⟨gv, j * 2 + 1, none⟩ = some (.int .i64 x.2))
          (first | exact ⟨a0, a1, a2, a3⟩ | exact ⟨d0, d1, d2, d3⟩ | exact ⟨e0, e1, e2, e3⟩ | fail)
          (first
            | (go_at_call 13; (with_reducible refine (CN.out _).mono ?_); rintro e w4 ⟨rfl, hg4⟩; have X8 := Lib.hid (X7.out.gb (gb_drW hg4)); obtain ⟨d0, d1, d2, d3⟩ := X8.out.four HJD.out HX.out; clear hg4)
            | (go_at_call 15; (with_reducible refine (CS.out _ X8.out.ro).mono ?_); rintro e w5 ⟨v5, rfl, o5, b5⟩; have X9 := Lib.hid (X8.out.gb (gb_of_below b5 none)); obtain ⟨e0, e1, e2, e3⟩ := X9.out.four HJD.out HX.out; obtain ⟨A5, c5, rfl, _⟩ := own_form o5; have O5 := Lib.hid o5; clear o5 b5)
            | (go_at_call 14; (with_reducible refine (CH.out _ _ _ (intAt_own O5.out rfl (Nat.le_refl _))).mono ?_); rintro e w6 ⟨rfl, rfl⟩)
            | fail)
        all_goals
          clear a0 a1 a2 a3 d0 d1 d2 d3 e0 e1 e2 e3 q1 q2 q3 q4 q5 q6
          go_wp2_with fail
          go_roundw
          case rel => exact ⟨j + 1, by go_num, by omega, X9.out⟩
          case measure => simp [Go.RowKit.intOf]; omega
      · obtain rfl : j = N := by omega
        have CO := Lib.hid (show Calls Try.prog 16 #[.slice A3 j c3] wr (RetB true wr) from HOK.out ▸ implDependsOk A3 j c3 D wr (depAt_own X7.out.ro (Nat.le_refl _)) (by omega))
        go_wp2_with fail
        refine CO.out.mono ?_
        rintro e w4 ⟨rfl, hg4⟩
        have B4 := Lib.hid (X7.out.gb hg4).lb
        clear hg4
        go_wp2_with fail
        go_ret
        exact ⟨rfl, B4.out⟩
end Go.Proofs.Ytnpjadofhpaapaa
