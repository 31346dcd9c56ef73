/- What is proved here: the law on places answers true, for every draw; only new blocks are written. -/
import Derived.Test.YtcckakopmboliaaDrawGrid
import Derived.Test.YtcckakopmboliaaDrawPlaces
import Derived.Test.YtcckakopmboliaaBig
import Derived.Test.YtcckakopmboliaaDistI
namespace Go.Proofs.Ytcckakopmboliaa
open Go.ChangeShapes Go.WideShapes Go.ChangeAt Go.RowKit
set_option linter.unusedVariables false

theorem implColumnOfV (W H n x : Int) (h : colG W H n = x) (w : World) :
    Calls Try.prog 17 #[.agg #[.int .i64 W, .int .i64 H], .int .i64 n] w (RetI x none w) := h ▸ implColumnOf W H n w
theorem implRowOfV (W H n x : Int) (h : rowG W H n = x) (w : World) :
    Calls Try.prog 18 #[.agg #[.int .i64 W, .int .i64 H], .int .i64 n] w (RetI x none w) := h ▸ implRowOf W H n w
theorem implNodeAtV (W H x y n : Int) (h : atG W H x y = n) (w : World) :
    Calls Try.prog 16 #[.agg #[.int .i64 W, .int .i64 H], .int .i64 x, .int .i64 y] w (RetI n none w) := h ▸ implNodeAt W H x y w
theorem implDiameterV (W H d : Int) (h : diamG W H = d) (w : World) :
    Calls Try.prog 19 #[.agg #[.int .i64 W, .int .i64 H]] w (RetI d none w) := h ▸ implDiameter W H w

theorem diam_le (W H : Int) : diamG W H ≤ 6 := by
  unfold diamG
  split
  · rename_i h; have := okG_iff.1 h; omega
  · omega

theorem nodes_pos {W H : Int} (hok : okG W H = true) : countG W H = W * H ∧ 1 ≤ W * H ∧ W * H ≤ 16 := by
  obtain ⟨hW, hH⟩ := okG_cases hok
  refine ⟨by simp [countG, hok], ?_⟩
  rcases hW with rfl | rfl | rfl | rfl <;> rcases hH with rfl | rfl | rfl | rfl <;> decide

/-- The condition of the law, over what the calls give. -/
theorem places_fact {W H a b c : Int} (ha : hasG W H a = true) (hb : hasG W H b = true) (hc : hasG W H c = true) (hok : okG W H = true) :
    ∃ d e1 e2 D x y : Int, distG W H a b = d ∧ distG W H b a = d ∧ distG W H a c = e1 ∧ distG W H b c = e2 ∧ diamG W H = D ∧ colG W H a = x ∧ rowG W H a = y ∧ atG W H x y = a ∧
      0 ≤ d ∧ d ≤ D ∧ e1 ≤ d + e2 ∧ (d == 0) = (a == b) ∧ D ≤ 6 ∧ 0 ≤ e2 ∧ e2 ≤ D ∧ 0 ≤ e1 ∧ e1 ≤ D :=
  ⟨_, _, _, _, _, _, rfl, distG_swap W H b a, rfl, rfl, rfl, rfl, rfl, atG_place ha, distG_nonneg ha hb, distG_le ha hb, distG_tri ha hb hc, by
    rw [Bool.eq_iff_iff]; simpa using distG_zero ha hb, diam_le W H, distG_nonneg hb hc, distG_le hb hc, distG_nonneg ha hc, distG_le ha hc⟩

set_option maxRecDepth 100000 in
set_option maxHeartbeats 6400000 in
theorem walk_FnPlaces (A : Option Addr) (n cap : Nat) (w : World) (hr : ByteRow w w.heap.size A n) :
    Calls Try.prog 3 #[.slice A n cap] w fun e w' => e = .returned (.bool true) ∧ Below w.heap.size w w' := by
  by_cases hn : 1048576 < n
  · have hd : decide (1048576 < n) = true := by simpa using hn
    clear hr
    go_enter Try.func3, Try.ntmps3
    go_wp2_with fail
    refine (lawsBig _ _ _ _).mono ?_
    rintro e w' ⟨rfl, rfl⟩
    go_wp2_with fail
    go_ret
    exact ⟨rfl, Below.refl _ _⟩
  · have hd : decide (1048576 < n) = false := by simpa using hn
    have Hr := Lib.hid hr
    have Hn := Lib.hid hn
    clear hr hn
    go_enter Try.func3, Try.ntmps3
    go_wp2_with fail
    refine (lawsBig _ _ _ _).mono ?_
    rintro e w' ⟨rfl, rfl⟩
    go_wp2_with fail
    refine (drawGrid _ _ _ _ Hr.out (by have := Hn.out; omega)).mono ?_
    rintro e w1 ⟨W, H, rfl, hok, hb1⟩
    have HB1 := Lib.hid hb1
    obtain ⟨hcn, hn0, hn1⟩ := nodes_pos hok
    have hwr : wrap64 (W * H) = W * H := IntWalk.wrap64_in _ (by omega)
    obtain ⟨m, hm⟩ : ∃ m, W * H = m := ⟨_, rfl⟩
    rw [hm] at hcn hn0 hn1
    have hwm : wrap64 (W * H) = m := hwr.trans hm
    have HWM := Lib.hid hwm
    clear hwr hwm hm
    have HOK := Lib.hid hok
    have HCN := Lib.hid hcn
    have hr1 : ByteRow (w1.alloc (.cells #[.int .i64 W, .int .i64 H] 25)) (w1.alloc (.cells #[.int .i64 W, .int .i64 H] 25)).heap.size A n := by
      have hsz := hb1.size
      refine (Hr.out.keep fun p hp => ?_).more (by simp; omega)
      rw [World.cell?_of_block (Below.heap_alloc _ _ _ (by omega)), World.cell?_of_block (hb1.block p.block hp)]
    have HR1 := Lib.hid hr1
    have HBK := Lib.hid (Blk.new w1 25 #[.int .i64 W, .int .i64 H])
    clear hb1 hok hcn hr1
    go_wp2_with fail
    refine (drawPlaces _ _ _ _ HR1.out (by have := Hn.out; omega)).mono ?_
    rintro e w2 ⟨bp, cp, l, rfl, hl, hP, hcell, hb2⟩
    obtain ⟨q0, h0⟩ : ∃ x, l[0]? = some x := ⟨_, List.getElem?_eq_getElem (by omega)⟩
    obtain ⟨q1, h1⟩ : ∃ x, l[1]? = some x := ⟨_, List.getElem?_eq_getElem (by omega)⟩
    obtain ⟨q2, h2⟩ : ∃ x, l[2]? = some x := ⟨_, List.getElem?_eq_getElem (by omega)⟩
    have k0 := hcell 0 q0 h0
    have k1 := hcell 1 q1 h1
    have k2 := hcell 2 q2 h2
    obtain ⟨z0, z0'⟩ := hP q0 (List.mem_of_getElem? h0)
    obtain ⟨z1, z1'⟩ := hP q1 (List.mem_of_getElem? h1)
    obtain ⟨z2, z2'⟩ := hP q2 (List.mem_of_getElem? h2)
    have hbk2 := HBK.out.below hb2 (by simp)
    have c0 := hbk2.cell 0
    have c1 := hbk2.cell 1
    simp at c0 c1
    have HB2 := Lib.hid (show Below w.heap.size w w2 from by
      have h1 := HB1.out
      have hs := h1.size
      have h2 : Below w.heap.size w (w1.alloc (.cells #[.int .i64 W, .int .i64 H] 25)) := h1.alloc hs _
      exact ⟨hb2.os.trans h2.os, hb2.tape.trans h2.tape, hb2.output.trans h2.output, Nat.le_trans h2.size hb2.size, fun i hi => (hb2.block i (by simp; omega)).trans (h2.block i hi)⟩)
    have HK2 := Lib.hid hbk2
    have hnz : ¬ wrap64 (W * H) = 0 := by rw [HWM.out]; omega
    clear hl hP hcell hb2 h0 h1 h2 hbk2
    go_wp2_with fail
    simp only [HWM.out]
    obtain ⟨a, ha⟩ : ∃ x, q0 % m = x := ⟨_, rfl⟩
    obtain ⟨b, hb⟩ : ∃ x, q1 % m = x := ⟨_, rfl⟩
    obtain ⟨c, hc⟩ : ∃ x, q2 % m = x := ⟨_, rfl⟩
    have a1 : 0 ≤ a ∧ a < m := by rw [← ha]; exact ⟨Int.emod_nonneg _ (by omega), Int.emod_lt_of_pos _ (by omega)⟩
    have b1 : 0 ≤ b ∧ b < m := by rw [← hb]; exact ⟨Int.emod_nonneg _ (by omega), Int.emod_lt_of_pos _ (by omega)⟩
    have c1' : 0 ≤ c ∧ c < m := by rw [← hc]; exact ⟨Int.emod_nonneg _ (by omega), Int.emod_lt_of_pos _ (by omega)⟩
    have hA : hasG W H a = true := by rw [hasG_iff, HCN.out]; exact a1
    have hB : hasG W H b = true := by rw [hasG_iff, HCN.out]; exact b1
    have hC : hasG W H c = true := by rw [hasG_iff, HCN.out]; exact c1'
    simp only [ha, hb, hc]
    obtain ⟨d, e1, e2, D, x, y, f1, f2, f3, f4, f5, f6, f7, f8, g1, g2, g3, g4, g5, g6, g7, g8, g9⟩ := places_fact hA hB hC HOK.out
    clear hnz ha hb hc a1 b1 c1' hA hB hC k0 k1 k2 z0 z0' z1 z1' z2 z2'
    have K1 := Lib.hid (fun w => implDistanceV W H a b d f1 w)
    have K2 := Lib.hid (fun w => implDistanceV W H b a d f2 w)
    have K3 := Lib.hid (fun w => implDistanceV W H a c e1 f3 w)
    have K4 := Lib.hid (fun w => implDistanceV W H b c e2 f4 w)
    have K5 := Lib.hid (fun w => implDiameterV W H D f5 w)
    have K6 := Lib.hid (fun w => implColumnOfV W H a x f6 w)
    have K7 := Lib.hid (fun w => implRowOfV W H a y f7 w)
    have K8 := Lib.hid (fun w => implNodeAtV W H x y a f8 w)
    have K9 := Lib.hid (fun w => implNodeCountV W H m HCN.out w)
    have hs : IntKind.i64.wrap (d + e2) = d + e2 := IntWalk.i64_in _ (by omega)
    clear f1 f2 f3 f4 f5 f6 f7 f8 g5 g6 g7 g8 g9 hn0 hn1
    refine (K1.out _).mono ?_
    rintro e w3 ⟨rfl, hg3⟩
    have hb3 := HK2.out.grown hg3 (by simp)
    have d0 := hb3.cell 0
    have d1 := hb3.cell 1
    simp at d0 d1
    have HB3 := Lib.hid (HB2.out.trans (gb_below_none hg3 HB2.out.size))
    have HK3 := Lib.hid hb3
    clear hg3 hb3 c0 c1
    go_wp2_with fail
    obtain ⟨t, ht⟩ : ∃ t, (a == b) = t := ⟨_, rfl⟩
    rw [ht] at g4
    have HK4 : Hid (Blk w3.drew w1.heap.size 25 #[.int .i64 W, .int .i64 H]) := HK3.out
    have HG : Hid (w3.drew.grownBy w3.drew none) := gb_refl _ _
    clear K1
    go_region_held3 (fun w' => w'.cell? ⟨w1.heap.size, 0, none⟩ = some (.int .i64 W) ∧ w'.cell? ⟨w1.heap.size, 1, none⟩ = some (.int .i64 H))
      (first | exact ⟨d0, d1⟩)
      (first
        | (go_at_call 15; (with_reducible refine (K9.out _).mono ?_); rintro e w4 ⟨rfl, hg4⟩; have hg5 := gb_trans HG.out hg4; clear HG hg4 d0 d1; have HG := Lib.hid hg5; have hb4 := HK4.out.grown hg5 (by simp); have d0 := hb4.cell 0; have d1 := hb4.cell 1; simp at d0 d1; clear hg5 hb4)
        | (go_at_call 17; (with_reducible refine (K6.out _).mono ?_); rintro e w4 ⟨rfl, hg4⟩; have hg5 := gb_trans HG.out hg4; clear HG hg4 d0 d1; have HG := Lib.hid hg5; have hb4 := HK4.out.grown hg5 (by simp); have d0 := hb4.cell 0; have d1 := hb4.cell 1; simp at d0 d1; clear hg5 hb4)
        | (go_at_call 18; (with_reducible refine (K7.out _).mono ?_); rintro e w4 ⟨rfl, hg4⟩; have hg5 := gb_trans HG.out hg4; clear HG hg4 d0 d1; have HG := Lib.hid hg5; have hb4 := HK4.out.grown hg5 (by simp); have d0 := hb4.cell 0; have d1 := hb4.cell 1; simp at d0 d1; clear hg5 hb4)
        | (go_at_call 16; (with_reducible refine (K8.out _).mono ?_); rintro e w4 ⟨rfl, hg4⟩; have hg5 := gb_trans HG.out hg4; clear HG hg4 d0 d1; have HG := Lib.hid hg5; have hb4 := HK4.out.grown hg5 (by simp); have d0 := hb4.cell 0; have d1 := hb4.cell 1; simp at d0 d1; clear hg5 hb4)
        | (go_at_call 14; (with_reducible refine (K2.out _).mono ?_); rintro e w4 ⟨rfl, hg4⟩; have hg5 := gb_trans HG.out hg4; clear HG hg4 d0 d1; have HG := Lib.hid hg5; have hb4 := HK4.out.grown hg5 (by simp); have d0 := hb4.cell 0; have d1 := hb4.cell 1; simp at d0 d1; clear hg5 hb4)
        | (go_at_call 14; (with_reducible refine (K3.out _).mono ?_); rintro e w4 ⟨rfl, hg4⟩; have hg5 := gb_trans HG.out hg4; clear HG hg4 d0 d1; have HG := Lib.hid hg5; have hb4 := HK4.out.grown hg5 (by simp); have d0 := hb4.cell 0; have d1 := hb4.cell 1; simp at d0 d1; clear hg5 hb4)
        | (go_at_call 14; (with_reducible refine (K4.out _).mono ?_); rintro e w4 ⟨rfl, hg4⟩; have hg5 := gb_trans HG.out hg4; clear HG hg4 d0 d1; have HG := Lib.hid hg5; have hb4 := HK4.out.grown hg5 (by simp); have d0 := hb4.cell 0; have d1 := hb4.cell 1; simp at d0 d1; clear hg5 hb4)
        | (go_at_call 19; (with_reducible refine (K5.out _).mono ?_); rintro e w4 ⟨rfl, hg4⟩; have hg5 := gb_trans HG.out hg4; clear HG hg4 d0 d1; have HG := Lib.hid hg5; have hb4 := HK4.out.grown hg5 (by simp); have d0 := hb4.cell 0; have d1 := hb4.cell 1; simp at d0 d1; clear hg5 hb4)
        | fail)
    all_goals
      go_wp2_with fail
      go_ret
      exact ⟨rfl, HB3.out.trans (gb_below_none (gb_undrew HG.out) HB3.out.size)⟩
end Go.Proofs.Ytcckakopmboliaa
