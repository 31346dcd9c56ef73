/- What is proved here: what the library's comparisons of integers return, and the program's comparison of two dependencies; only new blocks are written. -/
import Derived.Test.YtnielgpcfgfioaaDepM
import Derived.Test.YtnielgpcfgfioaaNewI
import Derived.Deep.RegionHeld3
namespace Go.Proofs.Ytnielgpcfgfioaa
open Go.ChangeShapes Go.WideShapes Go.ChangeAt Go.RowKit
set_option linter.unusedVariables false
set_option maxRecDepth 20000

theorem gb_dr {a b : World} {row : Option Nat} (h : a.drew.grownBy b row) : a.grownBy b row := ⟨h.os, h.tape, h.output, h.size, h.block⟩
theorem cell_more {w : World} {p : Addr} {v : Value} (h : w.cell? p = some v) (o : Obj) : (w.alloc o).cell? p = some v := (gb_alloc (gb_refl w none) o).cell h (by simp)
theorem libNaN (x : Int) (w : World) : Calls Try.prog 53 #[.int .i64 x] w (RetB false w) := by
  go_enter Try.func53, Try.ntmps53
  go_wp2_with fail
  go_ret
  exact ⟨by simp, gb_refl _ _⟩
theorem libCompare (x y : Int) (w : World) : Calls Try.prog 45 #[.int .i64 x, .int .i64 y] w (RetI (cmpI x y) none w) := by
  have N1 := Lib.hid (fun w => libNaN x w)
  have N2 := Lib.hid (fun w => libNaN y w)
  rcases Int.lt_trichotomy x y with h | h | h
  · have hr : cmpI x y = -1 := if_pos h
    have HR := Lib.hid hr
    clear hr
    go_enter Try.func45, Try.ntmps45
    go_wp2_with fail
    refine (N1.out _).mono ?_
    rintro e w1 ⟨rfl, hg1⟩
    have G1 := Lib.hid hg1
    clear hg1
    go_wp2_with fail
    refine (N2.out _).mono ?_
    rintro e w2 ⟨rfl, hg2⟩
    have G2 := Lib.hid (gb_trans G1.out hg2)
    clear hg2
    go_wp2_with fail
    go_ret
    exact ⟨by rw [HR.out]; rfl, G2.out⟩
  · have hr : cmpI x y = 0 := cmpI_zero.2 h
    have HR := Lib.hid hr
    subst h
    clear hr
    go_enter Try.func45, Try.ntmps45
    go_wp2_with fail
    refine (N1.out _).mono ?_
    rintro e w1 ⟨rfl, hg1⟩
    have G1 := Lib.hid hg1
    clear hg1
    go_wp2_with fail
    refine (N2.out _).mono ?_
    rintro e w2 ⟨rfl, hg2⟩
    have G2 := Lib.hid (gb_trans G1.out hg2)
    clear hg2
    go_wp2_with fail
    go_ret
    exact ⟨by rw [HR.out]; rfl, G2.out⟩
  · have hr : cmpI x y = 1 := by unfold cmpI; rw [if_neg (by omega), if_pos h]
    have HR := Lib.hid hr
    have hn : ¬ x < y := by omega
    clear hr
    go_enter Try.func45, Try.ntmps45
    go_wp2_with fail
    refine (N1.out _).mono ?_
    rintro e w1 ⟨rfl, hg1⟩
    have G1 := Lib.hid hg1
    clear hg1
    go_wp2_with fail
    refine (N2.out _).mono ?_
    rintro e w2 ⟨rfl, hg2⟩
    have G2 := Lib.hid (gb_trans G1.out hg2)
    clear hg2
    go_wp2_with fail
    go_ret
    exact ⟨by rw [HR.out]; rfl, G2.out⟩

/-- cmp.Or of two numbers. -/
theorem libOr (g : Nat) (x y : Int) (w : World) (h0 : w.cell? ⟨g, 0, none⟩ = some (.int .i64 x)) (h1 : w.cell? ⟨g, 1, none⟩ = some (.int .i64 y)) :
    Calls Try.prog 44 #[.slice (some ⟨g, 0, none⟩) 2 2] w (RetI (if x ≠ 0 then x else y) none w) := by
  by_cases hx : x = 0
  · subst hx
    by_cases hy : y = 0
    · subst hy
      have H0 := Lib.hid h0
      have H1 := Lib.hid h1
      clear h0 h1
      go_enter Try.func44, Try.ntmps44
      go_wp2_with fail
      go_loopw [8] (fun i wr => ∃ k m : Nat, i = .int .i64 (k : Int) ∧ k ≤ 2 ∧ wr = w.drewN m) (fun i _ => 2 - (intOf i).toNat)
      case atStart => exact ⟨0, 0, rfl, by omega, rfl⟩
      case round =>
        obtain ⟨k, m, rfl, hk, rfl⟩ := hrel
        have e0 : (w.drewN m).cell? ⟨g, 0, none⟩ = some (.int .i64 0) := H0.out
        have e1 : (w.drewN m).cell? ⟨g, 1, none⟩ = some (.int .i64 0) := H1.out
        rcases (show k = 0 ∨ k = 1 ∨ k = 2 by omega) with rfl | rfl | rfl
        · go_wp2_with fail
          go_roundw
          case rel => exact ⟨1, _, rfl, by omega, rfl⟩
          case measure => simp [intOf]
        · go_wp2_with fail
          go_roundw
          case rel => exact ⟨2, _, rfl, by omega, rfl⟩
          case measure => simp [intOf]
        · go_wp2_with fail
          go_ret
          exact ⟨by simp, gb_drewN (gb_refl _ _) _⟩
    · have H0 := Lib.hid h0
      have H1 := Lib.hid h1
      clear h0 h1
      go_enter Try.func44, Try.ntmps44
      go_wp2_with fail
      go_loopw [8] (fun i wr => ∃ k m : Nat, i = .int .i64 (k : Int) ∧ k ≤ 1 ∧ wr = w.drewN m) (fun i _ => 2 - (intOf i).toNat)
      case atStart => exact ⟨0, 0, rfl, by omega, rfl⟩
      case round =>
        obtain ⟨k, m, rfl, hk, rfl⟩ := hrel
        have e0 : (w.drewN m).cell? ⟨g, 0, none⟩ = some (.int .i64 0) := H0.out
        have e1 : (w.drewN m).cell? ⟨g, 1, none⟩ = some (.int .i64 y) := H1.out
        rcases (show k = 0 ∨ k = 1 by omega) with rfl | rfl
        · go_wp2_with fail
          go_roundw
          case rel => exact ⟨1, _, rfl, by omega, rfl⟩
          case measure => simp [intOf]
        · go_wp2_with fail
          go_ret
          exact ⟨by simp, gb_drewN (gb_refl _ _) _⟩
  · have H0 := Lib.hid h0
    have H1 := Lib.hid h1
    clear h0 h1
    go_enter Try.func44, Try.ntmps44
    go_wp2_with fail
    go_loopw [8] (fun i wr => ∃ m : Nat, i = .int .i64 0 ∧ wr = w.drewN m) (fun i _ => 2 - (intOf i).toNat)
    case atStart => exact ⟨0, rfl, rfl⟩
    case round =>
      obtain ⟨m, rfl, rfl⟩ := hrel
      have e0 : (w.drewN m).cell? ⟨g, 0, none⟩ = some (.int .i64 x) := H0.out
      go_wp2_with fail
      go_ret
      exact ⟨by simp, gb_drewN (gb_refl _ _) _⟩

abbrev twoD (a b : Dep) (w : World) : World := (w.alloc (.cells #[.int .i64 a.1, .int .i64 a.2] 49)).alloc (.cells #[.int .i64 b.1, .int .i64 b.2] 49)
theorem twoD_a (a b : Dep) (w : World) : Blk (twoD a b w) w.heap.size 49 #[.int .i64 a.1, .int .i64 a.2] := (Blk.new w 49 #[.int .i64 a.1, .int .i64 a.2]).alloc _
theorem twoD_b (a b : Dep) (w : World) : Blk (twoD a b w) (w.heap.size + 1) 49 #[.int .i64 b.1, .int .i64 b.2] := by
  have h := Blk.new (w.alloc (.cells #[.int .i64 a.1, .int .i64 a.2] 49)) 49 #[.int .i64 b.1, .int .i64 b.2]
  rw [alloc_size] at h
  exact h
theorem twoD_gb (a b : Dep) (w : World) : w.grownBy (twoD a b w) none := gb_alloc (gb_alloc (gb_refl _ _) _) _

theorem or_c0 (w : World) (x y : Value) (t : TypeId) : (w.alloc (.cells #[x, y] t)).cell? ⟨w.heap.size, 0, none⟩ = some x := by rw [World.cell?_alloc_at (w := w) #[x, y] t w.heap.size 0 rfl]; rfl
theorem or_c1 (w : World) (x y : Value) (t : TypeId) : (w.alloc (.cells #[x, y] t)).cell? ⟨w.heap.size, 1, none⟩ = some y := by rw [World.cell?_alloc_at (w := w) #[x, y] t w.heap.size 1 rfl]; rfl
theorem libOrD (a b : Dep) (r : Int) (hr : cmpD a b = r) (w : World) :
    Calls Try.prog 44 #[.slice (some ⟨w.heap.size, 0, none⟩) 2 2] (w.alloc (.cells #[.int .i64 (cmpI a.1 b.1), .int .i64 (cmpI a.2 b.2)] 3)) (RetI r none (w.alloc (.cells #[.int .i64 (cmpI a.1 b.1), .int .i64 (cmpI a.2 b.2)] 3))) := by
  subst hr
  exact libOr w.heap.size (cmpI a.1 b.1) (cmpI a.2 b.2) _ (or_c0 w _ _ _) (or_c1 w _ _ _)
theorem implCompare (a b : Dep) (w : World) : Calls Try.prog 36 #[.agg #[.int .i64 a.1, .int .i64 a.2], .agg #[.int .i64 b.1, .int .i64 b.2]] w (RetI (cmpD a b) none w) := by
  have C1 := Lib.hid (fun w => libCompare a.1 b.1 w)
  have C2 := Lib.hid (fun w => libCompare a.2 b.2 w)
  obtain ⟨r, hr⟩ : ∃ r, cmpD a b = r := ⟨_, rfl⟩
  have CO := Lib.hid (fun (w : World) => libOrD a b r hr w)
  rw [hr]
  clear hr
  have TA := Lib.hid (twoD_a a b w)
  have TB := Lib.hid (twoD_b a b w)
  have TG := Lib.hid (twoD_gb a b w)
  obtain ⟨a1, a2⟩ := a
  obtain ⟨b1, b2⟩ := b
  have a0 : (twoD (a1, a2) (b1, b2) w).cell? ⟨w.heap.size, 0, none⟩ = some (.int .i64 a1) := TA.out.cell 0
  have a3 : (twoD (a1, a2) (b1, b2) w).cell? ⟨w.heap.size, 1, none⟩ = some (.int .i64 a2) := TA.out.cell 1
  have b0 : (twoD (a1, a2) (b1, b2) w).cell? ⟨w.heap.size + 1, 0, none⟩ = some (.int .i64 b1) := TB.out.cell 0
  have b3 : (twoD (a1, a2) (b1, b2) w).cell? ⟨w.heap.size + 1, 1, none⟩ = some (.int .i64 b2) := TB.out.cell 1
  have G0 := Lib.hid (gb_refl (twoD (a1, a2) (b1, b2) w) none)
  obtain ⟨B, hB⟩ : ∃ B, w.heap.size = B := ⟨_, rfl⟩
  rw [hB] at a0 a3 b0 b3
  go_enter Try.func36, Try.ntmps36
  go_wp2_with fail
  go_region_held3 (fun w' => w'.cell? ⟨B, 0, none⟩ = some (.int .i64 a1) ∧ w'.cell? ⟨B, 1, none⟩ = some (.int .i64 a2) ∧ w'.cell? ⟨B + 1, 0, none⟩ = some (.int .i64 b1) ∧ w'.cell? ⟨B + 1, 1, none⟩ = some (.int .i64 b2))
    (first | exact ⟨a0, a3, b0, b3⟩ | exact ⟨d0, d1, d2, d3⟩ | exact ⟨k0, k1, k2, k3⟩ | exact ⟨f0, f1, f2, f3⟩ | exact ⟨cell_more f0 _, cell_more f1 _, cell_more f2 _, cell_more f3 _⟩ | fail)
    (first
      | (go_at_call 45; (with_reducible refine (C1.out _).mono ?_); rintro e w4 ⟨rfl, hg4⟩; have h4 := gb_dr hg4; have d0 := h4.cell a0 (by simp); have d1 := h4.cell a3 (by simp); have d2 := h4.cell b0 (by simp); have d3 := h4.cell b3 (by simp); have G4 := Lib.hid h4; clear h4 hg4)
      | (go_at_call 45; (with_reducible refine (C2.out _).mono ?_); rintro e w5 ⟨rfl, hg5⟩; have h5 := hg5; have f0 := h5.cell d0 (by simp); have f1 := h5.cell d1 (by simp); have f2 := h5.cell d2 (by simp); have f3 := h5.cell d3 (by simp); have G5 := Lib.hid h5; clear h5 hg5)
      | (go_at_call 44; (with_reducible refine (CO.out _).mono ?_); rintro e w6 ⟨rfl, hg6⟩; have k0 := hg6.cell (cell_more f0 _) (by simp); have k1 := hg6.cell (cell_more f1 _) (by simp); have k2 := hg6.cell (cell_more f2 _) (by simp); have k3 := hg6.cell (cell_more f3 _) (by simp); have G6 := Lib.hid hg6; clear hg6)
      | fail)
  all_goals
    have G7 := Lib.hid (gb_trans TG.out (gb_trans G4.out (gb_trans G5.out (gb_trans (gb_alloc (gb_refl _ _) _) G6.out))))
    clear k0 k1 k2 k3 f0 f1 f2 f3 d0 d1 d2 d3 a0 a3 b0 b3 G4 G5 G6
    go_wp2_with fail
    go_ret
    exact ⟨rfl, G7.out⟩
end Go.Proofs.Ytnielgpcfgfioaa
