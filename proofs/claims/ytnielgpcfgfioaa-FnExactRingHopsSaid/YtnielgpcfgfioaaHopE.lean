/- What is proved here: the laws' helpers for lists of hops: compare, mark, look for the marks, count; only the marked row and new blocks are written. -/
import Derived.Test.YtnielgpcfgfioaaHopI
namespace Go.Proofs.Ytnielgpcfgfioaa
open Go.ChangeShapes Go.WideShapes Go.ChangeAt Go.RowKit
set_option linter.unusedVariables false
set_option maxRecDepth 20000

theorem lawsEqHop (x y : Int) (w : World) :
    Calls Try.prog 31 #[.agg #[.int .i64 x, .int .i64 y], .agg #[.int .i64 x, .int .i64 y]] w (RetB true w) := by
  go_enter Try.func31, Try.ntmps31
  go_wp2_with fail
  go_ret
  exact ⟨rfl, gb_alloc (gb_alloc (gb_refl _ _) _) _⟩
theorem lawsEqHp (A1 A2 : Option Addr) (n c1 c2 : Nat) (D : List Dep) (w : World) (h1 : DepAt w w.heap.size A1 n D) (h2 : DepAt w w.heap.size A2 n D) (hn : n ≤ 1000000000) :
    Calls Try.prog 16 #[.slice A1 n c1, .slice A2 n c2] w (RetB true w) := by
  have H1 := Lib.hid h1
  have H2 := Lib.hid h2
  have HE := Lib.hid (fun x y w => lawsEqHop x y w)
  clear h1 h2
  go_enter Try.func16, Try.ntmps16
  go_wp2_with fail
  go_loopw [5] (fun i wr => ∃ k : Nat, i = .int .i64 (k : Int) ∧ k ≤ n ∧ w.grownBy wr none) (fun i _ => n - (intOf i).toNat)
  case atStart => exact ⟨0, rfl, Nat.zero_le _, gb_refl _ _⟩
  case round =>
    obtain ⟨k, rfl, hk, hg⟩ := hrel
    have HG := Lib.hid hg
    by_cases hlt : k < n
    · obtain ⟨g1, o1, rfl, _, a0, a1⟩ := (H1.out.none (Nat.le_refl _) hg).at k hlt
      obtain ⟨g2, o2, rfl, _, b0, b1⟩ := (H2.out.none (Nat.le_refl _) hg).at k hlt
      obtain ⟨x, hx⟩ : ∃ x, atD D k = x := ⟨_, rfl⟩
      rw [hx] at a0 a1 b0 b1
      have k0 : (0 : Int) ≤ (k : Int) := by omega
      have k1 : (k : Int) < (n : Int) := by omega
      clear hx hg
      go_wp2_with fail
      go_region_held3 (fun w' => w'.cell? ⟨g1, o1 + k * 2, none⟩ = some (.int .i64 x.1) ∧ w'.cell? ⟨g1, o1 + k * 2 + 1, none⟩ = some (.int .i64 x.2) ∧ w'.cell? ⟨g2, o2 + k * 2, none⟩ = some (.int .i64 x.1) ∧ w'.cell? ⟨g2, o2 + k * 2 + 1, none⟩ = some (.int .i64 x.2))
        (first | exact ⟨a0, a1, b0, b1⟩ | exact ⟨d0, d1, d2, d3⟩ | fail)
        (first
          | (go_at_call 31; (with_reducible refine (HE.out x.1 x.2 _).mono ?_); rintro e w4 ⟨rfl, hg4⟩; have h4 := gb_drD hg4; have d0 := h4.cell a0 (by simp); have d1 := h4.cell a1 (by simp); have d2 := h4.cell b0 (by simp); have d3 := h4.cell b1 (by simp); have G4 := Lib.hid (gb_trans HG.out h4); clear h4 hg4)
          | fail)
      all_goals
        clear d0 d1 d2 d3 a0 a1 b0 b1
        go_wp2_with fail
        go_roundw
        case rel => exact ⟨k + 1, by go_num, by omega, G4.out⟩
        case measure => simp [intOf]; omega
    · obtain rfl : k = n := by omega
      clear hg
      go_wp2_with fail
      go_ret
      exact ⟨rfl, HG.out⟩

theorem lawsMarkHp (v : Value) (base n k0 : Nat) (l : List Dep) (w : World) (h : w.ownsRow base 31 2 v n (depV l)) (hk : k0 + n * 2 ≤ 1000000000) :
    Calls Try.prog 17 #[v, .int .i64 (k0 : Int)] w fun e w' => e = .returned (.int .i64 ((k0 + n * 2 : Nat) : Int)) ∧ w'.ownsRow base 31 2 v n (depV (marksD k0 n)) ∧ w.grownBy w' v.ownBlock := by
  have hxl := own_hop_length h
  obtain ⟨A, cap, rfl, ha⟩ := own_form h
  have h' := h
  rw [← markD_zero k0 n l hxl] at h'
  clear h hxl
  have H0 := Lib.hid h'
  clear h'
  go_enter Try.func17, Try.ntmps17
  go_wp2_with fail
  go_loopw [1, 5] (fun q i wr => ∃ j : Nat, j ≤ n ∧ q = .int .i64 ((k0 + j * 2 : Nat) : Int) ∧ i = .int .i64 (j : Int) ∧ wr.ownsRow base 31 2 (.slice A n cap) n (depV (markD k0 n j l)) ∧ w.grownBy wr (Value.slice A n cap).ownBlock) (fun _ i _ => n - (intOf i).toNat)
  case atStart => exact ⟨0, Nat.zero_le _, rfl, rfl, H0.out, gb_refl _ _⟩
  case round =>
    obtain ⟨j, hj, rfl, rfl, hown, hgr⟩ := hrel
    have HG := Lib.hid hgr
    clear hgr
    by_cases hlt : j < n
    · obtain ⟨g, rfl⟩ := ha (by omega)
      clear ha
      obtain ⟨y, hy⟩ : ∃ y : Nat, k0 + j * 2 = y := ⟨_, rfl⟩
      have hc0 := hown.cellAt (j * 2) (by omega)
      rw [List.getElem?_eq_getElem (by rw [depV_length, markD_length]; omega)] at hc0
      have hc1 := hown.cellAt (j * 2 + 1) (by omega)
      rw [List.getElem?_eq_getElem (by rw [depV_length, markD_length]; omega)] at hc1
      have hf0 := hown.frozenAt (j * 2)
      have hf1 := hown.frozenAt (j * 2 + 1)
      obtain ⟨hown1, hg1⟩ := hown.stored (j * 2) (.int .i64 (y : Int))
      have hd1 := hown1.cellAt (j * 2 + 1) (by omega)
      rw [List.getElem?_eq_getElem (by rw [List.length_set, depV_length, markD_length]; omega)] at hd1
      have hf2 := hown1.frozenAt (j * 2 + 1)
      obtain ⟨hown2, hg2⟩ := hown1.stored (j * 2 + 1) (.int .i64 ((y + 1 : Nat) : Int))
      have hms := markD_succ k0 n j l
      rw [hy] at hms
      rw [depV_set, hms] at hown2
      have HOWN := Lib.hid hown2
      have HGG := Lib.hid (gb_trans HG.out (gb_trans hg1 hg2))
      have HY := Lib.hid hy
      have j0 : (0 : Int) ≤ (j : Int) := by omega
      have j1 : (j : Int) < (n : Int) := by omega
      rw [hy]
      have hy9 : y + 2 ≤ 1000000002 := by omega
      clear hown hown1 hown2 hg1 hg2 hms hy
      go_wp2_with fail
      go_roundw
      case rel => exact ⟨j + 1, by omega, by have := HY.out; go_num, by go_num, HOWN.out, HGG.out⟩
      case measure => simp [intOf]; omega
    · obtain rfl : j = n := by omega
      rw [markD_all] at hown
      have HOWN := Lib.hid hown
      clear hown
      go_wp2_with fail
      go_ret
      exact ⟨rfl, HOWN.out, HG.out⟩

/-- The same for rows of the call's own. -/
theorem lawsEqOwnHp (v1 v2 : Value) (b1 b2 : Nat) (D : List Dep) (w : World) (h1 : w.ownsRow b1 31 2 v1 D.length (depV D)) (h2 : w.ownsRow b2 31 2 v2 D.length (depV D)) (hn : D.length ≤ 1000000000) :
    Calls Try.prog 16 #[v1, v2] w (RetB true w) := by
  obtain ⟨A1, c1, rfl, _⟩ := own_form h1
  obtain ⟨A2, c2, rfl, _⟩ := own_form h2
  exact lawsEqHp A1 A2 D.length c1 c2 D w (hopAt_own h1 (Nat.le_refl _)) (hopAt_own h2 (Nat.le_refl _)) hn
end Go.Proofs.Ytnielgpcfgfioaa
