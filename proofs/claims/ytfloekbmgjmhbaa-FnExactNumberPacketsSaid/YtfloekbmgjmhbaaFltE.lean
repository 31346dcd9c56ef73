/- What is proved here: the laws' helpers for lists of flits: copy, compare, mark, look for the marks, count; only the marked row and new blocks are written. -/
import Derived.Test.YtfloekbmgjmhbaaFltM
import Derived.Deep.RegionHeld3
import Derived.Deep.MidRow
namespace Go.Proofs.Ytfloekbmgjmhbaa
open Go.ChangeShapes Go.WideShapes Go.ChangeAt Go.RowKit
set_option linter.unusedVariables false
set_option maxRecDepth 20000

theorem gb_drF {a b : World} {row : Option Nat} (h : a.drew.grownBy b row) : a.grownBy b row := ⟨h.os, h.tape, h.output, h.size, h.block⟩
theorem info_flt : (Try.prog.info? 120).map (fun i => (i.zero, i.size, i.bytes)) = some (some (fltX flt0), 5, 32) := by kernel_rfl
theorem lawsToFlit (x : Flt) (w : World) :
    Calls Try.prog 114 #[fltX x] w fun e w' => e = .returned (fltX x) ∧ w.grownBy w' none := by
  unfold fltX
  go_enter Try.func114, Try.ntmps114
  go_wp2_with fail
  refine bodyPost_ret (v := .agg #[.int .i64 x.pk, .int .i64 x.to, .int .i64 x.cl, .bool x.hd, .bool x.tl]) (by simp [results, Try.results114, go_sem]) rfl ⟨rfl, ?_⟩
  exact gb_alloc (gb_alloc (gb_alloc (gb_refl _ _) _) _) _
theorem lawsEqFlit (x : Flt) (w : World) :
    Calls Try.prog 115 #[fltX x, fltX x] w (RetB true w) := by
  unfold fltX
  go_enter Try.func115, Try.ntmps115
  go_wp2_with fail
  go_ret
  exact ⟨rfl, gb_alloc (gb_alloc (gb_refl _ _) _) _⟩
theorem lawsSzF (A : Option Addr) (n cap : Nat) (m : Int) (w : World) (hn : n ≤ 9223372036854775807) (hm0 : 0 ≤ m) (hm1 : m ≤ 1048576) :
    Calls Try.prog 84 #[.slice A n cap, .int .i64 m] w fun e w' => e = .returned (.int .i64 (if m < (n : Int) then -1 else m - n)) ∧ w.grownBy w' none := by
  by_cases hlt : m < (n : Int)
  · go_enter Try.func84, Try.ntmps84
    go_wp2_with fail
    go_ret
    exact ⟨ret_int64 (by (repeat' split) <;> first | rfl | omega), gb_refl _ _⟩
  · go_enter Try.func84, Try.ntmps84
    go_wp2_with fail
    go_ret
    exact ⟨ret_int64 (by (repeat' split) <;> first | rfl | omega), gb_refl _ _⟩

/-- The five cells of a record. -/
theorem flt_five {w : World} {b o : Nat} {x : Flt} (h : ∀ j v, (fltC x)[j]? = some v → w.cell? ⟨b, o + j, none⟩ = some v) :
    w.cell? ⟨b, o, none⟩ = some (.int .i64 x.pk) ∧ w.cell? ⟨b, o + 1, none⟩ = some (.int .i64 x.to) ∧ w.cell? ⟨b, o + 2, none⟩ = some (.int .i64 x.cl) ∧ w.cell? ⟨b, o + 3, none⟩ = some (.bool x.hd) ∧ w.cell? ⟨b, o + 4, none⟩ = some (.bool x.tl) :=
  ⟨h 0 _ rfl, h 1 _ rfl, h 2 _ rfl, h 3 _ rfl, h 4 _ rfl⟩
theorem lawsEqF (A1 A2 : Option Addr) (n c1 c2 : Nat) (D : List Flt) (w : World) (h1 : RecAt 5 fltC w w.heap.size A1 n D) (h2 : RecAt 5 fltC w w.heap.size A2 n D) (hn : n ≤ 1000000000) :
    Calls Try.prog 98 #[.slice A1 n c1, .slice A2 n c2] w (RetB true w) := by
  have H1 := Lib.hid h1
  have H2 := Lib.hid h2
  have HE := Lib.hid (fun x w => lawsEqFlit x w)
  clear h1 h2
  go_enter Try.func98, Try.ntmps98
  go_wp2_with fail
  go_loopw [5] (fun i wr => ∃ k : Nat, i = .int .i64 (k : Int) ∧ k ≤ n ∧ w.grownBy wr none) (fun i _ => n - (intOf i).toNat)
  case atStart => exact ⟨0, rfl, Nat.zero_le _, gb_refl _ _⟩
  case round =>
    obtain ⟨k, rfl, hk, hg⟩ := hrel
    have HG := Lib.hid hg
    by_cases hlt : k < n
    · obtain ⟨g1, o1, x, rfl, _, hx, ha⟩ := (H1.out.none (Nat.le_refl _) hg).at k hlt
      obtain ⟨g2, o2, y, rfl, _, hy, hb⟩ := (H2.out.none (Nat.le_refl _) hg).at k hlt
      obtain rfl : x = y := by rw [hx] at hy; exact Option.some.inj hy
      obtain ⟨a0, a1, a2, a3, a4⟩ := flt_five ha
      obtain ⟨b0, b1, b2, b3, b4⟩ := flt_five hb
      have k0 : (0 : Int) ≤ (k : Int) := by omega
      have k1 : (k : Int) < (n : Int) := by omega
      clear hx hy ha hb hg
      go_wp2_with fail
      go_region_held3 (fun w' => w'.cell? ⟨g1, o1 + k * 5, none⟩ = some (.int .i64 x.pk) ∧ w'.cell? ⟨g1, o1 + k * 5 + 1, none⟩ = some (.int .i64 x.to) ∧ w'.cell? ⟨g1, o1 + k * 5 + 2, none⟩ = some (.int .i64 x.cl) ∧ w'.cell? ⟨g1, o1 + k * 5 + 3, none⟩ = some (.bool x.hd) ∧ w'.cell? ⟨g1, o1 + k * 5 + 4, none⟩ = some (.bool x.tl) ∧ w'.cell? ⟨g2, o2 + k * 5, none⟩ = some (.int .i64 x.pk) ∧ w'.cell? ⟨g2, o2 + k * 5 + 1, none⟩ = some (.int .i64 x.to) ∧ w'.cell? ⟨g2, o2 + k * 5 + 2, none⟩ = some (.int .i64 x.cl) ∧ w'.cell? ⟨g2, o2 + k * 5 + 3, none⟩ = some (.bool x.hd) ∧ w'.cell? ⟨g2, o2 + k * 5 + 4, none⟩ = some (.bool x.tl))
        (first | exact ⟨a0, a1, a2, a3, a4, b0, b1, b2, b3, b4⟩ | exact ⟨d0, d1, d2, d3, d4, e0, e1, e2, e3, e4⟩ | fail)
        (first
          | (go_at_call 115; (with_reducible refine (HE.out x _).mono ?_); rintro e w4 ⟨rfl, hg4⟩; have h4 := gb_drF hg4; have d0 := h4.cell a0 (by simp); have d1 := h4.cell a1 (by simp); have d2 := h4.cell a2 (by simp); have d3 := h4.cell a3 (by simp); have d4 := h4.cell a4 (by simp); have e0 := h4.cell b0 (by simp); have e1 := h4.cell b1 (by simp); have e2 := h4.cell b2 (by simp); have e3 := h4.cell b3 (by simp); have e4 := h4.cell b4 (by simp); have G4 := Lib.hid (gb_trans HG.out h4); clear h4 hg4)
          | fail)
      all_goals
        clear d0 d1 d2 d3 d4 e0 e1 e2 e3 e4 a0 a1 a2 a3 a4 b0 b1 b2 b3 b4
        go_wp2_with fail
        go_roundw
        case rel => exact ⟨k + 1, by go_num, by omega, G4.out⟩
        case measure => simp [intOf]; omega
    · obtain rfl : k = n := by omega
      clear hg
      go_wp2_with fail
      go_ret
      exact ⟨rfl, HG.out⟩
theorem lawsEqOwnF (v1 v2 : Value) (b1 b2 : Nat) (D : List Flt) (w : World) (h1 : w.ownsRow b1 120 5 v1 D.length (recV fltC D)) (h2 : w.ownsRow b2 120 5 v2 D.length (recV fltC D)) (hn : D.length ≤ 1000000000) :
    Calls Try.prog 98 #[v1, v2] w (RetB true w) := by
  obtain ⟨A1, c1, rfl, _⟩ := own_form h1
  obtain ⟨A2, c2, rfl, _⟩ := own_form h2
  exact lawsEqF A1 A2 D.length c1 c2 D w (recAt_own fltL (by decide) h1 (Nat.le_refl _)) (recAt_own fltL (by decide) h2 (Nat.le_refl _)) hn
end Go.Proofs.Ytfloekbmgjmhbaa
