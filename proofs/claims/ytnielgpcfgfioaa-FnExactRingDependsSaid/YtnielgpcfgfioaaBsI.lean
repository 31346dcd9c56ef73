/- What is proved here: what the library's binary search finds in an ascending list of dependencies, with the program's comparison; only new blocks are written. -/
import Derived.Test.YtnielgpcfgfioaaDepI
import Derived.Test.YtnielgpcfgfioaaCmpI
import Derived.Shelf.Abstract
namespace Go.Proofs.Ytnielgpcfgfioaa
open Go.ChangeShapes Go.WideShapes Go.ChangeAt Go.RowKit
set_option linter.unusedVariables false
set_option maxRecDepth 20000

/-- Where d belongs, and whether it is there. -/
def RetBs (D : List Dep) (d : Dep) (w : World) (e : Ending) (w' : World) : Prop :=
  e = .returned (.tuple #[.int .i64 (lowN D d : Nat), .bool (decide (d ∈ D))]) ∧ w.grownBy w' none
/-- The search has come to lo and hi. -/
def srchD (D : List Dep) (d : Dep) (lo hi : Nat) : Prop := lo ≤ hi ∧ hi ≤ D.length ∧ (∀ t, t < lo → ltD (atD D t) d = true) ∧ (∀ t, hi ≤ t → t < D.length → ltD (atD D t) d = false)
theorem srch_up {D : List Dep} (hD : ascD D) {d : Dep} {lo hi i : Nat} (h : srchD D d lo hi) (hi1 : i < hi) (hlt : ltD (atD D i) d = true) : srchD D d (i + 1) hi :=
  ⟨hi1, h.2.1, fun t ht => by
    rcases Nat.lt_or_eq_of_le (Nat.le_of_lt_succ ht) with h1 | h1
    · exact ltD_trans (asc_at hD h1 (by have := h.2.1; omega)) hlt
    · rw [h1]; exact hlt, h.2.2.2⟩
theorem srch_down {D : List Dep} (hD : ascD D) {d : Dep} {lo hi i : Nat} (h : srchD D d lo hi) (h1 : lo ≤ i) (h2 : i < hi) (hlt : ltD (atD D i) d = false) : srchD D d lo i :=
  ⟨h1, by have := h.2.1; omega, h.2.2.1, fun t ht htn => by
    rcases Nat.lt_or_eq_of_le ht with h3 | h3
    · cases h4 : ltD (atD D t) d with
      | false => rfl
      | true => rw [ltD_trans (asc_at hD h3 htn) h4] at hlt; cases hlt
    · rw [← h3]; exact hlt⟩
theorem srch_end {D : List Dep} {d : Dep} {lo : Nat} (h : srchD D d lo lo) : lowN D d = lo := lowN_of h.2.1 h.2.2.1 (fun hlt => h.2.2.2 lo (Nat.le_refl _) hlt)

theorem ret_bs {D : List Dep} {d : Dep} {k : Nat} {b : Bool} (h : lowN D d = k) (hb : b = decide (d ∈ D)) : Ending.returned (.tuple #[.int .i64 (k : Int), .bool b]) = .returned (.tuple #[.int .i64 (lowN D d : Nat), .bool (decide (d ∈ D))]) := by rw [h, hb]
theorem libSearch (A : Option Addr) (n cap : Nat) (D : List Dep) (d : Dep) (hD : ascD D) (w : World) (h : DepAt w w.heap.size A n D) (hn : n ≤ 4000000000) :
    Calls Try.prog 42 #[.slice A n cap, .agg #[.int .i64 d.1, .int .i64 d.2], .func (.func 36) #[] #[]] w (RetBs D d w) := by
  have HI := Lib.hid h
  have hl := h.1
  have HC := Lib.hid (fun (a : Dep) w => implCompare a d w)
  have BG := Lib.hid (boxD_gb d w)
  have BB := Lib.hid (boxD_blk d w)
  have HASC := Lib.hid hD
  have HTI := Lib.hid (there_iff hD (d := d))
  have eg : ∀ args w, (callFunc 36 args).run Try.prog w = .ok (.enter 36 args) w := fun args w => Try.call36 args w
  clear h hD
  go_enter Try.func42, Try.ntmps42
  go_wp2_with fail
  go_loopw [9, 10] (fun i j wr => ∃ lo hi : Nat, i = .int .i64 (lo : Int) ∧ j = .int .i64 (hi : Int) ∧ srchD D d lo hi ∧ (boxD d w).grownBy wr none) (fun i j _ => (intOf j).toNat - (intOf i).toNat)
  case atStart => exact ⟨0, n, rfl, rfl, ⟨Nat.zero_le _, by omega, fun t ht => by omega, fun t h1 h2 => by omega⟩, gb_refl _ _⟩
  case round =>
    obtain ⟨lo, hi, rfl, rfl, hs, hg⟩ := hrel
    have HS := Lib.hid hs
    have HG := Lib.hid hg
    have bb := BB.out.grown hg (by simp)
    have t0 : wr.cell? ⟨w.heap.size, 0, none⟩ = some (.int .i64 d.1) := bb.cell 0
    have t1 : wr.cell? ⟨w.heap.size, 1, none⟩ = some (.int .i64 d.2) := bb.cell 1
    have hlh := hs.1
    have hhn := hs.2.1
    have hai := HI.out.none (Nat.le_refl _) (gb_trans BG.out hg)
    clear bb hs hg
    by_cases hlt : lo < hi
    · obtain ⟨m, hm⟩ : ∃ m, (lo + hi) / 2 = m := ⟨_, rfl⟩
      have hmi : ((lo : Int) + (hi : Int)) / 2 = (m : Int) := by omega
      obtain ⟨b, off, rfl, hb, c0, c1⟩ := hai.at m (by omega)
      obtain ⟨x, hx⟩ : ∃ x, atD D m = x := ⟨_, rfl⟩
      rw [hx] at c0 c1
      have m0 : (0 : Int) ≤ (m : Int) := by omega
      have m1 : (m : Int) < (n : Int) := by omega
      have HX := Lib.hid hx
      have HM := Lib.hid (show lo ≤ m ∧ m < hi by omega)
      clear hx hm hai
      obtain ⟨r, hr⟩ : ∃ r, cmpD x d = r := ⟨_, rfl⟩
      have HX2 := Lib.hid (fun w => show Calls _ _ _ w (RetI r none w) from hr ▸ HC.out x w)
      by_cases hc : r < 0
      · have HL := Lib.hid (cmpD_neg.1 (show cmpD x d < 0 by omega))
        clear hr
        go_wp2_with fail
        go_region_held3 (fun w' => w'.cell? ⟨w.heap.size, 0, none⟩ = some (.int .i64 d.1) ∧ w'.cell? ⟨w.heap.size, 1, none⟩ = some (.int .i64 d.2) ∧ w'.cell? ⟨b, off + m * 2, none⟩ = some (.int .i64 x.1) ∧ w'.cell? ⟨b, off + m * 2 + 1, none⟩ = some (.int .i64 x.2))
          (first | exact ⟨t0, t1, c0, c1⟩ | exact ⟨d0, d1, d2, d3⟩ | fail)
          (first
            | (go_at_fn 36; (with_reducible refine (HX2.out _).mono ?_); rintro e w4 ⟨rfl, hg4⟩; have h4 := gb_dr hg4; have d0 := h4.cell t0 (by simp); have d1 := h4.cell t1 (by simp); have d2 := h4.cell c0 (by simp); have d3 := h4.cell c1 (by simp); have G4 := Lib.hid (gb_trans HG.out h4); clear h4 hg4)
            | fail)
        all_goals
          clear d0 d1 d2 d3 t0 t1 c0 c1
          go_wp2_with fail
          go_roundw
          case rel => exact ⟨m + 1, hi, by go_num, rfl, srch_up HASC.out HS.out HM.out.2 (by rw [HX.out]; exact HL.out), G4.out⟩
          case measure => have := HM.out; simp [intOf]; omega
      · have HL := Lib.hid (show ltD x d = false by
          cases h : ltD x d with
          | false => rfl
          | true => have := cmpD_neg.2 h; omega)
        clear hr
        go_wp2_with fail
        go_region_held3 (fun w' => w'.cell? ⟨w.heap.size, 0, none⟩ = some (.int .i64 d.1) ∧ w'.cell? ⟨w.heap.size, 1, none⟩ = some (.int .i64 d.2) ∧ w'.cell? ⟨b, off + m * 2, none⟩ = some (.int .i64 x.1) ∧ w'.cell? ⟨b, off + m * 2 + 1, none⟩ = some (.int .i64 x.2))
          (first | exact ⟨t0, t1, c0, c1⟩ | exact ⟨d0, d1, d2, d3⟩ | fail)
          (first
            | (go_at_fn 36; (with_reducible refine (HX2.out _).mono ?_); rintro e w4 ⟨rfl, hg4⟩; have h4 := gb_dr hg4; have d0 := h4.cell t0 (by simp); have d1 := h4.cell t1 (by simp); have d2 := h4.cell c0 (by simp); have d3 := h4.cell c1 (by simp); have G4 := Lib.hid (gb_trans HG.out h4); clear h4 hg4)
            | fail)
        all_goals
          clear d0 d1 d2 d3 t0 t1 c0 c1
          go_wp2_with fail
          go_roundw
          case rel => exact ⟨lo, m, rfl, rfl, srch_down HASC.out HS.out HM.out.1 HM.out.2 (by rw [HX.out]; exact HL.out), G4.out⟩
          case measure => have := HM.out; simp [intOf]; omega
    · obtain rfl : hi = lo := by omega
      have hlow := srch_end HS.out
      by_cases hin : hi < n
      · obtain ⟨b, off, rfl, hb, c0, c1⟩ := hai.at hi hin
        obtain ⟨x, hx⟩ : ∃ x, atD D hi = x := ⟨_, rfl⟩
        rw [hx] at c0 c1
        obtain ⟨r, hr⟩ : ∃ r, cmpD x d = r := ⟨_, rfl⟩
        have HX2 := Lib.hid (fun w => show Calls _ _ _ w (RetI r none w) from hr ▸ HC.out x w)
        have hrd : decide (r = 0) = decide (d ∈ D) := decide_eq_decide.2 (by
          rw [← hr, cmpD_zero, HTI.out, hlow, hx]
          exact ⟨fun e => ⟨by omega, e⟩, fun e => e.2⟩)
        have HRD := Lib.hid hrd
        have HLOW := Lib.hid hlow
        have m0 : (0 : Int) ≤ (hi : Int) := by omega
        have m1 : (hi : Int) < (n : Int) := by omega
        have hd : decide ((hi : Int) < (n : Int)) = true := decide_eq_true m1
        clear hx hr hlow hrd hai hlt hin
        go_wp2_with fail
        go_region_held3 (fun w' => w'.cell? ⟨w.heap.size, 0, none⟩ = some (.int .i64 d.1) ∧ w'.cell? ⟨w.heap.size, 1, none⟩ = some (.int .i64 d.2) ∧ w'.cell? ⟨b, off + hi * 2, none⟩ = some (.int .i64 x.1) ∧ w'.cell? ⟨b, off + hi * 2 + 1, none⟩ = some (.int .i64 x.2))
          (first | exact ⟨t0, t1, c0, c1⟩ | exact ⟨d0, d1, d2, d3⟩ | fail)
          (first
            | (go_at_fn 36; (with_reducible refine (HX2.out _).mono ?_); rintro e w4 ⟨rfl, hg4⟩; have h4 := gb_dr hg4; have d0 := h4.cell t0 (by simp); have d1 := h4.cell t1 (by simp); have d2 := h4.cell c0 (by simp); have d3 := h4.cell c1 (by simp); have G4 := Lib.hid (gb_trans HG.out h4); clear h4 hg4)
            | fail)
        all_goals
          clear d0 d1 d2 d3 t0 t1 c0 c1
          go_wp2_with fail
          go_ret2
          exact ⟨ret_bs HLOW.out HRD.out, gb_trans BG.out G4.out⟩
      · have hd : decide ((hi : Int) < (n : Int)) = false := decide_eq_false (by omega)
        have hno : ¬ d ∈ D := fun h => by have := (HTI.out.1 h).1; omega
        have HN := Lib.hid hno
        have HLOW := Lib.hid hlow
        clear hno hlow hai
        go_wp2_with fail
        go_quiet (fail)
        all_goals
          go_wp2_with fail
          go_ret2
          exact ⟨ret_bs HLOW.out (decide_eq_false HN.out).symm, gb_trans BG.out (gb_drewN HG.out _)⟩
end Go.Proofs.Ytnielgpcfgfioaa
