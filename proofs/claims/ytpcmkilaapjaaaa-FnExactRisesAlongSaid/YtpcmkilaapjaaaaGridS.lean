/- What is proved here: what the model's GridOk, NodeCount and its test of a node return, for all arguments; only new blocks are written. -/
import Derived.Test.YtpcmkilaapjaaaaGridM
import Derived.Test.YtpcmkilaapjaaaaOwn
namespace Go.Proofs.Ytpcmkilaapjaaaa
open Go.ChangeShapes Go.WideShapes Go.ChangeAt Go.RowKit
set_option linter.unusedVariables false

/-- A grid as a value. -/
def gridV (W H : Int) : Value := .agg #[.int .i64 W, .int .i64 H]
def gridC (W H : Int) : Array Value := #[.int .i64 W, .int .i64 H]

theorem specIn (x lo hi : Int) (w : World) :
    Calls Try.prog 54 #[.int .i64 x, .int .i64 lo, .int .i64 hi] w fun e w' => e = .returned (.bool (decide (lo ≤ x ∧ x ≤ hi))) ∧ w = w' := by
  by_cases h1 : lo ≤ x
  all_goals
    go_enter Try.func54, Try.ntmps54
    go_wp2
    all_goals go_ret
    all_goals exact ⟨ret_bool (by simp <;> omega), rfl⟩

theorem specInV (x lo hi : Int) (b : Bool) (hb : decide (lo ≤ x ∧ x ≤ hi) = b) (w : World) :
    Calls Try.prog 54 #[.int .i64 x, .int .i64 lo, .int .i64 hi] w fun e w' => e = .returned (.bool b) ∧ w = w' := hb ▸ specIn x lo hi w

theorem specGridOk (W H : Int) (w : World) :
    Calls Try.prog 78 #[.agg #[.int .i64 W, .int .i64 H]] w (RetB (okG W H) w) := by
  by_cases h1 : 1 ≤ W ∧ W ≤ 4
  · by_cases h2 : 1 ≤ H ∧ H ≤ 4
    all_goals
      go_enter Try.func78, Try.ntmps78
      go_wp2_with fail
      refine (specInV W 1 4 true (by simpa using h1) _).mono ?_
      rintro e w1 ⟨rfl, rfl⟩
      go_wp2_with fail
      first
      | refine (specInV H 1 4 true (by simpa using h2) _).mono ?_
      | refine (specInV H 1 4 false (by simpa using h2) _).mono ?_
      rintro e w1 ⟨rfl, rfl⟩
      go_wp2_with fail
      go_ret
      exact ⟨ret_bool (by simp [okG]; omega), gb_alloc (gb_refl _ _) _⟩
  · go_enter Try.func78, Try.ntmps78
    go_wp2_with fail
    refine (specInV W 1 4 false (by simpa using h1) _).mono ?_
    rintro e w1 ⟨rfl, rfl⟩
    go_wp2_with fail
    go_ret
    exact ⟨ret_bool (by simp [okG]; omega), gb_alloc (gb_refl _ _) _⟩

theorem box_blk {w w1 : World} {T : TypeId} {cs : Array Value} (h : (w.alloc (.cells cs T)).grownBy w1 none) : Blk w1 w.heap.size T cs := (Blk.new w T cs).grown h (by simp)
theorem box_gb {w w1 : World} {o : Obj} (h : (w.alloc o).grownBy w1 none) : w.grownBy w1 none := gb_trans (gb_alloc (gb_refl _ _) _) h

theorem specNodeCount (W H : Int) (w : World) :
    Calls Try.prog 67 #[.agg #[.int .i64 W, .int .i64 H]] w (RetI (countG W H) none w) := by
  cases hok : okG W H with
  | true =>
    obtain ⟨hW, hH⟩ := okG_cases hok
    have hm : wrap64 (W * H) = countG W H := by
      simp only [countG, hok, if_true]
      rcases hW with rfl | rfl | rfl | rfl <;> rcases hH with rfl | rfl | rfl | rfl <;> exact IntWalk.wrap64_in _ (by omega)
    have Hm := Lib.hid hm
    clear hW hH hm
    go_enter Try.func67, Try.ntmps67
    go_wp2_with fail
    refine (specGridOk W H _).mono ?_
    rintro e w1 ⟨rfl, hg⟩
    have hb := box_blk hg
    have c0 : w1.cell? ⟨w.heap.size, 0, none⟩ = some (.int .i64 W) := hb.cell 0
    have c1 : w1.cell? ⟨w.heap.size, 1, none⟩ = some (.int .i64 H) := hb.cell 1
    have Hg := Lib.hid hg
    clear hg hb
    rw [hok]
    go_wp2_with fail
    go_ret
    exact ⟨ret_int64 (by rw [← Hm.out]), box_gb Hg.out⟩
  | false =>
    go_enter Try.func67, Try.ntmps67
    go_wp2_with fail
    refine (specGridOk W H _).mono ?_
    rintro e w1 ⟨rfl, hg⟩
    rw [hok]
    go_wp2_with fail
    go_ret
    exact ⟨ret_int64 (by simp [countG, hok]), box_gb hg⟩

theorem specHas (W H n : Int) (w : World) :
    Calls Try.prog 79 #[.agg #[.int .i64 W, .int .i64 H], .int .i64 n] w (RetB (hasG W H n) w) := by
  obtain ⟨k, hk⟩ : ∃ k, countG W H = k := ⟨_, rfl⟩
  have hl := countG_le W H
  rw [hk] at hl
  obtain ⟨hl0, hl1⟩ := hl
  go_enter Try.func79, Try.ntmps79
  go_wp2_with fail
  refine (specNodeCount W H _).mono ?_
  rintro e w1 ⟨rfl, hg⟩
  rw [hk]
  go_wp2_with fail
  refine (specInV n 0 _ (hasG W H n) (by unfold hasG; rw [hk]; exact decide_eq_decide.2 (by omega)) _).mono ?_
  rintro e w2 ⟨rfl, rfl⟩
  go_wp2_with fail
  go_ret
  exact ⟨rfl, box_gb hg⟩
theorem specHasV (W H n : Int) (b : Bool) (h : hasG W H n = b) (w : World) :
    Calls Try.prog 79 #[.agg #[.int .i64 W, .int .i64 H], .int .i64 n] w (RetB b w) := h ▸ specHas W H n w
end Go.Proofs.Ytpcmkilaapjaaaa
