/- What is proved here: what the model's port of a standard table returns, for nodes that exist; only new blocks are written. -/
import Derived.Test.YtecaehkckamhkaaStdM
import Derived.Test.YtecaehkckamhkaaGridS
namespace Go.Proofs.Ytecaehkckamhkaa
open Go.ChangeShapes Go.WideShapes Go.ChangeAt Go.RowKit
set_option linter.unusedVariables false
set_option linter.unusedSimpArgs false

theorem specColumn (x u : Int) (w : World) :
    Calls Try.prog 123 #[.int .i64 x, .int .i64 u] w fun e w' => e = .returned (.int .i64 (colPort x u)) ∧ w = w' := by
  by_cases h : u < x
  all_goals
    go_enter Try.func123, Try.ntmps123
    go_wp2_with fail
    go_ret
    exact ⟨ret_int64 (by simp [colPort, h]), rfl⟩
theorem specRow (y v : Int) (w : World) :
    Calls Try.prog 124 #[.int .i64 y, .int .i64 v] w fun e w' => e = .returned (.int .i64 (rowPort y v)) ∧ w = w' := by
  by_cases h : v < y
  all_goals
    go_enter Try.func124, Try.ntmps124
    go_wp2_with fail
    go_ret
    exact ⟨ret_int64 (by simp [rowPort, h]), rfl⟩

set_option maxRecDepth 100000 in
set_option maxHeartbeats 1600000 in
theorem specStdPort (W H r a b : Int) (hr1 : 1 ≤ r) (hr4 : r ≤ 4) (ha : hasG W H a = true) (hb : hasG W H b = true) (w : World) :
    Calls Try.prog 114 #[.agg #[.int .i64 W, .int .i64 H], .int .i64 r, .int .i64 a, .int .i64 b] w (RetI (stdPort W r a b) none w) := by
  obtain ⟨hW, hH⟩ := okG_cases (hasG_ok ha).1
  obtain ⟨a0, a1⟩ := hasG_le ha
  obtain ⟨b0, b1⟩ := hasG_le hb
  have qa := row_wrap a0 a1 hW
  have qb := row_wrap b0 b1 hW
  obtain ⟨res, hres⟩ : ∃ p, stdPort W r a b = p := ⟨_, rfl⟩
  rw [hres]
  have hS := hres
  unfold stdPort at hS
  obtain ⟨p1, p2, p3, p4, _⟩ := place_of ha
  obtain ⟨s1, s2, s3, s4, _⟩ := place_of hb
  obtain ⟨x, hx⟩ : ∃ x, a % W = x := ⟨_, rfl⟩
  obtain ⟨y, hy⟩ : ∃ y, a / W = y := ⟨_, rfl⟩
  obtain ⟨u, hu⟩ : ∃ u, b % W = u := ⟨_, rfl⟩
  obtain ⟨v, hv⟩ : ∃ v, b / W = v := ⟨_, rfl⟩
  rw [hx, hy, hu, hv] at hS
  have hW1 : 1 ≤ W ∧ W ≤ 4 := by omega
  have hH2 : H ≤ 4 := by omega
  obtain ⟨hWa, hWb⟩ := hW1
  have da : a.tdiv W = y := by rw [Int.tdiv_eq_ediv_of_nonneg a0]; exact hy
  have db : b.tdiv W = v := by rw [Int.tdiv_eq_ediv_of_nonneg b0]; exact hv
  have ta : a.tmod W = x := by rw [Int.tmod_eq_emod_of_nonneg a0]; exact hx
  have tb : b.tmod W = u := by rw [Int.tmod_eq_emod_of_nonneg b0]; exact hu
  rw [hx] at p1 p2
  rw [hy] at p3 p4 qa
  rw [hu] at s1 s2
  rw [hv] at s3 s4 qb
  have hWn : W ≠ 0 := by omega
  clear hW hH hres hy hv
  by_cases hab : a = b
  · have hq : (a == b) = true := by simpa using hab
    rw [if_pos hab] at hS
    have HS := Lib.hid hS
    clear hab hS da db qa qb ta tb
    go_enter Try.func114, Try.ntmps114
    go_wp2_with fail
    go_ret
    exact ⟨ret_int64 HS.out, gb_alloc (gb_refl _ _) _⟩
  · have hq : (a == b) = false := by simpa using hab
    rw [if_neg hab] at hS
    clear hab
    have hr : r = 1 ∨ r = 2 ∨ r = 3 ∨ r = 4 := by omega
    clear hr1 hr4
    rcases hr with rfl | rfl | rfl | rfl
    · by_cases hc : x = u
      · have hf : firstG (mixRule 1 b) x y u v = false := by simp [firstG, mixRule, hc]
        have hb1 : (x != u) = false := by simpa using hc
        rw [hf] at hS
        simp only [if_true, if_false, Bool.false_eq_true] at hS
        have HS := Lib.hid hS
        clear hf hS hc
        go_enter Try.func114, Try.ntmps114
        go_wp2_with fail
        refine (specRow y v _).mono ?_
        rintro e w1 ⟨rfl, rfl⟩
        go_wp2_with fail
        go_ret
        exact ⟨ret_int64 HS.out, gb_alloc (gb_refl _ _) _⟩
      · have hf : firstG (mixRule 1 b) x y u v = true := by simp [firstG, mixRule, hc]
        have hb1 : (x != u) = true := by simpa using hc
        rw [hf] at hS
        simp only [if_true] at hS
        have HS := Lib.hid hS
        clear hf hS hc
        go_enter Try.func114, Try.ntmps114
        go_wp2_with fail
        refine (specColumn x u _).mono ?_
        rintro e w1 ⟨rfl, rfl⟩
        go_wp2_with fail
        go_ret
        exact ⟨ret_int64 HS.out, gb_alloc (gb_refl _ _) _⟩
    · by_cases hc : y = v
      · have hf : firstG (mixRule 2 b) x y u v = true := by simp [firstG, mixRule, hc]
        have hb1 : (y == v) = true := by simpa using hc
        rw [hf] at hS
        simp only [if_true] at hS
        have HS := Lib.hid hS
        clear hf hS hc
        go_enter Try.func114, Try.ntmps114
        go_wp2_with fail
        refine (specColumn x u _).mono ?_
        rintro e w1 ⟨rfl, rfl⟩
        go_wp2_with fail
        go_ret
        exact ⟨ret_int64 HS.out, gb_alloc (gb_refl _ _) _⟩
      · have hf : firstG (mixRule 2 b) x y u v = false := by simp [firstG, mixRule, hc]
        have hb1 : (y == v) = false := by simpa using hc
        rw [hf] at hS
        simp only [if_true, if_false, Bool.false_eq_true] at hS
        have HS := Lib.hid hS
        clear hf hS hc
        go_enter Try.func114, Try.ntmps114
        go_wp2_with fail
        refine (specRow y v _).mono ?_
        rintro e w1 ⟨rfl, rfl⟩
        go_wp2_with fail
        go_ret
        exact ⟨ret_int64 HS.out, gb_alloc (gb_refl _ _) _⟩
    · by_cases hc : u < x
      · have hf : firstG (mixRule 3 b) x y u v = true := by simp [firstG, mixRule, hc]
        rw [hf] at hS
        simp only [if_true] at hS
        have HS := Lib.hid hS
        clear hf hS
        go_enter Try.func114, Try.ntmps114
        go_wp2_with fail
        refine (specColumn x u _).mono ?_
        rintro e w1 ⟨rfl, rfl⟩
        go_wp2_with fail
        go_ret
        exact ⟨ret_int64 HS.out, gb_alloc (gb_refl _ _) _⟩
      · have hl := hc
        clear hc
        by_cases hc : y = v
        · have hf : firstG (mixRule 3 b) x y u v = true := by simp [firstG, mixRule, hl, hc]
          have hb1 : (y == v) = true := by simpa using hc
          rw [hf] at hS
          simp only [if_true] at hS
          have HS := Lib.hid hS
          clear hf hS hc
          go_enter Try.func114, Try.ntmps114
          go_wp2_with fail
          refine (specColumn x u _).mono ?_
          rintro e w1 ⟨rfl, rfl⟩
          go_wp2_with fail
          go_ret
          exact ⟨ret_int64 HS.out, gb_alloc (gb_refl _ _) _⟩
        · have hf : firstG (mixRule 3 b) x y u v = false := by simp [firstG, mixRule, hl, hc]
          have hb1 : (y == v) = false := by simpa using hc
          rw [hf] at hS
          simp only [if_true, if_false, Bool.false_eq_true] at hS
          have HS := Lib.hid hS
          clear hf hS hc
          go_enter Try.func114, Try.ntmps114
          go_wp2_with fail
          refine (specRow y v _).mono ?_
          rintro e w1 ⟨rfl, rfl⟩
          go_wp2_with fail
          go_ret
          exact ⟨ret_int64 HS.out, gb_alloc (gb_refl _ _) _⟩
    · rcases (show b % 2 = 0 ∨ b % 2 = 1 by omega) with hpar | hpar
      · by_cases hc : x = u
        · have hf : firstG (mixRule 4 b) x y u v = false := by simp [firstG, mixRule, hpar, hc]
          have hb1 : (x != u) = false := by simpa using hc
          rw [hf] at hS
          simp only [if_true, if_false, Bool.false_eq_true] at hS
          have HS := Lib.hid hS
          clear hf hS hc
          go_enter Try.func114, Try.ntmps114
          go_wp2_with fail
          refine (specRow y v _).mono ?_
          rintro e w1 ⟨rfl, rfl⟩
          go_wp2_with fail
          go_ret
          exact ⟨ret_int64 HS.out, gb_alloc (gb_refl _ _) _⟩
        · have hf : firstG (mixRule 4 b) x y u v = true := by simp [firstG, mixRule, hpar, hc]
          have hb1 : (x != u) = true := by simpa using hc
          rw [hf] at hS
          simp only [if_true] at hS
          have HS := Lib.hid hS
          clear hf hS hc
          go_enter Try.func114, Try.ntmps114
          go_wp2_with fail
          refine (specColumn x u _).mono ?_
          rintro e w1 ⟨rfl, rfl⟩
          go_wp2_with fail
          go_ret
          exact ⟨ret_int64 HS.out, gb_alloc (gb_refl _ _) _⟩
      · by_cases hc : y = v
        · have hf : firstG (mixRule 4 b) x y u v = true := by simp [firstG, mixRule, hpar, hc]
          have hb1 : (y == v) = true := by simpa using hc
          rw [hf] at hS
          simp only [if_true] at hS
          have HS := Lib.hid hS
          clear hf hS hc
          go_enter Try.func114, Try.ntmps114
          go_wp2_with fail
          refine (specColumn x u _).mono ?_
          rintro e w1 ⟨rfl, rfl⟩
          go_wp2_with fail
          go_ret
          exact ⟨ret_int64 HS.out, gb_alloc (gb_refl _ _) _⟩
        · have hf : firstG (mixRule 4 b) x y u v = false := by simp [firstG, mixRule, hpar, hc]
          have hb1 : (y == v) = false := by simpa using hc
          rw [hf] at hS
          simp only [if_true, if_false, Bool.false_eq_true] at hS
          have HS := Lib.hid hS
          clear hf hS hc
          go_enter Try.func114, Try.ntmps114
          go_wp2_with fail
          refine (specRow y v _).mono ?_
          rintro e w1 ⟨rfl, rfl⟩
          go_wp2_with fail
          go_ret
          exact ⟨ret_int64 HS.out, gb_alloc (gb_refl _ _) _⟩
end Go.Proofs.Ytecaehkckamhkaa
