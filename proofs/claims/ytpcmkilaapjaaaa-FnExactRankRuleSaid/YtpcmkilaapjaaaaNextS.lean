/- What is proved here: what the model's NextNode, Opposite, PortName and its test of a channel return, for all arguments; only new blocks are written. -/
import Derived.Test.YtpcmkilaapjaaaaAtS
import Derived.Test.YtpcmkilaapjaaaaMeshM
import Derived.Test.YtpcmkilaapjaaaaGridS
namespace Go.Proofs.Ytpcmkilaapjaaaa
open Go.ChangeShapes Go.WideShapes Go.ChangeAt Go.RowKit
set_option linter.unusedVariables false

theorem specNodeAtV (W H x y n : Int) (h : atG W H x y = n) (w : World) :
    Calls Try.prog 80 #[.agg #[.int .i64 W, .int .i64 H], .int .i64 x, .int .i64 y] w (RetI n none w) := h ▸ specNodeAt W H x y w

theorem specNextNode (W H n p : Int) (w : World) :
    Calls Try.prog 68 #[.agg #[.int .i64 W, .int .i64 H], .int .i64 n, .int .i64 p] w (RetI (nextG W H n p) none w) := by
  cases hh : hasG W H n with
  | true =>
    obtain ⟨hW, hH⟩ := okG_cases (hasG_ok hh).1
    obtain ⟨h0, h1⟩ := hasG_le hh
    have hq := row_wrap h0 h1 hW
    obtain ⟨a0, a1, a2, a3, a4⟩ := place_of hh
    have hW1 : 1 ≤ W := by omega
    have hW2 : W ≤ 4 := by omega
    have hH2 : H ≤ 4 := by omega
    have hN : nextG W H n p = (if p = 0 then atG W H (n % W) (n / W - 1) else if p = 1 then atG W H (n % W + 1) (n / W) else if p = 2 then atG W H (n % W) (n / W + 1) else if p = 3 then atG W H (n % W - 1) (n / W) else if p = 4 then n else -1) := by simp [nextG, hh]
    obtain ⟨x, hx⟩ : ∃ x, n % W = x := ⟨_, rfl⟩
    obtain ⟨y, hy⟩ : ∃ y, n / W = y := ⟨_, rfl⟩
    rw [hx, hy] at hN
    rw [hx] at a0 a1
    rw [hy] at a2 a3 hq
    obtain ⟨r, hr⟩ : ∃ r, nextG W H n p = r := ⟨_, rfl⟩
    rw [hr] at hN ⊢
    have hd : n.tdiv W = y := by rw [Int.tdiv_eq_ediv_of_nonneg h0]; exact hy
    clear a4 hW hH hr hq
    by_cases p0 : p = 0
    · subst p0
      simp at hN
      go_enter Try.func68, Try.ntmps68
      go_wp2_with fail
      refine (specHas W H n _).mono ?_
      rintro e w1 ⟨rfl, hg⟩
      have hb := box_blk hg
      have c0 := hb.cell 0
      have c1 := hb.cell 1
      have Hg := Lib.hid (box_gb hg)
      clear hg hb
      simp at c0 c1
      rw [hh]
      go_wp2_with fail
      simp only [hx]
      refine (specNodeAtV W H (x) (y - 1) r hN.symm _).mono ?_
      rintro e w2 ⟨rfl, hg2⟩
      have Hg2 := Lib.hid hg2
      clear hg2
      go_wp2_with fail
      go_ret
      exact ⟨ret_int64 hN.symm, gb_trans Hg.out Hg2.out⟩
    by_cases p1 : p = 1
    · subst p1
      simp at hN
      go_enter Try.func68, Try.ntmps68
      go_wp2_with fail
      refine (specHas W H n _).mono ?_
      rintro e w1 ⟨rfl, hg⟩
      have hb := box_blk hg
      have c0 := hb.cell 0
      have c1 := hb.cell 1
      have Hg := Lib.hid (box_gb hg)
      clear hg hb
      simp at c0 c1
      rw [hh]
      go_wp2_with fail
      simp only [hx]
      refine (specNodeAtV W H (x + 1) (y) r hN.symm _).mono ?_
      rintro e w2 ⟨rfl, hg2⟩
      have Hg2 := Lib.hid hg2
      clear hg2
      go_wp2_with fail
      go_ret
      exact ⟨ret_int64 hN.symm, gb_trans Hg.out Hg2.out⟩
    by_cases p2 : p = 2
    · subst p2
      simp at hN
      go_enter Try.func68, Try.ntmps68
      go_wp2_with fail
      refine (specHas W H n _).mono ?_
      rintro e w1 ⟨rfl, hg⟩
      have hb := box_blk hg
      have c0 := hb.cell 0
      have c1 := hb.cell 1
      have Hg := Lib.hid (box_gb hg)
      clear hg hb
      simp at c0 c1
      rw [hh]
      go_wp2_with fail
      simp only [hx]
      refine (specNodeAtV W H (x) (y + 1) r hN.symm _).mono ?_
      rintro e w2 ⟨rfl, hg2⟩
      have Hg2 := Lib.hid hg2
      clear hg2
      go_wp2_with fail
      go_ret
      exact ⟨ret_int64 hN.symm, gb_trans Hg.out Hg2.out⟩
    by_cases p3 : p = 3
    · subst p3
      simp at hN
      go_enter Try.func68, Try.ntmps68
      go_wp2_with fail
      refine (specHas W H n _).mono ?_
      rintro e w1 ⟨rfl, hg⟩
      have hb := box_blk hg
      have c0 := hb.cell 0
      have c1 := hb.cell 1
      have Hg := Lib.hid (box_gb hg)
      clear hg hb
      simp at c0 c1
      rw [hh]
      go_wp2_with fail
      simp only [hx]
      refine (specNodeAtV W H (x - 1) (y) r hN.symm _).mono ?_
      rintro e w2 ⟨rfl, hg2⟩
      have Hg2 := Lib.hid hg2
      clear hg2
      go_wp2_with fail
      go_ret
      exact ⟨ret_int64 hN.symm, gb_trans Hg.out Hg2.out⟩
    by_cases p4 : p = 4
    · subst p4
      simp at hN
      go_enter Try.func68, Try.ntmps68
      go_wp2_with fail
      refine (specHas W H n _).mono ?_
      rintro e w1 ⟨rfl, hg⟩
      have hb := box_blk hg
      have c0 := hb.cell 0
      have c1 := hb.cell 1
      have Hg := Lib.hid (box_gb hg)
      clear hg hb
      simp at c0 c1
      rw [hh]
      go_wp2_with fail
      go_ret
      exact ⟨ret_int64 hN.symm, Hg.out⟩
    simp [p0, p1, p2, p3, p4] at hN
    have q0 : (p == 0) = false := by simpa using p0
    have q1 : (p == 1) = false := by simpa using p1
    have q2 : (p == 2) = false := by simpa using p2
    have q3 : (p == 3) = false := by simpa using p3
    have q4 : (p == 4) = false := by simpa using p4
    clear p0 p1 p2 p3 p4
    · skip
      go_enter Try.func68, Try.ntmps68
      go_wp2_with fail
      refine (specHas W H n _).mono ?_
      rintro e w1 ⟨rfl, hg⟩
      have hb := box_blk hg
      have c0 := hb.cell 0
      have c1 := hb.cell 1
      have Hg := Lib.hid (box_gb hg)
      clear hg hb
      simp at c0 c1
      rw [hh]
      go_wp2_with fail
      go_ret
      exact ⟨ret_int64 hN.symm, Hg.out⟩
  | false =>
    go_enter Try.func68, Try.ntmps68
    go_wp2_with fail
    refine (specHas W H n _).mono ?_
    rintro e w1 ⟨rfl, hg⟩
    rw [hh]
    go_wp2_with fail
    go_ret
    exact ⟨ret_int64 (by simp [nextG, hh]), box_gb hg⟩

theorem specNextNodeV (W H n p r : Int) (h : nextG W H n p = r) (w : World) :
    Calls Try.prog 68 #[.agg #[.int .i64 W, .int .i64 H], .int .i64 n, .int .i64 p] w (RetI r none w) := h ▸ specNextNode W H n p w
theorem specNodeCountV (W H k : Int) (h : countG W H = k) (w : World) :
    Calls Try.prog 67 #[.agg #[.int .i64 W, .int .i64 H]] w (RetI k none w) := h ▸ specNodeCount W H w

theorem specLeads (W H c : Int) (w : World) :
    Calls Try.prog 53 #[.agg #[.int .i64 W, .int .i64 H], .int .i64 c] w (RetB (leadsG W H c) w) := by
  obtain ⟨k, hk⟩ : ∃ k, countG W H = k := ⟨_, rfl⟩
  obtain ⟨hk0, hk1⟩ := countG_le W H
  rw [hk] at hk0 hk1
  have hL : leadsG W H c = decide (0 ≤ c ∧ c < 4 * k ∧ 0 ≤ nextG W H (c / 4) (c % 4)) := by rw [leadsG, hk]
  by_cases hc : 0 ≤ c ∧ c ≤ 4 * k - 1
  · have hb : decide (0 ≤ c ∧ c ≤ 4 * k - 1) = true := decide_eq_true hc
    obtain ⟨hc0, hc1⟩ := hc
    have hcN : c ≤ 63 := by omega
    obtain ⟨r, hr⟩ : ∃ r, nextG W H (c / 4) (c % 4) = r := ⟨_, rfl⟩
    have hd : c.tdiv 4 = c / 4 := Int.tdiv_eq_ediv_of_nonneg hc0
    have hm : c.tmod 4 = c % 4 := Int.tmod_eq_emod_of_nonneg hc0
    have hL2 : leadsG W H c = decide (0 ≤ r) := by rw [hL, hr]; exact decide_eq_decide.2 ⟨fun h => h.2.2, fun h => ⟨hc0, by omega, h⟩⟩
    have HL := Lib.hid hL2
    clear hL hL2
    go_enter Try.func53, Try.ntmps53
    go_wp2_with fail
    refine (specNodeCountV W H k hk _).mono ?_
    rintro e w1 ⟨rfl, hg⟩
    have hb1 := box_blk hg
    have c0 := hb1.cell 0
    have c1 := hb1.cell 1
    have Hg := Lib.hid (box_gb hg)
    clear hg hb1
    simp at c0 c1
    go_wp2_with fail
    refine (specInV c 0 _ true hb _).mono ?_
    rintro e w2 ⟨rfl, rfl⟩
    go_wp2_with fail
    refine (specNextNodeV W H (c / 4) (c % 4) r hr _).mono ?_
    rintro e w3 ⟨rfl, hg3⟩
    have Hg3 := Lib.hid hg3
    clear hg3
    go_wp2_with fail
    go_ret
    exact ⟨ret_bool (by rw [HL.out]), gb_trans Hg.out Hg3.out⟩
  · have hb : decide (0 ≤ c ∧ c ≤ 4 * k - 1) = false := decide_eq_false hc
    have hL2 : leadsG W H c = false := by rw [hL]; exact decide_eq_false (fun h => hc ⟨h.1, by omega⟩)
    clear hc hL
    go_enter Try.func53, Try.ntmps53
    go_wp2_with fail
    refine (specNodeCountV W H k hk _).mono ?_
    rintro e w1 ⟨rfl, hg⟩
    have Hg := Lib.hid (box_gb hg)
    clear hg
    go_wp2_with fail
    refine (specInV c 0 _ false hb _).mono ?_
    rintro e w2 ⟨rfl, rfl⟩
    go_wp2_with fail
    go_ret
    exact ⟨ret_bool (by rw [hL2]), Hg.out⟩

theorem specLeadsV (W H c : Int) (b : Bool) (h : leadsG W H c = b) (w : World) :
    Calls Try.prog 53 #[.agg #[.int .i64 W, .int .i64 H], .int .i64 c] w (RetB b w) := h ▸ specLeads W H c w
end Go.Proofs.Ytpcmkilaapjaaaa
