/- What is proved here: a drawn packet: a valid grid with at least two nodes, and a valid packet; only the cursor and new blocks are written. -/
import Derived.Test.YtcjidpegmlbenaaPickGrid
import Derived.Test.YtcjidpegmlbenaaFltE
import Derived.Test.YtcjidpegmlbenaaGkS
import Derived.Test.YtcjidpegmlbenaaDrawTb
import Derived.Test.YtcjidpegmlbenaaChgW
namespace Go.Proofs.Ytcjidpegmlbenaa
open Go.ChangeShapes Go.WideShapes Go.ChangeAt Go.RowKit
set_option linter.unusedVariables false
set_option maxRecDepth 20000

/-- A grid with at least two nodes. -/
def DrawnG2 (g : Nat) (w : World) (e : Ending) (w' : World) : Prop := ∃ W H : Int, e = .returned (.agg #[.int .i64 W, .int .i64 H]) ∧ okG W H = true ∧ 2 ≤ countG W H ∧ Cur w' g ∧ w.grownBy w' (some g)
theorem count_two {H : Int} {W : Int} (h : okG W H = true) (h2 : ¬ countG W H < 2) : 2 ≤ countG W H := by omega
theorem count_set {W H : Int} (h : okG W H = true) (h2 : countG W H < 2) : okG 2 H = true ∧ 2 ≤ countG 2 H := by
  obtain ⟨a, b, c, d⟩ := okG_iff.1 h
  have hk : okG 2 H = true := okG_iff.2 ⟨by omega, by omega, c, d⟩
  refine ⟨hk, ?_⟩
  rw [countG, if_pos hk]
  omega
set_option maxHeartbeats 1600000 in
theorem l14Grid (g : Nat) (w : World) (hcur : Cur w g) :
    Calls Try.prog 30 #[.pointer (some ⟨g, 0, none⟩)] w (DrawnG2 g w) := by
  have hlt := hcur.lt
  have hc0 : Cur (w.alloc (.cells #[.int .i64 0, .int .i64 0] 25)) g := hcur.grown (gb_alloc (gb_refl _ none) _) (fun k e => by cases e)
  have HB := Lib.hid (Blk.new w 25 #[.int .i64 0, .int .i64 0])
  have HA := Lib.hid (show w.grownBy (w.alloc (.cells #[.int .i64 0, .int .i64 0] 25)) (some g) from gb_alloc (gb_refl _ _) _)
  clear hcur
  go_enter Try.func30, Try.ntmps30
  go_wp2_with fail
  refine (l02Grid g _ hc0).mono ?_
  rintro e w1 ⟨W, H, rfl, hok, hc1, hg1⟩
  have hs1 : w.heap.size + 1 ≤ w1.heap.size := by have := hg1.size; rw [alloc_size] at this; exact this
  have HOK := Lib.hid hok
  have HQ1 := Lib.hid (Blk.new w1 25 #[.int .i64 W, .int .i64 H])
  have HR1 := Lib.hid ((HB.out.grown hg1 (fun e => by cases e; omega)).alloc (.cells #[.int .i64 W, .int .i64 H] 25))
  have HG1 := Lib.hid (gb_alloc (gb_trans HA.out hg1) (.cells #[.int .i64 W, .int .i64 H] 25))
  have HC1 := Lib.hid (hc1.grown (gb_alloc (gb_refl _ none) (.cells #[.int .i64 W, .int .i64 H] 25)) (fun k e => by cases e))
  clear hok hc0 hc1 hg1
  go_wp2_with fail
  refine (specNodeCount W H _).mono ?_
  rintro e w2 ⟨rfl, hg2⟩
  have HQ2 := Lib.hid (HQ1.out.grown hg2 (by simp))
  have HR2 := Lib.hid (HR1.out.grown hg2 (by simp))
  have HG2 := Lib.hid (gb_trans HG1.out (gb_of_none hg2 (some g)))
  have HC2 := Lib.hid (HC1.out.grown hg2 (fun k e => by cases e))
  have q0 : w2.cell? ⟨w1.heap.size, 0, none⟩ = some (.int .i64 W) := HQ2.out.cell 0
  have q1 : w2.cell? ⟨w1.heap.size, 1, none⟩ = some (.int .i64 H) := HQ2.out.cell 1
  have f0 := HQ2.out.frozen 0
  have r0 : w2.cell? ⟨w.heap.size, 0, none⟩ = some (.int .i64 0) := HR2.out.cell 0
  have r1 : w2.cell? ⟨w.heap.size, 1, none⟩ = some (.int .i64 0) := HR2.out.cell 1
  have f2 := HR2.out.frozen 0
  have f3 := HR2.out.frozen 1
  have hne : w1.heap.size ≠ w.heap.size := by omega
  have hne2 : w.heap.size ≠ w1.heap.size := by omega
  clear hg2
  obtain ⟨k, hk⟩ : ∃ k, countG W H = k := ⟨_, rfl⟩
  rw [hk]
  by_cases h2 : k < 2
  · have HN := Lib.hid (count_set HOK.out (by rw [hk]; exact h2))
    have Q3 := HQ2.out.set_ 0 (.int .i64 2)
    have R3 := HR2.out.far (p := ⟨w1.heap.size, 0, none⟩) hne2 (.int .i64 2)
    have s0 := Q3.cell 0
    have s1 := Q3.cell 1
    have t0 : (w2.setCell ⟨w1.heap.size, 0, none⟩ (.int .i64 2)).cell? ⟨w.heap.size, 0, none⟩ = some (.int .i64 0) := R3.cell 0
    have t1 : (w2.setCell ⟨w1.heap.size, 0, none⟩ (.int .i64 2)).cell? ⟨w.heap.size, 1, none⟩ = some (.int .i64 0) := R3.cell 1
    have t2 := R3.frozen 0
    have t3 := R3.frozen 1
    simp at s0 s1
    have R5 := (R3.set_ 0 (.int .i64 2)).set_ 1 (.int .i64 H)
    have u0 := R5.cell 0
    have u1 := R5.cell 1
    simp at u0 u1
    have HG5 := Lib.hid (gb_set2 (gb_setCell HG2.out (p := ⟨w1.heap.size, 0, none⟩) (.inr (by show w.heap.size ≤ w1.heap.size; omega)) (.int .i64 2)) (Nat.le_refl w.heap.size) (.int .i64 2) (.int .i64 H))
    have HC5 := Lib.hid (cur_set2 (cur_far HC2.out (p := ⟨w1.heap.size, 0, none⟩) (by show g < w1.heap.size; omega) (.int .i64 2)) hlt (.int .i64 2) (.int .i64 H))
    clear Q3 R3 R5 hk
    go_wp2_with fail
    refine bodyPost_ret (v := .agg #[.int .i64 2, .int .i64 H]) (by simp [results, Try.results30, go_sem, u0, u1]) rfl ⟨2, H, rfl, HN.out.1, HN.out.2, HC5.out, HG5.out⟩
  · have HN := Lib.hid (count_two HOK.out (by rw [hk]; exact h2))
    have R5 := (HR2.out.set_ 0 (.int .i64 W)).set_ 1 (.int .i64 H)
    have u0 := R5.cell 0
    have u1 := R5.cell 1
    simp at u0 u1
    have HG5 := Lib.hid (gb_set2 HG2.out (Nat.le_refl w.heap.size) (.int .i64 W) (.int .i64 H))
    have HC5 := Lib.hid (cur_set2 HC2.out hlt (.int .i64 W) (.int .i64 H))
    clear R5 hk
    go_wp2_with fail
    refine bodyPost_ret (v := .agg #[.int .i64 W, .int .i64 H]) (by simp [results, Try.results30, go_sem, u0, u1]) rfl ⟨W, H, rfl, HOK.out, HN.out, HC5.out, HG5.out⟩

/-- A valid packet of a grid. -/
def DrawnPkt (W H id : Int) (g : Nat) (w : World) (e : Ending) (w' : World) : Prop := ∃ p : Pkt, e = .returned (.agg #[.int .i64 p.id, .int .i64 p.fr, .int .i64 p.to, .int .i64 p.cl, .int .i64 p.ln]) ∧ pktOk W H p = true ∧ p.id = id ∧ Cur w' g ∧ w.grownBy w' (some g)
theorem tmod_pos {x n : Int} (hx : 0 ≤ x) (hn : 0 < n) : 0 ≤ Int.tmod x n ∧ Int.tmod x n < n := by
  rw [Int.tmod_eq_emod_of_nonneg hx]
  exact ⟨Int.emod_nonneg x (by omega), Int.emod_lt_of_pos x hn⟩
theorem tmod_other {k a b : Int} (hk : 2 ≤ k) (ha : 0 ≤ a) (hak : a < k) (hb : 0 ≤ b) (hbk : b < k - 1) : Int.tmod (a + 1 + b) k ≠ a := by
  rw [Int.tmod_eq_emod_of_nonneg (by omega)]
  intro h
  rcases Int.lt_or_le (a + 1 + b) k with h1 | h1
  · rw [Int.emod_eq_of_lt (by omega) h1] at h; omega
  · rw [show a + 1 + b = (a + 1 + b - k) + k by omega, Int.add_emod_right, Int.emod_eq_of_lt (by omega) (by omega)] at h; omega
set_option maxHeartbeats 3200000 in
theorem l14Packet (W H id : Int) (g : Nat) (w : World) (hcur : Cur w g) (hok : okG W H = true) (h2 : 2 ≤ countG W H) (hid : 1 ≤ id ∧ id ≤ 9999) :
    Calls Try.prog 31 #[.pointer (some ⟨g, 0, none⟩), .agg #[.int .i64 W, .int .i64 H], .int .i64 id] w (DrawnPkt W H id g w) := by
  have hlt := hcur.lt
  have hg0 : w.grownBy ((w.alloc (.cells #[.int .i64 W, .int .i64 H] 25)).alloc (.cells #[.int .i64 0, .int .i64 0, .int .i64 0, .int .i64 0, .int .i64 0] 27)) none := gb_alloc (gb_alloc (gb_refl w none) _) _
  have hc0 : Cur ((w.alloc (.cells #[.int .i64 W, .int .i64 H] 25)).alloc (.cells #[.int .i64 0, .int .i64 0, .int .i64 0, .int .i64 0, .int .i64 0] 27)) g := hcur.grown hg0 (fun k e => by cases e)
  have hbp := Blk.new (w.alloc (.cells #[.int .i64 W, .int .i64 H] 25)) 27 #[.int .i64 0, .int .i64 0, .int .i64 0, .int .i64 0, .int .i64 0]
  rw [alloc_size] at hbp
  have HBP := Lib.hid hbp
  have HC0 := Lib.hid hc0
  have HG0 := Lib.hid (gb_of_none hg0 (some g))
  obtain ⟨k, hk⟩ : ∃ k, countG W H = k := ⟨_, rfl⟩
  have HNC := Lib.hid (fun w => hk ▸ specNodeCount W H w)
  have HK := Lib.hid hk
  have hk16 : k ≤ 16 := by rw [← hk]; exact (countG_le W H).2
  rw [hk] at h2
  clear hcur hbp hg0 hc0 hk
  go_enter Try.func31, Try.ntmps31
  go_wp2_with fail
  refine (HNC.out _).mono ?_
  rintro e w1 ⟨rfl, hg1⟩
  have HP1 := Lib.hid (HBP.out.grown hg1 (by simp))
  have HC1 := Lib.hid (HC0.out.grown hg1 (fun k e => by cases e))
  have HG1 := Lib.hid (gb_trans HG0.out (gb_of_none hg1 (some g)))
  clear hg1
  go_wp2_with fail
  refine (l01Below k g _ HC1.out).mono ?_
  rintro e w2 ⟨a, rfl, a0, a1, _, hc2, hg2⟩
  have a2 := a1 (by omega)
  have HP2 := Lib.hid (HP1.out.grown hg2 (fun e => by cases e; omega))
  have HC2 := Lib.hid hc2
  have HG2 := Lib.hid (gb_trans HG1.out hg2)
  have e1 : IntKind.i64.wrap (a + 1) = a + 1 := IntWalk.i64_in _ (by omega)
  have e2 : IntKind.i64.wrap (k - 1) = k - 1 := IntWalk.i64_in _ (by omega)
  clear hc2 hg2 a1
  go_wp2_with fail
  refine (l01Below (k - 1) g _ HC2.out).mono ?_
  rintro e w3 ⟨b, rfl, b0, b1, _, hc3, hg3⟩
  have b2 := b1 (by omega)
  have HP3 := Lib.hid (HP2.out.grown hg3 (fun e => by cases e; omega))
  have HC3 := Lib.hid hc3
  have HG3 := Lib.hid (gb_trans HG2.out hg3)
  obtain ⟨t, ht⟩ : ∃ t, Int.tmod (a + 1 + b) k = t := ⟨_, rfl⟩
  have ht0 := tmod_pos (x := a + 1 + b) (n := k) (by omega) (by omega)
  have hta := tmod_other h2 a0 a2 b0 b2
  rw [ht] at ht0 hta
  have e3 : IntKind.i64.wrap (a + 1 + b) = a + 1 + b := IntWalk.i64_in _ (by omega)
  have e4 : IntKind.i64.wrap t = t := IntWalk.i64_in _ (by omega)
  have q0 : (k == 0) = false := by simp; omega
  have q1 : ¬ k = 0 := by omega
  clear hc3 hg3 b1
  go_wp2_with fail
  refine (l01Below 2 g _ HC3.out).mono ?_
  rintro e w4 ⟨c, rfl, c0, c1, _, hc4, hg4⟩
  have c2 := c1 (by omega)
  have HP4 := Lib.hid (HP3.out.grown hg4 (fun e => by cases e; omega))
  have HC4 := Lib.hid hc4
  have HG4 := Lib.hid (gb_trans HG3.out hg4)
  clear hc4 hg4 c1
  go_wp2_with fail
  refine (l01Below 5 g _ HC4.out).mono ?_
  rintro e w5 ⟨d, rfl, d0, d1, _, hc5, hg5⟩
  have d2 := d1 (by omega)
  have HP5 := Lib.hid (HP4.out.grown hg5 (fun e => by cases e; omega))
  have HC5 := Lib.hid hc5
  have HG5 := Lib.hid (gb_trans HG4.out hg5)
  have e5 : IntKind.i64.wrap (1 + d) = 1 + d := IntWalk.i64_in _ (by omega)
  have r0 : w5.cell? ⟨w.heap.size + 1, 0, none⟩ = some (.int .i64 0) := HP5.out.cell 0
  have r1 : w5.cell? ⟨w.heap.size + 1, 1, none⟩ = some (.int .i64 0) := HP5.out.cell 1
  have r2 : w5.cell? ⟨w.heap.size + 1, 2, none⟩ = some (.int .i64 0) := HP5.out.cell 2
  have r3 : w5.cell? ⟨w.heap.size + 1, 3, none⟩ = some (.int .i64 0) := HP5.out.cell 3
  have r4 : w5.cell? ⟨w.heap.size + 1, 4, none⟩ = some (.int .i64 0) := HP5.out.cell 4
  have f0 := HP5.out.frozen 0
  have f1 := HP5.out.frozen 1
  have f2 := HP5.out.frozen 2
  have f3 := HP5.out.frozen 3
  have f4 := HP5.out.frozen 4
  have R := ((((HP5.out.set_ 0 (.int .i64 id)).set_ 1 (.int .i64 a)).set_ 2 (.int .i64 t)).set_ 3 (.int .i64 c)).set_ 4 (.int .i64 (1 + d))
  have u0 := R.cell 0
  have u1 := R.cell 1
  have u2 := R.cell 2
  have u3 := R.cell 3
  have u4 := R.cell 4
  simp at u0 u1 u2 u3 u4
  have hs : w.heap.size ≤ w.heap.size + 1 := by omega
  have hs2 : g < w.heap.size + 1 := by omega
  have HG6 := Lib.hid (gb_setCell (p := ⟨w.heap.size + 1, 4, none⟩) (gb_setCell (p := ⟨w.heap.size + 1, 3, none⟩) (gb_setCell (p := ⟨w.heap.size + 1, 2, none⟩) (gb_setCell (p := ⟨w.heap.size + 1, 1, none⟩) (gb_setCell (p := ⟨w.heap.size + 1, 0, none⟩) HG5.out (.inr hs) (.int .i64 id)) (.inr hs) (.int .i64 a)) (.inr hs) (.int .i64 t)) (.inr hs) (.int .i64 c)) (.inr hs) (.int .i64 (1 + d)))
  have HC6 := Lib.hid (cur_far (p := ⟨w.heap.size + 1, 4, none⟩) (cur_far (p := ⟨w.heap.size + 1, 3, none⟩) (cur_far (p := ⟨w.heap.size + 1, 2, none⟩) (cur_far (p := ⟨w.heap.size + 1, 1, none⟩) (cur_far (p := ⟨w.heap.size + 1, 0, none⟩) HC5.out hs2 (.int .i64 id)) hs2 (.int .i64 a)) hs2 (.int .i64 t)) hs2 (.int .i64 c)) hs2 (.int .i64 (1 + d)))
  have HPK := Lib.hid (show pktOk W H ⟨id, a, t, c, 1 + d⟩ = true from pktOk_iff.2 ⟨hid, hasG_iff.2 ⟨a0, by rw [HK.out]; exact a2⟩, hasG_iff.2 ⟨ht0.1, by rw [HK.out]; exact ht0.2⟩, fun e => hta e.symm, ⟨c0, by show c ≤ 1; omega⟩, ⟨by show 1 ≤ 1 + d; omega, by show 1 + d ≤ 5; omega⟩⟩)
  clear hc5 hg5 d1 R
  go_wp2_with fail
  exact bodyPost_ret (v := .agg #[.int .i64 id, .int .i64 a, .int .i64 t, .int .i64 c, .int .i64 (1 + d)]) (by simp [results, Try.results31, go_sem, u0, u1, u2, u3, u4]) rfl ⟨⟨id, a, t, c, 1 + d⟩, rfl, HPK.out, rfl, HC6.out, HG6.out⟩
end Go.Proofs.Ytcjidpegmlbenaa
