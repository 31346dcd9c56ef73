/- What is proved here: what the model's standard table holds; only new blocks are written. -/
import Derived.Test.YtecaehkckamhkaaStdS
import Derived.Test.YtecaehkckamhkaaSqB
import Derived.Test.YtecaehkckamhkaaNewI
import Derived.Deep.RegionLaw
namespace Go.Proofs.Ytecaehkckamhkaa
open Go.ChangeShapes Go.WideShapes Go.ChangeAt Go.RowKit
set_option linter.unusedVariables false

theorem gb_undraw1 {a b : World} {row : Option Nat} (h : a.drew.grownBy b row) : a.grownBy b row := ⟨h.os, h.tape, h.output, h.size, h.block⟩
/-- A new table with these entries. -/
def NewTabS (P : List Int) (w : World) (e : Ending) (w' : World) : Prop :=
  ∃ v, e = .returned (.agg #[v]) ∧ w'.ownsRow w.heap.size 3 1 v P.length (intsV P) ∧ Below w.heap.size w w'
def MakeAt (W H r : Int) (w : World) (k : Nat) (v : Value) (wr : World) : Prop :=
  Blk wr w.heap.size 32 #[.int .i64 W, .int .i64 H] ∧ Blk wr (w.heap.size + 1) 36 #[.slice none 0 0] ∧ Blk wr (w.heap.size + 1 + 1) 36 #[v] ∧
  wr.ownsRow (w.heap.size + 3) 3 1 v k (intsV (stdTo W H r k)) ∧ Below w.heap.size w wr
theorem MakeAt.app {W H r : Int} {w wr w5 : World} {k : Nat} {v v' : Value} {o : Obj} (h : MakeAt W H r w k v wr) (hg : (wr.alloc o).grownBy w5 v.ownBlock)
    (ho : w5.ownsRow (w.heap.size + 3) 3 1 v' (k + 1) (intsV (stdTo W H r k) ++ [.int .i64 (stdPort W r ((k : Int) / countG W H) ((k : Int) % countG W H))])) :
    MakeAt W H r w (k + 1) v' (w5.setCell ⟨w.heap.size + 1 + 1, 0, none⟩ v') := by
  obtain ⟨h0, h1, h2, hown, hb⟩ := h
  have hne : ∀ g, g < w.heap.size + 3 → some g ≠ v.ownBlock := fun g hg e => by have := (hown.lt g e.symm).1; omega
  refine ⟨((h0.alloc o).grown hg (hne _ (by omega))).far (by show w.heap.size ≠ w.heap.size + 1 + 1; omega) _, ((h1.alloc o).grown hg (hne _ (by omega))).far (by show w.heap.size + 1 ≠ w.heap.size + 1 + 1; omega) _, ?_, ?_, ?_⟩
  · have := ((h2.alloc o).grown hg (hne _ (by omega))).set_ 0 v'
    simpa using this
  · rw [stdTo_succ, intsV_append]
    exact ownsRow_setCell_below ho (by show w.heap.size + 1 + 1 < w.heap.size + 3; omega) _
  · have h3 := (hb.alloc hb.size o).grown hg (by have := hb.size; simp; omega) (fun j hj => by have := (hown.lt j hj).1; omega)
    exact gb_below_none (gb_setCell (gb_of_below h3 none) (.inr (by show w.heap.size ≤ w.heap.size + 1 + 1; omega)) _) (Nat.le_refl _)
theorem MakeAt.none {W H r : Int} {w wr w5 : World} {k : Nat} {v : Value} (h : MakeAt W H r w k v wr) (hg : wr.grownBy w5 none) : MakeAt W H r w k v w5 :=
  ⟨h.1.grown hg (by simp), h.2.1.grown hg (by simp), h.2.2.1.grown hg (by simp), own_none h.2.2.2.1 hg, below_gb h.2.2.2.2 (Nat.le_refl _) hg⟩

theorem specNodeCountV2 (W H k : Int) (h : countG W H = k) (w : World) :
    Calls Try.prog 60 #[.agg #[.int .i64 W, .int .i64 H]] w (RetI k none w) := h ▸ specNodeCount W H w

set_option maxRecDepth 100000 in
theorem specMake (W H r : Int) (hok : okG W H = true) (hr1 : 1 ≤ r) (hr4 : r ≤ 4) (w : World) :
    Calls Try.prog 102 #[.agg #[.int .i64 W, .int .i64 H], .int .i64 r] w (NewTabS (stdTab W H r) w) := by
  obtain ⟨i0, hi, hz0, hz1, hz2⟩ := info_parts info_int
  obtain ⟨k, hk⟩ : ∃ k, countG W H = k := ⟨_, rfl⟩
  obtain ⟨hk0, hk1⟩ := countG_le W H
  have hsq := sq_int W H
  have hsl := sq_le W H
  rw [hk] at hk0 hk1 hsq
  obtain ⟨m0, m1⟩ := sq_bounds hk0 hk1
  have HSQ := Lib.hid hsq
  have hw : wrap64 (k * k) = k * k := IntWalk.wrap64_in _ (by omega)
  have HN := Lib.hid (fun w => specNodeCountV2 W H k hk w)
  have HK := Lib.hid hk
  have hk1' : 1 ≤ k := by
    obtain ⟨hW, hH⟩ := okG_cases hok
    have hkc : k = W * H := by rw [← hk]; simp [countG, hok]
    rw [hkc]
    rcases hW with rfl | rfl | rfl | rfl <;> rcases hH with rfl | rfl | rfl | rfl <;> decide
  have HR := Lib.hid (And.intro hr1 hr4)
  have hB : MakeAt W H r w 0 (.slice none 0 0) (((w.alloc (.cells #[.int .i64 W, .int .i64 H] 32)).alloc (.cells #[.slice none 0 0] 36)).alloc (.cells #[.slice none 0 0] 36)) := by
    refine ⟨(((Blk.new w _ _).alloc _).alloc _), ?_, ?_, World.ownsRow_nil _ _ _ _, ?_⟩
    · have := Blk.new (w.alloc (.cells #[.int .i64 W, .int .i64 H] 32)) 36 #[.slice none 0 0]
      rw [alloc_size] at this
      exact this.alloc _
    · have := Blk.new ((w.alloc (.cells #[.int .i64 W, .int .i64 H] 32)).alloc (.cells #[.slice none 0 0] 36)) 36 #[.slice none 0 0]
      rw [alloc_size, alloc_size] at this
      exact this
    · exact gb_below_none (gb_alloc (gb_alloc (gb_alloc (gb_refl w none) _) _) _) (Nat.le_refl _)
  have HB := Lib.hid hB
  clear hk hsq hB hr1 hr4 hok
  go_enter Try.func102, Try.ntmps102
  go_wp2_with fail
  refine (HN.out _).mono ?_
  rintro e w1 ⟨rfl, hg⟩
  have HX := Lib.hid (HB.out.none hg)
  clear hg
  go_wp2_with fail
  go_loopw [7] (fun i wr => ∃ (x : Nat) (v : Value), i = .int .i64 (x : Int) ∧ (x : Int) ≤ k * k ∧ MakeAt W H r w x v wr) (fun i _ => 257 - (intOf i).toNat)
  case atStart => exact ⟨0, _, rfl, by omega, HX.out⟩
  case round =>
    obtain ⟨x, v, rfl, hx, hmk⟩ := hrel
    have HMK := Lib.hid hmk
    have a0 : wr.cell? ⟨w.heap.size, 0, none⟩ = some (.int .i64 W) := hmk.1.cell 0
    have a1 : wr.cell? ⟨w.heap.size, 1, none⟩ = some (.int .i64 H) := hmk.1.cell 1
    have b1 : wr.cell? ⟨w.heap.size + 1, 0, none⟩ = some (.slice none 0 0) := hmk.2.1.cell 0
    have b2 : wr.cell? ⟨w.heap.size + 1 + 1, 0, none⟩ = some v := hmk.2.2.1.cell 0
    have f1 := hmk.2.1.frozen 0
    have f2 := hmk.2.2.1.frozen 0
    by_cases hlt : (x : Int) < k * k
    · obtain ⟨hax, hay⟩ := pair_at (W := W) (H := H) (i := x) (by have := HSQ.out; omega)
      obtain ⟨u, hu⟩ : ∃ u, (x : Int) / countG W H = u := ⟨_, rfl⟩
      obtain ⟨y, hy⟩ : ∃ y, (x : Int) % countG W H = y := ⟨_, rfl⟩
      rw [hu] at hax
      rw [hy] at hay
      have hu15 := hasG_le hax
      have hy15 := hasG_le hay
      have HU := Lib.hid hu
      have HY := Lib.hid hy
      rw [HK.out] at hu hy
      have q1 : (x : Int).tdiv k = u := by rw [Int.tdiv_eq_ediv_of_nonneg (by omega)]; exact hu
      have q2 : (x : Int).tmod k = y := by rw [Int.tmod_eq_emod_of_nonneg (by omega)]; exact hy
      have q3 : IntKind.i64.wrap u = u := IntWalk.i64_in _ (by omega)
      have q4 : IntKind.i64.wrap y = y := IntWalk.i64_in _ (by omega)
      have q5 : (k == 0) = false := by simp; omega
      have q6 : k ≠ 0 := by omega
      obtain ⟨p, hp⟩ : ∃ p, stdPort W r u y = p := ⟨_, rfl⟩
      have HPT := Lib.hid (fun w => hp ▸ specStdPort W H r u y HR.out.1 HR.out.2 hax hay w)
      have HP := Lib.hid hp
      have hx257 : x + 1 ≤ maxLen := by unfold maxLen; omega
      have hx8 : (x + 1) * 8 ≤ 140737488355328 := by omega
      have c4 : ∀ z ∈ [Value.int .i64 p], z.oneCell' = true := by simp [Value.oneCell']
      clear hax hay hu hy hmk hp
      go_wp2_with fail
      go_region_law
        (first
          | (go_simp; (with_reducible refine (HPT.out _).mono ?_); rintro e w4 ⟨rfl, hg4⟩; have M4 := Lib.hid (HMK.out.none (gb_undraw1 hg4)); have d0 : w4.cell? ⟨w.heap.size, 0, none⟩ = some (.int .i64 W) := M4.out.1.cell 0; have d1 : w4.cell? ⟨w.heap.size, 1, none⟩ = some (.int .i64 H) := M4.out.1.cell 1; have d2 : w4.cell? ⟨w.heap.size + 1 + 1, 0, none⟩ = some v := M4.out.2.2.1.cell 0; have d3 : (w4.alloc (.cells #[.int .i64 p] 3)).cell? ⟨w.heap.size + 1 + 1, 0, none⟩ = some v := (M4.out.2.2.1.alloc _).cell 0; have s4 : w.heap.size + 3 ≤ (w4.alloc (.cells #[.int .i64 p] 3)).heap.size := by have := M4.out.2.2.1.lt; rw [alloc_size]; omega
             have o4 := M4.out.2.2.2.1.alloc (.cells #[.int .i64 p] 3); clear hg4; go_simp)
          | (refine step_append_lies _ (by rfl) _ _ _ (by rfl) (w.heap.size + 3) 3 i0 _ 1 8 Try.underlying24 hi hz0 hz1 hz2 rfl (by omega) v x (intsV (stdTo W H r x)) (by rfl) o4
              ⟨w4.heap.size, 0, none⟩ 1 1 [.int .i64 p] (by rfl) (by rfl) (World.news_of_block (cs := #[.int .i64 p]) (t := 3) (fr := (0, 0)) (heap_alloc_new w4 _)) c4
              (by omega) hx257 hx8 s4 (w4.heap.size + 1) (by simp) ?_; intro g cap w5 hown5 hgrow hat hltg; have M5 := Lib.hid (MakeAt.app M4.out hgrow (by rw [HU.out, HY.out, HP.out]; exact hown5)); have hne : ∀ j, j < w.heap.size + 3 → some j ≠ v.ownBlock := fun j hj e => by have := (M4.out.2.2.2.1.lt j e.symm).1; omega
             have k0 := (M4.out.1.alloc (.cells #[.int .i64 p] 3)).grown hgrow (hne _ (by omega)); have k2 := (M4.out.2.2.1.alloc (.cells #[.int .i64 p] 3)).grown hgrow (hne _ (by omega)); have e0 : w5.cell? ⟨w.heap.size, 0, none⟩ = some (.int .i64 W) := k0.cell 0; have e1 : w5.cell? ⟨w.heap.size, 1, none⟩ = some (.int .i64 H) := k0.cell 1; have e2 : w5.cell? ⟨w.heap.size + 1 + 1, 0, none⟩ = some v := k2.cell 0; have f5 := k2.frozen 0; clear k0 k2 hne hown5 hgrow hat hltg)
          | fail)
      all_goals
        go_wp2_with fail
        go_roundw
        case rel => exact ⟨x + 1, _, by go_num, by omega, M5.out⟩
        case measure => simp [intOf]; omega
    · have hxk : x = sqG W H := by have := HSQ.out; omega
      have HE := Lib.hid hxk
      obtain ⟨Av, cv, rfl, _⟩ := own_form hmk.2.2.2.1
      clear hxk
      have h1 := (hmk.2.1.set_ 0 (.slice Av x cv)).cell 0
      simp at h1
      have O := Lib.hid hmk.2.2.2.1
      have BE := Lib.hid hmk.2.2.2.2
      clear hmk
      go_wp2_with fail
      refine bodyPost_ret (v := .agg #[.slice Av x cv]) (by simp [results, Try.results102, go_sem, h1]) rfl ⟨_, rfl, ?_, ?_⟩
      · have := ownsRow_setCell_below O.out (a := ⟨w.heap.size + 1, 0, none⟩) (by show w.heap.size + 1 < w.heap.size + 3; omega) (.slice Av x cv)
        rw [stdTab, stdTo_len, ← HE.out]
        exact own_less this (by omega)
      · exact gb_below_none (gb_setCell (gb_of_below BE.out none) (.inr (by show w.heap.size ≤ w.heap.size + 1; omega)) _) (Nat.le_refl _)
end Go.Proofs.Ytecaehkckamhkaa
