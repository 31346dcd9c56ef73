/- What is proved here: what the model's StandardTable returns, for all arguments; only new blocks are written. -/
import Derived.Test.YtbnpihkianggiaaMakeS
import Derived.Test.YtbnpihkianggiaaStdR
namespace Go.Proofs.Ytbnpihkianggiaa
open Go.ChangeShapes Go.WideShapes Go.ChangeAt Go.RowKit
set_option linter.unusedVariables false

theorem specGridOkV (W H : Int) (b : Bool) (h : okG W H = b) (w : World) :
    Calls Try.prog 42 #[.agg #[.int .i64 W, .int .i64 H]] w (RetB b w) := h ▸ specGridOk W H w

theorem specStdTab (W H r : Int) (w : World) :
    Calls Try.prog 21 #[.agg #[.int .i64 W, .int .i64 H], .int .i64 r] w (RetTab (stdRes W H r) (stdOk W H r) w) := by
  obtain ⟨P, hP⟩ : ∃ P, stdRes W H r = P := ⟨_, rfl⟩
  obtain ⟨b, hb⟩ : ∃ b, stdOk W H r = b := ⟨_, rfl⟩
  rw [hP, hb]
  have hbk0 := (Blk.new w 25 #[.int .i64 W, .int .i64 H]).alloc (.cells #[.slice none 0 0] 30)
  have hbk1 := Blk.new (w.alloc (.cells #[.int .i64 W, .int .i64 H] 25)) 30 #[.slice none 0 0]
  rw [alloc_size] at hbk1
  have K0 := Lib.hid hbk0
  have K1 := Lib.hid hbk1
  have KG := Lib.hid (gb_alloc (gb_alloc (gb_refl w none) (.cells #[.int .i64 W, .int .i64 H] 25)) (.cells #[.slice none 0 0] 30))
  clear hbk0 hbk1
  cases ho : okG W H with
  | false =>
    have hB : b = false := by rw [← hb, stdOk, ho]; simp
    have hPP : P = [] := by rw [← hP, stdRes, hb, hB]; rfl
    subst hB
    subst hPP
    have HO := Lib.hid (fun w => specGridOkV W H false ho w)
    clear ho hb hP
    go_enter Try.func21, Try.ntmps21
    go_wp2_with fail
    refine (HO.out _).mono ?_
    rintro e w1 ⟨rfl, g1⟩
    have hb4 := K1.out.grown g1 (by simp)
    have c2 : w1.cell? ⟨w.heap.size + 1, 0, none⟩ = some (.slice none 0 0) := hb4.cell 0
    have c3 := hb4.frozen 0
    have HB4 := Lib.hid hb4
    have HG1 := Lib.hid (gb_trans KG.out g1)
    clear g1 hb4
    go_wp2_with fail
    have h1 := (HB4.out.set_ 0 (.slice none 0 0)).cell 0
    simp at h1
    refine bodyPost_ret (v := .tuple #[.agg #[.slice none 0 0], .bool false]) (by simp [results, Try.results21, go_sem, h1]) rfl ⟨_, rfl, World.ownsRow_nil _ _ _ _, ?_⟩
    exact gb_below_none (gb_setCell HG1.out (.inr (by show w.heap.size ≤ w.heap.size + 1; omega)) _) (Nat.le_refl _)
  | true =>
    have HO := Lib.hid (fun w => specGridOkV W H true ho w)
    by_cases hr : 1 ≤ r ∧ r ≤ 4
    · have hB : b = true := by rw [← hb, stdOk, ho]; simp [hr]
      have hPP : P = stdTab W H r := by rw [← hP, stdRes, hb, hB]; rfl
      subst hB
      have HPP := Lib.hid hPP
      have HI := Lib.hid (fun w => specInV r 1 4 true (by simpa using hr) w)
      have HM := Lib.hid (fun w => specMake W H r ho hr.1 hr.2 w)
      clear ho hb hP hPP hr
      go_enter Try.func21, Try.ntmps21
      go_wp2_with fail
      refine (HO.out _).mono ?_
      rintro e w1 ⟨rfl, g1⟩
      have hb3 := K0.out.grown g1 (by simp)
      have hb4 := K1.out.grown g1 (by simp)
      have a0 : w1.cell? ⟨w.heap.size, 0, none⟩ = some (.int .i64 W) := hb3.cell 0
      have a1 : w1.cell? ⟨w.heap.size, 1, none⟩ = some (.int .i64 H) := hb3.cell 1
      have HB4 := Lib.hid hb4
      have HG1 := Lib.hid (gb_trans KG.out g1)
      have HS1 : Hid (w.heap.size + 2 ≤ w1.heap.size) := Lib.hid (by have := g1.size; rw [alloc_size, alloc_size] at this; exact this)
      clear g1 hb4 hb3
      go_wp2_with fail
      refine (HI.out _).mono ?_
      rintro e w2 ⟨rfl, rfl⟩
      go_wp2_with fail
      refine (HM.out _).mono ?_
      rintro e w3 ⟨v, rfl, o3, b3⟩
      obtain ⟨A3, c3, rfl, _⟩ := own_form o3
      have hb5 := HB4.out.grown (gb_of_below b3 none) (by simp)
      have d0 : w3.cell? ⟨w.heap.size + 1, 0, none⟩ = some (.slice none 0 0) := hb5.cell 0
      have d1 := hb5.frozen 0
      have HB5 := Lib.hid hb5
      have HO3 := Lib.hid o3
      have HG3 := Lib.hid (gb_trans HG1.out (gb_of_below b3 none))
      clear o3 b3 hb5
      go_wp2_with fail
      have h1 := (HB5.out.set_ 0 (.slice A3 (stdTab W H r).length c3)).cell 0
      simp at h1
      refine bodyPost_ret (v := .tuple #[.agg #[.slice A3 (stdTab W H r).length c3], .bool true]) (by simp [results, Try.results21, go_sem, h1]) rfl ⟨_, rfl, ?_, ?_⟩
      · have := ownsRow_setCell_below HO3.out (a := ⟨w.heap.size + 1, 0, none⟩) (by show w.heap.size + 1 < w1.heap.size; have := HS1.out; omega) (.slice A3 (stdTab W H r).length c3)
        rw [HPP.out]
        exact own_less this (by have := HS1.out; omega)
      · exact gb_below_none (gb_setCell HG3.out (.inr (by show w.heap.size ≤ w.heap.size + 1; omega)) _) (Nat.le_refl _)
    · have hB : b = false := by rw [← hb, stdOk, ho]; simp; omega
      have hPP : P = [] := by rw [← hP, stdRes, hb, hB]; rfl
      subst hB
      subst hPP
      have HI := Lib.hid (fun w => specInV r 1 4 false (by simpa using hr) w)
      clear ho hb hP hr
      go_enter Try.func21, Try.ntmps21
      go_wp2_with fail
      refine (HO.out _).mono ?_
      rintro e w1 ⟨rfl, g1⟩
      have hb4 := K1.out.grown g1 (by simp)
      have c2 : w1.cell? ⟨w.heap.size + 1, 0, none⟩ = some (.slice none 0 0) := hb4.cell 0
      have c3 := hb4.frozen 0
      have HB4 := Lib.hid hb4
      have HG1 := Lib.hid (gb_trans KG.out g1)
      clear g1 hb4
      go_wp2_with fail
      refine (HI.out _).mono ?_
      rintro e w2 ⟨rfl, rfl⟩
      go_wp2_with fail
      have h1 := (HB4.out.set_ 0 (.slice none 0 0)).cell 0
      simp at h1
      refine bodyPost_ret (v := .tuple #[.agg #[.slice none 0 0], .bool false]) (by simp [results, Try.results21, go_sem, h1]) rfl ⟨_, rfl, World.ownsRow_nil _ _ _ _, ?_⟩
      exact gb_below_none (gb_setCell HG1.out (.inr (by show w.heap.size ≤ w.heap.size + 1; omega)) _) (Nat.le_refl _)
end Go.Proofs.Ytbnpihkianggiaa
