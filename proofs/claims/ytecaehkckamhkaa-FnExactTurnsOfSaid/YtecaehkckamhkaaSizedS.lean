/- What is proved here: what the model's test of a table's size returns, for all arguments; only new blocks are written. -/
import Derived.Test.YtecaehkckamhkaaTableM
import Derived.Test.YtecaehkckamhkaaHasS
import Derived.Test.YtecaehkckamhkaaSqB
namespace Go.Proofs.Ytecaehkckamhkaa
open Go.ChangeShapes Go.WideShapes Go.ChangeAt Go.RowKit
set_option linter.unusedVariables false

theorem specSized (W H : Int) (A A2 : Option Addr) (n cap n2 c2 : Nat) (L P : List Int) (b : Bool) (hb : sizedG W H L P = b) (w : World) (h : IntAt w w.heap.size A n L) (hn : n ≤ 1000000000) (hp : P.length = n2) (hn2 : n2 ≤ 1000000000) :
    Calls Try.prog 59 #[.agg #[.int .i64 W, .int .i64 H, .slice A n cap], .agg #[.slice A2 n2 c2]] w (RetB b w) := by
  have HI := Lib.hid h
  clear h
  obtain ⟨k, hk⟩ : ∃ k, countG W H = k := ⟨_, rfl⟩
  obtain ⟨hk0, hk1⟩ := countG_le W H
  rw [hk] at hk0 hk1
  obtain ⟨m0, m1⟩ := sq_bounds hk0 hk1
  have hsz : sizedG W H L P = (meshG W H L && decide ((n2 : Int) = k * k)) := by rw [sizedG, hk, hp]
  have hw : wrap64 (k * k) = k * k := IntWalk.wrap64_in _ (by omega)
  have HN := Lib.hid (fun w => specNodeCountV W H k hk w)
  rw [hb] at hsz
  clear hk hk0 hk1 m0 m1 hp hb
  cases hm : meshG W H L with
  | false =>
    have HM := Lib.hid (fun w h => specMeshOkV W H A n cap L false hm w h hn)
    have hf : b = false := by rw [hsz, hm]; rfl
    have HF := Lib.hid hf
    clear hm hf hsz hw
    go_enter Try.func59, Try.ntmps59
    go_wp2_with fail
    refine (HN.out _).mono ?_
    rintro e w1 ⟨rfl, hg⟩
    obtain ⟨k1, k2, g1⟩ := box2 hg
    have a0 : w1.cell? ⟨w.heap.size, 0, none⟩ = some (.int .i64 W) := k1.cell 0
    have a1 : w1.cell? ⟨w.heap.size, 1, none⟩ = some (.int .i64 H) := k1.cell 1
    have a2 : w1.cell? ⟨w.heap.size, 2, none⟩ = some (.slice A n cap) := k1.cell 2
    have hi := (HI.out.none (Nat.le_refl _) g1).more (B' := w1.heap.size) g1.size
    have G1 := Lib.hid g1
    clear hg k1 k2 g1
    go_wp2_with fail
    refine (HM.out _ hi).mono ?_
    rintro e w2 ⟨rfl, hg2⟩
    have G2 := Lib.hid (gb_trans G1.out hg2)
    clear hg2 hi
    go_wp2_with fail
    go_ret
    exact ⟨ret_bool HF.out.symm, G2.out⟩
  | true =>
    have HM := Lib.hid (fun w h => specMeshOkV W H A n cap L true hm w h hn)
    have hf : b = decide ((n2 : Int) = k * k) := by rw [hsz, hm]; rfl
    have HF := Lib.hid hf
    have HW := Lib.hid hw
    clear hm hf hsz hw
    go_enter Try.func59, Try.ntmps59
    go_wp2_with fail
    refine (HN.out _).mono ?_
    rintro e w1 ⟨rfl, hg⟩
    obtain ⟨k1, k2, g1⟩ := box2 hg
    have a0 : w1.cell? ⟨w.heap.size, 0, none⟩ = some (.int .i64 W) := k1.cell 0
    have a1 : w1.cell? ⟨w.heap.size, 1, none⟩ = some (.int .i64 H) := k1.cell 1
    have a2 : w1.cell? ⟨w.heap.size, 2, none⟩ = some (.slice A n cap) := k1.cell 2
    have hi := (HI.out.none (Nat.le_refl _) g1).more (B' := w1.heap.size) g1.size
    have G1 := Lib.hid g1
    have K2 := Lib.hid k2
    clear hg k1 k2 g1
    go_wp2_with fail
    refine (HM.out _ hi).mono ?_
    rintro e w2 ⟨rfl, hg2⟩
    have b0 : w2.cell? ⟨w.heap.size + 1, 0, none⟩ = some (.slice A2 n2 c2) := (K2.out.grown hg2 (by simp)).cell 0
    have G2 := Lib.hid (gb_trans G1.out hg2)
    clear hg2 hi a0 a1 a2
    go_wp2_with fail
    go_ret
    exact ⟨ret_bool (by rw [HF.out]; simp only [HW.out]; rfl), G2.out⟩
end Go.Proofs.Ytecaehkckamhkaa
