/- What is proved here: what the program's Diameter returns, for all arguments; only new blocks are written. -/
import Derived.Test.YtecaehkckamhkaaDistI
namespace Go.Proofs.Ytecaehkckamhkaa
open Go.ChangeShapes Go.WideShapes Go.ChangeAt Go.RowKit
set_option linter.unusedVariables false

theorem implNodeCountV (W H k : Int) (h : countG W H = k) (w : World) :
    Calls Try.prog 66 #[.agg #[.int .i64 W, .int .i64 H]] w (RetI k none w) := h ▸ implNodeCount W H w

theorem implDiameter (W H : Int) (w : World) :
    Calls Try.prog 29 #[.agg #[.int .i64 W, .int .i64 H]] w (RetI (diamG W H) none w) := by
  cases hok : okG W H with
  | true =>
    obtain ⟨k, hk⟩ : ∃ k, countG W H = k := ⟨_, rfl⟩
    have hkc : k = W * H := by rw [← hk]; simp [countG, hok]
    have hD := diam_corner hok
    rw [← hkc] at hD
    have hl := countG_le W H
    rw [hk] at hl
    have hw1 : IntKind.i64.wrap (k - 1) = k - 1 := IntWalk.i64_in _ (by omega)
    have NC := Lib.hid (fun w => implNodeCountV W H k hk w)
    have DI := Lib.hid (fun w => implDistanceV W H 0 (k - 1) _ hD w)
    clear hl hkc hk hD
    go_enter Try.func29, Try.ntmps29
    go_wp2_with fail
    refine (implGridOk W H _).mono ?_
    rintro e w1 ⟨rfl, hg⟩
    have hb := boxi_blk hg
    have c0 := hb.cell 0
    have c1 := hb.cell 1
    simp at c0 c1
    have Hg := Lib.hid (boxi_gb hg)
    have Hb := Lib.hid hb
    clear hg hb
    rw [hok]
    go_wp2_with fail
    go_region_held3 (fun w' => w'.cell? ⟨w.heap.size, 0, none⟩ = some (.int .i64 W) ∧ w'.cell? ⟨w.heap.size, 1, none⟩ = some (.int .i64 H))
      (first | exact ⟨c0, c1⟩ | exact ⟨d0, d1⟩ | exact ⟨e0, e1⟩)
      (first
        | (go_at_call 66; (with_reducible refine (NC.out _).mono ?_); rintro e w2 ⟨rfl, hg2⟩; have hb2 := Hb.out.grown (gb_undrew hg2) (by simp); have d0 := hb2.cell 0; have d1 := hb2.cell 1; simp at d0 d1; have Hg2 := Lib.hid (gb_undrew hg2); clear hg2 hb2)
        | (go_at_call 37; (with_reducible refine (DI.out _).mono ?_); rintro e w3 ⟨rfl, hg3⟩; have hb3 := (Hb.out.grown Hg2.out (by simp)).grown hg3 (by simp); have e0 := hb3.cell 0; have e1 := hb3.cell 1; simp at e0 e1; have Hg3 := Lib.hid hg3; clear hg3 hb3)
        | fail)
    all_goals
      go_wp2_with fail
      go_ret
      exact ⟨rfl, gb_trans Hg.out (gb_trans Hg2.out Hg3.out)⟩
  | false =>
    go_enter Try.func29, Try.ntmps29
    go_wp2_with fail
    refine (implGridOk W H _).mono ?_
    rintro e w1 ⟨rfl, hg⟩
    rw [hok]
    go_wp2_with fail
    go_ret
    exact ⟨ret_int64 (by simp [diamG, hok]), boxi_gb hg⟩
end Go.Proofs.Ytecaehkckamhkaa
