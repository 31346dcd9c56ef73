/- What is proved here: what the model's test of a channel of a mesh returns, for all arguments; only new blocks are written. -/
import Derived.Test.YtecaehkckamhkaaMeshS
import Derived.Test.YtecaehkckamhkaaNewI
namespace Go.Proofs.Ytecaehkckamhkaa
open Go.ChangeShapes Go.WideShapes Go.ChangeAt Go.RowKit
set_option linter.unusedVariables false

theorem specMeshOkV (W H : Int) (A : Option Addr) (n cap : Nat) (L : List Int) (b : Bool) (hb : meshG W H L = b) (w : World) (h : IntAt w w.heap.size A n L) (hn : n ≤ 1000000000) :
    Calls Try.prog 95 #[.agg #[.int .i64 W, .int .i64 H, .slice A n cap]] w (RetB b w) := hb ▸ specMeshOk W H A n cap L w h hn
theorem specFindV (A : Option Addr) (n cap B : Nat) (L : List Int) (c : Int) (b : Bool) (hb : inG L c = b) (w : World) (h : IntAt w B A n L) (hn : n ≤ 1000000000) :
    Calls Try.prog 94 #[.slice A n cap, .int .i64 c] w fun e w' => e = .returned (.bool b) ∧ w = w' := hb ▸ specFind A n cap B L c w h hn

theorem specHasCh (W H : Int) (A : Option Addr) (n cap : Nat) (L : List Int) (c : Int) (w : World) (h : IntAt w w.heap.size A n L) (hn : n ≤ 1000000000) :
    Calls Try.prog 98 #[.agg #[.int .i64 W, .int .i64 H, .slice A n cap], .int .i64 c] w (RetB (hasChG W H L c) w) := by
  have HI := Lib.hid h
  clear h
  cases hld : leadsG W H c with
  | false =>
    go_enter Try.func98, Try.ntmps98
    go_wp2_with fail
    refine (specLeadsV W H c false hld _).mono ?_
    rintro e w1 ⟨rfl, hg⟩
    have Hg := Lib.hid (box_gb hg)
    clear hg
    go_wp2_with fail
    go_ret
    exact ⟨ret_bool (by simp [hasChG, hld]), Hg.out⟩
  | true =>
    obtain ⟨b, hb⟩ : ∃ b, inG L c = b := ⟨_, rfl⟩
    have hr : hasChG W H L c = !b := by simp [hasChG, hld, hb]
    have HR := Lib.hid hr
    clear hr
    go_enter Try.func98, Try.ntmps98
    go_wp2_with fail
    refine (specLeadsV W H c true hld _).mono ?_
    rintro e w1 ⟨rfl, hg⟩
    have hbk := box_blk hg
    have a2 := hbk.cell 2
    simp at a2
    have hi := HI.out.none (Nat.le_refl _) (box_gb hg)
    have Hg := Lib.hid (box_gb hg)
    clear hg hbk
    go_wp2_with fail
    refine (specFindV A n cap w.heap.size L c b hb _ hi hn).mono ?_
    rintro e w2 ⟨rfl, rfl⟩
    clear hi
    go_wp2_with fail
    go_ret
    exact ⟨ret_bool (by rw [HR.out]), Hg.out⟩

theorem specHasChV (W H : Int) (A : Option Addr) (n cap : Nat) (L : List Int) (c : Int) (b : Bool) (hb : hasChG W H L c = b) (w : World) (h : IntAt w w.heap.size A n L) (hn : n ≤ 1000000000) :
    Calls Try.prog 98 #[.agg #[.int .i64 W, .int .i64 H, .slice A n cap], .int .i64 c] w (RetB b w) := hb ▸ specHasCh W H A n cap L c w h hn
end Go.Proofs.Ytecaehkckamhkaa
