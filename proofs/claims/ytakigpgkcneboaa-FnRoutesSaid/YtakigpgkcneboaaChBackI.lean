/- What is proved here: what the program's channelBack returns for a channel that exists; only new blocks are written. -/
import Derived.Test.YtakigpgkcneboaaRouteI
import Derived.Test.YtakigpgkcneboaaOppI
namespace Go.Proofs.Ytakigpgkcneboaa
open Go.ChangeShapes Go.WideShapes Go.ChangeAt Go.RowKit
set_option linter.unusedVariables false

theorem implOppositeV (p r : Int) (h : oppG p = r) (w : World) :
    Calls Try.prog 72 #[.int .i64 p] w (RetI r none w) := h ▸ implOpposite p w
theorem implChannelBack (W H : Int) (L : List Int) (c r : Int) (hh : hasChG W H L c = true) (hcw : (Lit.int .i64 c).wf = true) (hr : backC W H c = r) (w : World) :
    Calls Try.prog 51 #[.agg #[.int .i64 W, .int .i64 H], .int .i64 c] w (RetI r none w) := by
  obtain ⟨e, he⟩ : ∃ e, endC W H c = e := ⟨_, rfl⟩
  obtain ⟨p, hp⟩ : ∃ p, oppG (c % 4) = p := ⟨_, rfl⟩
  have h0 := (has_leads hh).1
  have he1 := endC_le W H c
  have hp1 := oppG_le (c % 4)
  have HE := Lib.hid (fun w => implEnd W H c e hcw (by rw [end_has hh, he]) w)
  have ht : c.tmod 4 = c % 4 := Int.tmod_eq_emod_of_nonneg h0
  have HP := Lib.hid (fun w => implOppositeV (c.tmod 4) p (by rw [ht, hp]) w)
  have hv : 4 * e + p = r := by rw [← hr, backC, he, hp]
  rw [he] at he1
  rw [hp] at hp1
  have e1 : wrap64 (4 * e) = 4 * e := IntWalk.wrap64_in _ (by omega)
  have e2 : wrap64 (4 * e + p) = r := by rw [hv]; exact IntWalk.wrap64_in _ (by omega)
  have HV := Lib.hid hv
  clear hh hcw he hp h0 ht hv hr
  go_enter Try.func51, Try.ntmps51
  go_wp2_with fail
  refine (HE.out _).mono ?_
  rintro e w1 ⟨rfl, hg1⟩
  have G1 := Lib.hid (boxi_gb hg1)
  clear hg1
  go_wp2_with fail
  refine (HP.out _).mono ?_
  rintro e w2 ⟨rfl, hg2⟩
  have G2 := Lib.hid (gb_trans G1.out hg2)
  clear hg2
  go_wp2_with fail
  go_ret
  exact ⟨ret_int64 HV.out, G2.out⟩
end Go.Proofs.Ytakigpgkcneboaa
