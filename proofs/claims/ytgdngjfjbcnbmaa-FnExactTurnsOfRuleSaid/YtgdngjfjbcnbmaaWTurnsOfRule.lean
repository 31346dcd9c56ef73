/- What is proved here: the exact law on TurnsOfRule answers true, for every argument; only new blocks are written. -/
import Derived.Test.YtgdngjfjbcnbmaaRuleS
import Derived.Test.YtgdngjfjbcnbmaaRuleTI
import Derived.Test.YtgdngjfjbcnbmaaRteB
namespace Go.Proofs.Ytgdngjfjbcnbmaa
open Go.ChangeShapes Go.WideShapes Go.ChangeAt Go.RowKit
set_option linter.unusedVariables false

theorem walk_FnExactTurnsOfRule (r : Int) (w : World) (w0 : (Lit.int .i64 r).wf = true) :
    Calls Try.prog 8 #[.int .i64 r] w fun e w' => e = .returned (.bool true) ∧ Below w.heap.size w w' := by
  clear w0
  have HS := Lib.hid (fun w => specTurnsOfRule r w)
  have HI := Lib.hid (fun w => implTurnsOfRule r w)
  have hlen := ruleL_len r
  obtain ⟨R, hR⟩ : ∃ R, ruleL r = R := ⟨_, rfl⟩
  rw [hR] at HS HI hlen
  clear hR
  go_enter Try.func8, Try.ntmps8
  go_wp2_with fail
  refine (HS.out _).mono ?_
  rintro e w1 ⟨v0, rfl, o1, b1⟩
  have R1 := Lib.hid (Row.new (X := R) o1 (Nat.le_refl _))
  have B1 := Lib.hid b1
  clear o1 b1
  go_wp2_with fail
  refine (HI.out _).mono ?_
  rintro e w2 ⟨v8, rfl, o2, b2⟩
  have P2 := Lib.hid (R1.out.gb (gb_of_below b2 none))
  have R2 := Lib.hid (Row.new (X := R) o2 (Nat.le_refl _))
  have B2 := Lib.hid (B1.out.trans (b2.mono B1.out.size))
  have S1 := Lib.hid B1.out.size
  clear o2 b2
  go_wp2_with fail
  refine (lawsEqOwn v8 v0 _ _ R _ R2.out.own P2.out.own (by omega)).mono ?_
  rintro e w3 ⟨rfl, hg⟩
  have P3 := Lib.hid (P2.out.gb hg)
  have R3 := Lib.hid (R2.out.gb hg)
  have B3 := Lib.hid (below_gb B2.out (Nat.le_refl _) hg)
  clear hg
  go_wp2_with fail
  refine (lawsMarkI v8 _ R.length 1 _ _ R3.out.own (by omega)).mono ?_
  rintro e w4 ⟨rfl, o4, g4⟩
  obtain ⟨k3, hk3⟩ : ∃ k3, 1 + R.length = k3 := ⟨_, rfl⟩
  rw [hk3]
  have P4 := Lib.hid (P3.out.other R3.out g4 (.inl (Nat.le_refl _)))
  have R4 := Lib.hid (R3.out.set (row_mark o4))
  have O4 := Lib.hid o4
  have B4 := Lib.hid (B3.out.grown g4 B3.out.size (fun k e => by have h1 := R3.out.low e; have h2 := S1.out; omega))
  clear o4 g4
  go_wp2_with fail
  refine (lawsHeldOwn v8 _ R.length 1 _ O4.out (by omega)).mono ?_
  rintro e w5 ⟨rfl, hg⟩
  rw [hk3]
  have P5 := Lib.hid (P4.out.gb hg)
  have O5 := Lib.hid (own_none O4.out hg)
  have B5 := Lib.hid (below_gb B4.out (Nat.le_refl _) hg)
  have hk0 : ¬ (k3 : Int) < 0 := by omega
  clear hg
  go_wp2_with fail
  refine (HI.out _).mono ?_
  rintro e w6 ⟨v6, rfl, o6, b6⟩
  have P6 := Lib.hid (P5.out.gb (gb_of_below b6 none))
  have O6 := Lib.hid (own_below O5.out b6)
  have Q6 := Lib.hid o6
  have B6 := Lib.hid (B5.out.trans (b6.mono B5.out.size))
  clear o6 b6
  go_wp2_with fail
  refine (lawsEqOwn v6 v0 _ _ R _ Q6.out P6.out.own (by omega)).mono ?_
  rintro e w7 ⟨rfl, hg⟩
  have O7 := Lib.hid (own_none O6.out hg)
  have B7 := Lib.hid (below_gb B6.out (Nat.le_refl _) hg)
  clear hg
  go_wp2_with fail
  refine (lawsHeldOwn v8 _ R.length 1 _ O7.out (by omega)).mono ?_
  rintro e w8 ⟨rfl, hg⟩
  rw [hk3]
  have B8 := Lib.hid (below_gb B7.out (Nat.le_refl _) hg)
  clear hg
  go_wp2_with fail
  go_ret
  exact ⟨rfl, B8.out⟩
end Go.Proofs.Ytgdngjfjbcnbmaa
