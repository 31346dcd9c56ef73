/- What is proved here: the law on FormatInt answers true, for every 64-bit number, where the library's table of powers holds what its text lays; only new blocks are written. -/
import Derived.Test.YtlbjopmiaophkaaDoorFmtS
import Derived.Test.YtlbjopmiaophkaaDoorFmtI
namespace Go.Proofs.YtlbjopmiaophkaaDoor
open Go.ChangeShapes Go.WideShapes Go.ChangeAt Go.RowKit
set_option linter.unusedVariables false

theorem walk_FnExactFormatInt (n : Int) (w : World) (hw : (Lit.int .i64 n).wf = true) (ht : Tab w) :
    Calls Tryd.prog 6 #[.int .i64 n] w fun e w' => e = .returned (.bool true) ∧ Below w.heap.size w w' := by
  have hb := bounds_i64 hw
  have c1 := specFmt n hb.1 hb.2
  have c2 := fun W => implFmt n hb.1 hb.2 W
  rw [show itoaI n = itoaB n from rfl] at c2
  obtain ⟨t, ht'⟩ : ∃ t, itoaB n = t := ⟨_, rfl⟩
  rw [ht'] at c1 c2
  have C1 := Lib.hid c1
  have C2 := Lib.hid c2
  have HT := Lib.hid ht
  clear c1 c2 ht ht' hb hw
  go_enter Tryd.func6, Tryd.ntmps6
  go_wp2_with fail
  refine (C1.out _).mono ?_
  rintro e w1 ⟨rfl, g1⟩
  have G1 := Lib.hid g1
  clear g1
  go_wp2_with fail
  refine (C2.out _ (HT.out.none G1.out)).mono ?_
  rintro e w2 ⟨rfl, g2⟩
  have G2 := Lib.hid (gb_trans G1.out g2)
  clear g2
  go_wp2_with fail
  go_ret
  exact ⟨rfl, gb_below_none G2.out (Nat.le_refl _)⟩
end Go.Proofs.YtlbjopmiaophkaaDoor
