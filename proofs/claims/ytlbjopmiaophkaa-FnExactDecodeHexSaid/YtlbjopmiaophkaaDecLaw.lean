/- What is proved here: the law on DecodeHex answers true, for every string; only new blocks are written. -/
import Derived.Test.YtlbjopmiaophkaaDec
namespace Go.Proofs.Ytlbjopmiaophkaa
open Go.ChangeShapes Go.WideShapes Go.ChangeAt Go.RowKit
set_option linter.unusedVariables false

theorem walk_FnExactDecodeHex (s : ByteArray) (w : World) (hm : s.size ≤ maxLen) :
    Calls Try.prog 5 #[.string s] w fun e w' => e = .returned (.bool true) ∧ Below w.heap.size w w' := by
  have c1 := fun W => specDec s W hm
  have c2 := fun W => implDec s W hm
  unfold maxLen at hm
  by_cases hbig : 1048576 < s.size
  · clear c1 c2
    go_enter Try.func5, Try.ntmps5
    go_wp2_with fail
    go_ret
    exact ⟨rfl, Below.refl _ _⟩
  · unfold DecPost at c1 c2
    obtain ⟨t, ht⟩ : ∃ t : ByteArray, decS s = t := ⟨_, rfl⟩
    obtain ⟨b, hb⟩ : ∃ b : Bool, decB s = b := ⟨_, rfl⟩
    rw [ht, hb] at c1 c2
    have C1 := Lib.hid c1
    have C2 := Lib.hid c2
    clear c1 c2 ht hb
    go_enter Try.func5, Try.ntmps5
    go_wp2_with fail
    refine (C1.out _).mono ?_
    rintro e w1 ⟨rfl, hb1⟩
    have HB1 := Lib.hid hb1
    clear hb1
    go_wp2_with fail
    refine (C2.out _).mono ?_
    rintro e w2 ⟨rfl, hb2⟩
    have HB2 := Lib.hid hb2
    clear hb2
    go_wp2_with fail
    all_goals go_ret
    all_goals exact ⟨rfl, HB1.out.trans (HB2.out.mono HB1.out.size)⟩
end Go.Proofs.Ytlbjopmiaophkaa
