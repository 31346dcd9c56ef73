/- What is proved here: what the program's RuleName returns, for all arguments; only new blocks are written. -/
import Derived.Test.YtecaehkckamhkaaStdH
namespace Go.Proofs.Ytecaehkckamhkaa
open Go.ChangeShapes Go.WideShapes Go.ChangeAt Go.RowKit
set_option linter.unusedVariables false

theorem implRuleName (r : Int) (w : World) :
    Calls Try.prog 34 #[.int .i64 r] w fun e w' => e = .returned (.string (ruleName r)) ∧ w.grownBy w' none := by
  have HF := Lib.hid (fun w => implFindRule r _ rfl w)
  obtain ⟨F, hF⟩ : ∃ F, ruleFn r = F := ⟨_, rfl⟩
  obtain ⟨s, hs⟩ : ∃ s, ruleName r = s := ⟨_, rfl⟩
  rw [hs]
  have HR : Hid (ruleC r = #[.string s, F]) := Lib.hid (by rw [ruleC, hF, hs])
  have H1 : Hid ((#[.string s, F] : Array Value).all (·.oneCell') = true) := Lib.hid (by rw [← HR.out]; exact rule_one r)
  clear hF hs
  go_enter Try.func34, Try.ntmps34
  go_wp2_with fail
  refine (HF.out _).mono ?_
  rintro e w1 ⟨rfl, g1⟩
  have HG1 := Lib.hid g1
  clear g1
  rw [HR.out]
  have HZ := Lib.hid (Blk.new w1 93 #[.string ⟨#[]⟩, .nilFunc])
  go_wp2_with (refine wpList_storeRule rfl (.tmp 3) (.tmp 8) rfl w1.heap.size _ s F H1.out rfl rfl HZ.out rfl ?_
               intro w2 hb2 hg2
               have c0 : w2.cell? ⟨w1.heap.size, 0, none⟩ = some (.string s) := hb2.cell 0
               have HG2 := Lib.hid (gb_fresh (gb_alloc HG1.out _) hg2 HG1.out.size)
               clear hg2 hb2)
  go_ret
  exact ⟨rfl, HG2.out⟩
end Go.Proofs.Ytecaehkckamhkaa
