/- What is proved here: what the program's TableOk returns, for all arguments; only new blocks are written. -/
import Derived.Test.YtgdngjfjbcnbmaaLensI
namespace Go.Proofs.Ytgdngjfjbcnbmaa
open Go.ChangeShapes Go.WideShapes Go.ChangeAt Go.RowKit
set_option linter.unusedVariables false
set_option maxRecDepth 20000

theorem implTableOk (W H : Int) (A A2 : Option Addr) (n cap n2 c2 : Nat) (L P : List Int) (hL : WfL L) (w : World) (h : IntAt w w.heap.size A n L) (h2 : IntAt w w.heap.size A2 n2 P) (hn : n ≤ 1000000000) (hn2 : n2 ≤ 1000000000) :
    Calls Try.prog 42 #[.agg #[.int .i64 W, .int .i64 H, .slice A n cap], .agg #[.slice A2 n2 c2]] w (RetB (tableG W H L P) w) := by
  have HT1 := Lib.hid (h.twoI (W := W) (H := H) (A := A) (A2 := A2) (n := n) (cap := cap) (n2 := n2) (c2 := c2))
  have HT2 := Lib.hid (h2.twoI (W := W) (H := H) (A := A) (A2 := A2) (n := n) (cap := cap) (n2 := n2) (c2 := c2))
  have HLN := Lib.hid (fun w h h2 => implLengths W H A A2 n cap n2 c2 L P hL w h h2 hn hn2)
  clear h h2 hL
  go_enter Try.func42, Try.ntmps42
  go_wp2_with fail
  refine (HLN.out _ HT1.out HT2.out).mono ?_
  rintro e w1 ⟨rfl, hg⟩
  have HG1 := Lib.hid (show (twoI W H A A2 n cap n2 c2 w).grownBy w1 none from hg)
  clear hg
  go_wp2_with (refine wpList_storeX rfl (.tmp 5) _ rfl w1.heap.size zerosX (lensRes W H L P) rfl rfl (new_square w1) zerosX_length (lensRes_length _ _ _ _) ?_; intro w2 hb2 hg2; have HG2 := Lib.hid (gb_square HG1.out hg2); clear hb2 hg2)
  go_ret
  exact ⟨rfl, twoI_old HG2.out⟩
end Go.Proofs.Ytgdngjfjbcnbmaa
