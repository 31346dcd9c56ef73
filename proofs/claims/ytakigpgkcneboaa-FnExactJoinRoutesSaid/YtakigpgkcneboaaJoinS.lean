/- What is proved here: what the model's JoinRoutes returns, for all arguments; only new blocks are written. -/
import Derived.Test.YtakigpgkcneboaaRouteS
import Derived.Test.YtakigpgkcneboaaAppI
namespace Go.Proofs.Ytakigpgkcneboaa
open Go.ChangeShapes Go.WideShapes Go.ChangeAt Go.RowKit
set_option linter.unusedVariables false

theorem OneAt.apps {W H : Int} {A : Option Addr} {n cap : Nat} {w wr w' : World} {acc X : List Int} {v v' : Value} {k : Nat} (h : OneAt W H A n cap w acc v wr) (hk : (acc ++ X).length = k) (ho : w'.ownsRow (w.heap.size + 1) 3 1 v' k (intsV (acc ++ X))) (hg : wr.grownBy w' v.ownBlock) :
    OneAt W H A n cap w (acc ++ X) v' w' :=
  ⟨by rw [hk]; exact ho, h.2.grown hg (by have := h.le; omega) (fun j hj => (h.1.lt j hj).1)⟩

theorem specJoinRoutes (W H : Int) (A A2 A3 : Option Addr) (n cap n2 c2 n3 c3 : Nat) (L R S : List Int) (b : Bool) (hb : routeG W H L (R ++ S) = b) (w : World)
    (h : IntAt w w.heap.size A n L) (h2 : IntAt w w.heap.size A2 n2 R) (h3 : IntAt w w.heap.size A3 n3 S) (hn : n ≤ 1000000000) (hn2 : n2 + n3 ≤ 1000000000) :
    Calls Try.prog 34 #[.agg #[.int .i64 W, .int .i64 H, .slice A n cap], .slice A2 n2 c2, .slice A3 n3 c3] w (NewR (joinG W H L R S) b w) := by
  obtain ⟨i0, hi, hz0, hz1, hz2⟩ := info_parts info_int
  have s0 := OneAt.made0 (W := W) (H := H) (A := A) (n := n) (cap := cap) (gb_refl (w.alloc (.cells (meshC W H A n cap) 28)) none)
  rw [one_size] at s0
  have S0 := Lib.hid s0
  have H0 := Lib.hid h
  have H2 := Lib.hid (S0.out.row h2)
  have H3 := Lib.hid h3
  have hl2 := h2.1
  have hl3 := h3.1
  have HLen := Lib.hid (show (R ++ S).length = n2 + n3 by rw [List.length_append, hl2, hl3])
  have HLR := Lib.hid (show ([] ++ R).length = n2 by rw [List.nil_append, hl2])
  have N1 := Lib.hid (show 0 + n2 ≤ 1000000000 by omega)
  have N2 := Lib.hid hn2
  have HC := Lib.hid (fun A' c' w h h2 => specIsRoute W H A A' n cap (n2 + n3) c' L (R ++ S) b hb w h h2 hn hn2)
  have hs0 := S0.out.le
  clear h h2 h3 hl2 hl3 s0
  cases b with
  | false =>
    have HJ := Lib.hid (joinG_no hb)
    clear hb hn hn2
    go_enter Try.func34, Try.ntmps34
    go_wp2_with (first
      | (at_builtin; refine wpList_app_own _ rfl (.tmp 9) _ rfl i0 hi hz0 hz1 hz2 (w.heap.size + 1) 0 n2 c2 _ _ [] R _ rfl rfl S0.out.1 H2.out N1.out hs0 ?_; intro v1 w1 hown1 hgrow1; rw [Nat.zero_add] at hown1; have O1 := Lib.hid (show OneAt W H A n cap w R v1 w1 from S0.out.apps HLR.out hown1 hgrow1); have HI3 := Lib.hid (O1.out.row H3.out); have hs1 := O1.out.le; obtain ⟨A1, c1', rfl, _⟩ := own_form hown1; have HOw1 := Lib.hid (show w1.ownsRow (w.heap.size + 1) 3 1 (.slice A1 n2 c1') n2 (intsV R) from hown1); clear hown1 hgrow1)
      | (at_builtin; refine wpList_app_own _ rfl (.tmp 12) _ rfl i0 hi hz0 hz1 hz2 (w.heap.size + 1) n2 n3 c3 _ _ R S _ rfl rfl HOw1.out HI3.out N2.out hs1 ?_; intro v2 w2 hown2 hgrow2; have O2 := Lib.hid (O1.out.apps HLen.out hown2 hgrow2); obtain ⟨a0, a1, a2⟩ := O2.out.cells; obtain ⟨A2', c2', rfl, _⟩ := own_form hown2; have HOw2 := Lib.hid hown2; clear hown2 hgrow2))
    refine (HC.out _ _ _ (O2.out.row H0.out) (intAt_own HOw2.out HLen.out (Nat.le_refl _))).mono ?_
    rintro e w3 ⟨rfl, hg3⟩
    have HEm := Lib.hid (own_empty HJ.out (O2.out.gb hg3).old)
    clear hg3 a0 a1 a2
    go_wp2_with fail
    go_ret2
    exact ⟨_, rfl, HEm.out.1, HEm.out.2⟩
  | true =>
    have HJ := Lib.hid (joinG_yes hb)
    clear hb hn hn2
    go_enter Try.func34, Try.ntmps34
    go_wp2_with (first
      | (at_builtin; refine wpList_app_own _ rfl (.tmp 9) _ rfl i0 hi hz0 hz1 hz2 (w.heap.size + 1) 0 n2 c2 _ _ [] R _ rfl rfl S0.out.1 H2.out N1.out hs0 ?_; intro v1 w1 hown1 hgrow1; rw [Nat.zero_add] at hown1; have O1 := Lib.hid (show OneAt W H A n cap w R v1 w1 from S0.out.apps HLR.out hown1 hgrow1); have HI3 := Lib.hid (O1.out.row H3.out); have hs1 := O1.out.le; obtain ⟨A1, c1', rfl, _⟩ := own_form hown1; have HOw1 := Lib.hid (show w1.ownsRow (w.heap.size + 1) 3 1 (.slice A1 n2 c1') n2 (intsV R) from hown1); clear hown1 hgrow1)
      | (at_builtin; refine wpList_app_own _ rfl (.tmp 12) _ rfl i0 hi hz0 hz1 hz2 (w.heap.size + 1) n2 n3 c3 _ _ R S _ rfl rfl HOw1.out HI3.out N2.out hs1 ?_; intro v2 w2 hown2 hgrow2; have O2 := Lib.hid (O1.out.apps HLen.out hown2 hgrow2); obtain ⟨a0, a1, a2⟩ := O2.out.cells; obtain ⟨A2', c2', rfl, _⟩ := own_form hown2; have HOw2 := Lib.hid hown2; clear hown2 hgrow2))
    refine (HC.out _ _ _ (O2.out.row H0.out) (intAt_own HOw2.out HLen.out (Nat.le_refl _))).mono ?_
    rintro e w3 ⟨rfl, hg3⟩
    have O3 := Lib.hid (O2.out.gb hg3)
    clear hg3 a0 a1 a2
    go_wp2_with fail
    go_ret2
    have h1 := O3.out.new HJ.out.symm
    exact ⟨_, rfl, h1.1, h1.2⟩
end Go.Proofs.Ytakigpgkcneboaa
