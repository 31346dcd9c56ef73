/- What is proved here: what the program's WalkTable returns, for all arguments; only new blocks are written. -/
import Derived.Test.YtpcmkilaapjaaaaPairI
import Derived.Test.YtpcmkilaapjaaaaWalkI
namespace Go.Proofs.Ytpcmkilaapjaaaa
open Go.ChangeShapes Go.WideShapes Go.ChangeAt Go.RowKit
set_option linter.unusedVariables false
set_option maxRecDepth 20000

theorem implWalkTable (W H : Int) (A A2 : Option Addr) (n cap n2 c2 : Nat) (L P : List Int) (a z : Int) (hL : WfL L) (w : World) (h : IntAt w w.heap.size A n L) (h2 : IntAt w w.heap.size A2 n2 P) (hn : n ≤ 1000000000) (hn2 : n2 ≤ 1000000000) :
    Calls Try.prog 17 #[.agg #[.int .i64 W, .int .i64 H, .slice A n cap], .agg #[.slice A2 n2 c2], .int .i64 a, .int .i64 z] w (NewI (walkG W H L P a z) w) := by
  have HI := Lib.hid h
  have HT1 := Lib.hid (h.twoI (W := W) (H := H) (A := A) (A2 := A2) (n := n) (cap := cap) (n2 := n2) (c2 := c2))
  have HT2 := Lib.hid (h2.twoI (W := W) (H := H) (A := A) (A2 := A2) (n := n) (cap := cap) (n2 := n2) (c2 := c2))
  clear h h2
  cases hs : sizedG W H L P with
  | false =>
    have HPO := Lib.hid (fun w h h2 => implPortsNo W H A A2 n cap n2 c2 L P hL w h h2 hn hn2 hs)
    have HR := Lib.hid (show askG W H L P a z = false by simp [askG, hs])
    clear hs hL
    go_enter Try.func17, Try.ntmps17
    go_wp2_with fail
    refine (HPO.out _ HT1.out HT2.out).mono ?_
    rintro e w1 ⟨rfl, hg⟩
    have HG1 := Lib.hid (show (twoI W H A A2 n cap n2 c2 w).grownBy w1 none from hg)
    clear hg
    go_wp2_with (refine wpList_storeX rfl _ _ rfl w1.heap.size zerosX zerosX rfl rfl (new_square w1) zerosX_length zerosX_length ?_; intro w2 hb2 hg2; have HB2 := Lib.hid hb2; have HG2 := Lib.hid (gb_square HG1.out hg2); clear hb2 hg2)
    go_ret
    refine ⟨_, rfl, ?_, gb_below_none (twoI_old HG2.out) (Nat.le_refl _)⟩
    rw [walkG_no HR.out]
    exact World.ownsRow_nil _ _ _ _
  | true =>
    have HPO := Lib.hid (fun w h h2 => implPortsYes W H A A2 n cap n2 c2 L P hL w h h2 hn hn2 hs)
    have HPX := Lib.hid (portsX_is hs)
    cases ha : hasG W H a with
    | false =>
      have HA := Lib.hid (fun w => show Calls Try.prog 46 #[.agg #[.int .i64 W, .int .i64 H], .int .i64 a] w (RetB false w) from ha ▸ implHasNode W H a w)
      have HR := Lib.hid (show askG W H L P a z = false by simp [askG, ha])
      clear hs ha hL
      go_enter Try.func17, Try.ntmps17
      go_wp2_with fail
      refine (HPO.out _ HT1.out HT2.out).mono ?_
      rintro e w1 ⟨rfl, hg⟩
      have HG1 := Lib.hid (show (twoI W H A A2 n cap n2 c2 w).grownBy w1 none from hg)
      clear hg
      go_wp2_with (refine wpList_storeX rfl _ _ rfl w1.heap.size zerosX (portsX W H P P.length) rfl rfl (new_square w1) zerosX_length (sqTo_length _ _ _) ?_; intro w2 hb2 hg2; have HB2 := Lib.hid hb2; have HG2 := Lib.hid (gb_square HG1.out hg2); have tm := twoI_mesh HG2.out; have a0 : w2.cell? ⟨w.heap.size, 0, none⟩ = some (.int .i64 W) := tm.cell 0; have a1 : w2.cell? ⟨w.heap.size, 1, none⟩ = some (.int .i64 H) := tm.cell 1; have a2 : w2.cell? ⟨w.heap.size, 2, none⟩ = some (.slice A n cap) := tm.cell 2; clear hb2 hg2 tm)
      refine (HA.out _).mono ?_
      rintro e w3 ⟨rfl, hg3⟩
      have HG3 := Lib.hid (gb_trans HG2.out hg3)
      clear hg3 a0 a1 a2
      go_wp2_with fail
      go_ret
      refine ⟨_, rfl, ?_, gb_below_none (twoI_old HG3.out) (Nat.le_refl _)⟩
      rw [walkG_no HR.out]
      exact World.ownsRow_nil _ _ _ _
    | true =>
      have HA := Lib.hid (fun w => show Calls Try.prog 46 #[.agg #[.int .i64 W, .int .i64 H], .int .i64 a] w (RetB true w) from ha ▸ implHasNode W H a w)
      cases hz : hasG W H z with
      | false =>
        have HZ := Lib.hid (fun w => show Calls Try.prog 46 #[.agg #[.int .i64 W, .int .i64 H], .int .i64 z] w (RetB false w) from hz ▸ implHasNode W H z w)
        have HR := Lib.hid (show askG W H L P a z = false by simp [askG, hz])
        clear hs ha hz hL
        go_enter Try.func17, Try.ntmps17
        go_wp2_with fail
        refine (HPO.out _ HT1.out HT2.out).mono ?_
        rintro e w1 ⟨rfl, hg⟩
        have HG1 := Lib.hid (show (twoI W H A A2 n cap n2 c2 w).grownBy w1 none from hg)
        clear hg
        go_wp2_with (refine wpList_storeX rfl _ _ rfl w1.heap.size zerosX (portsX W H P P.length) rfl rfl (new_square w1) zerosX_length (sqTo_length _ _ _) ?_; intro w2 hb2 hg2; have HB2 := Lib.hid hb2; have HG2 := Lib.hid (gb_square HG1.out hg2); have tm := twoI_mesh HG2.out; have a0 : w2.cell? ⟨w.heap.size, 0, none⟩ = some (.int .i64 W) := tm.cell 0; have a1 : w2.cell? ⟨w.heap.size, 1, none⟩ = some (.int .i64 H) := tm.cell 1; have a2 : w2.cell? ⟨w.heap.size, 2, none⟩ = some (.slice A n cap) := tm.cell 2; clear hb2 hg2 tm)
        refine (HA.out _).mono ?_
        rintro e w3 ⟨rfl, hg3⟩
        have HG3 := Lib.hid (gb_trans HG2.out hg3)
        clear hg3 a0 a1 a2
        have tm := twoI_mesh HG3.out
        have a0 : w3.cell? ⟨w.heap.size, 0, none⟩ = some (.int .i64 W) := tm.cell 0
        have a1 : w3.cell? ⟨w.heap.size, 1, none⟩ = some (.int .i64 H) := tm.cell 1
        clear tm
        go_wp2_with fail
        refine (HZ.out _).mono ?_
        rintro e w4 ⟨rfl, hg4⟩
        have HG4 := Lib.hid (gb_trans HG3.out hg4)
        clear hg4 a0 a1
        go_wp2_with fail
        go_ret
        refine ⟨_, rfl, ?_, gb_below_none (twoI_old HG4.out) (Nat.le_refl _)⟩
        rw [walkG_no HR.out]
        exact World.ownsRow_nil _ _ _ _
      | true =>
        have HZ := Lib.hid (fun w => show Calls Try.prog 46 #[.agg #[.int .i64 W, .int .i64 H], .int .i64 z] w (RetB true w) from hz ▸ implHasNode W H z w)
        have HR := Lib.hid (show askG W H L P a z = true by simp [askG, hs, ha, hz])
        obtain ⟨a0, a1⟩ := hasG_iff.1 ha
        obtain ⟨z0, z1⟩ := hasG_iff.1 hz
        obtain ⟨x, rfl⟩ : ∃ x : Nat, a = (x : Int) := ⟨a.toNat, (Int.toNat_of_nonneg a0).symm⟩
        obtain ⟨y, rfl⟩ : ∃ y : Nat, z = (y : Int) := ⟨z.toNat, (Int.toNat_of_nonneg z0).symm⟩
        have hcl := countG_le W H
        have x16 : (x : Int) < 16 := by omega
        have y16 : (y : Int) < 16 := by omega
        have HX1 := Lib.hid a1
        have HY1 := Lib.hid z1
        have HW := Lib.hid (fun w g h hb => implWalk W H A n cap L P (portsX W H P P.length) g x y hL w h hn HPX.out hb a1 z1)
        clear hs ha hz a0 a1 z0 z1 hcl
        go_enter Try.func17, Try.ntmps17
        go_wp2_with fail
        refine (HPO.out _ HT1.out HT2.out).mono ?_
        rintro e w1 ⟨rfl, hg⟩
        have HG1 := Lib.hid (show (twoI W H A A2 n cap n2 c2 w).grownBy w1 none from hg)
        clear hg
        go_wp2_with (refine wpList_storeX rfl _ _ rfl w1.heap.size zerosX (portsX W H P P.length) rfl rfl (new_square w1) zerosX_length (sqTo_length _ _ _) ?_; intro w2 hb2 hg2; have HB2 := Lib.hid hb2; have HG2 := Lib.hid (gb_square HG1.out hg2); have tm := twoI_mesh HG2.out; have a0 : w2.cell? ⟨w.heap.size, 0, none⟩ = some (.int .i64 W) := tm.cell 0; have a1 : w2.cell? ⟨w.heap.size, 1, none⟩ = some (.int .i64 H) := tm.cell 1; have a2 : w2.cell? ⟨w.heap.size, 2, none⟩ = some (.slice A n cap) := tm.cell 2; clear hb2 hg2 tm)
        refine (HA.out _).mono ?_
        rintro e w3 ⟨rfl, hg3⟩
        have HG3 := Lib.hid (gb_trans HG2.out hg3)
        have HB3 := Lib.hid (HB2.out.grown hg3 (by simp))
        clear hg3 a0 a1 a2
        have tm := twoI_mesh HG3.out
        have a0 : w3.cell? ⟨w.heap.size, 0, none⟩ = some (.int .i64 W) := tm.cell 0
        have a1 : w3.cell? ⟨w.heap.size, 1, none⟩ = some (.int .i64 H) := tm.cell 1
        clear tm
        go_wp2_with fail
        refine (HZ.out _).mono ?_
        rintro e w4 ⟨rfl, hg4⟩
        have HG4 := Lib.hid (gb_trans HG3.out hg4)
        have HB4 := Lib.hid (HB3.out.grown hg4 (by simp))
        clear hg4 a0 a1
        have tm := twoI_mesh HG4.out
        have a0 : w4.cell? ⟨w.heap.size, 0, none⟩ = some (.int .i64 W) := tm.cell 0
        have a1 : w4.cell? ⟨w.heap.size, 1, none⟩ = some (.int .i64 H) := tm.cell 1
        have a2 : w4.cell? ⟨w.heap.size, 2, none⟩ = some (.slice A n cap) := tm.cell 2
        clear tm
        go_wp2_with fail
        refine (HW.out _ _ (HI.out.oldI (twoI_old HG4.out)) HB4.out).mono ?_
        rintro e w5 ⟨v, rfl, ho5, hb5⟩
        have HO5 := Lib.hid ho5
        have HB5 := Lib.hid hb5
        clear ho5 hb5 a0 a1 a2
        go_wp2_with fail
        go_ret
        refine ⟨v, rfl, ?_, (gb_below_none (twoI_old HG4.out) (Nat.le_refl _)).trans (HB5.out.mono (twoI_old HG4.out).size)⟩
        rw [walkG_ask HR.out]
        exact own_less HO5.out (twoI_old HG4.out).size
end Go.Proofs.Ytpcmkilaapjaaaa
