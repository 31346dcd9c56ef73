/- What is proved here: the law on standard tables answers true, for every draw; only new blocks are written. -/
import Derived.Test.YtecaehkckamhkaaDrawGrid
import Derived.Test.YtecaehkckamhkaaDrawRule
import Derived.Test.YtecaehkckamhkaaBig
import Derived.Test.YtecaehkckamhkaaTabI
import Derived.Test.YtecaehkckamhkaaMinI
import Derived.Test.YtecaehkckamhkaaDiamI
import Derived.Test.YtecaehkckamhkaaStdTabI
import Derived.Test.YtecaehkckamhkaaDiffI
import Derived.Test.YtecaehkckamhkaaNameI
import Derived.Test.YtecaehkckamhkaaStandA
namespace Go.Proofs.Ytecaehkckamhkaa
open Go.ChangeShapes Go.WideShapes Go.ChangeAt Go.RowKit
set_option linter.unusedVariables false

theorem ruleName_some {r : Int} (h1 : 1 ≤ r) (h4 : r ≤ 4) : (ruleName r).toList.isEmpty = false := by
  have hr : r = 1 ∨ r = 2 ∨ r = 3 ∨ r = 4 := by omega
  rcases hr with rfl | rfl | rfl | rfl <;> decide +kernel

set_option maxHeartbeats 1600000 in
theorem walk_FnStandard (A : Option Addr) (n cap : Nat) (w : World) (hr : ByteRow w w.heap.size A n) :
    Calls Try.prog 7 #[.slice A n cap] w fun e w' => e = .returned (.bool true) ∧ Below w.heap.size w w' := by
  by_cases hbig : 1048576 < n
  · go_enter Try.func7, Try.ntmps7
    go_wp2_with fail
    refine (lawsBig A n cap _).mono ?_
    rintro e w1 ⟨rfl, rfl⟩
    rw [decide_eq_true hbig]
    go_wp2_with fail
    go_ret
    exact ⟨rfl, Below.refl _ _⟩
  · have HR := Lib.hid hr
    have hn : n ≤ 1048576 := by omega
    clear hr
    go_enter Try.func7, Try.ntmps7
    go_wp2_with fail
    refine (lawsBig A n cap _).mono ?_
    rintro e w1 ⟨rfl, rfl⟩
    rw [decide_eq_false hbig]
    go_wp2_with fail
    refine (drawGrid A n cap _ HR.out hn).mono ?_
    rintro e w1 ⟨W, H, rfl, hok, hb⟩
    have HB1 := Lib.hid (hb.alloc hb.size (.cells #[.int .i64 W, .int .i64 H] 32))
    have K1 := Lib.hid (Blk.new w1 32 #[.int .i64 W, .int .i64 H])
    have HRW := Lib.hid (show ByteRow (w1.alloc (.cells #[.int .i64 W, .int .i64 H] 32)) (w1.alloc (.cells #[.int .i64 W, .int .i64 H] 32)).heap.size A n from
      (HR.out.keep fun p hp => World.cell?_of_block (HB1.out.block p.block hp)).more HB1.out.size)
    clear hb
    go_wp2_with fail
    refine (drawRule A n cap _ HRW.out hn).mono ?_
    rintro e w2 ⟨r, rfl, hr1, hr4, hb2⟩
    have K2 := Lib.hid (K1.out.below hb2 K1.out.lt)
    have HB2 := Lib.hid (HB1.out.trans (hb2.mono HB1.out.size))
    obtain ⟨b0, hb0⟩ : ∃ b, w1.heap.size = b := ⟨_, rfl⟩
    rw [hb0] at K2
    have a0 : w2.cell? ⟨b0, 0, none⟩ = some (.int .i64 W) := K2.out.cell 0
    have a1 : w2.cell? ⟨b0, 1, none⟩ = some (.int .i64 H) := K2.out.cell 1
    obtain ⟨ht, hmi, hlo⟩ := std_facts hok hr1 hr4
    have hso : stdOk W H r = true := by rw [stdOk, hok]; simp [hr1, hr4]
    have hsr : stdRes W H r = stdTab W H r := by rw [stdRes, hso]; rfl
    have hpl := stdRes_length W H r
    obtain ⟨P, hP⟩ : ∃ P, stdTab W H r = P := ⟨_, rfl⟩
    obtain ⟨d, hd⟩ : ∃ d, diamG W H = d := ⟨_, rfl⟩
    obtain ⟨s, hs⟩ : ∃ s, ruleName r = s := ⟨_, rfl⟩
    have HSN := Lib.hid (hs ▸ ruleName_some hr1 hr4)
    have HST := Lib.hid (fun w => show Calls Try.prog 32 #[.agg #[.int .i64 W, .int .i64 H], .int .i64 r] w (RetTab P true w) from hP ▸ hsr ▸ hso ▸ implStdTab W H r w)
    rw [hsr, hP] at hpl
    rw [hP] at ht hmi hlo
    rw [hd] at hlo
    have CT := Lib.hid (fun A2 c2 w h2 => show Calls Try.prog 18 #[.agg #[.int .i64 W, .int .i64 H, .slice none 0 0], .agg #[.slice A2 P.length c2]] w (RetB true w) from ht ▸ implTableOk W H none A2 0 0 P.length c2 [] P wfl_nil w (IntAt.nil _ _ _) h2 (by omega) (by omega))
    have CM := Lib.hid (fun A2 c2 w h2 => show Calls Try.prog 24 #[.agg #[.int .i64 W, .int .i64 H, .slice none 0 0], .agg #[.slice A2 P.length c2]] w (RetB true w) from hmi ▸ implIsMinimal W H none A2 0 0 P.length c2 [] P wfl_nil w (IntAt.nil _ _ _) h2 (by omega) (by omega))
    have CL := Lib.hid (fun A2 c2 w h2 => show Calls Try.prog 22 #[.agg #[.int .i64 W, .int .i64 H, .slice none 0 0], .agg #[.slice A2 P.length c2]] w (RetI d none w) from hlo ▸ implLongestWalk W H none A2 0 0 P.length c2 [] P wfl_nil w (IntAt.nil _ _ _) h2 (by omega) (by omega))
    have CD := Lib.hid (fun w => show Calls Try.prog 29 #[.agg #[.int .i64 W, .int .i64 H]] w (RetI d none w) from hd ▸ implDiameter W H w)
    have CX := Lib.hid (fun A2 c2 w h2 => show Calls Try.prog 33 #[.agg #[.slice A2 P.length c2], .agg #[.slice A2 P.length c2]] w (RetI 0 none w) from (show ((diffG P P : Nat) : Int) = 0 by rw [diffG_same]; rfl) ▸ implDiffering A2 P.length c2 P A2 P.length c2 P w h2 h2 (by omega) (by omega))
    have CN := Lib.hid (fun w => show Calls Try.prog 34 #[.int .i64 r] w fun e w' => e = .returned (.string s) ∧ w.grownBy w' none from hs ▸ implRuleName r w)
    clear hok hr1 hr4 hb2 ht hmi hlo hso hsr hP hd hs
    go_wp2_with fail
    (try rw [hb0])
    clear hb0
    refine (HST.out _).mono ?_
    rintro e w3 ⟨v, rfl, o3, b3⟩
    obtain ⟨A2, c2, rfl, _⟩ := own_form o3
    have hk3 := (K2.out.below b3 K2.out.lt).alloc (.cells #[.slice A2 P.length c2] 36)
    have a2 : (w3.alloc (.cells #[.slice A2 P.length c2] 36)).cell? ⟨b0, 0, none⟩ = some (.int .i64 W) := hk3.cell 0
    have a3 : (w3.alloc (.cells #[.slice A2 P.length c2] 36)).cell? ⟨b0, 1, none⟩ = some (.int .i64 H) := hk3.cell 1
    have hb1 := Blk.new (w3.alloc (.cells #[.slice A2 P.length c2] 36)) 34 #[.int .i64 W, .int .i64 H, .slice none 0 0]
    rw [alloc_size] at hb1
    have LA := Lib.hid (show StandAt W H A2 c2 P w b0 w3.heap.size (w3.heap.size + 1) ((w3.alloc (.cells #[.slice A2 P.length c2] 36)).alloc (.cells #[.int .i64 W, .int .i64 H, .slice none 0 0] 34)) from
      ⟨hk3.alloc _, (Blk.new w3 _ _).alloc _, hb1, ((intAt_own o3 rfl (Nat.le_refl _)).none (Nat.le_refl _) (gb_alloc (gb_alloc (gb_refl w3 none) _) _)).more (by rw [alloc_size, alloc_size]; omega),
        ((HB2.out.trans (b3.mono HB2.out.size)).alloc (HB2.out.trans (b3.mono HB2.out.size)).size _).alloc (by rw [alloc_size]; have := (HB2.out.trans (b3.mono HB2.out.size)).size; omega) _⟩)
    clear hb1 hk3 o3 b3 a0 a1
    go_wp2_with fail
    obtain ⟨w4, hw4⟩ : ∃ x, (w3.alloc (.cells #[.slice A2 P.length c2] 36)).alloc (.cells #[.int .i64 W, .int .i64 H, .slice none 0 0] 34) = x := ⟨_, rfl⟩
    rw [hw4] at LA
    (try rw [hw4])
    obtain ⟨b1, hb1⟩ : ∃ b, w3.heap.size = b := ⟨_, rfl⟩
    rw [hb1] at LA
    (try rw [hb1])
    obtain ⟨b2, hb2⟩ : ∃ b, b1 + 1 = b := ⟨_, rfl⟩
    rw [hb2] at LA
    (try rw [hb2])
    have LAd := Lib.hid (LA.out.gb (gb_drew (gb_refl w4 none)))
    obtain ⟨g0, g1, g2, g3, g4, g5⟩ := LA.out.cells
    obtain ⟨n0, n1, n2, n3, n4, n5⟩ := LAd.out.cells
    have hdd : (d == d) = true := by simp
    clear hw4 hb1 hb2 a2 a3
    go_region_held3 (fun w' => w'.cell? ⟨b0, 0, none⟩ = some (.int .i64 W) ∧ w'.cell? ⟨b0, 1, none⟩ = some (.int .i64 H) ∧ w'.cell? ⟨b1, 0, none⟩ = some (.slice A2 P.length c2) ∧ w'.cell? ⟨b2, 0, none⟩ = some (.int .i64 W) ∧ w'.cell? ⟨b2, 1, none⟩ = some (.int .i64 H) ∧ w'.cell? ⟨b2, 2, none⟩ = some (.slice none 0 0))
      (first | with_reducible exact ⟨g0, g1, g2, g3, g4, g5⟩ | with_reducible exact ⟨n0, n1, n2, n3, n4, n5⟩ | with_reducible exact ⟨h0, h1, h2, h3, h4, h5⟩ | with_reducible exact ⟨i0, i1, i2, i3, i4, i5⟩ | with_reducible exact ⟨j0, j1, j2, j3, j4, j5⟩ | with_reducible exact ⟨k0, k1, k2, k3, k4, k5⟩ | with_reducible exact ⟨m0, m1, m2, m3, m4, m5⟩ | with_reducible exact ⟨o0, o1, o2, o3, o4, o5⟩ | fail)
      (first
        | (go_at_call 18; (with_reducible refine (CT.out _ _ _ LAd.out.row).mono ?_); rintro e w5 ⟨rfl, hg0⟩; have L0 := Lib.hid (LAd.out.gb hg0); obtain ⟨h0, h1, h2, h3, h4, h5⟩ := L0.out.cells; clear hg0)
        | (go_at_call 24; (with_reducible refine (CM.out _ _ _ L0.out.row).mono ?_); rintro e w6 ⟨rfl, hg1⟩; have L1 := Lib.hid (L0.out.gb hg1); obtain ⟨i0, i1, i2, i3, i4, i5⟩ := L1.out.cells; clear hg1)
        | (go_at_call 22; (with_reducible refine (CL.out _ _ _ L1.out.row).mono ?_); rintro e w7 ⟨rfl, hg2⟩; have L2 := Lib.hid (L1.out.gb hg2); obtain ⟨j0, j1, j2, j3, j4, j5⟩ := L2.out.cells; clear hg2)
        | (go_at_call 29; (with_reducible refine (CD.out _).mono ?_); rintro e w8 ⟨rfl, hg3⟩; have L3 := Lib.hid (L2.out.gb hg3); obtain ⟨k0, k1, k2, k3, k4, k5⟩ := L3.out.cells; clear hg3)
        | (go_at_call 33; (with_reducible refine (CX.out _ _ _ L3.out.row).mono ?_); rintro e w9 ⟨rfl, hg4⟩; have L4 := Lib.hid (L3.out.gb hg4); obtain ⟨m0, m1, m2, m3, m4, m5⟩ := L4.out.cells; clear hg4)
        | (go_at_call 34; (with_reducible refine (CN.out _).mono ?_); rintro e w10 ⟨rfl, hg5⟩; have L5 := Lib.hid (L4.out.gb hg5); obtain ⟨o0, o1, o2, o3, o4, o5⟩ := L5.out.cells; clear hg5)
        | fail)
    all_goals
      go_wp2_with fail
      go_ret
      exact ⟨ret_bool (by rw [HSN.out]; rfl), L5.out.2.2.2.2⟩
end Go.Proofs.Ytecaehkckamhkaa
