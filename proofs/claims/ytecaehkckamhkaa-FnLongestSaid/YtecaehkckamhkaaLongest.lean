/- What is proved here: the law on longest walks answers true, for every draw; only new blocks are written. -/
import Derived.Test.YtecaehkckamhkaaDrawTable
import Derived.Test.YtecaehkckamhkaaDrawPlaces
import Derived.Test.YtecaehkckamhkaaBig
import Derived.Test.YtecaehkckamhkaaTabI
import Derived.Test.YtecaehkckamhkaaWalkTI
import Derived.Test.YtecaehkckamhkaaMinI
import Derived.Test.YtecaehkckamhkaaDiamI
namespace Go.Proofs.Ytecaehkckamhkaa
open Go.ChangeShapes Go.WideShapes Go.ChangeAt Go.RowKit
set_option linter.unusedVariables false

theorem walkG_most {W H : Int} {L P : List Int} (a b : Int) : (walkG W H L P a b).length ≤ mostTo W H L P (sqG W H) := by
  unfold walkG
  split
  · rename_i h
    obtain ⟨_, ha, hb⟩ := askG_all h.1
    exact walk_le ha hb
  · simp
/-- The drawn mesh, table and numbers are as they were. -/
def LongAt (W H : Int) (A2 : Option Addr) (c2 : Nat) (P : List Int) (w : World) (b0 b1 pb : Nat) (x0 x1 : Int) (wr : World) : Prop :=
  Blk wr b0 34 #[.int .i64 W, .int .i64 H, .slice none 0 0] ∧ Blk wr b1 36 #[.slice A2 P.length c2] ∧ IntAt wr wr.heap.size A2 P.length P ∧
  wr.cell? ⟨pb, 0, none⟩ = some (.int .i64 x0) ∧ wr.cell? ⟨pb, 1, none⟩ = some (.int .i64 x1) ∧ Below w.heap.size w wr
section
variable {W H : Int} {A2 : Option Addr} {c2 : Nat} {P : List Int} {w wr wr' : World} {b0 b1 pb : Nat} {x0 x1 : Int}
theorem LongAt.gb (h : LongAt W H A2 c2 P w b0 b1 pb x0 x1 wr) (hg : wr.grownBy wr' none) : LongAt W H A2 c2 P w b0 b1 pb x0 x1 wr' :=
  ⟨h.1.grown hg (by simp), h.2.1.grown hg (by simp), (h.2.2.1.none (Nat.le_refl _) hg).more hg.size, hg.cell h.2.2.2.1 (by simp), hg.cell h.2.2.2.2.1 (by simp), below_gb h.2.2.2.2.2 (Nat.le_refl _) hg⟩
theorem LongAt.row (h : LongAt W H A2 c2 P w b0 b1 pb x0 x1 wr) : IntAt wr wr.heap.size A2 P.length P := h.2.2.1
theorem LongAt.cells (h : LongAt W H A2 c2 P w b0 b1 pb x0 x1 wr) : wr.cell? ⟨b0, 0, none⟩ = some (.int .i64 W) ∧ wr.cell? ⟨b0, 1, none⟩ = some (.int .i64 H) ∧ wr.cell? ⟨b0, 2, none⟩ = some (.slice none 0 0) ∧ wr.cell? ⟨b1, 0, none⟩ = some (.slice A2 P.length c2) ∧ wr.cell? ⟨pb, 0, none⟩ = some (.int .i64 x0) ∧ wr.cell? ⟨pb, 1, none⟩ = some (.int .i64 x1) :=
  ⟨h.1.cell 0, h.1.cell 1, h.1.cell 2, h.2.1.cell 0, h.2.2.2.1, h.2.2.2.2.1⟩
end

theorem wfl_nil : WfL [] := fun x h => by cases h

set_option maxHeartbeats 1600000 in
theorem walk_FnLongest (A : Option Addr) (n cap : Nat) (w : World) (hr : ByteRow w w.heap.size A n) :
    Calls Try.prog 6 #[.slice A n cap] w fun e w' => e = .returned (.bool true) ∧ Below w.heap.size w w' := by
  by_cases hbig : 1048576 < n
  · go_enter Try.func6, Try.ntmps6
    go_wp2_with fail
    refine (lawsBig A n cap _).mono ?_
    rintro e w1 ⟨rfl, rfl⟩
    rw [decide_eq_true hbig]
    go_wp2_with fail
    go_ret
    exact ⟨rfl, Below.refl _ _⟩
  · have HR := Lib.hid hr
    have hn : n ≤ 1048576 := by omega
    clear hr
    go_enter Try.func6, Try.ntmps6
    go_wp2_with fail
    refine (lawsBig A n cap _).mono ?_
    rintro e w1 ⟨rfl, rfl⟩
    rw [decide_eq_false hbig]
    go_wp2_with fail
    refine (drawTable A n cap _ HR.out hn).mono ?_
    rintro e w1 ⟨W, H, r, v, rfl, hok, hr1, hr4, ho, hb⟩
    obtain ⟨ht, hmi, hlo⟩ := std_facts hok hr1 hr4
    have hpl : (stdTab W H r).length ≤ 256 := by rw [stdTab, stdTo_len]; exact sq_le W H
    obtain ⟨P, hP⟩ : ∃ P, stdTab W H r = P := ⟨_, rfl⟩
    rw [hP] at hpl
    rw [hP] at ht hmi hlo ho
    obtain ⟨A2, c2, rfl, _⟩ := own_form ho
    obtain ⟨d, hd⟩ : ∃ d, diamG W H = d := ⟨_, rfl⟩
    have hkc : countG W H = W * H := by simp [countG, hok]
    have hmo : (mostTo W H [] P (sqG W H) : Int) = d := by rw [← hd, ← hlo, longG, if_pos ht]
    have HB := Lib.hid hb
    have HO := Lib.hid ho
    have HT := Lib.hid ht
    have HMI := Lib.hid hmi
    have HLO := Lib.hid (hlo.trans hd)
    have HD := Lib.hid hd
    have HMO := Lib.hid hmo
    obtain ⟨q0, q1, q2, q3⟩ := okG_iff.1 hok
    obtain ⟨N, hN⟩ : ∃ N, W * H = N := ⟨_, rfl⟩
    have hN1 : 1 ≤ N := by rw [← hN]; exact Int.mul_pos (by omega) (by omega)
    have hN16 : N ≤ 16 := by rw [← hN, ← hkc]; exact (countG_le W H).2
    have HN := Lib.hid hN
    have hrow : ByteRow ((w1.alloc (.cells #[.int .i64 W, .int .i64 H, .slice none 0 0] 34)).alloc (.cells #[.slice A2 P.length c2] 36)) ((w1.alloc (.cells #[.int .i64 W, .int .i64 H, .slice none 0 0] 34)).alloc (.cells #[.slice A2 P.length c2] 36)).heap.size A n := by
      have hb2 := gb_alloc (gb_alloc (gb_of_below hb none) (.cells #[.int .i64 W, .int .i64 H, .slice none 0 0] 34)) (.cells #[.slice A2 P.length c2] 36)
      exact (HR.out.keep fun p hp => World.cell?_of_block (hb2.block p.block hp (by simp))).more hb2.size
    have HRW := Lib.hid hrow
    have hbt : Blk ((w1.alloc (.cells #[.int .i64 W, .int .i64 H, .slice none 0 0] 34)).alloc (.cells #[.slice A2 P.length c2] 36)) (w1.heap.size + 1) 36 #[.slice A2 P.length c2] := by
      have := Blk.new (w1.alloc (.cells #[.int .i64 W, .int .i64 H, .slice none 0 0] 34)) 36 #[.slice A2 P.length c2]
      rwa [alloc_size] at this
    have HBT := Lib.hid hbt
    have HBM := Lib.hid (show Blk ((w1.alloc (.cells #[.int .i64 W, .int .i64 H, .slice none 0 0] 34)).alloc (.cells #[.slice A2 P.length c2] 36)) w1.heap.size 34 #[.int .i64 W, .int .i64 H, .slice none 0 0] from (Blk.new w1 _ _).alloc _)
    clear hok hr1 hr4 ho hb ht hmi hlo hd hkc hmo hP hrow hbt hN
    go_wp2_with fail
    refine (drawPlaces A n cap _ HRW.out hn).mono ?_
    rintro e w2 ⟨pb, c3, l, rfl, hl, hlb, hlc, hb2⟩
    obtain ⟨x0, hx0⟩ : ∃ x, l[0]? = some x := ⟨_, List.getElem?_eq_getElem (by omega)⟩
    obtain ⟨x1, hx1⟩ : ∃ x, l[1]? = some x := ⟨_, List.getElem?_eq_getElem (by omega)⟩
    have hb20 := hlb x0 (List.mem_of_getElem? hx0)
    have hb21 := hlb x1 (List.mem_of_getElem? hx1)
    have LA := Lib.hid (show LongAt W H A2 c2 P w w1.heap.size (w1.heap.size + 1) pb x0 x1 w2 from
      ⟨HBM.out.below hb2 HBM.out.lt, HBT.out.below hb2 HBT.out.lt, (((intAt_own HO.out rfl (Nat.le_refl _)).none (Nat.le_refl _) (gb_alloc (gb_alloc (gb_refl w1 none) _) _)).below (hb2.mono (by rw [alloc_size, alloc_size]; omega))).more (Nat.le_trans (by rw [alloc_size, alloc_size]; omega) hb2.size),
        hlc 0 x0 hx0, hlc 1 x1 hx1, ((HB.out.alloc HB.out.size _).alloc (by rw [alloc_size]; have := HB.out.size; omega) _).trans (hb2.mono (by rw [alloc_size, alloc_size]; have := HB.out.size; omega))⟩)
    obtain ⟨b0, hb0⟩ : ∃ b, w1.heap.size = b := ⟨_, rfl⟩
    rw [hb0] at LA
    obtain ⟨b1, hb1⟩ : ∃ b, b0 + 1 = b := ⟨_, rfl⟩
    rw [hb1] at LA
    obtain ⟨a0, a1, a2, a3, a4, a5⟩ := LA.out.cells
    have hw := HN.out
    have e1 : wrap64 (W * H) = N := by rw [hw]; exact IntWalk.wrap64_in _ (by omega)
    clear hlb hlc hl hx0 hx1 hb2 hw
    go_wp2_with fail
    rw [e1]
    refine (implLongestWalk W H none A2 0 0 P.length c2 [] P wfl_nil _ (IntAt.nil _ _ _) LA.out.row (by omega) (by omega)).mono ?_
    rintro e w3 ⟨rfl, hg3⟩
    rw [HLO.out]
    have LB := Lib.hid (LA.out.gb hg3)
    have LBd := Lib.hid (LB.out.gb (gb_drew (gb_refl w3 none)))
    obtain ⟨g0, g1, g2, g3, g4, g5⟩ := LB.out.cells
    obtain ⟨n0, n1, n2, n3, n4, n5⟩ := LBd.out.cells
    obtain ⟨y0, hy0⟩ : ∃ y, Int.tmod x0 N = y := ⟨_, rfl⟩
    obtain ⟨y1, hy1⟩ : ∃ y, Int.tmod x1 N = y := ⟨_, rfl⟩
    have hy00 : -16 ≤ y0 ∧ y0 < 16 := by rw [← hy0, Int.tmod_eq_emod_of_nonneg (by omega)]; have h1 := Int.emod_nonneg x0 (show N ≠ 0 by omega); have h2 := Int.emod_lt_of_pos x0 (show 0 < N by omega); omega
    have hy10 : -16 ≤ y1 ∧ y1 < 16 := by rw [← hy1, Int.tmod_eq_emod_of_nonneg (by omega)]; have h1 := Int.emod_nonneg x1 (show N ≠ 0 by omega); have h2 := Int.emod_lt_of_pos x1 (show 0 < N by omega); omega
    have z3 : IntKind.i64.wrap y0 = y0 := IntWalk.i64_in _ (by omega)
    have z4 : IntKind.i64.wrap y1 = y1 := IntWalk.i64_in _ (by omega)
    have z5 : (N == 0) = false := by simp; omega
    have z6 : N ≠ 0 := by omega
    obtain ⟨res, hres⟩ : ∃ res, walkG W H [] P y0 y1 = res := ⟨_, rfl⟩
    have hrl : (res.length : Int) ≤ d := by rw [← hres, ← HMO.out]; exact_mod_cast walkG_most y0 y1
    have hdd : d ≥ d := Int.le_refl d
    have hde : (d == d) = true := by simp
    have CT := Lib.hid (fun w h2 => show Calls Try.prog 18 #[.agg #[.int .i64 W, .int .i64 H, .slice none 0 0], .agg #[.slice A2 P.length c2]] w (RetB true w) from HT.out ▸ implTableOk W H none A2 0 0 P.length c2 [] P wfl_nil w (IntAt.nil _ _ _) h2 (by omega) (by omega))
    have CW := Lib.hid (fun w h2 => show Calls Try.prog 28 #[.agg #[.int .i64 W, .int .i64 H, .slice none 0 0], .agg #[.slice A2 P.length c2], .int .i64 y0, .int .i64 y1] w (NewI res w) from hres ▸ implWalkTable W H none A2 0 0 P.length c2 [] P y0 y1 wfl_nil w (IntAt.nil _ _ _) h2 (by omega) (by omega))
    have CM := Lib.hid (fun w h2 => show Calls Try.prog 24 #[.agg #[.int .i64 W, .int .i64 H, .slice none 0 0], .agg #[.slice A2 P.length c2]] w (RetB true w) from HMI.out ▸ implIsMinimal W H none A2 0 0 P.length c2 [] P wfl_nil w (IntAt.nil _ _ _) h2 (by omega) (by omega))
    have CD := Lib.hid (fun w => show Calls Try.prog 29 #[.agg #[.int .i64 W, .int .i64 H]] w (RetI d none w) from HD.out ▸ implDiameter W H w)
    clear hg3 a0 a1 a2 a3 a4 a5 hres
    go_wp2_with fail
    go_region_held3 (fun w' => w'.cell? ⟨b0, 0, none⟩ = some (.int .i64 W) ∧ w'.cell? ⟨b0, 1, none⟩ = some (.int .i64 H) ∧ w'.cell? ⟨b0, 2, none⟩ = some (.slice none 0 0) ∧ w'.cell? ⟨b1, 0, none⟩ = some (.slice A2 P.length c2) ∧ w'.cell? ⟨pb, 0, none⟩ = some (.int .i64 x0) ∧ w'.cell? ⟨pb, 1, none⟩ = some (.int .i64 x1))
      (first | with_reducible exact ⟨g0, g1, g2, g3, g4, g5⟩ | with_reducible exact ⟨h0, h1, h2, h3, h4, h5⟩ | with_reducible exact ⟨i0, i1, i2, i3, i4, i5⟩ | with_reducible exact ⟨j0, j1, j2, j3, j4, j5⟩ | with_reducible exact ⟨k0, k1, k2, k3, k4, k5⟩ | with_reducible exact ⟨m0, m1, m2, m3, m4, m5⟩ | with_reducible exact ⟨n0, n1, n2, n3, n4, n5⟩ | fail)
      (first
        | (go_at_call 18; (with_reducible refine (CT.out _ LBd.out.row).mono ?_); rintro e w4 ⟨rfl, hg4⟩; have LC := Lib.hid (LBd.out.gb hg4); obtain ⟨h0, h1, h2, h3, h4, h5⟩ := LC.out.cells; clear hg4)
        | (go_at_call 28; (with_reducible refine (CW.out _ LC.out.row).mono ?_); rintro e w5 ⟨v5, rfl, o5, b5⟩; have LD := Lib.hid (LC.out.gb (gb_of_below b5 none)); obtain ⟨i0, i1, i2, i3, i4, i5⟩ := LD.out.cells; obtain ⟨A5, c5, rfl, _⟩ := own_form o5; clear o5 b5)
        | (go_at_call 24; (with_reducible refine (CM.out _ LE.out.row).mono ?_); rintro e w7 ⟨rfl, hg7⟩; have LF := Lib.hid (LE.out.gb hg7); obtain ⟨k0, k1, k2, k3, k4, k5⟩ := LF.out.cells; clear hg7)
        | (go_at_call 29; (with_reducible refine (CD.out _).mono ?_); rintro e w8 ⟨rfl, hg8⟩; have LG := Lib.hid (LF.out.gb hg8); obtain ⟨m0, m1, m2, m3, m4, m5⟩ := LG.out.cells; clear hg8)
        | (go_at_call 29; (with_reducible refine (CD.out _).mono ?_); rintro e w6 ⟨rfl, hg6⟩; have LE := Lib.hid (LD.out.gb hg6); obtain ⟨j0, j1, j2, j3, j4, j5⟩ := LE.out.cells; clear hg6)
        | fail)
    all_goals
      go_wp2_with fail
      go_ret
      exact ⟨rfl, LG.out.2.2.2.2.2⟩
end Go.Proofs.Ytecaehkckamhkaa
