/- What is proved here: the exact law on DifferingEntries answers true, for every argument; only new blocks are written. -/
import Derived.Test.YtbnpihkianggiaaDiffI
import Derived.Test.YtbnpihkianggiaaDiffS
import Derived.Test.YtbnpihkianggiaaTabH
namespace Go.Proofs.Ytbnpihkianggiaa
open Go.ChangeShapes Go.WideShapes Go.ChangeAt Go.RowKit
set_option linter.unusedVariables false

/-- The arguments of a law over two tables, in blocks of the call's own. -/
def TwoA (A1 : Option Addr) (n1 c1 : Nat) (A2 : Option Addr) (n2 c2 : Nat) (w wr : World) : Prop :=
  Blk wr w.heap.size 48 #[.slice A1 n1 c1] ∧ Blk wr (w.heap.size + 1) 48 #[.slice A2 n2 c2] ∧ Below w.heap.size w wr
/-- With the copies of both in blocks b0 and b1, whose lists lie in blocks g0 and g1. -/
def TwoB (A1 : Option Addr) (c1 : Nat) (A2 : Option Addr) (c2 : Nat) (X Y : List Int) (w : World) (b0 b1 g0 g1 : Nat) (wr : World) : Prop :=
  TwoA A1 X.length c1 A2 Y.length c2 w wr ∧ Blk wr b0 30 #[.slice (some ⟨g0, 0, none⟩) X.length X.length] ∧ Blk wr b1 30 #[.slice (some ⟨g1, 0, none⟩) Y.length Y.length] ∧
  wr.ownsRow w.heap.size 3 1 (.slice (some ⟨g0, 0, none⟩) X.length X.length) X.length (intsV X) ∧ wr.ownsRow w.heap.size 3 1 (.slice (some ⟨g1, 0, none⟩) Y.length Y.length) Y.length (intsV Y)
section
variable {A1 A2 : Option Addr} {n1 c1 n2 c2 b0 b1 g0 g1 : Nat} {X Y : List Int} {w wr wr' : World}
theorem TwoA.gb (h : TwoA A1 n1 c1 A2 n2 c2 w wr) (hg : wr.grownBy wr' none) : TwoA A1 n1 c1 A2 n2 c2 w wr' :=
  ⟨h.1.grown hg (by simp), h.2.1.grown hg (by simp), below_gb h.2.2 (Nat.le_refl _) hg⟩
theorem TwoA.bl (h : TwoA A1 n1 c1 A2 n2 c2 w wr) (hg : Below wr.heap.size wr wr') : TwoA A1 n1 c1 A2 n2 c2 w wr' := h.gb (gb_of_below hg none)
theorem TwoA.dr (h : TwoA A1 n1 c1 A2 n2 c2 w wr) : TwoA A1 n1 c1 A2 n2 c2 w wr.drew := h.gb (gb_drew (gb_refl _ _))
theorem TwoA.at (h : TwoA A1 n1 c1 A2 n2 c2 w wr) {B : Option Addr} {m : Nat} {M : List Int} (hi : IntAt w w.heap.size B m M) : IntAt wr wr.heap.size B m M := (hi.below h.2.2).more h.2.2.size
theorem TwoA.start {w1 : World} (h : ((w.alloc (.cells #[.slice A1 n1 c1] 48)).alloc (.cells #[.slice A2 n2 c2] 48)).grownBy w1 none) : TwoA A1 n1 c1 A2 n2 c2 w w1 := by
  have hb := Blk.new (w.alloc (.cells #[.slice A1 n1 c1] 48)) 48 #[.slice A2 n2 c2]
  rw [alloc_size] at hb
  exact ⟨((Blk.new w _ _).alloc _).grown h (by simp), hb.grown h (by simp), gb_below_none (gb_trans (gb_alloc (gb_alloc (gb_refl w none) _) _) h) (Nat.le_refl _)⟩
theorem TwoB.gb (h : TwoB A1 c1 A2 c2 X Y w b0 b1 g0 g1 wr) (hg : wr.grownBy wr' none) : TwoB A1 c1 A2 c2 X Y w b0 b1 g0 g1 wr' :=
  ⟨h.1.gb hg, h.2.1.grown hg (by simp), h.2.2.1.grown hg (by simp), own_none h.2.2.2.1 hg, own_none h.2.2.2.2 hg⟩
theorem TwoB.bl (h : TwoB A1 c1 A2 c2 X Y w b0 b1 g0 g1 wr) (hg : Below wr.heap.size wr wr') : TwoB A1 c1 A2 c2 X Y w b0 b1 g0 g1 wr' := h.gb (gb_of_below hg none)
theorem TwoB.dr (h : TwoB A1 c1 A2 c2 X Y w b0 b1 g0 g1 wr) : TwoB A1 c1 A2 c2 X Y w b0 b1 g0 g1 wr.drew := h.gb (gb_drew (gb_refl _ _))
theorem TwoB.lb (h : TwoB A1 c1 A2 c2 X Y w b0 b1 g0 g1 wr) : TwoA A1 X.length c1 A2 Y.length c2 w wr := h.1
theorem TwoB.at0 (h : TwoB A1 c1 A2 c2 X Y w b0 b1 g0 g1 wr) : IntAt wr wr.heap.size (some ⟨g0, 0, none⟩) X.length X := intAt_own h.2.2.2.1 rfl (Nat.le_refl _)
theorem TwoB.at1 (h : TwoB A1 c1 A2 c2 X Y w b0 b1 g0 g1 wr) : IntAt wr wr.heap.size (some ⟨g1, 0, none⟩) Y.length Y := intAt_own h.2.2.2.2 rfl (Nat.le_refl _)
end

theorem walk_FnExactDifferingEntries (A1 : Option Addr) (n1 c1 : Nat) (X : List Int) (A2 : Option Addr) (n2 c2 : Nat) (Y : List Int) (w : World) (hnc : n1 ≤ c1) (hcm : c1 ≤ maxLen) (h1 : IntAt w w.heap.size A1 n1 X) (hl : ∀ x ∈ X, (Lit.int .i64 x).wf = true) (hnc2 : n2 ≤ c2) (hcm2 : c2 ≤ maxLen) (h2 : IntAt w w.heap.size A2 n2 Y) (hl2 : ∀ x ∈ Y, (Lit.int .i64 x).wf = true) :
    Calls Try.prog 7 #[.agg #[.slice A1 n1 c1], .agg #[.slice A2 n2 c2]] w fun e w' => e = .returned (.bool true) ∧ Below w.heap.size w w' := by
  have hn9 : n1 ≤ 9223372036854775807 := Nat.le_trans hnc (Nat.le_trans hcm (by decide))
  have hm9 : n2 ≤ 9223372036854775807 := Nat.le_trans hnc2 (Nat.le_trans hcm2 (by decide))
  have hXn := h1.1
  have hYn := h2.1
  have HX := Lib.hid h1
  have HY := Lib.hid h2
  clear hl hl2 hnc hcm hnc2 hcm2 h1 h2
  subst hXn
  subst hYn
  by_cases hbig : (1048576 : Int) < (X.length : Int)
  · go_enter Try.func7, Try.ntmps7
    go_wp2_with fail
    refine (lawsSzTable A1 X.length c1 1048576 _ hn9 (by omega) (by omega)).mono ?_
    rintro e w1 ⟨rfl, hg1⟩
    rw [if_pos hbig]
    have B1 := Lib.hid (TwoA.start hg1)
    clear hg1
    go_wp2_with fail
    go_ret
    exact ⟨rfl, B1.out.2.2⟩
  · have hn : X.length ≤ 1048576 := by omega
    obtain ⟨q, hq⟩ : ∃ q : Int, (1048576 : Int) - (X.length : Int) = q := ⟨_, rfl⟩
    have hq0 : ¬ q < 0 := by omega
    have hq1 : q ≤ 1048576 := by omega
    by_cases hbig2 : q < (Y.length : Int)
    · go_enter Try.func7, Try.ntmps7
      go_wp2_with fail
      refine (lawsSzTable A1 X.length c1 1048576 _ hn9 (by omega) (by omega)).mono ?_
      rintro e w1 ⟨rfl, hg1⟩
      rw [if_neg (by omega), hq]
      have B1 := Lib.hid (TwoA.start hg1)
      have a3 : w1.cell? ⟨w.heap.size + 1, 0, none⟩ = some (.slice A2 Y.length c2) := B1.out.2.1.cell 0
      clear hg1 hq
      go_wp2_with fail
      refine (lawsSzTable A2 Y.length c2 q _ hm9 (by omega) hq1).mono ?_
      rintro e w2 ⟨rfl, hg2⟩
      rw [if_pos hbig2]
      have B2 := Lib.hid (B1.out.gb hg2)
      clear hg2
      go_wp2_with fail
      go_ret
      exact ⟨rfl, B2.out.2.2⟩
    · have hn2 : Y.length ≤ 1048576 := by omega
      obtain ⟨q2, hq2⟩ : ∃ q2 : Int, q - (Y.length : Int) = q2 := ⟨_, rfl⟩
      have hq20 : ¬ q2 < 0 := by omega
      obtain ⟨res, hres⟩ : ∃ r : Int, (diffG X Y : Int) = r := ⟨_, rfl⟩
      have HS := Lib.hid (fun A1 A2 c1 c2 w h1 h2 => show Calls Try.prog 27 #[.agg #[.slice A1 X.length c1], .agg #[.slice A2 Y.length c2]] w (RetI res none w) from hres ▸ specDiffering A1 X.length c1 X A2 Y.length c2 Y w h1 h2 (by omega) (by omega))
      have HI := Lib.hid (fun A1 A2 c1 c2 w h1 h2 => show Calls Try.prog 16 #[.agg #[.slice A1 X.length c1], .agg #[.slice A2 Y.length c2]] w (RetI res none w) from hres ▸ implDiffering A1 X.length c1 X A2 Y.length c2 Y w h1 h2 (by omega) (by omega))
      clear hres
      go_enter Try.func7, Try.ntmps7
      go_wp2_with fail
      refine (lawsSzTable A1 X.length c1 1048576 _ hn9 (by omega) (by omega)).mono ?_
      rintro e w1 ⟨rfl, hg1⟩
      rw [if_neg (by omega), hq]
      have B1 := Lib.hid (TwoA.start hg1)
      have a3 : w1.cell? ⟨w.heap.size + 1, 0, none⟩ = some (.slice A2 Y.length c2) := B1.out.2.1.cell 0
      clear hg1 hq
      go_wp2_with fail
      refine (lawsSzTable A2 Y.length c2 q _ hm9 (by omega) hq1).mono ?_
      rintro e w2 ⟨rfl, hg2⟩
      rw [if_neg (by omega), hq2]
      have Bw2 := Lib.hid (B1.out.gb hg2)
      clear hg2 hq2 a3 hbig hbig2
      go_wp2_with fail
      have a0 : w2.cell? ⟨w.heap.size, 0, none⟩ = some (.slice A1 X.length c1) := Bw2.out.1.cell 0
      have a1 : w2.cell? ⟨w.heap.size + 1, 0, none⟩ = some (.slice A2 Y.length c2) := Bw2.out.2.1.cell 0
      have Bw2d := Lib.hid Bw2.out.dr
      go_region_held3 (fun w' => w'.cell? ⟨w.heap.size, 0, none⟩ = some (.slice A1 X.length c1) ∧ w'.cell? ⟨w.heap.size + 1, 0, none⟩ = some (.slice A2 Y.length c2))
        (first | exact ⟨a0, a1⟩ | exact ⟨j0, j1⟩ | exact ⟨k0, k1⟩ | exact ⟨l0, l1⟩)
        (first
          | (go_at_call 28; (with_reducible refine (lawsToTable A2 Y.length c2 Y _ (Bw3.out.at HY.out) hn2).mono ?_); rintro e w4 ⟨g7, rfl, o7, b7⟩; have Bw4 := Lib.hid (Bw3.out.bl b7); have O6b := Lib.hid (own_below O6.out b7); have O7 := Lib.hid o7; have k0 : w4.cell? ⟨w.heap.size, 0, none⟩ = some (.slice A1 X.length c1) := Bw4.out.1.cell 0; have k1 : w4.cell? ⟨w.heap.size + 1, 0, none⟩ = some (.slice A2 Y.length c2) := Bw4.out.2.1.cell 0; clear o7 b7)
          | (go_at_call 28; (with_reducible refine (lawsToTable A1 X.length c1 X _ (Bw2d.out.at HX.out) hn).mono ?_); rintro e w3 ⟨g6, rfl, o6, b6⟩; have Bw3 := Lib.hid (Bw2d.out.bl b6); have O6 := Lib.hid o6; have j0 : w3.cell? ⟨w.heap.size, 0, none⟩ = some (.slice A1 X.length c1) := Bw3.out.1.cell 0; have j1 : w3.cell? ⟨w.heap.size + 1, 0, none⟩ = some (.slice A2 Y.length c2) := Bw3.out.2.1.cell 0; clear o6 b6)
          | (go_at_call 27; (with_reducible refine (HS.out _ _ _ _ _ (intAt_own O6b.out rfl (Nat.le_refl _)) (intAt_own O7.out rfl (Nat.le_refl _))).mono ?_); rintro e w5 ⟨rfl, hg5⟩; have Bw5 := Lib.hid (Bw4.out.gb hg5); have l0 : w5.cell? ⟨w.heap.size, 0, none⟩ = some (.slice A1 X.length c1) := Bw5.out.1.cell 0; have l1 : w5.cell? ⟨w.heap.size + 1, 0, none⟩ = some (.slice A2 Y.length c2) := Bw5.out.2.1.cell 0; clear hg5)
          | fail)
      all_goals
        go_wp2_with fail
        refine (lawsToTable A1 X.length c1 X _ (Bw5.out.at HX.out) hn).mono ?_
        rintro e w6 ⟨gx, rfl, o6x, b6x⟩
        have Bw6 := Lib.hid ((Bw5.out.bl b6x).gb (gb_alloc (gb_refl w6 _) (.cells #[.slice (some ⟨gx, 0, none⟩) X.length X.length] 30)))
        have OX6 := Lib.hid ((own_less o6x Bw5.out.2.2.size).alloc (.cells #[.slice (some ⟨gx, 0, none⟩) X.length X.length] 30))
        have KX6 := Lib.hid (Blk.new w6 30 #[.slice (some ⟨gx, 0, none⟩) X.length X.length])
        have c3 : (w6.alloc (.cells #[.slice (some ⟨gx, 0, none⟩) X.length X.length] 30)).cell? ⟨w.heap.size + 1, 0, none⟩ = some (.slice A2 Y.length c2) := Bw6.out.2.1.cell 0
        clear o6x b6x l0 l1
        go_wp2_with fail
        obtain ⟨b0, hb0⟩ : ∃ b, w6.heap.size = b := ⟨_, rfl⟩
        rw [hb0] at KX6
        (try rw [hb0])
        clear hb0
        refine (lawsToTable A2 Y.length c2 Y _ (Bw6.out.at HY.out) hn2).mono ?_
        rintro e w7 ⟨gy, rfl, o7x, b7x⟩
        have CW7 := Lib.hid (show TwoB A1 c1 A2 c2 X Y w b0 w7.heap.size gx gy (w7.alloc (.cells #[.slice (some ⟨gy, 0, none⟩) Y.length Y.length] 30)) from
          ⟨(Bw6.out.bl b7x).gb (gb_alloc (gb_refl w7 _) _), (KX6.out.below b7x KX6.out.lt).alloc _, Blk.new _ _ _, (own_below OX6.out b7x).alloc _, (own_less o7x Bw6.out.2.2.size).alloc _⟩)
        have q0 : (w7.alloc (.cells #[.slice (some ⟨gy, 0, none⟩) Y.length Y.length] 30)).cell? ⟨b0, 0, none⟩ = some (.slice (some ⟨gx, 0, none⟩) X.length X.length) := CW7.out.2.1.cell 0
        clear o7x b7x c3
        go_wp2_with fail
        obtain ⟨b1, hb1⟩ : ∃ b, w7.heap.size = b := ⟨_, rfl⟩
        rw [hb1] at CW7
        (try rw [hb1])
        clear hb1 q0
        refine (HI.out _ _ _ _ _ CW7.out.at0 CW7.out.at1).mono ?_
        rintro e w8 ⟨rfl, hg8⟩
        have Cw8 := Lib.hid (CW7.out.gb hg8)
        clear hg8
        go_wp2_with fail
        have d0 : w8.cell? ⟨b0, 0, none⟩ = some (.slice (some ⟨gx, 0, none⟩) X.length X.length) := Cw8.out.2.1.cell 0
        have d1 : w8.cell? ⟨w.heap.size, 0, none⟩ = some (.slice A1 X.length c1) := Cw8.out.1.1.cell 0
        have Cw8d := Lib.hid Cw8.out.dr
        go_region_held3 (fun w' => w'.cell? ⟨b0, 0, none⟩ = some (.slice (some ⟨gx, 0, none⟩) X.length X.length) ∧ w'.cell? ⟨w.heap.size, 0, none⟩ = some (.slice A1 X.length c1))
          (first | exact ⟨d0, d1⟩ | exact ⟨e0, e1⟩ | exact ⟨f0, f1⟩)
          (first
            | (go_at_call 28; (with_reducible refine (lawsToTable A1 X.length c1 X _ (Cw8d.out.lb.at HX.out) hn).mono ?_); rintro e w9 ⟨g9, rfl, o9, b9⟩; have Cw9 := Lib.hid (Cw8d.out.bl b9); have O9 := Lib.hid (intAt_own o9 rfl (Nat.le_refl _)); have e0 : w9.cell? ⟨b0, 0, none⟩ = some (.slice (some ⟨gx, 0, none⟩) X.length X.length) := Cw9.out.2.1.cell 0; have e1 : w9.cell? ⟨w.heap.size, 0, none⟩ = some (.slice A1 X.length c1) := Cw9.out.1.1.cell 0; clear o9 b9)
            | (go_at_call 22; (with_reducible refine (lawsEqTable (some ⟨gx, 0, none⟩) (some ⟨g9, 0, none⟩) X.length X.length X.length _ _ X _ Cw9.out.at0 O9.out (Nat.le_refl _) (Nat.le_refl _) (by omega)).mono ?_); rintro e w10 ⟨rfl, hgb⟩; have Cw10 := Lib.hid (Cw9.out.gb hgb); have f0 : w10.cell? ⟨b0, 0, none⟩ = some (.slice (some ⟨gx, 0, none⟩) X.length X.length) := Cw10.out.2.1.cell 0; have f1 : w10.cell? ⟨w.heap.size, 0, none⟩ = some (.slice A1 X.length c1) := Cw10.out.1.1.cell 0; clear hgb)
            | fail)
        all_goals
          go_wp2_with fail
          have g0 : w10.cell? ⟨b1, 0, none⟩ = some (.slice (some ⟨gy, 0, none⟩) Y.length Y.length) := Cw10.out.2.2.1.cell 0
          have g1 : w10.cell? ⟨w.heap.size + 1, 0, none⟩ = some (.slice A2 Y.length c2) := Cw10.out.1.2.1.cell 0
          have Cw10d := Lib.hid Cw10.out.dr
          go_region_held3 (fun w' => w'.cell? ⟨b1, 0, none⟩ = some (.slice (some ⟨gy, 0, none⟩) Y.length Y.length) ∧ w'.cell? ⟨w.heap.size + 1, 0, none⟩ = some (.slice A2 Y.length c2))
            (first | exact ⟨g0, g1⟩ | exact ⟨h0, h1⟩ | exact ⟨i0, i1⟩)
            (first
              | (go_at_call 28; (with_reducible refine (lawsToTable A2 Y.length c2 Y _ (Cw10d.out.lb.at HY.out) hn2).mono ?_); rintro e w11 ⟨g11, rfl, o11, b11⟩; have Cw11 := Lib.hid (Cw10d.out.bl b11); have O11 := Lib.hid (intAt_own o11 rfl (Nat.le_refl _)); have h0 : w11.cell? ⟨b1, 0, none⟩ = some (.slice (some ⟨gy, 0, none⟩) Y.length Y.length) := Cw11.out.2.2.1.cell 0; have h1 : w11.cell? ⟨w.heap.size + 1, 0, none⟩ = some (.slice A2 Y.length c2) := Cw11.out.1.2.1.cell 0; clear o11 b11)
              | (go_at_call 22; (with_reducible refine (lawsEqTable (some ⟨gy, 0, none⟩) (some ⟨g11, 0, none⟩) Y.length Y.length Y.length _ _ Y _ Cw11.out.at1 O11.out (Nat.le_refl _) (Nat.le_refl _) (by omega)).mono ?_); rintro e w12 ⟨rfl, hgb⟩; have Cw12 := Lib.hid (Cw11.out.gb hgb); have i0 : w12.cell? ⟨b1, 0, none⟩ = some (.slice (some ⟨gy, 0, none⟩) Y.length Y.length) := Cw12.out.2.2.1.cell 0; have i1 : w12.cell? ⟨w.heap.size + 1, 0, none⟩ = some (.slice A2 Y.length c2) := Cw12.out.1.2.1.cell 0; clear hgb)
              | fail)
          all_goals
            go_wp2_with fail
            go_ret
            exact ⟨rfl, Cw12.out.1.2.2⟩
end Go.Proofs.Ytbnpihkianggiaa
