/- What is proved here: the law FnTurns answers true for every argument that can be read, and leaves its arguments as they were. No condition. -/
import Derived.Test.YtecaehkckamhkaaMTuA
import Derived.Deep.RegionHeld3
import Derived.ShutString
import Derived.ChangeOld
section
namespace Go.Proofs.Ytecaehkckamhkaa
open Go.ChangeShapes Go.WideShapes Go.ChangeAt Go.RowKit
set_option linter.unusedVariables false

/-- A mesh, a table and a square as blocks. -/
def thrB (W H : Int) (A A2 : Option Addr) (n cap n2 c2 : Nat) (w : World) : World :=
  ((w.alloc (.cells (meshC W H A n cap) 34)).alloc (.cells #[.slice A2 n2 c2] 36)).alloc (.cells (cellsX zerosX) 85)
section
variable {W H : Int} {A A2 : Option Addr} {n cap n2 c2 : Nat} {w wr : World}
theorem thrB_size : (thrB W H A A2 n cap n2 c2 w).heap.size = w.heap.size + 3 := by unfold thrB; rw [alloc_size, alloc_size, alloc_size]
theorem thrB_gb : w.grownBy (thrB W H A A2 n cap n2 c2 w) none := gb_alloc (gb_alloc (gb_alloc (gb_refl _ _) _) _) _
theorem thrB_mesh : Blk (thrB W H A A2 n cap n2 c2 w) w.heap.size 34 (meshC W H A n cap) := ((Blk.new w 34 (meshC W H A n cap)).alloc _).alloc _
theorem thrB_table : Blk (thrB W H A A2 n cap n2 c2 w) (w.heap.size + 1) 36 #[.slice A2 n2 c2] := by
  have := Blk.new (w.alloc (.cells (meshC W H A n cap) 34)) 36 #[.slice A2 n2 c2]
  rw [alloc_size] at this
  exact this.alloc _
theorem thrB_square : Blk (thrB W H A A2 n cap n2 c2 w) (w.heap.size + 2) 85 (cellsX (zerosX)) := by
  have := Blk.new ((w.alloc (.cells (meshC W H A n cap) 34)).alloc (.cells #[.slice A2 n2 c2] 36)) 85 (cellsX zerosX)
  rw [alloc_size, alloc_size] at this
  exact this
end

theorem implPortsNo (W H : Int) (A A2 : Option Addr) (n cap n2 c2 : Nat) (L P : List Int) (hL : WfL L) (w : World) (h : IntAt w w.heap.size A n L) (h2 : IntAt w w.heap.size A2 n2 P) (hn : n ≤ 1000000000) (hn2 : n2 ≤ 1000000000)
    (hs : sizedG W H L P = false) :
    Calls Try.prog 70 #[.agg #[.int .i64 W, .int .i64 H, .slice A n cap], .agg #[.slice A2 n2 c2]] w (RetX (zerosX) false w) := by
  have hp := h2.1
  have HI := Lib.hid (h.none (Nat.le_refl _) (thrB_gb (W := W) (H := H) (A := A) (A2 := A2) (n := n) (cap := cap) (n2 := n2) (c2 := c2)))
  clear h h2
  obtain ⟨k, hk⟩ : ∃ k, countG W H = k := ⟨_, rfl⟩
  obtain ⟨hk0, hk1⟩ := countG_le W H
  rw [hk] at hk0 hk1
  have HN := Lib.hid (fun w => show Calls Try.prog 66 #[.agg #[.int .i64 W, .int .i64 H]] w (RetI k none w) from hk ▸ implNodeCount W H w)
  have TM := Lib.hid (thrB_mesh (W := W) (H := H) (A := A) (A2 := A2) (n := n) (cap := cap) (n2 := n2) (c2 := c2) (w := w))
  have TT := Lib.hid (thrB_table (W := W) (H := H) (A := A) (A2 := A2) (n := n) (cap := cap) (n2 := n2) (c2 := c2) (w := w))
  have TS := Lib.hid (thrB_square (W := W) (H := H) (A := A) (A2 := A2) (n := n) (cap := cap) (n2 := n2) (c2 := c2) (w := w))
  have TG := Lib.hid (thrB_gb (W := W) (H := H) (A := A) (A2 := A2) (n := n) (cap := cap) (n2 := n2) (c2 := c2) (w := w))
  have TZ := Lib.hid (thrB_size (W := W) (H := H) (A := A) (A2 := A2) (n := n) (cap := cap) (n2 := n2) (c2 := c2) (w := w))
  cases hm : meshG W H L with
  | false =>
    have HK := Lib.hid (fun w h => implMeshOkV W H A n cap L false hm hL w h hn)
    clear hm hL hs hk
    go_enter Try.func70, Try.ntmps70
    go_wp2_with fail
    refine (HN.out _).mono ?_
    rintro e w1 ⟨rfl, hg⟩
    rw [zero_cells] at hg
    have hg1 : (thrB W H A A2 n cap n2 c2 w).grownBy w1 none := hg
    have hbk := TM.out.grown hg1 (by simp)
    have a0 : w1.cell? ⟨w.heap.size, 0, none⟩ = some (.int .i64 W) := hbk.cell 0
    have a1 : w1.cell? ⟨w.heap.size, 1, none⟩ = some (.int .i64 H) := hbk.cell 1
    have a2 : w1.cell? ⟨w.heap.size, 2, none⟩ = some (.slice A n cap) := hbk.cell 2
    have hi := (HI.out.none (by rw [TZ.out]; omega) hg1).more (B' := w1.heap.size) (gb_trans TG.out hg1).size
    have HG := Lib.hid hg1
    clear hg hg1 hbk
    go_wp2_with fail
    refine (HK.out _ hi).mono ?_
    rintro e w2 ⟨rfl, hg2⟩
    have HG2 := Lib.hid (gb_trans HG.out hg2)
    have HSq := Lib.hid (TS.out.grown HG2.out (by simp))
    clear hg2 hi a0 a1 a2
    go_wp2_with (refine wpList_storeX rfl _ _ rfl (w.heap.size + 1 + 1) zerosX zerosX rfl (congrArg Value.agg zero_cells) HSq.out zerosX_length zerosX_length ?_; intro w3 hb3 hg3; have HB3 := Lib.hid hb3; have HG3 := Lib.hid hg3; clear hb3 hg3)
    refine bodyPost_ret (v := .tuple #[.agg (cellsX zerosX), .bool false]) ?_ rfl ⟨rfl, gb_new (gb_trans TG.out HG2.out) HG3.out (by omega)⟩
    rw [results_cell_tmp rfl]
    simp [asAddr, Result.andThen, load_square HB3.out zerosX_length]
  | true =>
    have hsq : ¬ (n2 : Int) = k * k := fun e => by
      have : sizedG W H L P = true := by simp [sizedG, hm, hk, hp, e]
      rw [hs] at this; cases this
    have hkk0 : 0 ≤ k * k := Int.mul_nonneg hk0 hk0
    have hkk1 : k * k ≤ 256 := Int.le_trans (Int.mul_le_mul hk1 hk1 hk0 (by omega)) (by omega)
    obtain ⟨q, hq⟩ : ∃ q, k * k = q := ⟨_, rfl⟩
    rw [hq] at hkk0 hkk1 hsq
    have e1 : wrap64 (k * k) = q := by rw [hq]; exact IntWalk.wrap64_in _ (by omega)
    have hb : ((n2 : Int) != q) = true := by simpa using hsq
    have HK := Lib.hid (fun w h => implMeshOkV W H A n cap L true hm hL w h hn)
    clear hm hL hs hk hq
    go_enter Try.func70, Try.ntmps70
    go_wp2_with fail
    refine (HN.out _).mono ?_
    rintro e w1 ⟨rfl, hg⟩
    rw [zero_cells] at hg
    have hg1 : (thrB W H A A2 n cap n2 c2 w).grownBy w1 none := hg
    have hbk := TM.out.grown hg1 (by simp)
    have a0 : w1.cell? ⟨w.heap.size, 0, none⟩ = some (.int .i64 W) := hbk.cell 0
    have a1 : w1.cell? ⟨w.heap.size, 1, none⟩ = some (.int .i64 H) := hbk.cell 1
    have a2 : w1.cell? ⟨w.heap.size, 2, none⟩ = some (.slice A n cap) := hbk.cell 2
    have hi := (HI.out.none (by rw [TZ.out]; omega) hg1).more (B' := w1.heap.size) (gb_trans TG.out hg1).size
    have HG := Lib.hid hg1
    clear hg hg1 hbk
    go_wp2_with fail
    refine (HK.out _ hi).mono ?_
    rintro e w2 ⟨rfl, hg2⟩
    have HG2 := Lib.hid (gb_trans HG.out hg2)
    have HSq := Lib.hid (TS.out.grown HG2.out (by simp))
    have b0 : w2.cell? ⟨w.heap.size + 1, 0, none⟩ = some (.slice A2 n2 c2) := (TT.out.grown HG2.out (by simp)).cell 0
    clear hg2 hi a0 a1 a2
    go_wp2_with (refine wpList_storeX rfl _ _ rfl (w.heap.size + 1 + 1) zerosX zerosX rfl (congrArg Value.agg zero_cells) HSq.out zerosX_length zerosX_length ?_; intro w3 hb3 hg3; have HB3 := Lib.hid hb3; have HG3 := Lib.hid hg3; clear hb3 hg3)
    refine bodyPost_ret (v := .tuple #[.agg (cellsX zerosX), .bool false]) ?_ rfl ⟨rfl, gb_new (gb_trans TG.out HG2.out) HG3.out (by omega)⟩
    rw [results_cell_tmp rfl]
    simp [asAddr, Result.andThen, load_square HB3.out zerosX_length]

/-- The square after j entries, in a block of the call's own. -/
def PortsAt (W H : Int) (A A2 : Option Addr) (n cap n2 c2 : Nat) (P : List Int) (w : World) (g j : Nat) (wr : World) : Prop :=
  Blk wr g 85 (cellsX (portsX W H P j)) ∧ (thrB W H A A2 n cap n2 c2 w).grownBy wr none

theorem implPortsYes (W H : Int) (A A2 : Option Addr) (n cap n2 c2 : Nat) (L P : List Int) (hL : WfL L) (w : World) (h : IntAt w w.heap.size A n L) (h2 : IntAt w w.heap.size A2 n2 P) (hn : n ≤ 1000000000) (hn2 : n2 ≤ 1000000000)
    (hs : sizedG W H L P = true) :
    Calls Try.prog 70 #[.agg #[.int .i64 W, .int .i64 H, .slice A n cap], .agg #[.slice A2 n2 c2]] w (RetX (portsX W H P P.length) true w) := by
  have hp := h2.1
  have HI := Lib.hid (h.none (Nat.le_refl _) (thrB_gb (W := W) (H := H) (A := A) (A2 := A2) (n := n) (cap := cap) (n2 := n2) (c2 := c2)))
  have HP := Lib.hid (h2.none (Nat.le_refl _) (thrB_gb (W := W) (H := H) (A := A) (A2 := A2) (n := n) (cap := cap) (n2 := n2) (c2 := c2)))
  clear h h2
  obtain ⟨k, hk⟩ : ∃ k, cntN W H = k := ⟨_, rfl⟩
  have hki := cntN_int W H
  have hk1 := cntN_le W H
  rw [hk] at hki hk1
  have hsz := (sizedG_mesh hs).2
  have hm := (sizedG_mesh hs).1
  rw [hp, ← hki] at hsz
  have HN := Lib.hid (fun w => show Calls Try.prog 66 #[.agg #[.int .i64 W, .int .i64 H]] w (RetI (k : Int) none w) from hki ▸ implNodeCount W H w)
  have HK := Lib.hid (fun w h => implMeshOkV W H A n cap L true hm hL w h hn)
  have TM := Lib.hid (thrB_mesh (W := W) (H := H) (A := A) (A2 := A2) (n := n) (cap := cap) (n2 := n2) (c2 := c2) (w := w))
  have TT := Lib.hid (thrB_table (W := W) (H := H) (A := A) (A2 := A2) (n := n) (cap := cap) (n2 := n2) (c2 := c2) (w := w))
  have TS := Lib.hid (thrB_square (W := W) (H := H) (A := A) (A2 := A2) (n := n) (cap := cap) (n2 := n2) (c2 := c2) (w := w))
  have TG := Lib.hid (thrB_gb (W := W) (H := H) (A := A) (A2 := A2) (n := n) (cap := cap) (n2 := n2) (c2 := c2) (w := w))
  have TZ := Lib.hid (thrB_size (W := W) (H := H) (A := A) (A2 := A2) (n := n) (cap := cap) (n2 := n2) (c2 := c2) (w := w))
  have hkk1 : (k : Int) * k ≤ 256 := Int.le_trans (Int.mul_le_mul (Int.ofNat_le.2 hk1) (Int.ofNat_le.2 hk1) (by omega) (by omega)) (by omega)
  have hn256 : n2 ≤ 256 := by omega
  have e1 : wrap64 ((k : Int) * k) = (n2 : Int) := by rw [← hsz]; exact IntWalk.wrap64_in _ (by omega)
  have hb : ((n2 : Int) != (n2 : Int)) = false := by simp
  have HSZ := Lib.hid (show n2 = k * k by exact_mod_cast hsz)
  have HKK := Lib.hid hk
  have HPL := Lib.hid hp
  clear hm hL hs hk hki hsz hkk1 hp
  go_enter Try.func70, Try.ntmps70
  go_wp2_with fail
  refine (HN.out _).mono ?_
  rintro e w1 ⟨rfl, hg⟩
  rw [zero_cells] at hg
  have hg1 : (thrB W H A A2 n cap n2 c2 w).grownBy w1 none := hg
  have hbk := TM.out.grown hg1 (by simp)
  have a0 : w1.cell? ⟨w.heap.size, 0, none⟩ = some (.int .i64 W) := hbk.cell 0
  have a1 : w1.cell? ⟨w.heap.size, 1, none⟩ = some (.int .i64 H) := hbk.cell 1
  have a2 : w1.cell? ⟨w.heap.size, 2, none⟩ = some (.slice A n cap) := hbk.cell 2
  have hi := (HI.out.none (by rw [TZ.out]; omega) hg1).more (B' := w1.heap.size) (gb_trans TG.out hg1).size
  have HG := Lib.hid hg1
  clear hg hg1 hbk
  go_wp2_with fail
  refine (HK.out _ hi).mono ?_
  rintro e w2 ⟨rfl, hg2⟩
  have HG2 := Lib.hid (gb_trans HG.out hg2)
  have HSq := Lib.hid (TS.out.grown HG2.out (by simp))
  have b0 : w2.cell? ⟨w.heap.size + 1, 0, none⟩ = some (.slice A2 n2 c2) := (TT.out.grown HG2.out (by simp)).cell 0
  have b1 : (w2.alloc (.cells Try.zeroCells85 85)).cell? ⟨w.heap.size + 1, 0, none⟩ = some (.slice A2 n2 c2) := ((TT.out.grown HG2.out (by simp)).alloc _).cell 0
  have HB2 := Lib.hid (show w.heap.size + 3 ≤ w2.heap.size by have := HG2.out.size; rw [TZ.out] at this; exact this)
  clear hg2 hi a0 a1 a2
  go_wp2_with fail
  obtain ⟨g, hg⟩ : ∃ g, w2.heap.size = g := ⟨_, rfl⟩
  rw [zero_cells]
  have HX := Lib.hid (show PortsAt W H A A2 n cap n2 c2 P w g 0 (w2.alloc (.cells (cellsX zerosX) 85)) from ⟨hg ▸ Blk.new w2 85 (cellsX zerosX), gb_alloc HG2.out _⟩)
  rw [hg, e1]
  have HGE := Lib.hid (show w.heap.size + 3 ≤ g by rw [← hg]; exact HB2.out)
  clear hg b0 b1 e1 hb
  go_loopw [29] (fun i wr => ∃ j : Nat, i = .int .i64 (j : Int) ∧ j ≤ n2 ∧ PortsAt W H A A2 n cap n2 c2 P w g j wr) (fun i _ => n2 - (intOf i).toNat)
  case atStart => exact ⟨0, rfl, Nat.zero_le _, HX.out⟩
  case round =>
    obtain ⟨j, rfl, hj, hblk, hgr⟩ := hrel
    have HBk := Lib.hid hblk
    have HGr := Lib.hid hgr
    clear hgr hblk
    by_cases hlt : j < n2
    · have hsz := HSZ.out
      have hk0 : 0 < k := Nat.pos_of_ne_zero fun e => by rw [e] at hsz; omega
      obtain ⟨b, off, rfl, hbB, hcell⟩ := (HP.out.none (by rw [TZ.out]; omega) HGr.out).at j hlt
      obtain ⟨p, hpp⟩ : ∃ p, P.getD j 0 = p := ⟨_, rfl⟩
      rw [hpp] at hcell
      obtain ⟨x, hx⟩ : ∃ x, j / k = x := ⟨_, rfl⟩
      obtain ⟨y, hy⟩ : ∃ y, j % k = y := ⟨_, rfl⟩
      have hx1 : x < k := by rw [← hx]; exact Nat.div_lt_of_lt_mul (by rw [← hsz]; exact hlt)
      have hy1 : y < k := by rw [← hy]; exact Nat.mod_lt _ hk0
      have d1 : Int.tdiv (j : Int) (k : Int) = (x : Int) := by rw [← hx]; rfl
      have d2 : Int.tmod (j : Int) (k : Int) = (y : Int) := by rw [← hy]; rfl
      have hx16 : (x : Int) < 16 := by omega
      have hy16 : (y : Int) < 16 := by omega
      obtain ⟨o, ho⟩ : ∃ o, (portsX W H P j).getD (16 * x + y) 0 = o := ⟨_, rfl⟩
      have c1 : wr.cell? ⟨g, x * 16 + y, none⟩ = some (.int .i64 o) := by rw [Nat.mul_comm x 16]; exact (HBk.out.cell (16 * x + y)).trans (cellsX_at (by rw [portsX, sqTo_length]; omega) ho)
      have f1 := HBk.out.frozen (x * 16 + y)
      have hb2 := HBk.out.set_ (x * 16 + y) (.int .i64 (portP p))
      rw [cellsX_set, show (portsX W H P j).set (x * 16 + y) (portP p) = portsX W H P (j + 1) by rw [portsX, portsX, sqTo, HKK.out, hx, hy, hpp, Nat.mul_comm x 16]] at hb2
      have HB2x := Lib.hid hb2
      have HG2x := Lib.hid (gb_setCell HGr.out (p := ⟨g, x * 16 + y, none⟩) (.inr (by rw [TZ.out]; exact HGE.out)) (.int .i64 (portP p)))
      clear hb2 hx hy hpp ho hsz
      by_cases hp0 : p < 0
      · rw [portP_out (.inl hp0)] at HB2x HG2x
        go_wp2_with fail
        go_region
        go_wp2_with fail
        go_roundw
        case rel => exact ⟨j + 1, by go_num, by omega, HB2x.out.drewN 1, gb_drew HG2x.out⟩
        case measure => simp [intOf]; omega
      · by_cases hp4 : 4 < p
        · rw [portP_out (.inr hp4)] at HB2x HG2x
          go_wp2_with fail
          go_region
          go_wp2_with fail
          go_roundw
          case rel => exact ⟨j + 1, by go_num, by omega, HB2x.out.drewN 1, gb_drew HG2x.out⟩
          case measure => simp [intOf]; omega
        · rw [portP_in (by omega) (by omega)] at HB2x HG2x
          go_wp2_with fail
          go_region
          go_wp2_with fail
          go_roundw
          case rel => exact ⟨j + 1, by go_num, by omega, HB2x.out.drewN 1, gb_drew HG2x.out⟩
          case measure => simp [intOf]; omega
    · obtain rfl : j = n2 := by omega
      go_wp2_with (first | (refine wpList_loadX rfl _ rfl g rfl (portsX W H P j) HBk.out (sqTo_length _ _ _) ?_) | (refine wpList_storeX rfl _ _ rfl (w.heap.size + 1 + 1) zerosX (portsX W H P j) rfl rfl ((TS.out.grown HGr.out (by simp))) zerosX_length (sqTo_length _ _ _) ?_; intro w3 hb3 hg3; have HB3 := Lib.hid hb3; have HG3 := Lib.hid hg3; clear hb3 hg3))
      refine bodyPost_ret (v := .tuple #[.agg (cellsX (portsX W H P j)), .bool true]) ?_ rfl ⟨by rw [HPL.out], gb_new (gb_trans TG.out HGr.out) HG3.out (by omega)⟩
      rw [results_cell_tmp rfl]
      simp [asAddr, Result.andThen, load_square HB3.out (sqTo_length _ _ _)]
end Go.Proofs.Ytecaehkckamhkaa
end

section
namespace Go.Proofs.Ytecaehkckamhkaa
open Go.ChangeShapes Go.WideShapes Go.ChangeAt Go.RowKit
set_option linter.unusedVariables false

/-- A mesh and a table as blocks. -/
def twoI (W H : Int) (A A2 : Option Addr) (n cap n2 c2 : Nat) (w : World) : World := (w.alloc (.cells (meshC W H A n cap) 34)).alloc (.cells #[.slice A2 n2 c2] 36)
section
variable {W H : Int} {A A2 : Option Addr} {n cap n2 c2 : Nat} {w wr : World}
theorem twoI_size : (twoI W H A A2 n cap n2 c2 w).heap.size = w.heap.size + 2 := by unfold twoI; rw [alloc_size, alloc_size]
theorem twoI_gb : w.grownBy (twoI W H A A2 n cap n2 c2 w) none := gb_alloc (gb_alloc (gb_refl _ _) _) _
theorem twoI_mesh (h : (twoI W H A A2 n cap n2 c2 w).grownBy wr none) : Blk wr w.heap.size 34 (meshC W H A n cap) := ((Blk.new w 34 (meshC W H A n cap)).alloc _).grown h (by simp)
theorem twoI_table (h : (twoI W H A A2 n cap n2 c2 w).grownBy wr none) : Blk wr (w.heap.size + 1) 36 #[.slice A2 n2 c2] := by
  have := Blk.new (w.alloc (.cells (meshC W H A n cap) 34)) 36 #[.slice A2 n2 c2]
  rw [alloc_size] at this
  exact this.grown h (by simp)
theorem twoI_le (h : (twoI W H A A2 n cap n2 c2 w).grownBy wr none) : w.heap.size + 2 ≤ wr.heap.size := by have := h.size; rw [twoI_size] at this; exact this
theorem twoI_old (h : (twoI W H A A2 n cap n2 c2 w).grownBy wr none) : w.grownBy wr none := gb_trans twoI_gb h
theorem IntAt.twoI {B : Option Addr} {m : Nat} {M : List Int} (h : IntAt w w.heap.size B m M) : IntAt (twoI W H A A2 n cap n2 c2 w) (twoI W H A A2 n cap n2 c2 w).heap.size B m M :=
  (h.none (Nat.le_refl _) twoI_gb).more (by rw [twoI_size]; omega)
theorem IntAt.oldI {B : Option Addr} {m : Nat} {M : List Int} (h : IntAt w w.heap.size B m M) (hg : w.grownBy wr Option.none) : IntAt wr wr.heap.size B m M :=
  (h.none (Nat.le_refl _) hg).more hg.size
end
/-- The new block of a square. -/
theorem new_square (w : World) : Blk (w.alloc (.cells Try.zeroCells85 85)) w.heap.size 85 (cellsX zerosX) := by
  rw [← zero_cells]; exact Blk.new w _ _
theorem gb_square {a b c : World} (h : a.grownBy b none) (k : (b.alloc (.cells Try.zeroCells85 85)).grownBy c (some b.heap.size)) : a.grownBy c none :=
  gb_new (gb_alloc h _) k h.size
end Go.Proofs.Ytecaehkckamhkaa
end

section
namespace Go.Proofs.Ytecaehkckamhkaa
open Go.ChangeShapes Go.WideShapes Go.ChangeAt Go.RowKit
set_option linter.unusedVariables false

/-- An index, or -1. -/
def Idx (L : List Int) (c : Int) (w : World) (e : Ending) (w' : World) : Prop := ∃ k : Int, e = .returned (.int .i64 k) ∧ decide (0 ≤ k) = inG L c ∧ w = w'
theorem implIndex (A : Option Addr) (n cap B : Nat) (L : List Int) (c : Int) (w : World) (h : IntAt w B A n L) (hn : n ≤ 1000000000) :
    Calls Try.prog 107 #[.slice A n cap, .int .i64 c] w (Idx L c w) := by
  have hl := h.1
  have HI := Lib.hid h
  clear h
  go_enter Try.func107, Try.ntmps107
  go_wp2_with fail
  go_loop [8] (fun i => ∃ k : Nat, i = .int .i64 (k : Int) ∧ k ≤ n ∧ ∀ j, j < k → L.getD j 0 ≠ c) (fun i => n - (intOf i).toNat)
  case atStart => exact ⟨0, rfl, Nat.zero_le _, fun j h => by omega⟩
  case round =>
    obtain ⟨k, rfl, hk, hne⟩ := hrel
    have HNE := Lib.hid hne
    clear hne
    by_cases hlt : k < n
    · obtain ⟨b, off, rfl, hb, hc⟩ := HI.out.at k hlt
      obtain ⟨x, hx⟩ : ∃ x, L.getD k 0 = x := ⟨_, rfl⟩
      rw [hx] at hc
      have HX := Lib.hid hx
      clear hx
      by_cases hxc : x = c
      · subst hxc
        go_wp2_with fail
        go_ret
        exact ⟨_, rfl, by rw [inG_yes (by omega) HX.out]; exact decide_eq_true (by omega), rfl⟩
      · have hxb : (c == x) = false := by simpa using fun e => hxc e.symm
        have HXC := Lib.hid hxc
        clear hxc
        go_wp2_with fail
        go_round
        case rel => exact ⟨k + 1, by go_num, by omega, fun j hj => by
          rcases Nat.lt_succ_iff_lt_or_eq.1 hj with h1 | rfl
          · exact HNE.out j h1
          · rw [HX.out]; exact HXC.out⟩
        case measure => simp [intOf]; omega
    · obtain rfl : k = n := by omega
      go_wp2_with fail
      go_ret
      exact ⟨-1, rfl, by rw [inG_no (fun j hj => HNE.out j (by omega))]; rfl, rfl⟩

theorem implContains (A : Option Addr) (n cap B : Nat) (L : List Int) (c : Int) (b : Bool) (hb : inG L c = b) (w : World) (h : IntAt w B A n L) (hn : n ≤ 1000000000) :
    Calls Try.prog 81 #[.slice A n cap, .int .i64 c] w fun e w' => e = .returned (.bool b) ∧ w = w' := by
  have HC := Lib.hid (fun w h => implIndex A n cap B L c w h hn)
  have HI := Lib.hid h
  clear h
  go_enter Try.func81, Try.ntmps81
  go_wp2_with fail
  refine (HC.out _ HI.out).mono ?_
  rintro e w1 ⟨k, rfl, hk, rfl⟩
  rw [hb] at hk
  have HK := Lib.hid hk
  clear hk hb
  go_wp2_with fail
  go_ret
  exact ⟨ret_bool (by rw [← HK.out]), rfl⟩

theorem implConnects (W H : Int) (A : Option Addr) (n cap : Nat) (L : List Int) (c : Int) (b : Bool) (hcw : (Lit.int .i64 c).wf = true) (hb : hasChG W H L c = b) (w : World) (h : IntAt w w.heap.size A n L) (hn : n ≤ 1000000000) :
    Calls Try.prog 77 #[.agg #[.int .i64 W, .int .i64 H, .slice A n cap], .int .i64 c] w (RetB b w) := by
  obtain ⟨r, hr⟩ : ∃ r, endG W H c = r := ⟨_, rfl⟩
  have HE := Lib.hid (fun w => implEnd W H c r hcw hr w)
  have HI := Lib.hid h
  have hld := leads_end W H c
  rw [hr] at hld
  clear h hcw hr
  by_cases h0 : 0 ≤ r
  · obtain ⟨q, hq⟩ : ∃ q, inG L c = q := ⟨_, rfl⟩
    have hv : b = !q := by rw [← hb, hasChG, hld, decide_eq_true h0, hq]; rfl
    have HV := Lib.hid hv
    have hd : decide (r ≥ 0) = true := decide_eq_true h0
    have HF := Lib.hid (fun w h => implContains A n cap (w.heap.size) L c q hq w h hn)
    clear hv hld hb hq
    go_enter Try.func77, Try.ntmps77
    go_wp2_with fail
    refine (HE.out _).mono ?_
    rintro e w1 ⟨rfl, hg⟩
    have hbk := boxi_blk hg
    have a2 : w1.cell? ⟨w.heap.size, 2, none⟩ = some (.slice A n cap) := hbk.cell 2
    have hi := (HI.out.none (Nat.le_refl _) (boxi_gb hg)).more (B' := w1.heap.size) (boxi_gb hg).size
    have Hg := Lib.hid (boxi_gb hg)
    clear hg hbk
    go_wp2_with fail
    refine (HF.out _ hi).mono ?_
    rintro e w2 ⟨rfl, rfl⟩
    clear hi
    go_wp2_with fail
    go_ret
    exact ⟨ret_bool (by rw [HV.out]), Hg.out⟩
  · have hv : b = false := by rw [← hb, hasChG, hld, decide_eq_false h0]; rfl
    have hd : decide (r ≥ 0) = false := decide_eq_false h0
    have HV := Lib.hid hv
    clear hv hld hb
    go_enter Try.func77, Try.ntmps77
    go_wp2_with fail
    refine (HE.out _).mono ?_
    rintro e w1 ⟨rfl, hg⟩
    have Hg := Lib.hid (boxi_gb hg)
    clear hg
    go_wp2_with fail
    go_ret
    exact ⟨ret_bool (by rw [HV.out]), Hg.out⟩
end Go.Proofs.Ytecaehkckamhkaa
end

section
namespace Go.Proofs.Ytecaehkckamhkaa
open Go.ChangeShapes Go.WideShapes Go.ChangeAt Go.RowKit
set_option linter.unusedVariables false
set_option maxRecDepth 20000

theorem end_step {W H p : Int} {x : Nat} (h0 : 0 ≤ p) (h3 : p ≤ 3) : endG W H (4 * (x : Int) + p) = nextG W H x p := by
  unfold endG
  rw [Int.tdiv_eq_ediv_of_nonneg (by omega), Int.tmod_eq_emod_of_nonneg (by omega)]
  rw [show (4 * (x : Int) + p) / 4 = x by omega, show (4 * (x : Int) + p) % 4 = p by omega]

theorem ret_two {v : Value} {a b : Bool} (h : a = b) : Ending.returned (.tuple #[v, .bool a]) = Ending.returned (.tuple #[v, .bool b]) := by rw [h]
/-- A new list of numbers, and whether there is one. -/
def NewW (L : List Int) (b : Bool) (w : World) (e : Ending) (w' : World) : Prop :=
  ∃ v, e = .returned (.tuple #[v, .bool b]) ∧ w'.ownsRow w.heap.size 3 1 v L.length (intsV L) ∧ Below w.heap.size w w'
def lenW : Value → Nat | .slice _ n _ => n | _ => 0
/-- The walk has come to x. -/
def WalkTo (W H : Int) (A : Option Addr) (n cap : Nat) (L P : List Int) (z : Nat) (res : List Int) (rb : Bool) (w : World) (acc : List Int) (x : Nat) (v : Value) (wr : World) : Prop :=
  (x : Int) < countG W H ∧ acc.length ≤ cntN W H ∧ res = restG W H L P z acc (cntN W H + 1 - acc.length) x ∧ rb = restE W H L P z (cntN W H + 1 - acc.length) x ∧
  wr.ownsRow (w.heap.size + 1) 3 1 v acc.length (intsV acc) ∧ Below (w.heap.size + 1) (w.alloc (.cells (meshC W H A n cap) 34)) wr

theorem app_to {W H : Int} {A : Option Addr} {n cap : Nat} {w w4 w5 : World} {acc : List Int} {c : Int} {v v' : Value} {o : Obj} (hb : Below (w.heap.size + 1) (w.alloc (.cells (meshC W H A n cap) 34)) w4) (ho : w4.ownsRow (w.heap.size + 1) 3 1 v acc.length (intsV acc))
    (hown5 : w5.ownsRow (w.heap.size + 1) 3 1 v' (acc.length + 1) (intsV acc ++ [.int .i64 c])) (hg : (w4.alloc o).grownBy w5 v.ownBlock) :
    w5.ownsRow (w.heap.size + 1) 3 1 v' (acc ++ [c]).length (intsV (acc ++ [c])) ∧ Below (w.heap.size + 1) (w.alloc (.cells (meshC W H A n cap) 34)) w5 ∧ lenW v' = acc.length + 1 ∧
    w5.cell? ⟨w.heap.size, 0, none⟩ = some (.int .i64 W) ∧ w5.cell? ⟨w.heap.size, 1, none⟩ = some (.int .i64 H) := by
  have hsz : w.heap.size + 1 ≤ w4.heap.size := by have h1 := hb.size; simp at h1; exact h1
  have h1 : w5.ownsRow (w.heap.size + 1) 3 1 v' (acc ++ [c]).length (intsV (acc ++ [c])) := by rw [List.length_append, intsV_append]; exact hown5
  have h2 : Below (w.heap.size + 1) (w.alloc (.cells (meshC W H A n cap) 34)) w5 := (hb.alloc hsz _).grown hg (by simp; omega) (fun j hj => (ho.lt j hj).1)
  have tm := (Blk.new w 34 (meshC W H A n cap)).below h2 (by omega)
  refine ⟨h1, h2, ?_, tm.cell 0, tm.cell 1⟩
  obtain ⟨A', c', rfl, _⟩ := own_form h1
  simp [lenW]

set_option maxHeartbeats 1600000 in
theorem implWalk (W H : Int) (A : Option Addr) (n cap : Nat) (L P X : List Int) (g a z : Nat) (hL : WfL L) (w : World) (h : IntAt w w.heap.size A n L) (hn : n ≤ 1000000000)
    (hX : isPorts W H P X) (hb : Blk w g 85 (cellsX X)) (ha : (a : Int) < countG W H) (hz : (z : Int) < countG W H) :
    Calls Try.prog 72 #[.pointer (some ⟨g, 0, none⟩), .agg #[.int .i64 W, .int .i64 H, .slice A n cap], .int .i64 a, .int .i64 z] w (NewW (walkOf W H L P a z) (endsG W H L P a z) w) := by
  obtain ⟨i0, hi, hz0, hz1, hz2⟩ := info_parts info_int
  have HI := Lib.hid h
  have hg := hb.lt
  have HSQ := Lib.hid (fun (wr : World) (h : Below w.heap.size w wr) (x y : Nat) (hx : (x : Int) < countG W H) (hy : (y : Int) < countG W H) => show wr.cell? ⟨g, x * 16 + y, none⟩ = some (.int .i64 (portP (tabG (countG W H) P x y))) by
    have hc := countG_le W H
    rw [Nat.mul_comm x 16]
    exact ((hb.below h hg).cell (16 * x + y)).trans (cellsX_at (by rw [hX.1]; omega) (hX.2 x y hx hy)))
  obtain ⟨res, hres⟩ : ∃ res, walkOf W H L P a z = res := ⟨_, rfl⟩
  obtain ⟨rb, hrb⟩ : ∃ rb, endsG W H L P a z = rb := ⟨_, rfl⟩
  rw [hres, hrb]
  have hsz1 : (w.alloc (.cells (meshC W H A n cap) 34)).heap.size = w.heap.size + 1 := by simp
  have HX := Lib.hid (show WalkTo W H A n cap L P z res rb w [] a (.slice none 0 0) (w.alloc (.cells (meshC W H A n cap) 34)) from
    ⟨ha, Nat.zero_le _, by rw [← hres]; exact (rest_start a z).symm, by rw [← hrb]; rfl, World.ownsRow_nil _ _ _ _, Below.refl _ _⟩)
  have HS1 := Lib.hid hsz1
  have hki := cntN_int W H
  obtain ⟨k, hk⟩ : ∃ k, cntN W H = k := ⟨_, rfl⟩
  have hk1 := cntN_le W H
  rw [hk] at hki hk1
  have HN := Lib.hid (fun w => show Calls Try.prog 66 #[.agg #[.int .i64 W, .int .i64 H]] w (RetI (k : Int) none w) from hki ▸ implNodeCount W H w)
  have HKI := Lib.hid hki
  have HKK := Lib.hid hk
  have HZ := Lib.hid hz
  have ha16 : (a : Int) < 16 := by omega
  have hz16 : (z : Int) < 16 := by omega
  have hgne : ¬ g = w.heap.size := by omega
  have c0 := HSQ.out (w.alloc (.cells (meshC W H A n cap) 34)) (((Below.refl _ _)).alloc (Nat.le_refl _) _) a z ha hz
  obtain ⟨q, hq⟩ : ∃ q, portP (tabG (countG W H) P a z) = q := ⟨_, rfl⟩
  rw [hq] at c0
  have HQ := Lib.hid hq
  clear h hX hb hres hrb hsz1 hki hk ha hz hq
  unfold meshC at c0
  go_enter Try.func72, Try.ntmps72
  go_wp2_with fail
  clear c0
  go_loopw [10, 11, 12] (fun v s11 s12 wr => ∃ (acc : List Int) (x : Nat), s11 = .int .i64 (x : Int) ∧ s12 = .int .i64 (portP (tabG (countG W H) P x z)) ∧ WalkTo W H A n cap L P z res rb w acc x v wr) (fun v _ _ _ => 17 - lenW v)
  case atStart => exact ⟨[], a, rfl, by rw [HQ.out], HX.out⟩
  case round =>
    obtain ⟨acc, x, rfl, rfl, hx, hl, hre, hrb, hown, hbel⟩ := hrel
    rw [HKK.out] at hl hre hrb
    obtain ⟨Aq, capq, rfl, hAq⟩ := own_form hown
    have HOwn := Lib.hid hown
    have HBel := Lib.hid hbel
    have HBo := Lib.hid (below_box hbel)
    obtain ⟨f, hf⟩ : ∃ f, k + 1 - acc.length = f + 1 := ⟨k - acc.length, by omega⟩
    rw [hf] at hre hrb
    have HF := Lib.hid hf
    have HRE := Lib.hid hre
    have HRB := Lib.hid hrb
    have HXC := Lib.hid hx
    have hx16 : (x : Int) < 16 := by have := HKI.out; omega
    obtain ⟨t, ht⟩ : ∃ t, tabG (countG W H) P x z = t := ⟨_, rfl⟩
    rw [ht]
    have HT := Lib.hid ht
    have tm := (Blk.new w 34 (meshC W H A n cap)).below hbel (by omega)
    have a0 : wr.cell? ⟨w.heap.size, 0, none⟩ = some (.int .i64 W) := tm.cell 0
    have a1 : wr.cell? ⟨w.heap.size, 1, none⟩ = some (.int .i64 H) := tm.cell 1
    have a2 : wr.cell? ⟨w.heap.size, 2, none⟩ = some (.slice A n cap) := tm.cell 2
    have hsw : w.heap.size + 1 ≤ wr.heap.size := by have h1 := hbel.size; rw [HS1.out] at h1; exact h1
    clear hown hbel hre hrb hx hf ht tm hAq
    by_cases h4 : t = 4
    · subst h4
      have hp4 : portP 4 = 4 := rfl
      rw [hp4]
      clear a0 a1 a2
      by_cases hxz : x = z
      · subst hxz
        have hxb : ((x : Int) != (x : Int)) = false := by simp
        have HF2 := Lib.hid (HRE.out.trans (rest_end HT.out rfl))
        have HF3 := Lib.hid (HRB.out.trans (restE_end HT.out rfl))
        go_wp2_with fail
        go_ret2
        refine ⟨_, ret_two HF3.out.symm, ?_, HBo.out⟩
        rw [HF2.out]
        exact own_less HOwn.out (by omega)
      · have hne : (x : Int) ≠ (z : Int) := fun e => hxz (by exact_mod_cast e)
        have hxb : ((x : Int) != (z : Int)) = true := bne_iff_ne.2 hne
        have HF2 := Lib.hid (HRE.out.trans (rest_lost HT.out hne))
        have HF3 := Lib.hid (HRB.out.trans (restE_lost HT.out hne))
        clear hxz hne
        go_wp2_with fail
        go_ret2
        refine ⟨_, ret_two HF3.out.symm, ?_, HBo.out⟩
        rw [HF2.out]
        exact World.ownsRow_nil _ _ _ _
    · have H4 := Lib.hid h4
      have h4b : (portP t != 4) = true := bne_iff_ne.2 fun e => h4 (portP_four.1 e)
      obtain ⟨q, hq⟩ : ∃ q, portP t = q := ⟨_, rfl⟩
      have hqb := portP_bounds t
      rw [hq] at h4b hqb ⊢
      by_cases h0 : q < 0
      · have hst : stepsG W H L x t = false := by
          have hs : ¬ (0 ≤ t ∧ t ≤ 3) := fun e => by rw [portP_in e.1 (by omega)] at hq; omega
          simp only [stepsG, Bool.and_eq_false_iff, decide_eq_false_iff_not]; exact .inl hs
        have HF2 := Lib.hid (HRE.out.trans (rest_bad HT.out H4.out hst))
        have HF3 := Lib.hid (HRB.out.trans (restE_bad HT.out H4.out hst))
        have e1 : wrap64 (4 * (x : Int)) = 4 * (x : Int) := IntWalk.wrap64_in _ (by omega)
        have e2 : wrap64 (4 * (x : Int) + q) = 4 * (x : Int) + q := IntWalk.wrap64_in _ (by omega)
        clear hst hq h4 a0 a1 a2
        go_wp2_with fail
        go_ret2
        refine ⟨_, ret_two HF3.out.symm, ?_, HBo.out⟩
        rw [HF2.out]
        exact World.ownsRow_nil _ _ _ _
      · have hqt : t = q := portP_in_of hq (by omega)
        subst hqt
        have ht3 : t ≤ 3 := by omega
        have e1 : wrap64 (4 * (x : Int)) = 4 * (x : Int) := IntWalk.wrap64_in _ (by omega)
        have e2 : wrap64 (4 * (x : Int) + t) = 4 * (x : Int) + t := IntWalk.wrap64_in _ (by omega)
        have hcw : (Lit.int .i64 (4 * (x : Int) + t)).wf = true := WalkArith.wf_i64 (by omega)
        have hi2 := (HI.out.below HBo.out).more (B' := wr.heap.size) (by omega)
        have TM := Lib.hid ((Blk.new w 34 (meshC W H A n cap)).below HBel.out (by omega))
        cases hc : hasChG W H L (4 * (x : Int) + t) with
        | false =>
          have hst : stepsG W H L x t = false := by simp [stepsG, hc]
          have HF2 := Lib.hid (HRE.out.trans (rest_bad HT.out H4.out hst))
          have HF3 := Lib.hid (HRB.out.trans (restE_bad HT.out H4.out hst))
          have HC := Lib.hid (fun w h => implConnects W H A n cap L (4 * (x : Int) + t) false hcw hc w h hn)
          clear hst hq h4 hc hcw
          go_wp2_with fail
          refine (HC.out _ hi2).mono ?_
          rintro e w3 ⟨rfl, hg3⟩
          have G3 := Lib.hid (below_gb HBo.out (Nat.le_refl _) hg3)
          clear hg3 hi2 a0 a1 a2
          go_wp2_with fail
          go_ret2
          refine ⟨_, ret_two HF3.out.symm, ?_, G3.out⟩
          rw [HF2.out]
          exact World.ownsRow_nil _ _ _ _
        | true =>
          have hst : stepsG W H L x t = true := by simp only [stepsG, hc, Bool.and_true, decide_eq_true_eq]; omega
          have HF2 := Lib.hid (HRE.out.trans (rest_go HT.out H4.out hst))
          have HF3 := Lib.hid (HRB.out.trans (restE_go HT.out H4.out hst))
          have HC := Lib.hid (fun w h => implConnects W H A n cap L (4 * (x : Int) + t) true hcw hc w h hn)
          obtain ⟨y, hy⟩ : ∃ y : Nat, nextG W H x t = (y : Int) := ⟨(nextG W H x t).toNat, (Int.toNat_of_nonneg (hasG_iff.1 (step_has hst)).1).symm⟩
          have hyk := (hasG_iff.1 (step_has hst)).2
          rw [hy] at hyk
          have HE := Lib.hid (fun w => implEnd W H (4 * (x : Int) + t) y hcw (by rw [end_step (by omega) ht3, hy]) w)
          have HY := Lib.hid hy
          have HYK := Lib.hid hyk
          clear hst hq h4 hc hcw hy hyk
          go_wp2_with fail
          refine (HC.out _ hi2).mono ?_
          rintro e w3 ⟨rfl, hg3⟩
          have G3 := Lib.hid hg3
          have tm3 := TM.out.grown hg3 (by simp)
          have d0 : w3.cell? ⟨w.heap.size, 0, none⟩ = some (.int .i64 W) := tm3.cell 0
          have d1 : w3.cell? ⟨w.heap.size, 1, none⟩ = some (.int .i64 H) := tm3.cell 1
          clear hg3 hi2 a0 a1 a2 tm3
          go_wp2_with fail
          refine (HN.out _).mono ?_
          rintro e w4 ⟨rfl, hg4⟩
          have G4 := Lib.hid (gb_trans G3.out hg4)
          have TM4 := Lib.hid (TM.out.grown G4.out (by simp))
          clear hg4 d0 d1
          by_cases hlk : acc.length = k
          · have hf0 : f = 0 := by have := HF.out; omega
            have hlb : ((acc.length : Int) == (k : Int)) = true := beq_iff_eq.2 (by omega)
            have G5 := Lib.hid (below_gb HBo.out (Nat.le_refl _) G4.out)
            have HG2 := Lib.hid (show res = [] by rw [HF2.out, hf0]; rfl)
            have HG3 := Lib.hid (show rb = false by rw [HF3.out, hf0]; rfl)
            clear hlk hf0
            go_wp2_with fail
            go_ret2
            refine ⟨_, ret_two HG3.out.symm, ?_, G5.out⟩
            rw [HG2.out]
            exact World.ownsRow_nil _ _ _ _
          · have hlb : ((acc.length : Int) == (k : Int)) = false := beq_false_of_ne (by omega)
            have hown1 := own_none HOwn.out G4.out
            have hsz4 : w.heap.size + 1 ≤ w4.heap.size := Nat.le_trans hsw G4.out.size
            have b3' := Lib.hid (show ∀ u ∈ [Value.int .i64 (4 * (x : Int) + t)], u.oneCell' = true by simp [Value.oneCell'])
            have b4' := Lib.hid (show acc.length + 1 ≤ maxLen by unfold maxLen; omega)
            have HLK := Lib.hid (show acc.length < k by omega)
            have HB4 := Lib.hid (below_gb HBel.out (by rw [HS1.out]; exact Nat.le_refl _) G4.out)
            clear hlk
            go_wp2_with (at_builtin; refine wpList_append_own _ rfl _ _ 24 rfl (w.heap.size + 1) 3 i0 (.int .i64 0) 1 8 Try.underlying24 hi hz0 hz1 hz2 rfl (by decide) _ acc.length _ rfl (hown1.alloc _) ⟨w4.heap.size, 0, none⟩ 1 1 [.int .i64 (4 * (x : Int) + t)] rfl rfl (World.news_of_block (cs := #[.int .i64 (4 * (x : Int) + t)]) (t := 3) (fr := (0, 0)) (heap_alloc_new w4 _)) b3'.out b4'.out (by omega) (by simp; omega) ?_; intro v' w5 hown5 hgrow5 _; obtain ⟨ho5, hb5, hlv, a0, a1⟩ := app_to HB4.out hown1 hown5 hgrow5; have HO5 := Lib.hid ho5; have HB5 := Lib.hid hb5; have HLV := Lib.hid hlv; clear ho5 hb5 hlv hown5 hgrow5 hown1)
            refine (HE.out _).mono ?_
            rintro e w6 ⟨rfl, hg6⟩
            have G6 := Lib.hid hg6
            have HB6 := Lib.hid (below_gb HB5.out (by rw [HS1.out]; exact Nat.le_refl _) hg6)
            have c6 := HSQ.out w6 (below_box HB6.out) y z HYK.out HZ.out
            have y16 : (y : Int) < 16 := by have := HYK.out; have := HKI.out; omega
            obtain ⟨q6, hq6⟩ : ∃ q, portP (tabG (countG W H) P y z) = q := ⟨_, rfl⟩
            rw [hq6] at c6
            have HQ6 := Lib.hid hq6
            clear hg6 a0 a1 hq6
            go_wp2_with fail
            go_roundw
            case rel => exact ⟨acc ++ [4 * (x : Int) + t], y, rfl, by rw [HQ6.out], HYK.out, by rw [HKK.out, List.length_append]; exact HLK.out, by rw [HF2.out, HY.out, HKK.out]; congr 1; have := HF.out; simp; omega, by rw [HF3.out, HY.out, HKK.out]; congr 1; have := HF.out; simp; omega, own_none HO5.out G6.out, HB6.out⟩
            case measure => rw [HLV.out]; simp [lenW]; omega
end Go.Proofs.Ytecaehkckamhkaa
end

section
namespace Go.Proofs.Ytecaehkckamhkaa
open Go.ChangeShapes Go.WideShapes Go.ChangeAt Go.RowKit
set_option linter.unusedVariables false
variable {W H : Int} {L P : List Int}

theorem pairW_at {k x y : Nat} (hk : cntN W H = k) (hy : y < k) : pairW W H L P (x * k + y) = walkOf W H L P x y := by
  have hki := cntN_int W H
  subst hk
  have e1 : ((x * cntN W H + y : Nat) : Int) / countG W H = x := by rw [← hki, ← Int.natCast_ediv, pair_div hy]
  have e2 : ((x * cntN W H + y : Nat) : Int) % countG W H = y := by rw [← hki, ← Int.natCast_emod, pair_mod hy]
  rw [pairW, e1, e2]
theorem walkG_valid {a b : Int} (h : tableG W H L P = true) (ha : hasG W H a = true) (hb : hasG W H b = true) : walkG W H L P a b = walkOf W H L P a b := by
  have hs := tableG_sized h
  unfold walkG
  by_cases e : a = b
  · subst e
    have he := tableG_entry h ha ha
    rw [entry_same, decide_eq_true_eq] at he
    rw [if_neg (by simp), walkOf, walkF_end he rfl]
    rfl
  · rw [if_pos ⟨by simp [askG, hs, ha, hb], e⟩]
theorem sqG_cnt {k : Nat} (hk : cntN W H = k) : sqG W H = k * k := by subst hk; rfl
end Go.Proofs.Ytecaehkckamhkaa
end

section
namespace Go.Proofs.Ytecaehkckamhkaa
open Go.ChangeShapes Go.WideShapes Go.ChangeAt Go.RowKit
set_option linter.unusedVariables false

/-- The mesh's box lies first; the list lies behind it. -/
def OneAt (W H : Int) (A : Option Addr) (n cap : Nat) (w : World) (acc : List Int) (v : Value) (wr : World) : Prop :=
  wr.ownsRow (w.heap.size + 1) 3 1 v acc.length (intsV acc) ∧ Below (w.heap.size + 1) (w.alloc (.cells (meshC W H A n cap) 34)) wr
section
variable {W H : Int} {A : Option Addr} {n cap : Nat} {w wr w' : World} {acc : List Int} {v : Value}
theorem one_size : (w.alloc (.cells (meshC W H A n cap) 34)).heap.size = w.heap.size + 1 := by simp
theorem OneAt.le (h : OneAt W H A n cap w acc v wr) : w.heap.size + 1 ≤ wr.heap.size := by have h1 := h.2.size; rw [one_size] at h1; exact h1
theorem OneAt.gb (h : OneAt W H A n cap w acc v wr) (hg : wr.grownBy w' none) : OneAt W H A n cap w acc v w' := ⟨own_none h.1 hg, below_gb h.2 (by rw [one_size]; exact Nat.le_refl _) hg⟩
theorem OneAt.old (h : OneAt W H A n cap w acc v wr) : Below w.heap.size w wr := below_box h.2
theorem OneAt.mesh (h : OneAt W H A n cap w acc v wr) : Blk wr w.heap.size 34 (meshC W H A n cap) := (Blk.new w 34 (meshC W H A n cap)).below h.2 (by omega)
theorem OneAt.cells (h : OneAt W H A n cap w acc v wr) : wr.cell? ⟨w.heap.size, 0, none⟩ = some (.int .i64 W) ∧ wr.cell? ⟨w.heap.size, 1, none⟩ = some (.int .i64 H) ∧ wr.cell? ⟨w.heap.size, 2, none⟩ = some (.slice A n cap) :=
  ⟨h.mesh.cell 0, h.mesh.cell 1, h.mesh.cell 2⟩
theorem OneAt.row (h : OneAt W H A n cap w acc v wr) {B : Option Addr} {m : Nat} {X : List Int} (hi : IntAt w w.heap.size B m X) : IntAt wr wr.heap.size B m X := (hi.below h.old).more h.old.size
theorem OneAt.app {x : Int} {v' : Value} {o : Obj} (h : OneAt W H A n cap w acc v wr) (ho : w'.ownsRow (w.heap.size + 1) 3 1 v' (acc.length + 1) (intsV acc ++ [.int .i64 x])) (hg : (wr.alloc o).grownBy w' v.ownBlock) :
    OneAt W H A n cap w (acc ++ [x]) v' w' ∧ ∃ A' c', v' = .slice A' (acc.length + 1) c' := by
  have h1 : w'.ownsRow (w.heap.size + 1) 3 1 v' (acc ++ [x]).length (intsV (acc ++ [x])) := by rw [List.length_append, intsV_append]; exact ho
  refine ⟨⟨h1, (h.2.alloc h.le _).grown hg (by have := h.le; simp; omega) (fun j hj => (h.1.lt j hj).1)⟩, ?_⟩
  obtain ⟨A', c', rfl, _⟩ := own_form ho
  exact ⟨A', c', rfl⟩
theorem OneAt.start (hg : (w.alloc (.cells (meshC W H A n cap) 34)).grownBy wr none) : OneAt W H A n cap w [] (.slice none 0 0) wr := ⟨World.ownsRow_nil _ _ _ _, gb_below_none hg (by rw [one_size]; exact Nat.le_refl _)⟩
/-- A list of one number. -/
theorem OneAt.made (hg : (w.alloc (.cells (meshC W H A n cap) 34)).grownBy wr none) (x : Int) :
    OneAt W H A n cap w [x] (.slice (some ⟨wr.heap.size, 0, none⟩) 1 1) (wr.alloc (.cells #[.int .i64 x] 3)) := by
  have hb := gb_below_none hg (B := w.heap.size + 1) (by rw [one_size]; exact Nat.le_refl _)
  have hs := hb.size
  rw [one_size] at hs
  exact ⟨World.ownsRow_lit (base := w.heap.size + 1) (e := 3) (size := 1) wr #[.int .i64 x] 1 hs (by decide) rfl, hb.alloc hs _⟩
theorem OneAt.made0 (hg : (w.alloc (.cells (meshC W H A n cap) 34)).grownBy wr none) :
    OneAt W H A n cap w [] (.slice (some ⟨wr.heap.size, 0, none⟩) 0 0) (wr.alloc (.cells #[] 3)) := by
  have hb := gb_below_none hg (B := w.heap.size + 1) (by rw [one_size]; exact Nat.le_refl _)
  have hs := hb.size
  rw [one_size] at hs
  exact ⟨World.ownsRow_made (base := w.heap.size + 1) (e := 3) (size := 1) wr #[] 0 hs (by decide) rfl, hb.alloc hs _⟩
theorem OneAt.new (h : OneAt W H A n cap w acc v wr) {L : List Int} (hL : acc = L) : wr.ownsRow w.heap.size 3 1 v L.length (intsV L) ∧ Below w.heap.size w wr := by
  subst hL; exact ⟨own_less h.1 (by omega), h.old⟩
end
/-- A new list of numbers, and whether there is one. -/
def NewR (L : List Int) (b : Bool) (w : World) (e : Ending) (w' : World) : Prop :=
  ∃ v, e = .returned (.tuple #[v, .bool b]) ∧ w'.ownsRow w.heap.size 3 1 v L.length (intsV L) ∧ Below w.heap.size w w'
theorem ret_pair {v : Value} {a b : Bool} (h : a = b) : Ending.returned (.tuple #[v, .bool a]) = Ending.returned (.tuple #[v, .bool b]) := by rw [h]
theorem own_nil {L : List Int} (h : L = []) (w : World) (base : Nat) : w.ownsRow base 3 1 (.slice none 0 0) L.length (intsV L) := by subst h; exact World.ownsRow_nil _ _ _ _
/-- An empty list of the function's own. -/
theorem own_empty {L : List Int} (h : L = []) {w wr : World} (hb : Below w.heap.size w wr) : (wr.alloc (.cells #[] 3)).ownsRow w.heap.size 3 1 (.slice (some ⟨wr.heap.size, 0, none⟩) 0 0) L.length (intsV L) ∧ Below w.heap.size w (wr.alloc (.cells #[] 3)) := by
  subst h
  exact ⟨World.ownsRow_made (base := w.heap.size) (e := 3) (size := 1) wr #[] 0 hb.size (by decide) rfl, hb.alloc hb.size _⟩
theorem own_cap {w : World} {base : Nat} {e : TypeId} {size n cap : Nat} {A : Option Addr} {xs : List Value} (h : w.ownsRow base e size (.slice A n cap) n xs) : n ≤ cap ∧ cap ≤ maxLen := by
  rcases h.2 with ⟨h1, h2⟩ | ⟨g, cap', cur, h1, _, _, h2, h3, _⟩
  · simp only [Value.slice.injEq] at h1
    obtain ⟨_, _, rfl⟩ := h1
    exact ⟨by omega, Nat.zero_le _⟩
  · simp only [Value.slice.injEq] at h1
    obtain ⟨_, _, rfl⟩ := h1
    exact ⟨h2, h3⟩
/-- The first k numbers of a slice. -/
theorem IntAt.take {w : World} {B n : Nat} {A : Option Addr} {L : List Int} (h : IntAt w B A n L) {k : Nat} (hk : k ≤ n) : IntAt w B A k (L.take k) := ⟨by have := h.1; simp; omega, fun h0 => by
  obtain ⟨b, off, hA, hb, hc⟩ := h.2 (by omega)
  refine ⟨b, off, hA, hb, fun j x hx => hc j x ?_⟩
  rcases Nat.lt_or_ge j k with h1 | h1
  · rwa [List.getElem?_take_of_lt h1] at hx
  · rw [List.getElem?_eq_none (by simp; omega)] at hx; cases hx⟩
end Go.Proofs.Ytecaehkckamhkaa
end

section
namespace Go.Proofs.Ytecaehkckamhkaa
open Go.ChangeShapes Go.WideShapes Go.ChangeAt Go.RowKit
set_option linter.unusedVariables false
set_option maxRecDepth 20000

theorem info_lists : (Try.prog.info? 24).map (fun i => (i.zero, i.size, i.bytes)) = some (some (.slice none 0 0), 1, 24) := by kernel_rfl
/-- A row of lists: element k is a row of the caller's own that holds the numbers of F k. -/
def ListsAt (w : World) (base : Nat) (v : Value) (N : Nat) (F : Nat → List Int) : Prop :=
  ∃ vs : List Value, w.ownsRow base 24 1 v N vs ∧ ∀ k, k < N → ∃ A c, vs[k]? = some (.slice A (F k).length c) ∧ w.ownsRow base 3 1 (.slice A (F k).length c) (F k).length (intsV (F k))
section
variable {w w' : World} {base : Nat} {v v' : Value} {N : Nat} {F : Nat → List Int}
theorem ListsAt.nil (w : World) (base : Nat) (F : Nat → List Int) : ListsAt w base (.slice none 0 0) 0 F := ⟨[], World.ownsRow_nil _ _ _ _, fun k h => by omega⟩
theorem ListsAt.gb (h : ListsAt w base v N F) (hg : w.grownBy w' none) : ListsAt w' base v N F := by
  obtain ⟨vs, ho, hi⟩ := h
  refine ⟨vs, own_none ho hg, fun k hk => ?_⟩
  obtain ⟨A, c, h1, h2⟩ := hi k hk
  exact ⟨A, c, h1, own_none h2 hg⟩
theorem ListsAt.below (h : ListsAt w base v N F) (hb : Below w.heap.size w w') : ListsAt w' base v N F := h.gb (gb_of_below hb none)
theorem ListsAt.less {b : Nat} (h : ListsAt w base v N F) (hb : b ≤ base) : ListsAt w b v N F := by
  obtain ⟨vs, ho, hi⟩ := h
  refine ⟨vs, own_less ho hb, fun k hk => ?_⟩
  obtain ⟨A, c, h1, h2⟩ := hi k hk
  exact ⟨A, c, h1, own_less h2 hb⟩
theorem ListsAt.form (h : ListsAt w base v N F) : ∃ A c, v = .slice A N c ∧ (0 < N → ∃ g, A = some ⟨g, 0, none⟩) := by obtain ⟨vs, ho, _⟩ := h; exact own_form ho
/-- A row of numbers does not lie where the row of lists lies. -/
theorem own_two {A : Option Addr} {n c k : Nat} {L : List Int} {vs : List Value} (h : w.ownsRow base 24 1 v N vs) (h2 : w.ownsRow base 3 1 (.slice A n c) k (intsV L)) : (Value.slice A n c).ownBlock = none ∨ (Value.slice A n c).ownBlock ≠ v.ownBlock := by
  rcases h2.2 with ⟨h3, _⟩ | ⟨g2, c2, cur2, h3, _, hg2, _⟩
  · rw [h3]; exact .inl rfl
  · right
    rw [h3]
    rcases h.2 with ⟨h4, _⟩ | ⟨g, c4, cur, h4, _, hg, _⟩
    · rw [h4]; intro e; cases e
    · rw [h4]
      intro e
      have e2 : g2 = g := Option.some.inj e
      subst e2
      rw [hg] at hg2
      have e3 := Option.some.inj hg2
      injection e3 with _ e4 _
      exact absurd e4 (by decide)
/-- One list more. -/
theorem ListsAt.app {A : Option Addr} {c : Nat} {o : Obj} {vs : List Value} {w4 : World} (ho : w.ownsRow base 24 1 v N vs) (hi : ∀ k, k < N → ∃ A c, vs[k]? = some (.slice A (F k).length c) ∧ w.ownsRow base 3 1 (.slice A (F k).length c) (F k).length (intsV (F k)))
    (h2 : w.ownsRow base 3 1 (.slice A (F N).length c) (F N).length (intsV (F N))) (ho4 : w4.ownsRow base 24 1 v' (N + 1) (vs ++ [.slice A (F N).length c])) (hg : (w.alloc o).grownBy w4 v.ownBlock) : ListsAt w4 base v' (N + 1) F := by
  have hvs : vs.length = N := by have := ho.1; omega
  have key : ∀ {A : Option Addr} {n c k : Nat} {L : List Int}, w.ownsRow base 3 1 (.slice A n c) k (intsV L) → w4.ownsRow base 3 1 (.slice A n c) k (intsV L) := fun h => (h.alloc o).kept hg (own_two ho h)
  refine ⟨_, ho4, fun k hk => ?_⟩
  rcases Nat.lt_succ_iff_lt_or_eq.1 hk with h | rfl
  · obtain ⟨A, c, h3, h4⟩ := hi k h
    exact ⟨A, c, by rw [List.getElem?_append_left (by omega)]; exact h3, key h4⟩
  · exact ⟨A, c, by rw [List.getElem?_append_right (by omega), hvs, Nat.sub_self]; rfl, key h2⟩
/-- One list of a row. -/
theorem ListsAt.at {A : Option Addr} {n c : Nat} (h : ListsAt w base (.slice A n c) N F) (k : Nat) (hk : k < N) : ∃ g B d, A = some ⟨g, 0, none⟩ ∧ w.cell? ⟨g, k, none⟩ = some (.slice B (F k).length d) ∧ w.ownsRow base 3 1 (.slice B (F k).length d) (F k).length (intsV (F k)) := by
  obtain ⟨vs, ho, hi⟩ := h
  obtain ⟨B, d, h1, h2⟩ := hi k hk
  obtain ⟨A', c', e, hA⟩ := own_form ho
  obtain ⟨g, hg⟩ := hA (by omega)
  simp only [Value.slice.injEq] at e
  obtain ⟨rfl, rfl, rfl⟩ := e
  subst hg
  exact ⟨g, B, d, rfl, by rw [ho.cellAt k (by omega)]; exact h1, h2⟩
theorem one_slice (A : Option Addr) (n c : Nat) : ∀ u ∈ [Value.slice A n c], u.oneCell' = true := by simp [Value.oneCell']
end
/-- A new row of lists. -/
def NewL (N : Nat) (F : Nat → List Int) (w : World) (e : Ending) (w' : World) : Prop :=
  ∃ v, e = .returned v ∧ ListsAt w' w.heap.size v N F ∧ Below w.heap.size w w'
/-- How many walks there are. -/
def wlkN (W H : Int) (L P : List Int) : Nat := if tableG W H L P then sqG W H else 0
theorem wlkN_no {W H : Int} {L P : List Int} (h : tableG W H L P = false) : wlkN W H L P = 0 := if_neg (by simp [h])
theorem wlkN_yes {W H : Int} {L P : List Int} (h : tableG W H L P = true) : wlkN W H L P = sqG W H := if_pos h
/-- The square of ports in its block, and the row of walks so far. -/
def WksAt (W H : Int) (A A2 : Option Addr) (n cap n2 c2 : Nat) (L P : List Int) (w : World) (g1 j : Nat) (v : Value) (wr : World) : Prop :=
  Blk wr g1 85 (cellsX (portsX W H P P.length)) ∧ ListsAt wr (w.heap.size + 2) v j (pairW W H L P) ∧ w.heap.size + 2 ≤ g1 ∧ Below (w.heap.size + 2) (twoI W H A A2 n cap n2 c2 w) wr
section
variable {W H : Int} {A A2 : Option Addr} {n cap n2 c2 : Nat} {L P : List Int} {w wr w' : World} {g1 j : Nat} {v : Value}
theorem WksAt.gb (h : WksAt W H A A2 n cap n2 c2 L P w g1 j v wr) (hg : wr.grownBy w' none) : WksAt W H A A2 n cap n2 c2 L P w g1 j v w' :=
  ⟨h.1.grown hg (by simp), h.2.1.gb hg, h.2.2.1, below_gb h.2.2.2 (by rw [twoI_size]; exact Nat.le_refl _) hg⟩
theorem twoI_bm (h : Below (w.heap.size + 2) (twoI W H A A2 n cap n2 c2 w) wr) : Blk wr w.heap.size 34 (meshC W H A n cap) :=
  ((Blk.new w 34 (meshC W H A n cap)).alloc _).below h (by omega)
theorem twoI_bo (h : Below (w.heap.size + 2) (twoI W H A A2 n cap n2 c2 w) wr) : Below w.heap.size w wr :=
  (gb_below_none twoI_gb (Nat.le_refl _)).trans (h.mono (by omega))
theorem twoI_bs (h : Below (w.heap.size + 2) (twoI W H A A2 n cap n2 c2 w) wr) : w.heap.size + 2 ≤ wr.heap.size := by have := h.size; rw [twoI_size] at this; exact this
theorem WksAt.cells (h : WksAt W H A A2 n cap n2 c2 L P w g1 j v wr) : wr.cell? ⟨w.heap.size, 0, none⟩ = some (.int .i64 W) ∧ wr.cell? ⟨w.heap.size, 1, none⟩ = some (.int .i64 H) ∧ wr.cell? ⟨w.heap.size, 2, none⟩ = some (.slice A n cap) :=
  ⟨(twoI_bm h.2.2.2).cell 0, (twoI_bm h.2.2.2).cell 1, (twoI_bm h.2.2.2).cell 2⟩
end
set_option maxHeartbeats 1600000 in
theorem implWalksOf (W H : Int) (A A2 : Option Addr) (n cap n2 c2 : Nat) (L P : List Int) (hL : WfL L) (w : World) (h : IntAt w w.heap.size A n L) (h2 : IntAt w w.heap.size A2 n2 P) (hn : n ≤ 1000000000) (hn2 : n2 ≤ 1000000000) :
    Calls Try.prog 63 #[.agg #[.int .i64 W, .int .i64 H, .slice A n cap], .agg #[.slice A2 n2 c2]] w (NewL (wlkN W H L P) (pairW W H L P) w) := by
  obtain ⟨i0, hi, hz0, hz1, hz2⟩ := info_parts info_lists
  have HI := Lib.hid h
  have HT1 := Lib.hid (h.twoI (W := W) (H := H) (A := A) (A2 := A2) (n := n) (cap := cap) (n2 := n2) (c2 := c2))
  have HT2 := Lib.hid (h2.twoI (W := W) (H := H) (A := A) (A2 := A2) (n := n) (cap := cap) (n2 := n2) (c2 := c2))
  have TZ := Lib.hid (twoI_size (W := W) (H := H) (A := A) (A2 := A2) (n := n) (cap := cap) (n2 := n2) (c2 := c2) (w := w))
  clear h h2
  obtain ⟨N, hN⟩ : ∃ N, wlkN W H L P = N := ⟨_, rfl⟩
  rw [hN]
  have HNN := Lib.hid hN
  clear hN
  cases hs : sizedG W H L P with
  | false =>
    have HPO := Lib.hid (fun w h h2 => implPortsNo W H A A2 n cap n2 c2 L P hL w h h2 hn hn2 hs)
    have HR := Lib.hid (HNN.out.symm.trans (wlkN_no (tableG_unsized hs)))
    clear hs hL
    go_enter Try.func63, Try.ntmps63
    go_wp2_with fail
    refine (HPO.out _ HT1.out HT2.out).mono ?_
    rintro e w1 ⟨rfl, hg⟩
    have HG1 := Lib.hid (show (twoI W H A A2 n cap n2 c2 w).grownBy w1 none from hg)
    clear hg
    go_wp2_with (refine wpList_storeX rfl (.tmp 5) _ rfl w1.heap.size zerosX zerosX rfl rfl (new_square w1) zerosX_length zerosX_length ?_; intro w2 hb2 hg2; have HG2 := Lib.hid (gb_square HG1.out hg2); clear hb2 hg2)
    go_ret
    exact ⟨_, rfl, by rw [HR.out]; exact ListsAt.nil _ _ _, gb_below_none (twoI_old HG2.out) (Nat.le_refl _)⟩
  | true =>
    have HPO := Lib.hid (fun w h h2 => implPortsYes W H A A2 n cap n2 c2 L P hL w h h2 hn hn2 hs)
    have HPX := Lib.hid (portsX_is hs)
    have hki := cntN_int W H
    obtain ⟨k, hk⟩ : ∃ k, cntN W H = k := ⟨_, rfl⟩
    have hk1 := cntN_le W H
    rw [hk] at hki hk1
    have HN := Lib.hid (fun w => show Calls Try.prog 66 #[.agg #[.int .i64 W, .int .i64 H]] w (RetI (k : Int) none w) from hki ▸ implNodeCount W H w)
    have HW := Lib.hid (fun (x y : Nat) (hx : x < k) (hy : y < k) w g h hb => implWalk W H A n cap L P (portsX W H P P.length) g x y hL w h hn HPX.out hb (by omega) (by omega))
    have HAT := Lib.hid (fun (x y : Nat) (hy : y < k) => pairW_at (L := L) (P := P) hk (x := x) hy)
    have HS := Lib.hid hs
    have HKI := Lib.hid hki
    have HKK := Lib.hid hk
    have HSQ := Lib.hid (sqG_cnt hk)
    clear hs hL hki hk
    go_enter Try.func63, Try.ntmps63
    go_wp2_with fail
    refine (HPO.out _ HT1.out HT2.out).mono ?_
    rintro e w1 ⟨rfl, hg⟩
    have HG1 := Lib.hid (show (twoI W H A A2 n cap n2 c2 w).grownBy w1 none from hg)
    clear hg
    go_wp2_with (refine wpList_storeX rfl (.tmp 5) _ rfl w1.heap.size zerosX (portsX W H P P.length) rfl rfl (new_square w1) zerosX_length (sqTo_length _ _ _) ?_; intro w2 hb2 hg2; have HX2 := Lib.hid (show WksAt W H A A2 n cap n2 c2 L P w w1.heap.size 0 (.slice none 0 0) w2 from ⟨hb2, ListsAt.nil _ _ _, twoI_le HG1.out, gb_below_none (gb_square HG1.out hg2) (by rw [TZ.out]; exact Nat.le_refl _)⟩); obtain ⟨a0, a1, _⟩ := HX2.out.cells; clear hb2 hg2)
    refine (HN.out _).mono ?_
    rintro e w3 ⟨rfl, hg3⟩
    have HX3 := Lib.hid (HX2.out.gb hg3)
    obtain ⟨g1, hg1⟩ : ∃ g, w1.heap.size = g := ⟨_, rfl⟩
    rw [hg1] at HX3
    clear a0 a1 hg3
    go_wp2_with fail
    (try rw [hg1])
    clear hg1
    go_loopw [7, 23] (fun v i wr => ∃ x : Nat, i = .int .i64 (x : Int) ∧ x ≤ k ∧ pairsTo W H L P x 0 ∧ WksAt W H A A2 n cap n2 c2 L P w g1 (x * k) v wr) (fun _ i _ => 17 - (intOf i).toNat)
    case atStart => exact ⟨0, rfl, Nat.zero_le _, pairs_zero, by rw [Nat.zero_mul]; exact HX3.out⟩
    case round =>
      obtain ⟨x, rfl, hxk, hpairs, hx⟩ := hrel
      have HP0 := Lib.hid hpairs
      have HX4 := Lib.hid hx
      obtain ⟨a0, a1, _⟩ := hx.cells
      clear hpairs hx
      by_cases hlt : x < k
      · have HXK := Lib.hid hlt
        have hx16 : (x : Int) < 16 := by omega
        go_wp2_with fail
        refine (HN.out _).mono ?_
        rintro e w4 ⟨rfl, hg4⟩
        have HX5 := Lib.hid (HX4.out.gb hg4)
        clear hg4 a0 a1
        go_wp2_with fail
        go_loopw [7, 29] (fun v i wr => ∃ y : Nat, i = .int .i64 (y : Int) ∧ y ≤ k ∧ pairsTo W H L P x y ∧ WksAt W H A A2 n cap n2 c2 L P w g1 (x * k + y) v wr) (fun _ i _ => 17 - (intOf i).toNat)
        case atStart => exact ⟨0, rfl, Nat.zero_le _, HP0.out, HX5.out⟩
        case round =>
          obtain ⟨y, rfl, hyk, hpairs, hy⟩ := hrel
          have HP1 := Lib.hid hpairs
          have HX6 := Lib.hid hy
          clear hpairs hy
          by_cases hlt2 : y < k
          · have hy16 : (y : Int) < 16 := by omega
            obtain ⟨a0, a1, a2⟩ := HX6.out.cells
            have hi2 := (HI.out.below (twoI_bo HX6.out.2.2.2)).more (B' := wr.heap.size) (twoI_bo HX6.out.2.2.2).size
            have HE := Lib.hid (ends_entry (W := W) (H := H) (L := L) (P := P) x y)
            obtain ⟨j, hj⟩ : ∃ j, x * k + y = j := ⟨_, rfl⟩
            have hj9 : j ≤ 256 := by
              have h1 : x * k ≤ 15 * 16 := Nat.mul_le_mul (by omega) (by omega)
              omega
            obtain ⟨R, hR⟩ : ∃ R, walkOf W H L P x y = R := ⟨_, rfl⟩
            have HF := Lib.hid (show pairW W H L P j = R by rw [← hj, ← hR]; exact HAT.out x y hlt2)
            have HW6 := Lib.hid (HW.out x y HXK.out hlt2 _ _ hi2 HX6.out.1)
            rw [hR] at HW6
            have HJ := Lib.hid hj
            rw [hj] at HX6
            clear hi2 hj hR
            go_wp2_with fail
            refine HW6.out.mono ?_
            rintro e w6 ⟨vq, rfl, ho6, hb6⟩
            have HX7 := Lib.hid (HX6.out.gb (gb_of_below hb6 none))
            obtain ⟨Aq, capq, rfl, _⟩ := own_form ho6
            have HO6 := Lib.hid (own_less ho6 (twoI_bs HX6.out.2.2.2))
            rw [HE.out]
            clear a0 a1 a2 ho6 hb6
            cases he : entryG W H L P x y with
            | false =>
              have hf := tableG_no (W := W) (H := H) (L := L) (P := P) (a := x) (b := y) (by rw [← HKI.out]; omega) (by rw [← HKI.out]; omega) he
              have HR := Lib.hid (HNN.out.symm.trans (wlkN_no hf))
              clear hf he
              go_wp2_with fail
              go_ret
              exact ⟨_, rfl, by rw [HR.out]; exact ListsAt.nil _ _ _, twoI_bo HX7.out.2.2.2⟩
            | true =>
              have HPn := Lib.hid (pairs_next HP1.out he)
              clear he
              obtain ⟨vs, hvo, hvi⟩ := HX7.out.2.1
              obtain ⟨Av, cv, rfl, _⟩ := own_form hvo
              have HVO := Lib.hid hvo
              have HVI := Lib.hid hvi
              have b3 := Lib.hid (one_slice Aq R.length capq)
              have b4 := Lib.hid (show j + 1 ≤ maxLen by unfold maxLen; omega)
              have b5 := Lib.hid (twoI_bs HX7.out.2.2.2)
              clear hvo hvi
              go_wp2_with (at_builtin; refine wpList_append_own _ rfl _ _ 76 rfl (w.heap.size + 2) 24 i0 (.slice none 0 0) 1 24 Try.underlying76 hi hz0 hz1 hz2 rfl (by decide) _ j _ rfl (HVO.out.alloc _) ⟨w6.heap.size, 0, none⟩ 1 1 [.slice Aq R.length capq] rfl rfl (World.news_of_block (cs := #[.slice Aq R.length capq]) (t := 24) (fr := (0, 0)) (heap_alloc_new w6 _)) b3.out b4.out (by omega) (by have := b5.out; simp; omega) ?_; intro v' w7 hown7 hgrow7 _)
              have HX8 := Lib.hid (show WksAt W H A A2 n cap n2 c2 L P w g1 (x * k + (y + 1)) v' w7 from by
                have h5 := HX7.out
                rw [← Nat.add_assoc, HJ.out]
                have hF := HF.out
                refine ⟨(h5.1.alloc _).grown hgrow7 (fun e => own_ne HVO.out h5.1 (by decide) e.symm), ?_, h5.2.2.1, (h5.2.2.2.alloc b5.out _).grown hgrow7 (by have := b5.out; simp; omega) (fun q hq => (HVO.out.lt q hq).1)⟩
                exact ListsAt.app (F := pairW W H L P) HVO.out HVI.out (by rw [hF]; exact HO6.out) (by rw [hF]; exact hown7) hgrow7)
              clear hown7 hgrow7
              go_wp2_with fail
              go_roundw
              case rel => exact ⟨y + 1, by go_num, by omega, HPn.out, HX8.out⟩
              case measure => simp [intOf]; omega
          · obtain rfl : y = k := by omega
            have HPr := Lib.hid (pairs_row HP1.out HKI.out)
            go_wp2_with fail
            go_roundw
            case rel => exact ⟨x + 1, by go_num, by omega, HPr.out, by rw [Nat.add_mul, Nat.one_mul]; exact HX6.out⟩
            case measure => simp [intOf]; omega
      · obtain rfl : x = k := by omega
        have hf := tableG_yes HS.out HP0.out HKI.out
        have HR := Lib.hid (show N = x * x by rw [← HNN.out, wlkN_yes hf, HSQ.out])
        clear a0 a1 hf
        go_wp2_with fail
        go_ret
        exact ⟨_, rfl, by rw [HR.out]; exact HX4.out.2.1.less (by omega), twoI_bo HX4.out.2.2.2⟩
end Go.Proofs.Ytecaehkckamhkaa
end

section
namespace Go.Proofs.Ytecaehkckamhkaa
open Go.ChangeShapes Go.WideShapes Go.ChangeAt Go.RowKit
set_option linter.unusedVariables false
set_option maxRecDepth 20000

theorem sqG_pos {W H : Int} {L P : List Int} (h : tableG W H L P = true) : 0 < sqG W H := by
  have hok := (meshG_ok (sizedG_mesh (tableG_sized h)).1).1
  obtain ⟨h1, _, h3, _⟩ := okG_iff.1 hok
  have hc : countG W H = W * H := by simp [countG, hok]
  have hp : 0 < W * H := Int.mul_pos (by omega) (by omega)
  have : 0 < (countG W H).toNat := by rw [hc]; omega
  exact Nat.mul_pos this this
theorem twoI_new {W H : Int} {A A2 : Option Addr} {n cap n2 c2 : Nat} {w w1 : World} (h : Below (twoI W H A A2 n cap n2 c2 w).heap.size (twoI W H A A2 n cap n2 c2 w) w1) : (twoI W H A A2 n cap n2 c2 w).grownBy w1 none := gb_of_below h none
theorem wlkN_small (W H : Int) (L P : List Int) : wlkN W H L P ≤ 256 := by
  unfold wlkN
  split
  · have h := cntN_le W H
    exact Nat.mul_le_mul h h
  · exact Nat.zero_le _

theorem implTableOk (W H : Int) (A A2 : Option Addr) (n cap n2 c2 : Nat) (L P : List Int) (hL : WfL L) (w : World) (h : IntAt w w.heap.size A n L) (h2 : IntAt w w.heap.size A2 n2 P) (hn : n ≤ 1000000000) (hn2 : n2 ≤ 1000000000) :
    Calls Try.prog 18 #[.agg #[.int .i64 W, .int .i64 H, .slice A n cap], .agg #[.slice A2 n2 c2]] w (RetB (tableG W H L P) w) := by
  have HT1 := Lib.hid (h.twoI (W := W) (H := H) (A := A) (A2 := A2) (n := n) (cap := cap) (n2 := n2) (c2 := c2))
  have HT2 := Lib.hid (h2.twoI (W := W) (H := H) (A := A) (A2 := A2) (n := n) (cap := cap) (n2 := n2) (c2 := c2))
  have HWK := Lib.hid (fun w h h2 => implWalksOf W H A A2 n cap n2 c2 L P hL w h h2 hn hn2)
  clear h h2 hL
  cases ht : tableG W H L P with
  | false =>
    rw [wlkN_no ht] at HWK
    clear ht
    go_enter Try.func18, Try.ntmps18
    go_wp2_with fail
    refine (HWK.out _ HT1.out HT2.out).mono ?_
    rintro e w1 ⟨va, rfl, hl1, hb1⟩
    obtain ⟨Aw, cw, rfl, _⟩ := hl1.form
    have G1 := Lib.hid (twoI_old (twoI_new hb1))
    clear hl1 hb1
    go_wp2_with fail
    go_ret
    exact ⟨ret_bool (by simp), G1.out⟩
  | true =>
    rw [wlkN_yes ht] at HWK
    have hp := sqG_pos ht
    obtain ⟨N, hN⟩ : ∃ N, sqG W H = N := ⟨_, rfl⟩
    rw [hN] at HWK hp
    clear ht hN
    go_enter Try.func18, Try.ntmps18
    go_wp2_with fail
    refine (HWK.out _ HT1.out HT2.out).mono ?_
    rintro e w1 ⟨va, rfl, hl1, hb1⟩
    obtain ⟨Aw, cw, rfl, _⟩ := hl1.form
    have G1 := Lib.hid (twoI_old (twoI_new hb1))
    clear hl1 hb1
    go_wp2_with fail
    go_ret
    exact ⟨ret_bool (by simp <;> omega), G1.out⟩
end Go.Proofs.Ytecaehkckamhkaa
end

section
namespace Go.Proofs.Ytecaehkckamhkaa
open Go.ChangeShapes Go.WideShapes Go.ChangeAt Go.RowKit
set_option linter.unusedVariables false
set_option maxRecDepth 20000

/-- The greatest length of the first k walks. -/
def mxW (W H : Int) (L P : List Int) (k : Nat) : Int := if k = 0 then -1 else (mostTo W H L P k : Int)
theorem mxW_next {W H : Int} {L P : List Int} {k : Nat} {R : List Int} (h : pairW W H L P k = R) : max (mxW W H L P k) (R.length : Int) = mxW W H L P (k + 1) := by
  have e : lenAt W H L P k = R.length := by rw [← h]; rfl
  unfold mxW
  rw [if_neg (Nat.succ_ne_zero k), mostTo, e]
  split
  · rename_i h0
    subst h0
    simp only [mostTo]
    omega
  · omega
theorem mxW_all (W H : Int) (L P : List Int) : mxW W H L P (wlkN W H L P) = longG W H L P := by
  unfold longG
  cases ht : tableG W H L P with
  | false => rw [wlkN_no ht]; rfl
  | true =>
    rw [wlkN_yes ht, mxW, if_neg (by have := sqG_pos ht; omega)]
    rfl
/-- The row of walks. -/
def WkAt (W H : Int) (A A2 : Option Addr) (n cap n2 c2 : Nat) (L P : List Int) (w : World) (Aw : Option Addr) (N cw : Nat) (wr : World) : Prop :=
  ListsAt wr (w.heap.size + 2) (.slice Aw N cw) N (pairW W H L P) ∧ (twoI W H A A2 n cap n2 c2 w).grownBy wr none
section
variable {W H : Int} {A A2 : Option Addr} {n cap n2 c2 : Nat} {L P : List Int} {w wr w' : World} {Aw : Option Addr} {N cw : Nat}
theorem WkAt.gb (h : WkAt W H A A2 n cap n2 c2 L P w Aw N cw wr) (hg : wr.grownBy w' none) : WkAt W H A A2 n cap n2 c2 L P w Aw N cw w' := ⟨h.1.gb hg, gb_trans h.2 hg⟩
theorem WkAt.one (h : WkAt W H A A2 n cap n2 c2 L P w Aw N cw wr) {k : Nat} (hk : k < N) {R : List Int} (hR : pairW W H L P k = R) : ∃ g B d, Aw = some ⟨g, 0, none⟩ ∧ wr.cell? ⟨g, k, none⟩ = some (.slice B R.length d) := by
  obtain ⟨g, B, d, h1, h2, _⟩ := h.1.at k hk
  rw [hR] at h2
  exact ⟨g, B, d, h1, h2⟩
end
theorem int_maxW (a b : Int) : (if a < b then b else a) = max a b := by omega

theorem implLongestWalk (W H : Int) (A A2 : Option Addr) (n cap n2 c2 : Nat) (L P : List Int) (hL : WfL L) (w : World) (h : IntAt w w.heap.size A n L) (h2 : IntAt w w.heap.size A2 n2 P) (hn : n ≤ 1000000000) (hn2 : n2 ≤ 1000000000) :
    Calls Try.prog 22 #[.agg #[.int .i64 W, .int .i64 H, .slice A n cap], .agg #[.slice A2 n2 c2]] w (RetI (longG W H L P) none w) := by
  have HT1 := Lib.hid (h.twoI (W := W) (H := H) (A := A) (A2 := A2) (n := n) (cap := cap) (n2 := n2) (c2 := c2))
  have HT2 := Lib.hid (h2.twoI (W := W) (H := H) (A := A) (A2 := A2) (n := n) (cap := cap) (n2 := n2) (c2 := c2))
  have HWK := Lib.hid (fun w h h2 => implWalksOf W H A A2 n cap n2 c2 L P hL w h h2 hn hn2)
  have HRES := Lib.hid (mxW_all W H L P)
  have hN256 := wlkN_small W H L P
  have TZ := Lib.hid (twoI_size (W := W) (H := H) (A := A) (A2 := A2) (n := n) (cap := cap) (n2 := n2) (c2 := c2) (w := w))
  obtain ⟨N, hN⟩ : ∃ N, wlkN W H L P = N := ⟨_, rfl⟩
  rw [hN] at HWK HRES hN256
  clear h h2 hL hN
  go_enter Try.func22, Try.ntmps22
  go_wp2_with fail
  refine (HWK.out _ HT1.out HT2.out).mono ?_
  rintro e w1 ⟨va, rfl, hl1, hb1⟩
  obtain ⟨Aw, cw, rfl, _⟩ := hl1.form
  have X1 := Lib.hid (show WkAt W H A A2 n cap n2 c2 L P w Aw N cw w1 from ⟨by rw [TZ.out] at hl1; exact hl1, twoI_new hb1⟩)
  clear hl1 hb1
  go_wp2_with fail
  go_loopw [5, 12] (fun m i wr => ∃ k : Nat, m = .int .i64 (mxW W H L P k) ∧ i = .int .i64 (k : Int) ∧ k ≤ N ∧ WkAt W H A A2 n cap n2 c2 L P w Aw N cw wr) (fun _ i _ => 257 - (intOf i).toNat)
  case atStart => exact ⟨0, rfl, rfl, Nat.zero_le _, X1.out⟩
  case round =>
    obtain ⟨k, rfl, rfl, hk, hx⟩ := hrel
    have X2 := Lib.hid hx
    clear hx
    by_cases hlt : k < N
    · obtain ⟨R, hR⟩ : ∃ R, pairW W H L P k = R := ⟨_, rfl⟩
      obtain ⟨gw, B, d, hA, hc⟩ := X2.out.one hlt hR
      subst hA
      have hnx := mxW_next hR
      have HNX := Lib.hid hnx
      have k0 : (0 : Int) ≤ (k : Int) := by omega
      have k1 : (k : Int) < (N : Int) := by omega
      obtain ⟨M, hM⟩ : ∃ M, R.length = M := ⟨_, rfl⟩
      obtain ⟨q, hq⟩ : ∃ q, mxW W H L P k = q := ⟨_, rfl⟩
      rw [hM] at hc
      rw [hM, hq] at HNX
      rw [hq]
      clear hnx hR hM hq
      go_wp2_with fail
      go_roundw
      case rel => exact ⟨k + 1, by rw [← HNX.out] <;> (first | rfl | (rw [← int_maxW])), by go_num, by omega, X2.out⟩
      case measure => simp [intOf]; omega
    · obtain rfl : k = N := by omega
      go_wp2_with fail
      go_ret
      exact ⟨ret_int64 HRES.out, twoI_old X2.out.2⟩
end Go.Proofs.Ytecaehkckamhkaa
end

section
namespace Go.Proofs.Ytecaehkckamhkaa
open Go.ChangeShapes Go.WideShapes Go.ChangeAt Go.RowKit
set_option linter.unusedVariables false
set_option maxRecDepth 20000

theorem ListsAt.over {w w' : World} {base g : Nat} {v : Value} {N : Nat} {F : Nat → List Int} (h : ListsAt w base v N F) (hg : w.grownBy w' (some g)) (hlt : g < base) : ListsAt w' base v N F := by
  have key : ∀ {e : TypeId} {sz n : Nat} {v : Value} {xs : List Value}, w.ownsRow base e sz v n xs → w'.ownsRow base e sz v n xs := fun {e sz n v xs} ho => ho.kept hg (by
    cases hv : v.ownBlock with
    | none => exact .inl rfl
    | some k => exact .inr (fun e => by have := (ho.lt k hv).1; have := Option.some.inj e; omega))
  obtain ⟨vs, ho, hi⟩ := h
  refine ⟨vs, key ho, fun k hk => ?_⟩
  obtain ⟨A, c, h3, h4⟩ := hi k hk
  exact ⟨A, c, h3, key h4⟩
theorem own_over {w w' : World} {base g n : Nat} {v : Value} {L : List Int} (ho : w.ownsRow base 3 1 v n (intsV L)) (hg : w.grownBy w' (some g)) (hlt : g < base) : w'.ownsRow base 3 1 v n (intsV L) := ho.kept hg (by
  cases hv : v.ownBlock with
  | none => exact .inl rfl
  | some k => exact .inr (fun e => by have := (ho.lt k hv).1; have := Option.some.inj e; omega))
theorem gb_drT {a b : World} {row : Option Nat} (h : a.drew.grownBy b row) : a.grownBy b row := ⟨h.os, h.tape, h.output, h.size, h.block⟩
theorem gb_put {a b c : World} {g : Nat} (h : a.grownBy b none) (hg : b.grownBy c (some g)) (hs : a.heap.size ≤ g) : a.grownBy c none :=
  ⟨hg.os.trans h.os, hg.tape.trans h.tape, hg.output.trans h.output, Nat.le_trans h.size hg.size, fun i hi _ => (hg.block i (Nat.lt_of_lt_of_le hi h.size) (fun e => by have := Option.some.inj e; omega)).trans (h.block i hi (by simp))⟩
theorem turns_wlk {W H : Int} {L P : List Int} : setL (allT W H L P (wlkN W H L P)) 16 = turnsG W H L P := by
  cases ht : tableG W H L P with
  | false =>
    rw [wlkN_no ht, turnsG_no ht]
    rfl
  | true => rw [wlkN_yes ht, turnsG_yes ht]

/-- The row of walks, and the set of turns in the block g. -/
def TuAt (W H : Int) (A A2 : Option Addr) (n cap n2 c2 : Nat) (L P : List Int) (w : World) (Aw : Option Addr) (N cw g : Nat) (f : Nat → Bool) (wr : World) : Prop :=
  ListsAt wr (g + 1) (.slice Aw N cw) N (pairW W H L P) ∧ w.heap.size + 2 = g ∧ SetAt wr g f ∧ (twoI W H A A2 n cap n2 c2 w).grownBy wr none
section
variable {W H : Int} {A A2 : Option Addr} {n cap n2 c2 : Nat} {L P : List Int} {w wr w' : World} {Aw : Option Addr} {N cw g : Nat} {f f' : Nat → Bool}
theorem TuAt.put (h : TuAt W H A A2 n cap n2 c2 L P w Aw N cw g f wr) (hs : SetAt w' g f') (hg : wr.grownBy w' (some g)) : TuAt W H A A2 n cap n2 c2 L P w Aw N cw g f' w' :=
  ⟨h.1.over hg (Nat.lt_succ_self g), h.2.1, hs, gb_put h.2.2.2 hg (by rw [twoI_size]; exact Nat.le_of_eq h.2.1)⟩
end

set_option maxHeartbeats 1600000 in
theorem implTurnsOf (W H : Int) (A A2 : Option Addr) (n cap n2 c2 : Nat) (L P : List Int) (hL : WfL L) (w : World) (h : IntAt w w.heap.size A n L) (h2 : IntAt w w.heap.size A2 n2 P) (hn : n ≤ 1000000000) (hn2 : n2 ≤ 1000000000) :
    Calls Try.prog 44 #[.agg #[.int .i64 W, .int .i64 H, .slice A n cap], .agg #[.slice A2 n2 c2]] w (NewI (turnsG W H L P) w) := by
  have TG := Lib.hid (gb_alloc (gb_refl (twoI W H A A2 n cap n2 c2 w) none) (.map #[] 0))
  have TZ := Lib.hid (twoI_size (W := W) (H := H) (A := A) (A2 := A2) (n := n) (cap := cap) (n2 := n2) (c2 := c2) (w := w))
  have HT1 := Lib.hid (h.oldI (twoI_old TG.out))
  have HT2 := Lib.hid (h2.oldI (twoI_old TG.out))
  have HS0 := Lib.hid (SetAt.made (twoI W H A A2 n cap n2 c2 w))
  have HWK := Lib.hid (fun w h h2 => implWalksOf W H A A2 n cap n2 c2 L P hL w h h2 hn hn2)
  have HRES := Lib.hid (turns_wlk (W := W) (H := H) (L := L) (P := P))
  have hN256 := wlkN_small W H L P
  obtain ⟨N, hN⟩ : ∃ N, wlkN W H L P = N := ⟨_, rfl⟩
  rw [hN] at HWK HRES hN256
  obtain ⟨res, hres⟩ : ∃ r, turnsG W H L P = r := ⟨_, rfl⟩
  rw [hres] at HRES
  rw [hres]
  have hmm := @run_makeMap Try.prog
  clear h h2 hL hN hres
  go_enter Try.func44, Try.ntmps44
  go_wp2_with fail
  refine (HWK.out _ HT1.out HT2.out).mono ?_
  rintro e w1 ⟨va, rfl, hl1, hb1⟩
  obtain ⟨Aw, cw, rfl, _⟩ := hl1.form
  obtain ⟨g, hg⟩ : ∃ g, w.heap.size + 1 + 1 = g := ⟨_, rfl⟩
  have X1 := Lib.hid (show TuAt W H A A2 n cap n2 c2 L P w Aw N cw g (allT W H L P 0) w1 from by
    have hz : (twoI W H A A2 n cap n2 c2 w).heap.size = g := TZ.out.trans hg
    have hz2 : ((twoI W H A A2 n cap n2 c2 w).alloc (.map #[] 0)).heap.size = g + 1 := by rw [alloc_size, hz]
    have hs := HS0.out
    rw [hz] at hs
    rw [hz2] at hl1
    exact ⟨hl1, hg, hs.none (gb_of_below hb1 none), gb_trans TG.out (gb_of_below hb1 none)⟩)
  clear hl1 hb1
  go_wp2_with fail
  (try rw [hg])
  clear hg
  go_loopw [14] (fun i wr => ∃ k : Nat, i = .int .i64 (k : Int) ∧ k ≤ N ∧ TuAt W H A A2 n cap n2 c2 L P w Aw N cw g (allT W H L P k) wr) (fun i _ => 257 - (Go.RowKit.intOf i).toNat)
  case atStart => exact ⟨0, rfl, Nat.zero_le _, X1.out⟩
  case round =>
    obtain ⟨k, rfl, hk, hx⟩ := hrel
    have X5 := Lib.hid hx
    by_cases hlt : k < N
    · obtain ⟨gw, B, d, hA, hc, ho⟩ := hx.1.at k hlt
      subst hA
      have hRN := pairW_len (W := W) (H := H) (L := L) (P := P) k
      have HRR := Lib.hid (fun j (h : j < (pairW W H L P k).length) => pairW_range (W := W) (H := H) (L := L) (P := P) h)
      obtain ⟨R, hR⟩ : ∃ R, pairW W H L P k = R := ⟨_, rfl⟩
      have HAN := Lib.hid (all_next hR)
      rw [hR] at hc ho hRN HRR
      obtain ⟨M, hM⟩ : ∃ M, R.length = M := ⟨_, rfl⟩
      have HN2 := Lib.hid hM
      rw [hM] at hc ho hRN HRR
      obtain ⟨_, _, e1, hgv⟩ := own_form ho
      simp only [Value.slice.injEq] at e1
      obtain ⟨rfl, _, rfl⟩ := e1
      have HGV := Lib.hid hgv
      have O6 := Lib.hid ho
      obtain ⟨F, hF⟩ : ∃ F, allT W H L P k = F := ⟨_, rfl⟩
      rw [hF] at X5 HAN
      have X6 := Lib.hid (show TuAt W H A A2 n cap n2 c2 L P w (some ⟨gw, 0, none⟩) N cw g (orT F (wayT R 0)) wr by rw [orT_none _ (way_zero R)]; exact X5.out)
      have k0 : (0 : Int) ≤ (k : Int) := by omega
      have k1 : (k : Int) < (N : Int) := by omega
      clear hx hR hM ho hgv X5 hF
      go_wp2_with fail
      clear hc
      go_loopw [8] (fun i ws => ∃ j : Nat, i = .int .i64 ((j : Int) + 1) ∧ j ≤ M - 1 ∧ TuAt W H A A2 n cap n2 c2 L P w (some ⟨gw, 0, none⟩) N cw g (orT F (wayT R j)) ws ∧ ws.ownsRow (g + 1) 3 1 (.slice B M d) M (intsV R)) (fun i _ => 17 - (Go.RowKit.intOf i).toNat)
      case atStart => exact ⟨0, rfl, Nat.zero_le _, X6.out, O6.out⟩
      case round =>
        obtain ⟨j, rfl, hj, hx, ho⟩ := hrel
        have X7 := Lib.hid hx
        have O7 := Lib.hid ho
        clear hx ho
        by_cases hlt3 : j + 1 < M
        · have hl3 : (j : Int) + 1 < (M : Int) := by omega
          obtain ⟨gv, hgv⟩ := HGV.out (by omega)
          subst hgv
          obtain ⟨x1, hx1⟩ : ∃ z, R.getD j 0 = z := ⟨_, rfl⟩
          obtain ⟨x2, hx2⟩ : ∃ z, R.getD (j + 1) 0 = z := ⟨_, rfl⟩
          obtain ⟨r10, r11⟩ := HRR.out j (by omega)
          obtain ⟨r20, r21⟩ := HRR.out (j + 1) hlt3
          have c1 := ints_cell O7.out j x1 (by rw [← hx1, List.getD, List.getElem?_eq_getElem (by rw [HN2.out]; omega)]; rfl) HN2.out
          have c2' := ints_cell O7.out (j + 1) x2 (by rw [← hx2, List.getD, List.getElem?_eq_getElem (by rw [HN2.out]; omega)]; rfl) HN2.out
          rw [hx1] at r10 r11
          rw [hx2] at r20 r21
          obtain ⟨p, hp⟩ : ∃ p, x1 % 4 = p := ⟨_, rfl⟩
          obtain ⟨q, hq⟩ : ∃ q, x2 % 4 = q := ⟨_, rfl⟩
          have hwn := Lib.hid (way_next F R j p q (by rw [hx1, hp]) (by rw [hx2, hq]))
          have p0 : 0 ≤ p := by omega
          have p3 : p ≤ 3 := by omega
          have q0 : 0 ≤ q := by omega
          have q3 : q ≤ 3 := by omega
          have t1 : x1.tmod 4 = p := by rw [Int.tmod_eq_emod_of_nonneg r10, hp]
          have t2 : x2.tmod 4 = q := by rw [Int.tmod_eq_emod_of_nonneg r20, hq]
          have HA := Lib.hid (fun (w : World) h => implAdd g (orT F (wayT R j)) p q p0 p3 q0 q3 w h)
          obtain ⟨m, hm⟩ : ∃ m : Nat, j + 1 = m := ⟨_, rfl⟩
          have hmi : (j : Int) + 1 = (m : Int) := by omega
          rw [hm] at c2'
          have j0 : (0 : Int) ≤ (j : Int) := by omega
          have j1 : (j : Int) < (M : Int) := by omega
          have j2 : (0 : Int) ≤ (m : Int) := by omega
          have j3 : (m : Int) < (M : Int) := by omega
          have e2 : IntKind.i64.wrap ((m : Int) - 1) = (j : Int) := by rw [IntWalk.i64_in _ (by omega)]; omega
          have HM := Lib.hid (And.intro hm hlt3)
          have hgv : some gv ≠ some g := fun e => by
            have := (O7.out.lt gv rfl).1
            injection e with e
            omega
          rw [hmi]
          clear hp hq hx1 hx2 hl3 hlt3 hmi hm
          go_wp2_with fail
          go_region_held3 (fun w' => w'.cell? ⟨gv, j, none⟩ = some (.int .i64 x1) ∧ w'.cell? ⟨gv, m, none⟩ = some (.int .i64 x2))
            (first | exact ⟨c1, c2'⟩ | exact ⟨d1, d2⟩ | fail)
            (first
              | (go_at_call 87; (with_reducible refine (HA.out _ ?_).mono ?_); exact X7.out.2.2.1; rintro e w7 ⟨rfl, hs7, hg7⟩; have d1 := (gb_drT hg7).cell c1 hgv; have d2 := (gb_drT hg7).cell c2' hgv)
              | fail)
          all_goals
            rw [hwn.out] at hs7
            have X8 := Lib.hid (X7.out.put hs7 (gb_drT hg7))
            have O8 := Lib.hid (own_over O7.out (gb_drT hg7) (Nat.lt_succ_self g))
            clear hs7 hg7 d1 d2 c1 c2'
            go_wp2_with fail
            go_roundw
            case rel => exact ⟨j + 1, by have hm := HM.out.1; go_num, by have := HM.out.2; omega, X8.out, O8.out⟩
            case measure => have hm := HM.out; simp [Go.RowKit.intOf]; omega
        · obtain rfl : j = M - 1 := by omega
          have hl3 : ¬ ((M - 1 : Nat) : Int) + 1 < (M : Int) := by omega
          have X8 := Lib.hid (show TuAt W H A A2 n cap n2 c2 L P w (some ⟨gw, 0, none⟩) N cw g (allT W H L P (k + 1)) _ from by
            rw [← HAN.out, HN2.out]
            exact X7.out)
          clear X7 O7
          go_wp2_with fail
          go_roundw
          case rel => exact ⟨k + 1, by go_num, by omega, X8.out⟩
          case measure => simp [Go.RowKit.intOf]; omega
    · obtain rfl : k = N := by omega
      have HSo := Lib.hid (implAscending g _ _ X5.out.2.2.1)
      rw [HRES.out] at HSo
      clear hx
      go_wp2_with fail
      refine HSo.out.mono ?_
      rintro e w4 ⟨v, rfl, ho, hb⟩
      have G5 := Lib.hid (twoI_old X5.out.2.2.2)
      have Y := Lib.hid (show NewI res w (.returned v) w4 from ⟨v, rfl, own_less ho G5.out.size, (gb_below_none G5.out (Nat.le_refl _)).trans (hb.mono G5.out.size)⟩)
      clear ho hb
      go_wp2_with fail
      go_ret
      exact Y.out
end Go.Proofs.Ytecaehkckamhkaa
end

section
namespace Go.Proofs.Ytecaehkckamhkaa
open Go.ChangeShapes Go.WideShapes Go.ChangeAt Go.RowKit
set_option linter.unusedVariables false

theorem specNodeAt (W H x y : Int) (w : World) :
    Calls Try.prog 113 #[.agg #[.int .i64 W, .int .i64 H], .int .i64 x, .int .i64 y] w (RetI (atG W H x y) none w) := by
  cases hok : okG W H with
  | true =>
    obtain ⟨hW, hH⟩ := okG_cases hok
    by_cases hx : 0 ≤ x ∧ x ≤ W - 1
    · by_cases hy : 0 ≤ y ∧ y ≤ H - 1
      · rcases hW with rfl | rfl | rfl | rfl
        all_goals
          go_enter Try.func113, Try.ntmps113
          go_wp2_with fail
          refine (specGridOk _ H _).mono ?_
          rintro e w1 ⟨rfl, hg⟩
          have hb := box_blk hg
          have c0 := hb.cell 0
          have c1 := hb.cell 1
          have Hg := Lib.hid hg
          clear hg hb
          simp at c0 c1
          rw [hok]
          go_wp2_with fail
          refine (specInV x 0 _ true (by simp; omega) _).mono ?_
          rintro e w2 ⟨rfl, rfl⟩
          go_wp2_with fail
          refine (specInV y 0 _ true (by simp; omega) _).mono ?_
          rintro e w2 ⟨rfl, rfl⟩
          go_wp2_with fail
          go_ret
          exact ⟨ret_int64 (by unfold atG; rw [if_pos ⟨hok, by omega⟩] <;> omega), box_gb Hg.out⟩
      · go_enter Try.func113, Try.ntmps113
        go_wp2_with fail
        refine (specGridOk _ H _).mono ?_
        rintro e w1 ⟨rfl, hg⟩
        have hb := box_blk hg
        have c0 := hb.cell 0
        have c1 := hb.cell 1
        have Hg := Lib.hid hg
        clear hg hb
        simp at c0 c1
        rw [hok]
        go_wp2_with fail
        refine (specInV x 0 _ true (by simp; omega) _).mono ?_
        rintro e w2 ⟨rfl, rfl⟩
        go_wp2_with fail
        refine (specInV y 0 _ false (by simp; omega) _).mono ?_
        rintro e w2 ⟨rfl, rfl⟩
        go_wp2_with fail
        go_ret
        exact ⟨ret_int64 (by unfold atG; rw [if_neg (by rintro ⟨_, _⟩; omega)]), box_gb Hg.out⟩
    · go_enter Try.func113, Try.ntmps113
      go_wp2_with fail
      refine (specGridOk _ H _).mono ?_
      rintro e w1 ⟨rfl, hg⟩
      have hb := box_blk hg
      have c0 := hb.cell 0
      have c1 := hb.cell 1
      have Hg := Lib.hid hg
      clear hg hb
      simp at c0 c1
      rw [hok]
      go_wp2_with fail
      refine (specInV x 0 _ false (by simp; omega) _).mono ?_
      rintro e w2 ⟨rfl, rfl⟩
      go_wp2_with fail
      go_ret
      exact ⟨ret_int64 (by unfold atG; rw [if_neg (by rintro ⟨_, _⟩; omega)]), box_gb Hg.out⟩
  | false =>
    go_enter Try.func113, Try.ntmps113
    go_wp2_with fail
    refine (specGridOk W H _).mono ?_
    rintro e w1 ⟨rfl, hg⟩
    rw [hok]
    go_wp2_with fail
    go_ret
    exact ⟨ret_int64 (by unfold atG; rw [if_neg (by rintro ⟨h, _⟩; rw [hok] at h; cases h)]), box_gb hg⟩
end Go.Proofs.Ytecaehkckamhkaa
end

section
namespace Go.Proofs.Ytecaehkckamhkaa
open Go.ChangeShapes Go.WideShapes Go.ChangeAt Go.RowKit
set_option linter.unusedVariables false

theorem specNodeAtV (W H x y n : Int) (h : atG W H x y = n) (w : World) :
    Calls Try.prog 113 #[.agg #[.int .i64 W, .int .i64 H], .int .i64 x, .int .i64 y] w (RetI n none w) := h ▸ specNodeAt W H x y w

theorem specNextNode (W H n p : Int) (w : World) :
    Calls Try.prog 99 #[.agg #[.int .i64 W, .int .i64 H], .int .i64 n, .int .i64 p] w (RetI (nextG W H n p) none w) := by
  cases hh : hasG W H n with
  | true =>
    obtain ⟨hW, hH⟩ := okG_cases (hasG_ok hh).1
    obtain ⟨h0, h1⟩ := hasG_le hh
    have hq := row_wrap h0 h1 hW
    obtain ⟨a0, a1, a2, a3, a4⟩ := place_of hh
    have hW1 : 1 ≤ W := by omega
    have hW2 : W ≤ 4 := by omega
    have hH2 : H ≤ 4 := by omega
    have hN : nextG W H n p = (if p = 0 then atG W H (n % W) (n / W - 1) else if p = 1 then atG W H (n % W + 1) (n / W) else if p = 2 then atG W H (n % W) (n / W + 1) else if p = 3 then atG W H (n % W - 1) (n / W) else if p = 4 then n else -1) := by simp [nextG, hh]
    obtain ⟨x, hx⟩ : ∃ x, n % W = x := ⟨_, rfl⟩
    obtain ⟨y, hy⟩ : ∃ y, n / W = y := ⟨_, rfl⟩
    rw [hx, hy] at hN
    rw [hx] at a0 a1
    rw [hy] at a2 a3 hq
    obtain ⟨r, hr⟩ : ∃ r, nextG W H n p = r := ⟨_, rfl⟩
    rw [hr] at hN ⊢
    have hd : n.tdiv W = y := by rw [Int.tdiv_eq_ediv_of_nonneg h0]; exact hy
    clear a4 hW hH hr hq
    by_cases p0 : p = 0
    · subst p0
      simp at hN
      go_enter Try.func99, Try.ntmps99
      go_wp2_with fail
      refine (specHas W H n _).mono ?_
      rintro e w1 ⟨rfl, hg⟩
      have hb := box_blk hg
      have c0 := hb.cell 0
      have c1 := hb.cell 1
      have Hg := Lib.hid (box_gb hg)
      clear hg hb
      simp at c0 c1
      rw [hh]
      go_wp2_with fail
      simp only [hx]
      refine (specNodeAtV W H (x) (y - 1) r hN.symm _).mono ?_
      rintro e w2 ⟨rfl, hg2⟩
      have Hg2 := Lib.hid hg2
      clear hg2
      go_wp2_with fail
      go_ret
      exact ⟨ret_int64 hN.symm, gb_trans Hg.out Hg2.out⟩
    by_cases p1 : p = 1
    · subst p1
      simp at hN
      go_enter Try.func99, Try.ntmps99
      go_wp2_with fail
      refine (specHas W H n _).mono ?_
      rintro e w1 ⟨rfl, hg⟩
      have hb := box_blk hg
      have c0 := hb.cell 0
      have c1 := hb.cell 1
      have Hg := Lib.hid (box_gb hg)
      clear hg hb
      simp at c0 c1
      rw [hh]
      go_wp2_with fail
      simp only [hx]
      refine (specNodeAtV W H (x + 1) (y) r hN.symm _).mono ?_
      rintro e w2 ⟨rfl, hg2⟩
      have Hg2 := Lib.hid hg2
      clear hg2
      go_wp2_with fail
      go_ret
      exact ⟨ret_int64 hN.symm, gb_trans Hg.out Hg2.out⟩
    by_cases p2 : p = 2
    · subst p2
      simp at hN
      go_enter Try.func99, Try.ntmps99
      go_wp2_with fail
      refine (specHas W H n _).mono ?_
      rintro e w1 ⟨rfl, hg⟩
      have hb := box_blk hg
      have c0 := hb.cell 0
      have c1 := hb.cell 1
      have Hg := Lib.hid (box_gb hg)
      clear hg hb
      simp at c0 c1
      rw [hh]
      go_wp2_with fail
      simp only [hx]
      refine (specNodeAtV W H (x) (y + 1) r hN.symm _).mono ?_
      rintro e w2 ⟨rfl, hg2⟩
      have Hg2 := Lib.hid hg2
      clear hg2
      go_wp2_with fail
      go_ret
      exact ⟨ret_int64 hN.symm, gb_trans Hg.out Hg2.out⟩
    by_cases p3 : p = 3
    · subst p3
      simp at hN
      go_enter Try.func99, Try.ntmps99
      go_wp2_with fail
      refine (specHas W H n _).mono ?_
      rintro e w1 ⟨rfl, hg⟩
      have hb := box_blk hg
      have c0 := hb.cell 0
      have c1 := hb.cell 1
      have Hg := Lib.hid (box_gb hg)
      clear hg hb
      simp at c0 c1
      rw [hh]
      go_wp2_with fail
      simp only [hx]
      refine (specNodeAtV W H (x - 1) (y) r hN.symm _).mono ?_
      rintro e w2 ⟨rfl, hg2⟩
      have Hg2 := Lib.hid hg2
      clear hg2
      go_wp2_with fail
      go_ret
      exact ⟨ret_int64 hN.symm, gb_trans Hg.out Hg2.out⟩
    by_cases p4 : p = 4
    · subst p4
      simp at hN
      go_enter Try.func99, Try.ntmps99
      go_wp2_with fail
      refine (specHas W H n _).mono ?_
      rintro e w1 ⟨rfl, hg⟩
      have hb := box_blk hg
      have c0 := hb.cell 0
      have c1 := hb.cell 1
      have Hg := Lib.hid (box_gb hg)
      clear hg hb
      simp at c0 c1
      rw [hh]
      go_wp2_with fail
      go_ret
      exact ⟨ret_int64 hN.symm, Hg.out⟩
    simp [p0, p1, p2, p3, p4] at hN
    have q0 : (p == 0) = false := by simpa using p0
    have q1 : (p == 1) = false := by simpa using p1
    have q2 : (p == 2) = false := by simpa using p2
    have q3 : (p == 3) = false := by simpa using p3
    have q4 : (p == 4) = false := by simpa using p4
    clear p0 p1 p2 p3 p4
    · skip
      go_enter Try.func99, Try.ntmps99
      go_wp2_with fail
      refine (specHas W H n _).mono ?_
      rintro e w1 ⟨rfl, hg⟩
      have hb := box_blk hg
      have c0 := hb.cell 0
      have c1 := hb.cell 1
      have Hg := Lib.hid (box_gb hg)
      clear hg hb
      simp at c0 c1
      rw [hh]
      go_wp2_with fail
      go_ret
      exact ⟨ret_int64 hN.symm, Hg.out⟩
  | false =>
    go_enter Try.func99, Try.ntmps99
    go_wp2_with fail
    refine (specHas W H n _).mono ?_
    rintro e w1 ⟨rfl, hg⟩
    rw [hh]
    go_wp2_with fail
    go_ret
    exact ⟨ret_int64 (by simp [nextG, hh]), box_gb hg⟩

theorem specNextNodeV (W H n p r : Int) (h : nextG W H n p = r) (w : World) :
    Calls Try.prog 99 #[.agg #[.int .i64 W, .int .i64 H], .int .i64 n, .int .i64 p] w (RetI r none w) := h ▸ specNextNode W H n p w
theorem specNodeCountV (W H k : Int) (h : countG W H = k) (w : World) :
    Calls Try.prog 60 #[.agg #[.int .i64 W, .int .i64 H]] w (RetI k none w) := h ▸ specNodeCount W H w

theorem specLeads (W H c : Int) (w : World) :
    Calls Try.prog 109 #[.agg #[.int .i64 W, .int .i64 H], .int .i64 c] w (RetB (leadsG W H c) w) := by
  obtain ⟨k, hk⟩ : ∃ k, countG W H = k := ⟨_, rfl⟩
  obtain ⟨hk0, hk1⟩ := countG_le W H
  rw [hk] at hk0 hk1
  have hL : leadsG W H c = decide (0 ≤ c ∧ c < 4 * k ∧ 0 ≤ nextG W H (c / 4) (c % 4)) := by rw [leadsG, hk]
  by_cases hc : 0 ≤ c ∧ c ≤ 4 * k - 1
  · have hb : decide (0 ≤ c ∧ c ≤ 4 * k - 1) = true := decide_eq_true hc
    obtain ⟨hc0, hc1⟩ := hc
    have hcN : c ≤ 63 := by omega
    obtain ⟨r, hr⟩ : ∃ r, nextG W H (c / 4) (c % 4) = r := ⟨_, rfl⟩
    have hd : c.tdiv 4 = c / 4 := Int.tdiv_eq_ediv_of_nonneg hc0
    have hm : c.tmod 4 = c % 4 := Int.tmod_eq_emod_of_nonneg hc0
    have hL2 : leadsG W H c = decide (0 ≤ r) := by rw [hL, hr]; exact decide_eq_decide.2 ⟨fun h => h.2.2, fun h => ⟨hc0, by omega, h⟩⟩
    have HL := Lib.hid hL2
    clear hL hL2
    go_enter Try.func109, Try.ntmps109
    go_wp2_with fail
    refine (specNodeCountV W H k hk _).mono ?_
    rintro e w1 ⟨rfl, hg⟩
    have hb1 := box_blk hg
    have c0 := hb1.cell 0
    have c1 := hb1.cell 1
    have Hg := Lib.hid (box_gb hg)
    clear hg hb1
    simp at c0 c1
    go_wp2_with fail
    refine (specInV c 0 _ true hb _).mono ?_
    rintro e w2 ⟨rfl, rfl⟩
    go_wp2_with fail
    refine (specNextNodeV W H (c / 4) (c % 4) r hr _).mono ?_
    rintro e w3 ⟨rfl, hg3⟩
    have Hg3 := Lib.hid hg3
    clear hg3
    go_wp2_with fail
    go_ret
    exact ⟨ret_bool (by rw [HL.out]), gb_trans Hg.out Hg3.out⟩
  · have hb : decide (0 ≤ c ∧ c ≤ 4 * k - 1) = false := decide_eq_false hc
    have hL2 : leadsG W H c = false := by rw [hL]; exact decide_eq_false (fun h => hc ⟨h.1, by omega⟩)
    clear hc hL
    go_enter Try.func109, Try.ntmps109
    go_wp2_with fail
    refine (specNodeCountV W H k hk _).mono ?_
    rintro e w1 ⟨rfl, hg⟩
    have Hg := Lib.hid (box_gb hg)
    clear hg
    go_wp2_with fail
    refine (specInV c 0 _ false hb _).mono ?_
    rintro e w2 ⟨rfl, rfl⟩
    go_wp2_with fail
    go_ret
    exact ⟨ret_bool (by rw [hL2]), Hg.out⟩

theorem specLeadsV (W H c : Int) (b : Bool) (h : leadsG W H c = b) (w : World) :
    Calls Try.prog 109 #[.agg #[.int .i64 W, .int .i64 H], .int .i64 c] w (RetB b w) := h ▸ specLeads W H c w
end Go.Proofs.Ytecaehkckamhkaa
end

section
namespace Go.Proofs.Ytecaehkckamhkaa
open Go.ChangeShapes Go.WideShapes Go.ChangeAt Go.RowKit
set_option linter.unusedVariables false
set_option linter.unusedSimpArgs false

theorem gb_undraw {a b : World} {row : Option Nat} (h : a.drew.grownBy b row) : a.grownBy b row := ⟨h.os, h.tape, h.output, h.size, h.block⟩

theorem specFind (A : Option Addr) (n cap B : Nat) (L : List Int) (c : Int) (w : World) (h : IntAt w B A n L) (hn : n ≤ 1000000000) :
    Calls Try.prog 94 #[.slice A n cap, .int .i64 c] w fun e w' => e = .returned (.bool (inG L c)) ∧ w = w' := by
  have hl := h.1
  have HI := Lib.hid h
  clear h
  go_enter Try.func94, Try.ntmps94
  go_wp2_with fail
  go_loop [5] (fun i => ∃ k : Nat, i = .int .i64 (k : Int) ∧ k ≤ n ∧ ∀ j, j < k → L.getD j 0 ≠ c) (fun i => n - (intOf i).toNat)
  case atStart => exact ⟨0, rfl, Nat.zero_le _, fun j h => by omega⟩
  case round =>
    obtain ⟨k, rfl, hk, hne⟩ := hrel
    have HNE := Lib.hid hne
    clear hne
    by_cases hlt : k < n
    · obtain ⟨b, off, rfl, hb, hc⟩ := HI.out.at k hlt
      obtain ⟨x, hx⟩ : ∃ x, L.getD k 0 = x := ⟨_, rfl⟩
      rw [hx] at hc
      have HX := Lib.hid hx
      clear hx
      by_cases hxc : x = c
      · subst hxc
        go_wp2_with fail
        go_ret
        exact ⟨ret_bool (inG_yes (by omega) HX.out).symm, rfl⟩
      · have hxb : (x == c) = false := by simpa using hxc
        have HXC := Lib.hid hxc
        clear hxc
        go_wp2_with fail
        go_round
        case rel => exact ⟨k + 1, by go_num, by omega, fun j hj => by
          rcases Nat.lt_succ_iff_lt_or_eq.1 hj with h1 | rfl
          · exact HNE.out j h1
          · rw [HX.out]; exact HXC.out⟩
        case measure => simp [intOf]; omega
    · obtain rfl : k = n := by omega
      go_wp2_with fail
      go_ret
      exact ⟨ret_bool (inG_no (fun j hj => HNE.out j (by omega))).symm, rfl⟩

set_option maxHeartbeats 3200000 in
theorem specMeshOk (W H : Int) (A : Option Addr) (n cap : Nat) (L : List Int) (w : World) (h : IntAt w w.heap.size A n L) (hn : n ≤ 1000000000) :
    Calls Try.prog 95 #[.agg #[.int .i64 W, .int .i64 H, .slice A n cap]] w (RetB (meshG W H L) w) := by
  have hl := h.1
  have HI := Lib.hid h
  clear h
  cases hok : okG W H with
  | false =>
    go_enter Try.func95, Try.ntmps95
    go_wp2_with fail
    refine (specGridOk W H _).mono ?_
    rintro e w1 ⟨rfl, hg⟩
    rw [hok]
    go_wp2_with fail
    go_ret
    exact ⟨ret_bool (meshG_bad hok).symm, box_gb hg⟩
  | true =>
    go_enter Try.func95, Try.ntmps95
    go_wp2_with fail
    refine (specGridOk W H _).mono ?_
    rintro e w1 ⟨rfl, hg⟩
    have HM := Lib.hid (show MeshAt W H L A n cap w 0 w1 from ⟨goodTo_zero W H L, hg⟩)
    clear hg
    rw [hok]
    go_wp2_with fail
    go_loopw [3] (fun i wr => ∃ k : Nat, i = .int .i64 (k : Int) ∧ k ≤ n ∧ MeshAt W H L A n cap w k wr) (fun i _ => n - (intOf i).toNat)
    case atStart => exact ⟨0, rfl, Nat.zero_le _, HM.out⟩
    case round =>
      obtain ⟨k, rfl, hk, hgood, hg⟩ := hrel
      have HGo := Lib.hid hgood
      have HG := Lib.hid hg
      have hbk := box_blk hg
      have HBK := Lib.hid hbk
      have a0 : wr.cell? ⟨w.heap.size, 0, none⟩ = some (.int .i64 W) := hbk.cell 0
      have a1 : wr.cell? ⟨w.heap.size, 1, none⟩ = some (.int .i64 H) := hbk.cell 1
      have a2 : wr.cell? ⟨w.heap.size, 2, none⟩ = some (.slice A n cap) := hbk.cell 2
      have hia := HI.out.none (Nat.le_refl _) (box_gb hg)
      have HIA := Lib.hid hia
      clear hg hgood hbk
      by_cases hlt : k < n
      · obtain ⟨b, off, rfl, hb, hc⟩ := hia.at k hlt
        obtain ⟨x, hx⟩ : ∃ x, L.getD k 0 = x := ⟨_, rfl⟩
        rw [hx] at hc
        clear hia
        have hk0 : (0 : Int) ≤ (k : Int) := by omega
        have hk1 : (k : Int) < (n : Int) := by omega
        cases hld : leadsG W H x with
        | false =>
          have HBad := Lib.hid (meshG_no (by omega) (goodAt_lead hx hld))
          have CL := Lib.hid (fun w => specLeadsV W H x false hld w)
          clear hx hld
          go_wp2_with fail
          refine wp_region_held_drew (S := (fun w' => w'.cell? ⟨w.heap.size, 0, none⟩ = some (.int .i64 W) ∧ w'.cell? ⟨w.heap.size, 1, none⟩ = some (.int .i64 H) ∧ w'.cell? ⟨w.heap.size, 2, none⟩ = some (.slice (some ⟨b, off, none⟩) n cap) ∧ w'.cell? ⟨b, off + k, none⟩ = some (.int .i64 x))) (by kernel_rfl) (⟨a0, a1, a2, hc⟩) (fun hHeld => ?_)
          refine wpAnyH_take (i := 0) (v := ?_) rfl (by kernel_rfl) (by kernel_rfl) (by kernel_rfl) (fun _ _ _ h => h) (Or.inl ⟨by rfl, ?_⟩) (by assumption) ?_
          rotate_left
          · intro wq hSw; (try dsimp only at hSw); go_simp; (try with_reducible rfl)
          simp only [List.getElem_toArray, List.getElem_cons_succ, List.getElem_cons_zero, Act.put, List.setIfInBounds_toArray, List.set_cons_zero, List.set_cons_succ]
          refine wpAnyH_take (i := 1) (v := ?_) rfl (by kernel_rfl) (by kernel_rfl) (by kernel_rfl) (fun _ _ _ h => h) (Or.inl ⟨by rfl, ?_⟩) (by assumption) ?_
          rotate_left
          · intro wq hSw; (try dsimp only at hSw); go_simp; (try with_reducible rfl)
          simp only [List.getElem_toArray, List.getElem_cons_succ, List.getElem_cons_zero, Act.put, List.setIfInBounds_toArray, List.set_cons_zero, List.set_cons_succ]
          refine wpAnyH_take (i := 2) (v := ?_) rfl (by kernel_rfl) (by kernel_rfl) (by kernel_rfl) (fun _ _ _ h => h) (Or.inl ⟨by rfl, ?_⟩) (by assumption) ?_
          rotate_left
          · intro wq hSw; (try dsimp only at hSw); go_simp; (try with_reducible rfl)
          simp only [List.getElem_toArray, List.getElem_cons_succ, List.getElem_cons_zero, Act.put, List.setIfInBounds_toArray, List.set_cons_zero, List.set_cons_succ]
          refine wpAnyH_take (i := 3) (v := ?_) rfl (by kernel_rfl) (by kernel_rfl) (by kernel_rfl) (fun _ _ _ h => h) (Or.inl ⟨by rfl, ?_⟩) (by assumption) ?_
          rotate_left
          · intro wq hSw; (try dsimp only at hSw); go_simp; (try with_reducible rfl)
          simp only [List.getElem_toArray, List.getElem_cons_succ, List.getElem_cons_zero, Act.put, List.setIfInBounds_toArray, List.set_cons_zero, List.set_cons_succ]
          refine wpAnyH_take (i := 4) (v := ?_) rfl (by kernel_rfl) (by kernel_rfl) (by kernel_rfl) (fun _ _ _ h => h) (Or.inl ⟨by rfl, ?_⟩) (by assumption) ?_
          rotate_left
          · intro wq hSw; (try dsimp only at hSw); go_simp; (try with_reducible rfl)
          simp only [List.getElem_toArray, List.getElem_cons_succ, List.getElem_cons_zero, Act.put, List.setIfInBounds_toArray, List.set_cons_zero, List.set_cons_succ]
          refine wpAnyH_take (i := 5) (v := ?_) rfl (by kernel_rfl) (by kernel_rfl) (by kernel_rfl) (fun _ _ _ h => h) (Or.inl ⟨by rfl, ?_⟩) (by assumption) ?_
          rotate_left
          · intro wq hSw; (try dsimp only at hSw); go_simp; (try with_reducible rfl)
          simp only [List.getElem_toArray, List.getElem_cons_succ, List.getElem_cons_zero, Act.put, List.setIfInBounds_toArray, List.set_cons_zero, List.set_cons_succ]
          refine wpAnyH_take (i := 6) (v := ?_) rfl (by kernel_rfl) (by kernel_rfl) (by kernel_rfl) (fun _ _ _ h => h) (Or.inl ⟨by rfl, ?_⟩) (by assumption) ?_
          rotate_left
          · intro wq hSw; (try dsimp only at hSw); go_simp; (try with_reducible rfl)
          simp only [List.getElem_toArray, List.getElem_cons_succ, List.getElem_cons_zero, Act.put, List.setIfInBounds_toArray, List.set_cons_zero, List.set_cons_succ]
          refine wpAnyH_ready (rs := [7]) (by kernel_rfl) (by simp) ?_
          refine AllReadyH.cons rfl (fun K hK => ?_) AllReadyH.nil
          go_simp
          (with_reducible refine (CL.out _).mono ?_); rintro e w2 ⟨rfl, hg2⟩; have hg3 := gb_trans HG.out (gb_undraw hg2); have kk := box_blk hg3; have d0 : w2.cell? ⟨w.heap.size, 0, none⟩ = some (.int .i64 W) := kk.cell 0; have d1 : w2.cell? ⟨w.heap.size, 1, none⟩ = some (.int .i64 H) := kk.cell 1; have d2 : w2.cell? ⟨w.heap.size, 2, none⟩ = some (.slice (some ⟨b, off, none⟩) n cap) := kk.cell 2; have dc := (hg2.cell hc (by simp)); have HG3 := Lib.hid hg3; clear hg2 hg3 kk
          try go_wp2_with fail
          refine hK.out _ _ (⟨d0, d1, d2, dc⟩) (fun hHeld => ?_)
          clear hK K
          try simp only [List.getElem_toArray, List.getElem_cons_succ, List.getElem_cons_zero, Act.put, List.setIfInBounds_toArray, List.set_cons_zero, List.set_cons_succ]
          refine wpAnyH_take (i := 8) (v := ?_) rfl (by kernel_rfl) (by kernel_rfl) (by kernel_rfl) (fun _ _ _ h => h) (Or.inl ⟨by rfl, ?_⟩) (by assumption) ?_
          rotate_left
          · intro wq hSw; (try dsimp only at hSw); go_simp; (try with_reducible rfl)
          simp only [List.getElem_toArray, List.getElem_cons_succ, List.getElem_cons_zero, Act.put, List.setIfInBounds_toArray, List.set_cons_zero, List.set_cons_succ]
          refine wpAnyH_take (i := 9) (v := ?_) rfl (by kernel_rfl) (by kernel_rfl) (by kernel_rfl) (fun _ _ _ h => h) (Or.inl ⟨by rfl, ?_⟩) (by assumption) ?_
          rotate_left
          · intro wq hSw; (try dsimp only at hSw); go_simp; (try with_reducible rfl)
          simp only [List.getElem_toArray, List.getElem_cons_succ, List.getElem_cons_zero, Act.put, List.setIfInBounds_toArray, List.set_cons_zero, List.set_cons_succ]
          refine wpAnyH_take (i := 10) (v := undef) rfl (by kernel_rfl) (by kernel_rfl) (by kernel_rfl) (fun _ _ _ h => h) (Or.inr ⟨by rfl, rfl⟩) (by assumption) ?_
          simp only [List.getElem_toArray, List.getElem_cons_succ, List.getElem_cons_zero, Act.put, List.setIfInBounds_toArray, List.set_cons_zero, List.set_cons_succ]
          refine wpAnyH_take (i := 11) (v := undef) rfl (by kernel_rfl) (by kernel_rfl) (by kernel_rfl) (fun _ _ _ h => h) (Or.inr ⟨by rfl, rfl⟩) (by assumption) ?_
          simp only [List.getElem_toArray, List.getElem_cons_succ, List.getElem_cons_zero, Act.put, List.setIfInBounds_toArray, List.set_cons_zero, List.set_cons_succ]
          refine wpAnyH_take (i := 12) (v := undef) rfl (by kernel_rfl) (by kernel_rfl) (by kernel_rfl) (fun _ _ _ h => h) (Or.inr ⟨by rfl, rfl⟩) (by assumption) ?_
          simp only [List.getElem_toArray, List.getElem_cons_succ, List.getElem_cons_zero, Act.put, List.setIfInBounds_toArray, List.set_cons_zero, List.set_cons_succ]
          refine wpAnyH_take (i := 13) (v := undef) rfl (by kernel_rfl) (by kernel_rfl) (by kernel_rfl) (fun _ _ _ h => h) (Or.inr ⟨by rfl, rfl⟩) (by assumption) ?_
          simp only [List.getElem_toArray, List.getElem_cons_succ, List.getElem_cons_zero, Act.put, List.setIfInBounds_toArray, List.set_cons_zero, List.set_cons_succ]
          refine wpAnyH_take (i := 14) (v := undef) rfl (by kernel_rfl) (by kernel_rfl) (by kernel_rfl) (fun _ _ _ h => h) (Or.inr ⟨by rfl, rfl⟩) (by assumption) ?_
          simp only [List.getElem_toArray, List.getElem_cons_succ, List.getElem_cons_zero, Act.put, List.setIfInBounds_toArray, List.set_cons_zero, List.set_cons_succ]
          refine wpAnyH_take (i := 15) (v := undef) rfl (by kernel_rfl) (by kernel_rfl) (by kernel_rfl) (fun _ _ _ h => h) (Or.inr ⟨by rfl, rfl⟩) (by assumption) ?_
          simp only [List.getElem_toArray, List.getElem_cons_succ, List.getElem_cons_zero, Act.put, List.setIfInBounds_toArray, List.set_cons_zero, List.set_cons_succ]
          refine wpAnyH_take (i := 16) (v := undef) rfl (by kernel_rfl) (by kernel_rfl) (by kernel_rfl) (fun _ _ _ h => h) (Or.inr ⟨by rfl, rfl⟩) (by assumption) ?_
          simp only [List.getElem_toArray, List.getElem_cons_succ, List.getElem_cons_zero, Act.put, List.setIfInBounds_toArray, List.set_cons_zero, List.set_cons_succ]
          refine wpAnyH_take (i := 17) (v := undef) rfl (by kernel_rfl) (by kernel_rfl) (by kernel_rfl) (fun _ _ _ h => h) (Or.inr ⟨by rfl, rfl⟩) (by assumption) ?_
          simp only [List.getElem_toArray, List.getElem_cons_succ, List.getElem_cons_zero, Act.put, List.setIfInBounds_toArray, List.set_cons_zero, List.set_cons_succ]
          refine wpAnyH_take (i := 18) (v := undef) rfl (by kernel_rfl) (by kernel_rfl) (by kernel_rfl) (fun _ _ _ h => h) (Or.inr ⟨by rfl, rfl⟩) (by assumption) ?_
          simp only [List.getElem_toArray, List.getElem_cons_succ, List.getElem_cons_zero, Act.put, List.setIfInBounds_toArray, List.set_cons_zero, List.set_cons_succ]
          refine wpAnyH_take (i := 19) (v := undef) rfl (by kernel_rfl) (by kernel_rfl) (by kernel_rfl) (fun _ _ _ h => h) (Or.inr ⟨by rfl, rfl⟩) (by assumption) ?_
          simp only [List.getElem_toArray, List.getElem_cons_succ, List.getElem_cons_zero, Act.put, List.setIfInBounds_toArray, List.set_cons_zero, List.set_cons_succ]
          refine wpAnyH_take (i := 20) (v := undef) rfl (by kernel_rfl) (by kernel_rfl) (by kernel_rfl) (fun _ _ _ h => h) (Or.inr ⟨by rfl, rfl⟩) (by assumption) ?_
          simp only [List.getElem_toArray, List.getElem_cons_succ, List.getElem_cons_zero, Act.put, List.setIfInBounds_toArray, List.set_cons_zero, List.set_cons_succ]
          refine wpAnyH_take (i := 21) (v := undef) rfl (by kernel_rfl) (by kernel_rfl) (by kernel_rfl) (fun _ _ _ h => h) (Or.inr ⟨by rfl, rfl⟩) (by assumption) ?_
          simp only [List.getElem_toArray, List.getElem_cons_succ, List.getElem_cons_zero, Act.put, List.setIfInBounds_toArray, List.set_cons_zero, List.set_cons_succ]
          refine wpAnyH_take (i := 22) (v := undef) rfl (by kernel_rfl) (by kernel_rfl) (by kernel_rfl) (fun _ _ _ h => h) (Or.inr ⟨by rfl, rfl⟩) (by assumption) ?_
          simp only [List.getElem_toArray, List.getElem_cons_succ, List.getElem_cons_zero, Act.put, List.setIfInBounds_toArray, List.set_cons_zero, List.set_cons_succ]
          refine wpAnyH_take (i := 23) (v := undef) rfl (by kernel_rfl) (by kernel_rfl) (by kernel_rfl) (fun _ _ _ h => h) (Or.inr ⟨by rfl, rfl⟩) (by assumption) ?_
          simp only [List.getElem_toArray, List.getElem_cons_succ, List.getElem_cons_zero, Act.put, List.setIfInBounds_toArray, List.set_cons_zero, List.set_cons_succ]
          refine wpAnyH_take (i := 24) (v := undef) rfl (by kernel_rfl) (by kernel_rfl) (by kernel_rfl) (fun _ _ _ h => h) (Or.inr ⟨by rfl, rfl⟩) (by assumption) ?_
          simp only [List.getElem_toArray, List.getElem_cons_succ, List.getElem_cons_zero, Act.put, List.setIfInBounds_toArray, List.set_cons_zero, List.set_cons_succ]
          refine wpAnyH_take (i := 25) (v := undef) rfl (by kernel_rfl) (by kernel_rfl) (by kernel_rfl) (fun _ _ _ h => h) (Or.inr ⟨by rfl, rfl⟩) (by assumption) ?_
          simp only [List.getElem_toArray, List.getElem_cons_succ, List.getElem_cons_zero, Act.put, List.setIfInBounds_toArray, List.set_cons_zero, List.set_cons_succ]
          refine wpAnyH_take (i := 26) (v := ?_) rfl (by kernel_rfl) (by kernel_rfl) (by kernel_rfl) (fun _ _ _ h => h) (Or.inl ⟨by rfl, ?_⟩) (by assumption) ?_
          rotate_left
          · intro wq hSw; (try dsimp only at hSw); go_simp; (try with_reducible rfl)
          simp only [List.getElem_toArray, List.getElem_cons_succ, List.getElem_cons_zero, Act.put, List.setIfInBounds_toArray, List.set_cons_zero, List.set_cons_succ]
          refine wpAnyH_done (by kernel_rfl) ?_ _
          go_wp2_with fail
          go_ret
          exact ⟨ret_bool HBad.out.symm, box_gb HG3.out⟩
        | true =>
          have CL := Lib.hid (fun w => specLeadsV W H x true hld w)
          cases k with
          | zero =>
            have HNx := Lib.hid (goodTo_succ HGo.out (goodAt_first hx hld))
            clear hx hld
            rw [Nat.add_zero] at hc
            go_wp2_with fail
            refine wp_region_held_drew (S := (fun w' => w'.cell? ⟨w.heap.size, 0, none⟩ = some (.int .i64 W) ∧ w'.cell? ⟨w.heap.size, 1, none⟩ = some (.int .i64 H) ∧ w'.cell? ⟨w.heap.size, 2, none⟩ = some (.slice (some ⟨b, off, none⟩) n cap) ∧ w'.cell? ⟨b, off, none⟩ = some (.int .i64 x))) (by kernel_rfl) (⟨a0, a1, a2, hc⟩) (fun hHeld => ?_)
            refine wpAnyH_take (i := 0) (v := ?_) rfl (by kernel_rfl) (by kernel_rfl) (by kernel_rfl) (fun _ _ _ h => h) (Or.inl ⟨by rfl, ?_⟩) (by assumption) ?_
            rotate_left
            · intro wq hSw; (try dsimp only at hSw); go_simp; (try with_reducible rfl)
            simp only [List.getElem_toArray, List.getElem_cons_succ, List.getElem_cons_zero, Act.put, List.setIfInBounds_toArray, List.set_cons_zero, List.set_cons_succ]
            refine wpAnyH_take (i := 1) (v := ?_) rfl (by kernel_rfl) (by kernel_rfl) (by kernel_rfl) (fun _ _ _ h => h) (Or.inl ⟨by rfl, ?_⟩) (by assumption) ?_
            rotate_left
            · intro wq hSw; (try dsimp only at hSw); go_simp; (try with_reducible rfl)
            simp only [List.getElem_toArray, List.getElem_cons_succ, List.getElem_cons_zero, Act.put, List.setIfInBounds_toArray, List.set_cons_zero, List.set_cons_succ]
            refine wpAnyH_take (i := 2) (v := ?_) rfl (by kernel_rfl) (by kernel_rfl) (by kernel_rfl) (fun _ _ _ h => h) (Or.inl ⟨by rfl, ?_⟩) (by assumption) ?_
            rotate_left
            · intro wq hSw; (try dsimp only at hSw); go_simp; (try with_reducible rfl)
            simp only [List.getElem_toArray, List.getElem_cons_succ, List.getElem_cons_zero, Act.put, List.setIfInBounds_toArray, List.set_cons_zero, List.set_cons_succ]
            refine wpAnyH_take (i := 3) (v := ?_) rfl (by kernel_rfl) (by kernel_rfl) (by kernel_rfl) (fun _ _ _ h => h) (Or.inl ⟨by rfl, ?_⟩) (by assumption) ?_
            rotate_left
            · intro wq hSw; (try dsimp only at hSw); go_simp; (try with_reducible rfl)
            simp only [List.getElem_toArray, List.getElem_cons_succ, List.getElem_cons_zero, Act.put, List.setIfInBounds_toArray, List.set_cons_zero, List.set_cons_succ]
            refine wpAnyH_take (i := 4) (v := ?_) rfl (by kernel_rfl) (by kernel_rfl) (by kernel_rfl) (fun _ _ _ h => h) (Or.inl ⟨by rfl, ?_⟩) (by assumption) ?_
            rotate_left
            · intro wq hSw; (try dsimp only at hSw); go_simp; (try with_reducible rfl)
            simp only [List.getElem_toArray, List.getElem_cons_succ, List.getElem_cons_zero, Act.put, List.setIfInBounds_toArray, List.set_cons_zero, List.set_cons_succ]
            refine wpAnyH_take (i := 5) (v := ?_) rfl (by kernel_rfl) (by kernel_rfl) (by kernel_rfl) (fun _ _ _ h => h) (Or.inl ⟨by rfl, ?_⟩) (by assumption) ?_
            rotate_left
            · intro wq hSw; (try dsimp only at hSw); go_simp; (try with_reducible rfl)
            simp only [List.getElem_toArray, List.getElem_cons_succ, List.getElem_cons_zero, Act.put, List.setIfInBounds_toArray, List.set_cons_zero, List.set_cons_succ]
            refine wpAnyH_take (i := 6) (v := ?_) rfl (by kernel_rfl) (by kernel_rfl) (by kernel_rfl) (fun _ _ _ h => h) (Or.inl ⟨by rfl, ?_⟩) (by assumption) ?_
            rotate_left
            · intro wq hSw; (try dsimp only at hSw); go_simp; (try with_reducible rfl)
            simp only [List.getElem_toArray, List.getElem_cons_succ, List.getElem_cons_zero, Act.put, List.setIfInBounds_toArray, List.set_cons_zero, List.set_cons_succ]
            refine wpAnyH_ready (rs := [7]) (by kernel_rfl) (by simp) ?_
            refine AllReadyH.cons rfl (fun K hK => ?_) AllReadyH.nil
            go_simp
            (with_reducible refine (CL.out _).mono ?_); rintro e w2 ⟨rfl, hg2⟩; have hg3 := gb_trans HG.out (gb_undraw hg2); have kk := box_blk hg3; have d0 : w2.cell? ⟨w.heap.size, 0, none⟩ = some (.int .i64 W) := kk.cell 0; have d1 : w2.cell? ⟨w.heap.size, 1, none⟩ = some (.int .i64 H) := kk.cell 1; have d2 : w2.cell? ⟨w.heap.size, 2, none⟩ = some (.slice (some ⟨b, off, none⟩) n cap) := kk.cell 2; have dc := (hg2.cell hc (by simp)); have HG3 := Lib.hid hg3; clear hg2 hg3 kk
            try go_wp2_with fail
            refine hK.out _ _ (⟨d0, d1, d2, dc⟩) (fun hHeld => ?_)
            clear hK K
            try simp only [List.getElem_toArray, List.getElem_cons_succ, List.getElem_cons_zero, Act.put, List.setIfInBounds_toArray, List.set_cons_zero, List.set_cons_succ]
            refine wpAnyH_take (i := 8) (v := ?_) rfl (by kernel_rfl) (by kernel_rfl) (by kernel_rfl) (fun _ _ _ h => h) (Or.inl ⟨by rfl, ?_⟩) (by assumption) ?_
            rotate_left
            · intro wq hSw; (try dsimp only at hSw); go_simp; (try with_reducible rfl)
            simp only [List.getElem_toArray, List.getElem_cons_succ, List.getElem_cons_zero, Act.put, List.setIfInBounds_toArray, List.set_cons_zero, List.set_cons_succ]
            refine wpAnyH_take (i := 9) (v := ?_) rfl (by kernel_rfl) (by kernel_rfl) (by kernel_rfl) (fun _ _ _ h => h) (Or.inl ⟨by rfl, ?_⟩) (by assumption) ?_
            rotate_left
            · intro wq hSw; (try dsimp only at hSw); go_simp; (try with_reducible rfl)
            simp only [List.getElem_toArray, List.getElem_cons_succ, List.getElem_cons_zero, Act.put, List.setIfInBounds_toArray, List.set_cons_zero, List.set_cons_succ]
            refine wpAnyH_take (i := 10) (v := ?_) rfl (by kernel_rfl) (by kernel_rfl) (by kernel_rfl) (fun _ _ _ h => h) (Or.inl ⟨by rfl, ?_⟩) (by assumption) ?_
            rotate_left
            · intro wq hSw; (try dsimp only at hSw); go_simp; (try with_reducible rfl)
            simp only [List.getElem_toArray, List.getElem_cons_succ, List.getElem_cons_zero, Act.put, List.setIfInBounds_toArray, List.set_cons_zero, List.set_cons_succ]
            refine wpAnyH_take (i := 11) (v := ?_) rfl (by kernel_rfl) (by kernel_rfl) (by kernel_rfl) (fun _ _ _ h => h) (Or.inl ⟨by rfl, ?_⟩) (by assumption) ?_
            rotate_left
            · intro wq hSw; (try dsimp only at hSw); go_simp; (try with_reducible rfl)
            simp only [List.getElem_toArray, List.getElem_cons_succ, List.getElem_cons_zero, Act.put, List.setIfInBounds_toArray, List.set_cons_zero, List.set_cons_succ]
            refine wpAnyH_take (i := 12) (v := ?_) rfl (by kernel_rfl) (by kernel_rfl) (by kernel_rfl) (fun _ _ _ h => h) (Or.inl ⟨by rfl, ?_⟩) (by assumption) ?_
            rotate_left
            · intro wq hSw; (try dsimp only at hSw); go_simp; (try with_reducible rfl)
            simp only [List.getElem_toArray, List.getElem_cons_succ, List.getElem_cons_zero, Act.put, List.setIfInBounds_toArray, List.set_cons_zero, List.set_cons_succ]
            refine wpAnyH_take (i := 13) (v := undef) rfl (by kernel_rfl) (by kernel_rfl) (by kernel_rfl) (fun _ _ _ h => h) (Or.inr ⟨by rfl, rfl⟩) (by assumption) ?_
            simp only [List.getElem_toArray, List.getElem_cons_succ, List.getElem_cons_zero, Act.put, List.setIfInBounds_toArray, List.set_cons_zero, List.set_cons_succ]
            refine wpAnyH_take (i := 14) (v := undef) rfl (by kernel_rfl) (by kernel_rfl) (by kernel_rfl) (fun _ _ _ h => h) (Or.inr ⟨by rfl, rfl⟩) (by assumption) ?_
            simp only [List.getElem_toArray, List.getElem_cons_succ, List.getElem_cons_zero, Act.put, List.setIfInBounds_toArray, List.set_cons_zero, List.set_cons_succ]
            refine wpAnyH_take (i := 15) (v := undef) rfl (by kernel_rfl) (by kernel_rfl) (by kernel_rfl) (fun _ _ _ h => h) (Or.inr ⟨by rfl, rfl⟩) (by assumption) ?_
            simp only [List.getElem_toArray, List.getElem_cons_succ, List.getElem_cons_zero, Act.put, List.setIfInBounds_toArray, List.set_cons_zero, List.set_cons_succ]
            refine wpAnyH_take (i := 16) (v := undef) rfl (by kernel_rfl) (by kernel_rfl) (by kernel_rfl) (fun _ _ _ h => h) (Or.inr ⟨by rfl, rfl⟩) (by assumption) ?_
            simp only [List.getElem_toArray, List.getElem_cons_succ, List.getElem_cons_zero, Act.put, List.setIfInBounds_toArray, List.set_cons_zero, List.set_cons_succ]
            refine wpAnyH_take (i := 17) (v := undef) rfl (by kernel_rfl) (by kernel_rfl) (by kernel_rfl) (fun _ _ _ h => h) (Or.inr ⟨by rfl, rfl⟩) (by assumption) ?_
            simp only [List.getElem_toArray, List.getElem_cons_succ, List.getElem_cons_zero, Act.put, List.setIfInBounds_toArray, List.set_cons_zero, List.set_cons_succ]
            refine wpAnyH_take (i := 18) (v := undef) rfl (by kernel_rfl) (by kernel_rfl) (by kernel_rfl) (fun _ _ _ h => h) (Or.inr ⟨by rfl, rfl⟩) (by assumption) ?_
            simp only [List.getElem_toArray, List.getElem_cons_succ, List.getElem_cons_zero, Act.put, List.setIfInBounds_toArray, List.set_cons_zero, List.set_cons_succ]
            refine wpAnyH_take (i := 19) (v := undef) rfl (by kernel_rfl) (by kernel_rfl) (by kernel_rfl) (fun _ _ _ h => h) (Or.inr ⟨by rfl, rfl⟩) (by assumption) ?_
            simp only [List.getElem_toArray, List.getElem_cons_succ, List.getElem_cons_zero, Act.put, List.setIfInBounds_toArray, List.set_cons_zero, List.set_cons_succ]
            refine wpAnyH_take (i := 20) (v := undef) rfl (by kernel_rfl) (by kernel_rfl) (by kernel_rfl) (fun _ _ _ h => h) (Or.inr ⟨by rfl, rfl⟩) (by assumption) ?_
            simp only [List.getElem_toArray, List.getElem_cons_succ, List.getElem_cons_zero, Act.put, List.setIfInBounds_toArray, List.set_cons_zero, List.set_cons_succ]
            refine wpAnyH_take (i := 21) (v := undef) rfl (by kernel_rfl) (by kernel_rfl) (by kernel_rfl) (fun _ _ _ h => h) (Or.inr ⟨by rfl, rfl⟩) (by assumption) ?_
            simp only [List.getElem_toArray, List.getElem_cons_succ, List.getElem_cons_zero, Act.put, List.setIfInBounds_toArray, List.set_cons_zero, List.set_cons_succ]
            refine wpAnyH_take (i := 22) (v := undef) rfl (by kernel_rfl) (by kernel_rfl) (by kernel_rfl) (fun _ _ _ h => h) (Or.inr ⟨by rfl, rfl⟩) (by assumption) ?_
            simp only [List.getElem_toArray, List.getElem_cons_succ, List.getElem_cons_zero, Act.put, List.setIfInBounds_toArray, List.set_cons_zero, List.set_cons_succ]
            refine wpAnyH_take (i := 23) (v := undef) rfl (by kernel_rfl) (by kernel_rfl) (by kernel_rfl) (fun _ _ _ h => h) (Or.inr ⟨by rfl, rfl⟩) (by assumption) ?_
            simp only [List.getElem_toArray, List.getElem_cons_succ, List.getElem_cons_zero, Act.put, List.setIfInBounds_toArray, List.set_cons_zero, List.set_cons_succ]
            refine wpAnyH_take (i := 24) (v := undef) rfl (by kernel_rfl) (by kernel_rfl) (by kernel_rfl) (fun _ _ _ h => h) (Or.inr ⟨by rfl, rfl⟩) (by assumption) ?_
            simp only [List.getElem_toArray, List.getElem_cons_succ, List.getElem_cons_zero, Act.put, List.setIfInBounds_toArray, List.set_cons_zero, List.set_cons_succ]
            refine wpAnyH_take (i := 25) (v := ?_) rfl (by kernel_rfl) (by kernel_rfl) (by kernel_rfl) (fun _ _ _ h => h) (Or.inl ⟨by rfl, ?_⟩) (by assumption) ?_
            rotate_left
            · intro wq hSw; (try dsimp only at hSw); go_simp; (try with_reducible rfl)
            simp only [List.getElem_toArray, List.getElem_cons_succ, List.getElem_cons_zero, Act.put, List.setIfInBounds_toArray, List.set_cons_zero, List.set_cons_succ]
            refine wpAnyH_take (i := 26) (v := ?_) rfl (by kernel_rfl) (by kernel_rfl) (by kernel_rfl) (fun _ _ _ h => h) (Or.inl ⟨by rfl, ?_⟩) (by assumption) ?_
            rotate_left
            · intro wq hSw; (try dsimp only at hSw); go_simp; (try with_reducible rfl)
            simp only [List.getElem_toArray, List.getElem_cons_succ, List.getElem_cons_zero, Act.put, List.setIfInBounds_toArray, List.set_cons_zero, List.set_cons_succ]
            refine wpAnyH_done (by kernel_rfl) ?_ _
            go_wp2_with fail
            go_roundw
            case rel => exact ⟨1, by go_num, by omega, HNx.out, HG3.out⟩
            case measure => simp [intOf] <;> omega
          | succ j =>
            obtain ⟨b', off', hbe, _, hc2⟩ := HIA.out.at j (by omega)
            obtain ⟨rfl, rfl⟩ : b = b' ∧ off = off' := by injection hbe with h1; injection h1 with h2 h3; exact ⟨h2, h3⟩
            obtain ⟨y, hy⟩ : ∃ y, L.getD j 0 = y := ⟨_, rfl⟩
            rw [hy] at hc2
            have hga := goodAt_next hx hy hld
            have e1 : IntKind.i64.wrap ((j : Int) + 1 - 1) = (j : Int) := by rw [Int.add_sub_cancel]; exact IntWalk.i64_in _ (by omega)
            have e2 : IntKind.i64.wrap (((j + 1 : Nat) : Int) - 1) = (j : Int) := by rw [IntWalk.i64_in _ (by omega)]; omega
            have e3 : IntKind.i64.wrap (j : Int) = (j : Int) := IntWalk.i64_in _ (by omega)
            have j0 : (0 : Int) ≤ (j : Int) := by omega
            have j1 : (j : Int) < (n : Int) := by omega
            have j2 : (0 : Int) ≤ (j : Int) + 1 := by omega
            have j3 : (j : Int) + 1 < (n : Int) := by omega
            have j4 : ((j : Int) + 1).toNat = j + 1 := by omega
            by_cases hyx : y < x
            · have hle : decide (x ≤ y) = false := decide_eq_false (by omega)
              have hgd : goodAt W H L (j + 1) = true := by rw [hga]; exact decide_eq_true hyx
              have HNx := Lib.hid (goodTo_succ HGo.out hgd)
              clear hx hy hld hbe hga hgd hyx
              go_wp2_with fail
              first
              | go_region_held3 (fun w' => w'.cell? ⟨w.heap.size, 0, none⟩ = some (.int .i64 W) ∧ w'.cell? ⟨w.heap.size, 1, none⟩ = some (.int .i64 H) ∧ w'.cell? ⟨w.heap.size, 2, none⟩ = some (.slice (some ⟨b, off, none⟩) n cap) ∧ w'.cell? ⟨b, off + (j + 1), none⟩ = some (.int .i64 x) ∧ w'.cell? ⟨b, off + j, none⟩ = some (.int .i64 y))
                  (first | exact ⟨a0, a1, a2, hc, hc2⟩ | exact ⟨d0, d1, d2, dc, dc2⟩)
                  (first | (go_at_call 109; (with_reducible refine (CL.out _).mono ?_); rintro e w2 ⟨rfl, hg2⟩; have hg3 := gb_trans HG.out (gb_undraw hg2); have kk := box_blk hg3; have d0 : w2.cell? ⟨w.heap.size, 0, none⟩ = some (.int .i64 W) := kk.cell 0; have d1 : w2.cell? ⟨w.heap.size, 1, none⟩ = some (.int .i64 H) := kk.cell 1; have d2 : w2.cell? ⟨w.heap.size, 2, none⟩ = some (.slice (some ⟨b, off, none⟩) n cap) := kk.cell 2; have dc := (hg2.cell hc (by simp)); have dc2 := (hg2.cell hc2 (by simp)); have HG3 := Lib.hid hg3; clear hg2 hg3 kk) | fail)
              | fail "held"
              all_goals
                go_wp2_with fail
                go_roundw
                case rel => exact ⟨j + 2, by go_num, by omega, HNx.out, HG3.out⟩
                case measure => simp [intOf] <;> omega
            · have hle : decide (x ≤ y) = true := decide_eq_true (by omega)
              have hgd : goodAt W H L (j + 1) = false := by rw [hga]; exact decide_eq_false hyx
              have HBad := Lib.hid (meshG_no (i := j + 1) (by omega) hgd)
              clear hx hy hld hbe hga hgd hyx
              go_wp2_with fail
              first
              | go_region_held3 (fun w' => w'.cell? ⟨w.heap.size, 0, none⟩ = some (.int .i64 W) ∧ w'.cell? ⟨w.heap.size, 1, none⟩ = some (.int .i64 H) ∧ w'.cell? ⟨w.heap.size, 2, none⟩ = some (.slice (some ⟨b, off, none⟩) n cap) ∧ w'.cell? ⟨b, off + (j + 1), none⟩ = some (.int .i64 x) ∧ w'.cell? ⟨b, off + j, none⟩ = some (.int .i64 y))
                  (first | exact ⟨a0, a1, a2, hc, hc2⟩ | exact ⟨d0, d1, d2, dc, dc2⟩)
                  (first | (go_at_call 109; (with_reducible refine (CL.out _).mono ?_); rintro e w2 ⟨rfl, hg2⟩; have hg3 := gb_trans HG.out (gb_undraw hg2); have kk := box_blk hg3; have d0 : w2.cell? ⟨w.heap.size, 0, none⟩ = some (.int .i64 W) := kk.cell 0; have d1 : w2.cell? ⟨w.heap.size, 1, none⟩ = some (.int .i64 H) := kk.cell 1; have d2 : w2.cell? ⟨w.heap.size, 2, none⟩ = some (.slice (some ⟨b, off, none⟩) n cap) := kk.cell 2; have dc := (hg2.cell hc (by simp)); have dc2 := (hg2.cell hc2 (by simp)); have HG3 := Lib.hid hg3; clear hg2 hg3 kk) | fail)
              | fail "held"
              all_goals
                go_wp2_with fail
                go_ret
                exact ⟨ret_bool HBad.out.symm, box_gb HG3.out⟩
      · obtain rfl : k = n := by omega
        clear hia
        go_wp2_with fail
        go_ret
        exact ⟨ret_bool (meshG_yes hok (by rw [hl]; exact HGo.out)).symm, box_gb HG.out⟩
end Go.Proofs.Ytecaehkckamhkaa
end

section
namespace Go.Proofs.Ytecaehkckamhkaa
open Go.ChangeShapes Go.WideShapes Go.ChangeAt Go.RowKit
set_option linter.unusedVariables false

theorem specMeshOkV (W H : Int) (A : Option Addr) (n cap : Nat) (L : List Int) (b : Bool) (hb : meshG W H L = b) (w : World) (h : IntAt w w.heap.size A n L) (hn : n ≤ 1000000000) :
    Calls Try.prog 95 #[.agg #[.int .i64 W, .int .i64 H, .slice A n cap]] w (RetB b w) := hb ▸ specMeshOk W H A n cap L w h hn
theorem specFindV (A : Option Addr) (n cap B : Nat) (L : List Int) (c : Int) (b : Bool) (hb : inG L c = b) (w : World) (h : IntAt w B A n L) (hn : n ≤ 1000000000) :
    Calls Try.prog 94 #[.slice A n cap, .int .i64 c] w fun e w' => e = .returned (.bool b) ∧ w = w' := hb ▸ specFind A n cap B L c w h hn

theorem specHasCh (W H : Int) (A : Option Addr) (n cap : Nat) (L : List Int) (c : Int) (w : World) (h : IntAt w w.heap.size A n L) (hn : n ≤ 1000000000) :
    Calls Try.prog 98 #[.agg #[.int .i64 W, .int .i64 H, .slice A n cap], .int .i64 c] w (RetB (hasChG W H L c) w) := by
  have HI := Lib.hid h
  clear h
  cases hld : leadsG W H c with
  | false =>
    go_enter Try.func98, Try.ntmps98
    go_wp2_with fail
    refine (specLeadsV W H c false hld _).mono ?_
    rintro e w1 ⟨rfl, hg⟩
    have Hg := Lib.hid (box_gb hg)
    clear hg
    go_wp2_with fail
    go_ret
    exact ⟨ret_bool (by simp [hasChG, hld]), Hg.out⟩
  | true =>
    obtain ⟨b, hb⟩ : ∃ b, inG L c = b := ⟨_, rfl⟩
    have hr : hasChG W H L c = !b := by simp [hasChG, hld, hb]
    have HR := Lib.hid hr
    clear hr
    go_enter Try.func98, Try.ntmps98
    go_wp2_with fail
    refine (specLeadsV W H c true hld _).mono ?_
    rintro e w1 ⟨rfl, hg⟩
    have hbk := box_blk hg
    have a2 := hbk.cell 2
    simp at a2
    have hi := HI.out.none (Nat.le_refl _) (box_gb hg)
    have Hg := Lib.hid (box_gb hg)
    clear hg hbk
    go_wp2_with fail
    refine (specFindV A n cap w.heap.size L c b hb _ hi hn).mono ?_
    rintro e w2 ⟨rfl, rfl⟩
    clear hi
    go_wp2_with fail
    go_ret
    exact ⟨ret_bool (by rw [HR.out]), Hg.out⟩

theorem specHasChV (W H : Int) (A : Option Addr) (n cap : Nat) (L : List Int) (c : Int) (b : Bool) (hb : hasChG W H L c = b) (w : World) (h : IntAt w w.heap.size A n L) (hn : n ≤ 1000000000) :
    Calls Try.prog 98 #[.agg #[.int .i64 W, .int .i64 H, .slice A n cap], .int .i64 c] w (RetB b w) := hb ▸ specHasCh W H A n cap L c w h hn
end Go.Proofs.Ytecaehkckamhkaa
end

section
namespace Go.Proofs.Ytecaehkckamhkaa
open Go.ChangeShapes Go.WideShapes Go.ChangeAt Go.RowKit
set_option linter.unusedVariables false

theorem specSized (W H : Int) (A A2 : Option Addr) (n cap n2 c2 : Nat) (L P : List Int) (b : Bool) (hb : sizedG W H L P = b) (w : World) (h : IntAt w w.heap.size A n L) (hn : n ≤ 1000000000) (hp : P.length = n2) (hn2 : n2 ≤ 1000000000) :
    Calls Try.prog 59 #[.agg #[.int .i64 W, .int .i64 H, .slice A n cap], .agg #[.slice A2 n2 c2]] w (RetB b w) := by
  have HI := Lib.hid h
  clear h
  obtain ⟨k, hk⟩ : ∃ k, countG W H = k := ⟨_, rfl⟩
  obtain ⟨hk0, hk1⟩ := countG_le W H
  rw [hk] at hk0 hk1
  obtain ⟨m0, m1⟩ := sq_bounds hk0 hk1
  have hsz : sizedG W H L P = (meshG W H L && decide ((n2 : Int) = k * k)) := by rw [sizedG, hk, hp]
  have hw : wrap64 (k * k) = k * k := IntWalk.wrap64_in _ (by omega)
  have HN := Lib.hid (fun w => specNodeCountV W H k hk w)
  rw [hb] at hsz
  clear hk hk0 hk1 m0 m1 hp hb
  cases hm : meshG W H L with
  | false =>
    have HM := Lib.hid (fun w h => specMeshOkV W H A n cap L false hm w h hn)
    have hf : b = false := by rw [hsz, hm]; rfl
    have HF := Lib.hid hf
    clear hm hf hsz hw
    go_enter Try.func59, Try.ntmps59
    go_wp2_with fail
    refine (HN.out _).mono ?_
    rintro e w1 ⟨rfl, hg⟩
    obtain ⟨k1, k2, g1⟩ := box2 hg
    have a0 : w1.cell? ⟨w.heap.size, 0, none⟩ = some (.int .i64 W) := k1.cell 0
    have a1 : w1.cell? ⟨w.heap.size, 1, none⟩ = some (.int .i64 H) := k1.cell 1
    have a2 : w1.cell? ⟨w.heap.size, 2, none⟩ = some (.slice A n cap) := k1.cell 2
    have hi := (HI.out.none (Nat.le_refl _) g1).more (B' := w1.heap.size) g1.size
    have G1 := Lib.hid g1
    clear hg k1 k2 g1
    go_wp2_with fail
    refine (HM.out _ hi).mono ?_
    rintro e w2 ⟨rfl, hg2⟩
    have G2 := Lib.hid (gb_trans G1.out hg2)
    clear hg2 hi
    go_wp2_with fail
    go_ret
    exact ⟨ret_bool HF.out.symm, G2.out⟩
  | true =>
    have HM := Lib.hid (fun w h => specMeshOkV W H A n cap L true hm w h hn)
    have hf : b = decide ((n2 : Int) = k * k) := by rw [hsz, hm]; rfl
    have HF := Lib.hid hf
    have HW := Lib.hid hw
    clear hm hf hsz hw
    go_enter Try.func59, Try.ntmps59
    go_wp2_with fail
    refine (HN.out _).mono ?_
    rintro e w1 ⟨rfl, hg⟩
    obtain ⟨k1, k2, g1⟩ := box2 hg
    have a0 : w1.cell? ⟨w.heap.size, 0, none⟩ = some (.int .i64 W) := k1.cell 0
    have a1 : w1.cell? ⟨w.heap.size, 1, none⟩ = some (.int .i64 H) := k1.cell 1
    have a2 : w1.cell? ⟨w.heap.size, 2, none⟩ = some (.slice A n cap) := k1.cell 2
    have hi := (HI.out.none (Nat.le_refl _) g1).more (B' := w1.heap.size) g1.size
    have G1 := Lib.hid g1
    have K2 := Lib.hid k2
    clear hg k1 k2 g1
    go_wp2_with fail
    refine (HM.out _ hi).mono ?_
    rintro e w2 ⟨rfl, hg2⟩
    have b0 : w2.cell? ⟨w.heap.size + 1, 0, none⟩ = some (.slice A2 n2 c2) := (K2.out.grown hg2 (by simp)).cell 0
    have G2 := Lib.hid (gb_trans G1.out hg2)
    clear hg2 hi a0 a1 a2
    go_wp2_with fail
    go_ret
    exact ⟨ret_bool (by rw [HF.out]; simp only [HW.out]; rfl), G2.out⟩
end Go.Proofs.Ytecaehkckamhkaa
end

section
namespace Go.Proofs.Ytecaehkckamhkaa
open Go.ChangeShapes Go.WideShapes Go.ChangeAt Go.RowKit
set_option linter.unusedVariables false
set_option maxRecDepth 20000

/-- A mesh and a table as blocks. -/
def twoB (W H : Int) (A A2 : Option Addr) (n cap n2 c2 : Nat) (w : World) : World := (w.alloc (.cells (meshC W H A n cap) 34)).alloc (.cells #[.slice A2 n2 c2] 36)
section
variable {W H : Int} {A A2 : Option Addr} {n cap n2 c2 : Nat} {w wr : World}
theorem twoB_size : (twoB W H A A2 n cap n2 c2 w).heap.size = w.heap.size + 2 := by unfold twoB; rw [alloc_size, alloc_size]
theorem twoB_below : Below w.heap.size w (twoB W H A A2 n cap n2 c2 w) := ((Below.refl _ _).alloc (Nat.le_refl _) _).alloc (by rw [alloc_size]; omega) _
theorem twoB_mesh (h : Below (w.heap.size + 2) (twoB W H A A2 n cap n2 c2 w) wr) : Blk wr w.heap.size 34 (meshC W H A n cap) :=
  ((Blk.new w 34 (meshC W H A n cap)).alloc _).below h (by omega)
theorem twoB_table (h : Below (w.heap.size + 2) (twoB W H A A2 n cap n2 c2 w) wr) : Blk wr (w.heap.size + 1) 36 #[.slice A2 n2 c2] := by
  have := Blk.new (w.alloc (.cells (meshC W H A n cap) 34)) 36 #[.slice A2 n2 c2]
  rw [alloc_size] at this
  exact this.below h (by omega)
theorem twoB_old (h : Below (w.heap.size + 2) (twoB W H A A2 n cap n2 c2 w) wr) : Below w.heap.size w wr :=
  twoB_below.trans (h.mono (by omega))
theorem twoB_le (h : Below (w.heap.size + 2) (twoB W H A A2 n cap n2 c2 w) wr) : w.heap.size + 2 ≤ wr.heap.size := by have := h.size; rw [twoB_size] at this; exact this
end
theorem new_nil {w wr : World} (h : Below w.heap.size w wr) : (wr.alloc (.cells #[] 3)).ownsRow w.heap.size 3 1 (.slice (some ⟨wr.heap.size, 0, none⟩) 0 0) 0 [] ∧ Below w.heap.size w (wr.alloc (.cells #[] 3)) :=
  ⟨World.ownsRow_made (base := w.heap.size) (e := 3) (size := 1) wr #[] 0 h.size (by decide) rfl, h.alloc h.size _⟩

def lenV : Value → Nat | .slice _ n _ => n | _ => 0
def WalkAt (W H : Int) (A A2 : Option Addr) (n cap n2 c2 : Nat) (w : World) (acc : List Int) (v : Value) (wr : World) : Prop :=
  wr.ownsRow (w.heap.size + 2) 3 1 v acc.length (intsV acc) ∧ Below (w.heap.size + 2) (twoB W H A A2 n cap n2 c2 w) wr

theorem WalkAt.app {W H : Int} {A A2 : Option Addr} {n cap n2 c2 : Nat} {w w3 w4 : World} {acc : List Int} {x : Int} {v v' : Value} {o : Obj} (hb : Below (w.heap.size + 2) (twoB W H A A2 n cap n2 c2 w) w3) (ho : w3.ownsRow (w.heap.size + 2) 3 1 v acc.length (intsV acc))
    (hown4 : w4.ownsRow (w.heap.size + 2) 3 1 v' (acc.length + 1) (intsV acc ++ [.int .i64 x])) (hg : (w3.alloc o).grownBy w4 v.ownBlock) :
    WalkAt W H A A2 n cap n2 c2 w (acc ++ [x]) v' w4 ∧ lenV v' = acc.length + 1 ∧ w4.cell? ⟨w.heap.size, 0, none⟩ = some (.int .i64 W) ∧ w4.cell? ⟨w.heap.size, 1, none⟩ = some (.int .i64 H) := by
  have hX : WalkAt W H A A2 n cap n2 c2 w (acc ++ [x]) v' w4 :=
    ⟨by rw [List.length_append, intsV_append]; exact hown4, (hb.alloc (twoB_le hb) _).grown hg (by have := twoB_le hb; simp; omega) (fun j hj => (ho.lt j hj).1)⟩
  refine ⟨hX, ?_, (twoB_mesh hX.2).cell 0, (twoB_mesh hX.2).cell 1⟩
  obtain ⟨A', c', rfl, _⟩ := own_form hX.1
  simp [lenV]

set_option maxHeartbeats 1600000 in
theorem specWalk (W H : Int) (A A2 : Option Addr) (n cap n2 c2 : Nat) (L P : List Int) (a z : Int) (w : World) (h : IntAt w w.heap.size A n L) (h2 : IntAt w w.heap.size A2 n2 P) (hn : n ≤ 1000000000) (hn2 : n2 ≤ 1000000000)
    (hs : sizedG W H L P = true) (ha : hasG W H a = true) (hz : hasG W H z = true) :
    Calls Try.prog 61 #[.agg #[.int .i64 W, .int .i64 H, .slice A n cap], .agg #[.slice A2 n2 c2], .int .i64 a, .int .i64 z] w (NewI (walkOf W H L P a z) w) := by
  obtain ⟨i0, hi, hz0, hz1, hz2⟩ := info_parts info_int
  have hp := h2.1
  have HI := Lib.hid h
  have HP := Lib.hid h2
  clear h h2
  obtain ⟨k, hk⟩ : ∃ k, countG W H = k := ⟨_, rfl⟩
  obtain ⟨hk0, hk1⟩ := countG_le W H
  rw [hk] at hk0 hk1
  have hsq := (sizedG_mesh hs).2
  rw [hp, hk] at hsq
  have HSQ := Lib.hid hsq
  have HN := Lib.hid (fun w => specNodeCountV W H k hk w)
  have HK := Lib.hid hk
  have hzz := hasG_iff.1 hz
  rw [hk] at hzz
  have HZ := Lib.hid hzz
  have HA := Lib.hid ha
  have HRS := Lib.hid (show walkOf W H L P a z = restG W H L P z [] (k.toNat + 1) a by rw [← hk]; exact (rest_start a z).symm)
  obtain ⟨res, hres⟩ : ∃ res, walkOf W H L P a z = res := ⟨_, rfl⟩
  rw [hres] at HRS ⊢
  have hown0 : ((twoB W H A A2 n cap n2 c2 w).alloc (.cells #[] 3)).ownsRow (w.heap.size + 2) 3 1 (.slice (some ⟨w.heap.size + 2, 0, none⟩) 0 0) 0 [] := by
    have := World.ownsRow_made (base := w.heap.size + 2) (e := 3) (size := 1) (twoB W H A A2 n cap n2 c2 w) #[] 0 (by rw [twoB_size]; exact Nat.le_refl _) (by decide) rfl
    rwa [twoB_size] at this
  have HO0 := Lib.hid hown0
  have HB0 := Lib.hid (show Below (w.heap.size + 2) (twoB W H A A2 n cap n2 c2 w) ((twoB W H A A2 n cap n2 c2 w).alloc (.cells #[] 3)) from (Below.refl _ _).alloc (by rw [twoB_size]; exact Nat.le_refl _) _)
  clear hk hs ha hz hsq hzz hres hown0 hp
  go_enter Try.func61, Try.ntmps61
  go_wp2_with fail
  refine (HN.out _).mono ?_
  rintro e w1 ⟨rfl, hg⟩
  have HX := Lib.hid (show WalkAt W H A A2 n cap n2 c2 w [] (.slice (some ⟨w.heap.size + 2, 0, none⟩) 0 0) w1 from
    ⟨own_none HO0.out hg, below_gb HB0.out (by rw [twoB_size]; exact Nat.le_refl _) hg⟩)
  clear hg
  go_wp2_with fail
  go_loopw [9, 11] (fun v i wr => ∃ (acc : List Int) (x : Int), i = .int .i64 x ∧ (acc.length : Int) ≤ k + 1 ∧ hasG W H x = true ∧ res = restG W H L P z acc (k.toNat + 1 - acc.length) x ∧ WalkAt W H A A2 n cap n2 c2 w acc v wr) (fun v _ _ => 17 - lenV v)
  case atStart => exact ⟨[], a, rfl, by simp; omega, HA.out, HRS.out, HX.out⟩
  case round =>
    obtain ⟨acc, x, rfl, hl, hx, hre, hown, hbel⟩ := hrel
    obtain ⟨Aq, capq, rfl, hAq⟩ := own_form hown
    have HOwn := Lib.hid hown
    have HBel := Lib.hid hbel
    have hl17 : acc.length ≤ 17 := by omega
    have tb := twoB_table hbel
    have b0 : wr.cell? ⟨w.heap.size + 1, 0, none⟩ = some (.slice A2 n2 c2) := tb.cell 0
    have hsw := twoB_le hbel
    have hbo := twoB_old hbel
    have HX := Lib.hid hx
    have HRE := Lib.hid hre
    have HAQ := Lib.hid hAq
    obtain ⟨x0, x1⟩ := hasG_iff.1 hx
    rw [HK.out] at x1
    clear hown hbel tb hx hre hAq
    by_cases hlt : (acc.length : Int) ≤ k
    · obtain ⟨t0, t1⟩ := tab_at HSQ.out x0 x1 HZ.out.1 HZ.out.2
      obtain ⟨j, hj⟩ : ∃ j : Nat, x * k + z = (j : Int) := ⟨(x * k + z).toNat, (Int.toNat_of_nonneg t0).symm⟩
      have hjn : j < n2 := by omega
      have hak := Int.mul_nonneg x0 hk0
      have hz0 := HZ.out.1
      have e1 : wrap64 (x * k) = x * k := IntWalk.wrap64_in _ (by omega)
      have e2 : wrap64 (x * k + z) = (j : Int) := by rw [hj]; exact IntWalk.wrap64_in _ (by omega)
      obtain ⟨b, off, rfl, hbB, hcell⟩ := (HP.out.below hbo).at j hjn
      obtain ⟨p, hpp⟩ : ∃ p, P.getD j 0 = p := ⟨_, rfl⟩
      rw [hpp] at hcell
      have htab : tabG (countG W H) P x z = p := by unfold tabG; rw [HK.out, hj, Int.toNat_natCast]; exact hpp
      obtain ⟨f, hf⟩ : ∃ f, k.toNat + 1 - acc.length = f + 1 := ⟨k.toNat - acc.length, by omega⟩
      have hre := HRE.out
      rw [hf] at hre
      have HF := Lib.hid hf
      have HT := Lib.hid htab
      have HRE2 := Lib.hid hre
      have HHJ := Lib.hid hj
      have x16 : x ≤ 15 := by omega
      have HBO := Lib.hid hbo
      have j0 : (0 : Int) ≤ (j : Int) := by omega
      have j1 : (j : Int) < (n2 : Int) := by omega
      clear hj hpp htab hf hre t0 t1 hak hz0 hbo
      by_cases h4 : p = 4
      · subst h4
        by_cases hxz : x = z
        · have hxb : (x != z) = false := by simpa using hxz
          have HF2 := Lib.hid (HRE2.out.trans (rest_end HT.out hxz))
          clear hxz
          go_wp2_with fail
          go_ret
          refine ⟨_, rfl, ?_, HBO.out⟩
          rw [HF2.out]
          exact own_less HOwn.out (by omega)
        · have hxb : (x != z) = true := by simpa using hxz
          have HF2 := Lib.hid (HRE2.out.trans (rest_lost HT.out hxz))
          clear hxz
          go_wp2_with fail
          go_ret
          obtain ⟨o, b⟩ := new_nil HBO.out
          refine ⟨_, rfl, ?_, b⟩
          rw [HF2.out]
          exact o
      · have h4b : (p == 4) = false := by simpa using h4
        have H4 := Lib.hid h4
        clear h4
        by_cases h03 : 0 ≤ p ∧ p ≤ 3
        · have HIN := Lib.hid (fun w => specInV p 0 3 true (decide_eq_true h03) w)
          obtain ⟨p0, p3⟩ := h03
          have hi2 := (HI.out.below HBO.out).more (B' := wr.heap.size) (by omega)
          have tm := twoB_mesh HBel.out
          have a0 : wr.cell? ⟨w.heap.size, 0, none⟩ = some (.int .i64 W) := tm.cell 0
          have a1 : wr.cell? ⟨w.heap.size, 1, none⟩ = some (.int .i64 H) := tm.cell 1
          have a2 : wr.cell? ⟨w.heap.size, 2, none⟩ = some (.slice A n cap) := tm.cell 2
          have TM := Lib.hid tm
          clear tm
          cases hc : hasChG W H L (4 * x + p) with
          | false =>
            have HC := Lib.hid (fun w h => specHasChV W H A n cap L (4 * x + p) false hc w h hn)
            have HF2 := Lib.hid (HRE2.out.trans (rest_bad HT.out H4.out (by simp [stepsG, hc])))
            clear hc
            go_wp2_with fail
            refine (HIN.out _).mono ?_
            rintro e w2 ⟨rfl, rfl⟩
            go_wp2_with fail
            refine (HC.out _ hi2).mono ?_
            rintro e w3 ⟨rfl, hg3⟩
            have G3 := Lib.hid (gb_below_none hg3 (Nat.le_trans HBO.out.size (Nat.le_refl _)))
            clear hg3 hi2
            go_wp2_with fail
            go_ret
            obtain ⟨o, b⟩ := new_nil (HBO.out.trans G3.out)
            refine ⟨_, rfl, ?_, b⟩
            rw [HF2.out]
            exact o
          | true =>
            have hst : stepsG W H L x p = true := by simp [stepsG, hc, p0, p3]
            have HC := Lib.hid (fun w h => specHasChV W H A n cap L (4 * x + p) true hc w h hn)
            have HF2 := Lib.hid (HRE2.out.trans (rest_go HT.out H4.out hst))
            have HNX := Lib.hid (step_has hst)
            obtain ⟨y, hy⟩ : ∃ y, nextG W H x p = y := ⟨_, rfl⟩
            rw [hy] at HF2 HNX
            have HNN := Lib.hid (fun w => specNextNodeV W H x p y hy w)
            clear hc hst hy
            go_wp2_with fail
            refine (HIN.out _).mono ?_
            rintro e w2 ⟨rfl, rfl⟩
            go_wp2_with fail
            refine (HC.out _ hi2).mono ?_
            rintro e w3 ⟨rfl, hg3⟩
            have G3 := Lib.hid hg3
            have hown1 := own_none HOwn.out hg3
            have hsz1 : w.heap.size + 2 ≤ w3.heap.size := Nat.le_trans hsw hg3.size
            have b3' := Lib.hid (show ∀ u ∈ [Value.int .i64 (4 * x + p)], u.oneCell' = true by simp [Value.oneCell'])
            have b4' := Lib.hid (show acc.length + 1 ≤ maxLen by unfold maxLen; omega)
            clear hg3 hi2 a0 a1 a2 b0
            go_wp2_with (at_builtin; refine wpList_append_own _ rfl _ _ 24 rfl (w.heap.size + 2) 3 i0 (.int .i64 0) 1 8 Try.underlying24 hi hz0 hz1 hz2 rfl (by decide) _ acc.length _ rfl (hown1.alloc _) ⟨w3.heap.size, 0, none⟩ 1 1 [.int .i64 (4 * x + p)] rfl rfl (World.news_of_block (cs := #[.int .i64 (4 * x + p)]) (t := 3) (fr := (0, 0)) (heap_alloc_new w3 _)) b3'.out b4'.out (by omega) (by simp; omega) ?_; intro v' w4 hown4 hgrow4 _; obtain ⟨xa, xl, a0, a1⟩ := WalkAt.app (below_gb HBel.out (by rw [twoB_size]; exact Nat.le_refl _) G3.out) hown1 hown4 hgrow4; have HXA := Lib.hid xa; have HLV := Lib.hid xl; clear xa xl hown4 hgrow4)
            refine (HNN.out _).mono ?_
            rintro e w5 ⟨rfl, hg5⟩
            have G5 := Lib.hid hg5
            clear hg5 a0 a1
            go_wp2_with fail
            go_roundw
            case rel => exact ⟨acc ++ [4 * x + p], y, rfl, by simp; omega, HNX.out, by rw [HF2.out]; congr 1; have := HF.out; simp; omega, own_none HXA.out.1 G5.out, below_gb HXA.out.2 (by rw [twoB_size]; exact Nat.le_refl _) G5.out⟩
            case measure => rw [HLV.out]; simp [lenV]; omega
        · have HIN := Lib.hid (fun w => specInV p 0 3 false (decide_eq_false h03) w)
          have HF2 := Lib.hid (HRE2.out.trans (rest_bad HT.out H4.out (by simp [stepsG]; intro u v; exact absurd ⟨u, v⟩ h03)))
          clear h03
          go_wp2_with fail
          refine (HIN.out _).mono ?_
          rintro e w2 ⟨rfl, rfl⟩
          go_wp2_with fail
          go_ret
          obtain ⟨o, b⟩ := new_nil HBO.out
          refine ⟨_, rfl, ?_, b⟩
          rw [HF2.out]
          exact o
    · have hf : k.toNat + 1 - acc.length = 0 := by omega
      have hre := HRE.out
      rw [hf, rest_zero] at hre
      have HF2 := Lib.hid hre
      have HBO := Lib.hid hbo
      clear hf hre hbo
      go_wp2_with fail
      go_ret
      obtain ⟨o, b⟩ := new_nil HBO.out
      refine ⟨_, rfl, ?_, b⟩
      rw [HF2.out]
      exact o
end Go.Proofs.Ytecaehkckamhkaa
end

section
namespace Go.Proofs.Ytecaehkckamhkaa
open Go.ChangeShapes Go.WideShapes Go.ChangeAt Go.RowKit
set_option linter.unusedVariables false
set_option maxRecDepth 20000

theorem IntAt.two {w : World} {A A2 B : Option Addr} {n cap n2 c2 m : Nat} {W H : Int} {L : List Int} (h : IntAt w w.heap.size B m L) : IntAt (twoB W H A A2 n cap n2 c2 w) (twoB W H A A2 n cap n2 c2 w).heap.size B m L :=
  (h.below twoB_below).more (by rw [twoB_size]; omega)
theorem IntAt.old {w wr : World} {A A2 B : Option Addr} {n cap n2 c2 m : Nat} {W H : Int} {L : List Int} (h : IntAt w w.heap.size B m L) (hb : Below (w.heap.size + 2) (twoB W H A A2 n cap n2 c2 w) wr) : IntAt wr wr.heap.size B m L :=
  (h.below (twoB_old hb)).more (by have := twoB_le hb; omega)
theorem NewI.old {w wr w' : World} {A A2 : Option Addr} {n cap n2 c2 : Nat} {W H : Int} {L : List Int} {v : Value} (hb : Below (w.heap.size + 2) (twoB W H A A2 n cap n2 c2 w) wr) (ho : w'.ownsRow wr.heap.size 3 1 v L.length (intsV L)) (hw : Below wr.heap.size wr w') : NewI L w (.returned v) w' :=
  ⟨v, rfl, own_less ho (by have := twoB_le hb; omega), (twoB_old hb).trans (hw.mono (by have := twoB_le hb; omega))⟩
theorem below_two {w w1 : World} {A A2 : Option Addr} {n cap n2 c2 : Nat} {W H : Int} (h : (twoB W H A A2 n cap n2 c2 w).grownBy w1 none) : Below (w.heap.size + 2) (twoB W H A A2 n cap n2 c2 w) w1 := gb_below_none h (by rw [twoB_size]; exact Nat.le_refl _)
theorem below_then {w wr w1 : World} {A A2 : Option Addr} {n cap n2 c2 : Nat} {W H : Int} (hb : Below (w.heap.size + 2) (twoB W H A A2 n cap n2 c2 w) wr) (h : wr.grownBy w1 none) : Below (w.heap.size + 2) (twoB W H A A2 n cap n2 c2 w) w1 := below_gb hb (by rw [twoB_size]; exact Nat.le_refl _) h
end Go.Proofs.Ytecaehkckamhkaa
end

section
namespace Go.Proofs.Ytecaehkckamhkaa
open Go.ChangeShapes Go.WideShapes Go.ChangeAt Go.RowKit
set_option linter.unusedVariables false
set_option maxRecDepth 20000

theorem implAllows (W H : Int) (A A2 A3 : Option Addr) (n cap n2 c2 n3 c3 : Nat) (L P T : List Int) (hL : WfL L) (w : World) (h : IntAt w w.heap.size A n L) (h2 : IntAt w w.heap.size A2 n2 P) (h3 : IntAt w w.heap.size A3 n3 T) (hn : n ≤ 1000000000) (hn2 : n2 ≤ 1000000000) (hn3 : n3 ≤ 1000000000) :
    Calls Try.prog 49 #[.agg #[.int .i64 W, .int .i64 H, .slice A n cap], .agg #[.slice A2 n2 c2], .slice A3 n3 c3] w (RetB (allowsG W H L P T) w) := by
  have HI := Lib.hid h
  have HP := Lib.hid h2
  have HT1 := Lib.hid (h.two (W := W) (H := H) (A := A) (A2 := A2) (n := n) (cap := cap) (n2 := n2) (c2 := c2))
  have HT2 := Lib.hid (h2.two (W := W) (H := H) (A := A) (A2 := A2) (n := n) (cap := cap) (n2 := n2) (c2 := c2))
  have HOK := Lib.hid (fun (w : World) h h2 => implTableOk W H A A2 n cap n2 c2 L P hL w h h2 hn hn2)
  have HTO := Lib.hid (fun (w : World) h h2 => implTurnsOf W H A A2 n cap n2 c2 L P hL w h h2 hn hn2)
  have HQ := Lib.hid h3
  clear h h2 h3
  cases ht : tableG W H L P with
  | false =>
    have HF := Lib.hid (show allowsG W H L P T = false by rw [allowsG, ht]; rfl)
    rw [ht] at HOK
    clear ht hL
    go_enter Try.func49, Try.ntmps49
    go_wp2_with fail
    refine (HOK.out _ HT1.out HT2.out).mono ?_
    rintro e w1 ⟨rfl, hg⟩
    have B1 := Lib.hid (below_two hg)
    clear hg
    go_wp2_with fail
    go_ret
    exact ⟨ret_bool HF.out.symm, gb_of_below (twoB_old B1.out) none⟩
  | true =>
    obtain ⟨R, hR⟩ : ∃ R, turnsG W H L P = R := ⟨_, rfl⟩
    have HF := Lib.hid (show allowsG W H L P T = R.all fun x => inG T x by rw [allowsG, ht, hR]; rfl)
    have hlen : R.length ≤ 16 := by rw [← hR]; exact turnsG_len
    obtain ⟨N, hN⟩ : ∃ N, R.length = N := ⟨_, rfl⟩
    rw [ht] at HOK
    rw [hR] at HTO
    rw [hN] at hlen
    have HN := Lib.hid hN
    clear ht hL hR
    go_enter Try.func49, Try.ntmps49
    go_wp2_with fail
    refine (HOK.out _ HT1.out HT2.out).mono ?_
    rintro e w1 ⟨rfl, hg⟩
    have B1 := Lib.hid (below_two hg)
    clear hg
    have a0 : w1.cell? ⟨w.heap.size, 0, none⟩ = some (.int .i64 W) := (twoB_mesh B1.out).cell 0
    have a1 : w1.cell? ⟨w.heap.size, 1, none⟩ = some (.int .i64 H) := (twoB_mesh B1.out).cell 1
    have a2 : w1.cell? ⟨w.heap.size, 2, none⟩ = some (.slice A n cap) := (twoB_mesh B1.out).cell 2
    have a3 : w1.cell? ⟨w.heap.size + 1, 0, none⟩ = some (.slice A2 n2 c2) := (twoB_table B1.out).cell 0
    go_wp2_with fail
    refine (HTO.out _ (HI.out.old B1.out) (HP.out.old B1.out)).mono ?_
    rintro e w2 ⟨v, rfl, ho, hb⟩
    rw [hN] at ho
    obtain ⟨AR, capR, rfl, har⟩ := own_form ho
    have HAR := Lib.hid har
    have B2 := Lib.hid (below_then B1.out (gb_of_below hb none))
    have O2 := Lib.hid ho
    have HQ2 := Lib.hid (HQ.out.old B2.out)
    clear ho hb har hN a0 a1 a2 a3
    go_wp2_with fail
    go_loop [17] (fun i => ∃ j : Nat, i = .int .i64 (j : Int) ∧ j ≤ N ∧ ∀ y, y < j → inG T (R.getD y 0) = true) (fun i => 17 - (Go.RowKit.intOf i).toNat)
    case atStart => exact ⟨0, rfl, Nat.zero_le _, fun y h => by omega⟩
    case round =>
      obtain ⟨j, rfl, hj, hall⟩ := hrel
      have HA := Lib.hid hall
      clear hall
      by_cases hlt : j < N
      · have hli : (j : Int) < (N : Int) := by omega
        obtain ⟨gv, hgv⟩ := HAR.out (by omega)
        subst hgv
        obtain ⟨x, hx⟩ : ∃ z, R.getD j 0 = z := ⟨_, rfl⟩
        have c1 := ints_cell O2.out j x (by rw [← hx, List.getD, List.getElem?_eq_getElem (by rw [HN.out]; omega)]; rfl) HN.out
        obtain ⟨b, hb⟩ : ∃ b, inG T x = b := ⟨_, rfl⟩
        have HC := Lib.hid (fun (w : World) h => implContains A3 n3 c3 (w.heap.size) T x b hb w h hn3)
        cases b with
        | false =>
          have HNo := Lib.hid (show allowsG W H L P T = false by
            rw [HF.out, List.all_eq_false]
            exact ⟨x, by rw [← hx, List.getD, List.getElem?_eq_getElem (by rw [HN.out]; omega)]; exact List.getElem_mem _, by rw [hb]; decide⟩)
          clear hb hx
          go_wp2_with fail
          refine (HC.out _ HQ2.out).mono ?_
          rintro e w3 ⟨rfl, rfl⟩
          go_wp2_with fail
          go_ret
          exact ⟨ret_bool HNo.out.symm, gb_of_below (twoB_old B2.out) none⟩
        | true =>
          have HNx := Lib.hid (show ∀ y, y < j + 1 → inG T (R.getD y 0) = true from fun y hy => by
            rcases Nat.lt_succ_iff_lt_or_eq.1 hy with h1 | rfl
            · exact HA.out y h1
            · rw [hx]; exact hb)
          clear hb hx
          go_wp2_with fail
          refine (HC.out _ HQ2.out).mono ?_
          rintro e w3 ⟨rfl, rfl⟩
          go_wp2_with fail
          go_round
          case rel => exact ⟨j + 1, by go_num, by omega, HNx.out⟩
          case measure => simp [Go.RowKit.intOf]; omega
      · obtain rfl : j = N := by omega
        have HY := Lib.hid (show allowsG W H L P T = true by
          rw [HF.out, List.all_eq_true]
          intro x hx
          obtain ⟨y, hy, rfl⟩ := List.getElem_of_mem hx
          have := HA.out y (by rw [← HN.out]; exact hy)
          rwa [List.getD, List.getElem?_eq_getElem hy] at this)
        go_wp2_with fail
        go_ret
        exact ⟨ret_bool HY.out.symm, gb_of_below (twoB_old B2.out) none⟩
end Go.Proofs.Ytecaehkckamhkaa
end

section
namespace Go.Proofs.Ytecaehkckamhkaa
open Go.ChangeShapes Go.WideShapes Go.ChangeAt Go.RowKit
set_option linter.unusedVariables false
set_option maxRecDepth 20000

theorem row_blk {w : World} {B : Nat} {t : TypeId} {T : List Int} (h : Blk w B t (intsV T).toArray) : RowAt w B T := fun j hj => by
  rw [h.cell j]
  simp [intsV, hj]
/-- The slices of the ports in a row and in a column, and the set of turns. -/
def RuAt (w : World) (f : Nat → Bool) (wr : World) : Prop :=
  RowAt wr w.heap.size [1, 3] ∧ RowAt wr (w.heap.size + 1) [0, 2] ∧ SetAt wr (w.heap.size + 1 + 1) f ∧ Below w.heap.size w wr
section
variable {w wr w' : World} {f f' : Nat → Bool}
theorem RuAt.lt (h : RuAt w f wr) : w.heap.size + 2 < wr.heap.size := h.2.2.1.lt
theorem RuAt.start (w : World) : RuAt w (fun _ => false) (((w.alloc (.cells #[.int .i64 1, .int .i64 3] 3)).alloc (.cells #[.int .i64 0, .int .i64 2] 3)).alloc (.map #[] 0)) := by
  refine ⟨row_blk (t := 3) (((Blk.new w 3 _).alloc _).alloc _), row_blk (t := 3) ?_, ?_, ?_⟩
  · have h := Blk.new (w.alloc (.cells #[.int .i64 1, .int .i64 3] 3)) 3 #[.int .i64 0, .int .i64 2]
    rw [alloc_size] at h
    exact h.alloc _
  · have h := SetAt.made ((w.alloc (.cells #[.int .i64 1, .int .i64 3] 3)).alloc (.cells #[.int .i64 0, .int .i64 2] 3))
    rw [alloc_size, alloc_size] at h
    exact h
  · exact gb_below_none (gb_alloc (gb_alloc (gb_alloc (gb_refl w none) _) _) _) (Nat.le_refl _)
theorem RuAt.alloc (h : RuAt w f wr) (o : Obj) : RuAt w f (wr.alloc o) := by
  have hl := h.lt
  have hg : wr.grownBy (wr.alloc o) none := gb_alloc (gb_refl wr none) o
  exact ⟨h.1.none (by omega) hg, h.2.1.none (by omega) hg, h.2.2.1.none hg, h.2.2.2.alloc (by omega) o⟩
theorem RuAt.put (h : RuAt w f wr) (hp : PutAt (w.heap.size + 1 + 1) f' wr w') : RuAt w f' w' := by
  have hl := h.lt
  exact ⟨h.1.kept (by omega) hp.2 (by omega), h.2.1.kept (by omega) hp.2 (by omega), hp.1, h.2.2.2.trans (gb_below hp.2 (by omega) (by omega))⟩
theorem ports_13 : Ports [1, 3] := ⟨by decide, fun j hj => by have : j = 0 ∨ j = 1 := by simp at hj; omega
                                                              rcases this with rfl | rfl <;> decide⟩
theorem ports_02 : Ports [0, 2] := ⟨by decide, fun j hj => by have : j = 0 ∨ j = 1 := by simp at hj; omega
                                                              rcases this with rfl | rfl <;> decide⟩
theorem ports_3 : Ports [3] := ⟨by decide, fun j hj => by have : j = 0 := by simp at hj; omega
                                                          subst this; decide⟩
theorem ports_1 : Ports [1] := ⟨by decide, fun j hj => by have : j = 0 := by simp at hj; omega
                                                          subst this; decide⟩
theorem ports_021 : Ports [0, 2, 1] := ⟨by decide, fun j hj => by have : j = 0 ∨ j = 1 ∨ j = 2 := by simp at hj; omega
                                                                  rcases this with rfl | rfl | rfl <;> decide⟩
def addT (f : Nat → Bool) (F T : List Int) : Nat → Bool := orT f (crossT F T F.length)
theorem RuAt.rc (h : RuAt w f wr) : Calls Try.prog 89 #[.map (some (w.heap.size + 1 + 1)), .slice (some ⟨w.heap.size, 0, none⟩) 2 2, .slice (some ⟨w.heap.size + 1, 0, none⟩) 2 2] wr fun e w' => e = .returned (.tuple #[]) ∧ RuAt w (addT f [1, 3] [0, 2]) w' :=
  (implAddAll (w.heap.size + 1 + 1) f [1, 3] [0, 2] w.heap.size (w.heap.size + 1) 2 2 ports_13 ports_02 wr h.2.2.1 h.1 h.2.1 (by have := h.lt; omega) (by have := h.lt; omega) (by omega) (by omega)).mono fun e w' ⟨he, hp⟩ => ⟨he, h.put hp⟩
theorem RuAt.cr (h : RuAt w f wr) : Calls Try.prog 89 #[.map (some (w.heap.size + 1 + 1)), .slice (some ⟨w.heap.size + 1, 0, none⟩) 2 2, .slice (some ⟨w.heap.size, 0, none⟩) 2 2] wr fun e w' => e = .returned (.tuple #[]) ∧ RuAt w (addT f [0, 2] [1, 3]) w' :=
  (implAddAll (w.heap.size + 1 + 1) f [0, 2] [1, 3] (w.heap.size + 1) w.heap.size 2 2 ports_02 ports_13 wr h.2.2.1 h.2.1 h.1 (by have := h.lt; omega) (by have := h.lt; omega) (by omega) (by omega)).mono fun e w' ⟨he, hp⟩ => ⟨he, h.put hp⟩
theorem RuAt.we {B : Nat} (h : RuAt w f wr) (hB : wr.heap.size = B) : Calls Try.prog 89 #[.map (some (w.heap.size + 1 + 1)), .slice (some ⟨B, 0, none⟩) 1 1, .slice (some ⟨B + 1, 0, none⟩) 3 3] ((wr.alloc (.cells #[.int .i64 3] 3)).alloc (.cells #[.int .i64 0, .int .i64 2, .int .i64 1] 3)) fun e w' => e = .returned (.tuple #[]) ∧ RuAt w (addT f [3] [0, 2, 1]) w' := by
  subst hB
  have hl := h.lt
  have h2 := (h.alloc (.cells #[.int .i64 3] 3)).alloc (.cells #[.int .i64 0, .int .i64 2, .int .i64 1] 3)
  have b1 := Blk.new (wr.alloc (.cells #[.int .i64 3] 3)) 3 #[.int .i64 0, .int .i64 2, .int .i64 1]
  rw [alloc_size] at b1
  exact (implAddAll (w.heap.size + 1 + 1) f [3] [0, 2, 1] wr.heap.size (wr.heap.size + 1) 1 3 ports_3 ports_021 _ h2.2.2.1 (row_blk (t := 3) ((Blk.new wr 3 #[.int .i64 3]).alloc _)) (row_blk (t := 3) b1) (by simp; omega) (by simp) (by omega) (by omega)).mono fun e w' ⟨he, hp⟩ => ⟨he, h2.put hp⟩
theorem RuAt.ce (h : RuAt w f wr) : Calls Try.prog 89 #[.map (some (w.heap.size + 1 + 1)), .slice (some ⟨w.heap.size + 1, 0, none⟩) 2 2, .slice (some ⟨wr.heap.size, 0, none⟩) 1 1] (wr.alloc (.cells #[.int .i64 1] 3)) fun e w' => e = .returned (.tuple #[]) ∧ RuAt w (addT f [0, 2] [1]) w' := by
  have hl := h.lt
  have h2 := h.alloc (.cells #[.int .i64 1] 3)
  exact (implAddAll (w.heap.size + 1 + 1) f [0, 2] [1] (w.heap.size + 1) wr.heap.size 2 1 ports_02 ports_1 _ h2.2.2.1 h2.2.1 (row_blk (t := 3) (Blk.new wr 3 #[.int .i64 1])) (by simp; omega) (by simp) (by omega) (by omega)).mono fun e w' ⟨he, hp⟩ => ⟨he, h2.put hp⟩
theorem RuAt.asc {L : List Int} (h : RuAt w f wr) (hL : setL f 16 = L) : Calls Try.prog 88 #[.map (some (w.heap.size + 1 + 1))] wr (NewI L w) :=
  (implAscending _ f wr h.2.2.1).mono fun e w' ⟨v, he, ho, hb⟩ => ⟨v, he, own_less (hL ▸ ho) (by have := h.lt; omega), h.2.2.2.trans (hb.mono (by have := h.lt; omega))⟩
end

theorem implTurnsOfRule (r : Int) (w : World) : Calls Try.prog 45 #[.int .i64 r] w (NewI (ruleL r) w) := by
  have X0 := Lib.hid (RuAt.start w)
  have hmm := @run_makeMap Try.prog
  by_cases h1 : r = 1
  · subst h1
    go_enter Try.func45, Try.ntmps45
    go_wp2_with fail
    refine X0.out.rc.mono ?_
    rintro e w1 ⟨rfl, hx1⟩
    have X1 := Lib.hid hx1
    clear hx1
    go_wp2_with fail
    refine (X1.out.asc (L := ruleL 1) (by decide)).mono ?_
    rintro e w2 hn
    have HN := Lib.hid hn
    clear hn
    obtain ⟨v, rfl, _⟩ := HN.out
    go_wp2_with fail
    go_ret
    exact HN.out
  by_cases h2 : r = 2
  · subst h2
    go_enter Try.func45, Try.ntmps45
    go_wp2_with fail
    refine X0.out.cr.mono ?_
    rintro e w1 ⟨rfl, hx1⟩
    have X1 := Lib.hid hx1
    clear hx1
    go_wp2_with fail
    refine (X1.out.asc (L := ruleL 2) (by decide)).mono ?_
    rintro e w2 hn
    have HN := Lib.hid hn
    clear hn
    obtain ⟨v, rfl, _⟩ := HN.out
    go_wp2_with fail
    go_ret
    exact HN.out
  by_cases h3 : r = 3
  · subst h3
    go_enter Try.func45, Try.ntmps45
    go_wp2_with fail
    refine (X0.out.we (B := w.heap.size + 1 + 1 + 1) (by simp only [alloc_size])).mono ?_
    rintro e w1 ⟨rfl, hx1⟩
    have X1 := Lib.hid hx1
    clear hx1
    go_wp2_with fail
    refine X1.out.ce.mono ?_
    rintro e w2 ⟨rfl, hx2⟩
    have X2 := Lib.hid hx2
    clear hx2
    go_wp2_with fail
    refine (X2.out.asc (L := ruleL 3) (by decide)).mono ?_
    rintro e w2 hn
    have HN := Lib.hid hn
    clear hn
    obtain ⟨v, rfl, _⟩ := HN.out
    go_wp2_with fail
    go_ret
    exact HN.out
  by_cases h4 : r = 4
  · subst h4
    go_enter Try.func45, Try.ntmps45
    go_wp2_with fail
    refine X0.out.rc.mono ?_
    rintro e w1 ⟨rfl, hx1⟩
    have X1 := Lib.hid hx1
    clear hx1
    go_wp2_with fail
    refine X1.out.cr.mono ?_
    rintro e w2 ⟨rfl, hx2⟩
    have X2 := Lib.hid hx2
    clear hx2
    go_wp2_with fail
    refine (X2.out.asc (L := ruleL 4) (by decide)).mono ?_
    rintro e w2 hn
    have HN := Lib.hid hn
    clear hn
    obtain ⟨v, rfl, _⟩ := HN.out
    go_wp2_with fail
    go_ret
    exact HN.out
  have HL := Lib.hid (show setL (fun _ => false) 16 = ruleL r by simp [ruleL, h1, h2, h3, h4]; rfl)
  have q1 : (r == 1) = false := by simpa using h1
  have q2 : (r == 2) = false := by simpa using h2
  have q3 : (r == 3) = false := by simpa using h3
  have q4 : (r == 4) = false := by simpa using h4
  clear h1 h2 h3 h4
  go_enter Try.func45, Try.ntmps45
  go_wp2_with fail
  refine (X0.out.asc HL.out).mono ?_
  rintro e w2 hn
  have HN := Lib.hid hn
  clear hn
  obtain ⟨v, rfl, _⟩ := HN.out
  go_wp2_with fail
  go_ret
  exact HN.out
end Go.Proofs.Ytecaehkckamhkaa
end

section
namespace Go.Proofs.Ytecaehkckamhkaa
open Go.ChangeShapes Go.WideShapes Go.ChangeAt Go.RowKit
set_option linter.unusedVariables false

theorem implOpposite (p : Int) (w : World) :
    Calls Try.prog 91 #[.int .i64 p] w fun e w' => e = .returned (.int .i64 (oppG p)) ∧ w.grownBy w' none := by
  by_cases p0 : p = 0
  · subst p0
    go_enter Try.func91, Try.ntmps91
    go_wp2_with fail
    go_ret
    exact ⟨rfl, gb_refl _ _⟩
  by_cases p1 : p = 1
  · subst p1
    go_enter Try.func91, Try.ntmps91
    go_wp2_with fail
    go_ret
    exact ⟨rfl, gb_refl _ _⟩
  by_cases p2 : p = 2
  · subst p2
    go_enter Try.func91, Try.ntmps91
    go_wp2_with fail
    go_ret
    exact ⟨rfl, gb_refl _ _⟩
  by_cases p3 : p = 3
  · subst p3
    go_enter Try.func91, Try.ntmps91
    go_wp2_with fail
    go_ret
    exact ⟨rfl, gb_refl _ _⟩
  by_cases p4 : p = 4
  · subst p4
    go_enter Try.func91, Try.ntmps91
    go_wp2_with fail
    go_ret
    exact ⟨rfl, gb_refl _ _⟩
  have hv : oppG p = -1 := by unfold oppG; rw [if_neg p0, if_neg p1, if_neg p2, if_neg p3, if_neg p4]
  have q0 : (p == 0) = false := by simpa using p0
  have q1 : (p == 1) = false := by simpa using p1
  have q2 : (p == 2) = false := by simpa using p2
  have q3 : (p == 3) = false := by simpa using p3
  have q4 : (p == 4) = false := by simpa using p4
  clear p0 p1 p2 p3 p4
  have HV := Lib.hid hv
  clear hv
  go_enter Try.func91, Try.ntmps91
  go_wp2_with fail
  go_ret
  exact ⟨by rw [HV.out]; rfl, gb_refl _ _⟩
end Go.Proofs.Ytecaehkckamhkaa
end

section
namespace Go.Proofs.Ytecaehkckamhkaa
open Go.ChangeShapes Go.WideShapes Go.ChangeAt Go.RowKit
set_option linter.unusedVariables false

theorem implPortName (p : Int) (w : World) :
    Calls Try.prog 92 #[.int .i64 p] w (RetS (portB p) w) := by
  by_cases p0 : p = 0
  · subst p0
    go_enter Try.func92, Try.ntmps92
    go_wp2_with fail
    go_ret
    exact ⟨rfl, gb_refl _ _⟩
  by_cases p1 : p = 1
  · subst p1
    go_enter Try.func92, Try.ntmps92
    go_wp2_with fail
    go_ret
    exact ⟨rfl, gb_refl _ _⟩
  by_cases p2 : p = 2
  · subst p2
    go_enter Try.func92, Try.ntmps92
    go_wp2_with fail
    go_ret
    exact ⟨rfl, gb_refl _ _⟩
  by_cases p3 : p = 3
  · subst p3
    go_enter Try.func92, Try.ntmps92
    go_wp2_with fail
    go_ret
    exact ⟨rfl, gb_refl _ _⟩
  by_cases p4 : p = 4
  · subst p4
    go_enter Try.func92, Try.ntmps92
    go_wp2_with fail
    go_ret
    exact ⟨rfl, gb_refl _ _⟩
  have hv : portB p = ⟨#[]⟩ := by unfold portB; rw [if_neg p0, if_neg p1, if_neg p2, if_neg p3, if_neg p4]
  have q0 : (p == 0) = false := by simpa using p0
  have q1 : (p == 1) = false := by simpa using p1
  have q2 : (p == 2) = false := by simpa using p2
  have q3 : (p == 3) = false := by simpa using p3
  have q4 : (p == 4) = false := by simpa using p4
  clear p0 p1 p2 p3 p4
  have HV := Lib.hid hv
  clear hv
  go_enter Try.func92, Try.ntmps92
  go_wp2_with fail
  go_ret
  exact ⟨by rw [HV.out]; rfl, gb_refl _ _⟩
end Go.Proofs.Ytecaehkckamhkaa
end

section
namespace Go.Proofs.Ytecaehkckamhkaa
open Go.ChangeShapes Go.WideShapes Go.ChangeAt Go.RowKit
set_option linter.unusedVariables false

theorem implTurnPorts (x p q : Int) (h0 : 0 ≤ x) (h1 : x ≤ 15) (hp : x / 4 = p) (hq : x % 4 = q) (w : World) :
    Calls Try.prog 90 #[.int .i64 x] w fun e w' => e = .returned (.tuple #[.int .i64 p, .int .i64 q, .bool true]) ∧ w = w' := by
  have t1 : x.tdiv 4 = p := by rw [Int.tdiv_eq_ediv_of_nonneg h0, hp]
  have t2 : x.tmod 4 = q := by rw [Int.tmod_eq_emod_of_nonneg h0, hq]
  have p0 : 0 ≤ p := by omega
  have p3 : p ≤ 3 := by omega
  have q0 : 0 ≤ q := by omega
  have q3 : q ≤ 3 := by omega
  have n0 : ¬ x < 0 := by omega
  have n1 : ¬ x ≥ 16 := by omega
  clear hp hq
  go_enter Try.func90, Try.ntmps90
  go_wp2_with fail
  go_ret3
  exact ⟨rfl, rfl⟩
theorem implTurnPortsNo (x : Int) (h : ¬ (0 ≤ x ∧ x ≤ 15)) (w : World) :
    Calls Try.prog 90 #[.int .i64 x] w fun e w' => e = .returned (.tuple #[.int .i64 0, .int .i64 0, .bool false]) ∧ w = w' := by
  by_cases hx : x < 0
  · go_enter Try.func90, Try.ntmps90
    go_wp2_with fail
    go_ret3
    exact ⟨rfl, rfl⟩
  · have hx2 : x ≥ 16 := by omega
    go_enter Try.func90, Try.ntmps90
    go_wp2_with fail
    go_ret3
    exact ⟨rfl, rfl⟩

theorem implIsReversal (x : Int) (w : World) : Calls Try.prog 47 #[.int .i64 x] w (RetB (backT x) w) := by
  by_cases hx : 0 ≤ x ∧ x ≤ 15
  · obtain ⟨p, hp⟩ : ∃ p, x / 4 = p := ⟨_, rfl⟩
    obtain ⟨q, hq⟩ : ∃ q, x % 4 = q := ⟨_, rfl⟩
    obtain ⟨o, ho⟩ : ∃ o, oppG p = o := ⟨_, rfl⟩
    have HB := Lib.hid (show backT x = (q == o) by rw [backT, decide_eq_true hx, Bool.true_and, hp, hq, ho]; rfl)
    have HP := Lib.hid (fun w => implTurnPorts x p q hx.1 hx.2 hp hq w)
    have HO := Lib.hid (fun w => ho ▸ implOpposite p w)
    clear hx hp hq ho
    go_enter Try.func47, Try.ntmps47
    go_wp2_with fail
    refine (HP.out _).mono ?_
    rintro e w1 ⟨rfl, rfl⟩
    go_wp2_with fail
    refine (HO.out _).mono ?_
    rintro e w2 ⟨rfl, hg⟩
    have HG := Lib.hid hg
    clear hg
    go_wp2_with fail
    go_ret
    exact ⟨ret_bool HB.out.symm, HG.out⟩
  · have HB := Lib.hid (show backT x = false by rw [backT, decide_eq_false hx, Bool.false_and])
    have HP := Lib.hid (fun w => implTurnPortsNo x hx w)
    clear hx
    go_enter Try.func47, Try.ntmps47
    go_wp2_with fail
    refine (HP.out _).mono ?_
    rintro e w1 ⟨rfl, rfl⟩
    go_wp2_with fail
    go_ret
    exact ⟨ret_bool HB.out.symm, gb_refl _ _⟩

theorem implTurnName (x : Int) (w : World) : Calls Try.prog 48 #[.int .i64 x] w (RetS (nameT x) w) := by
  by_cases hx : 0 ≤ x ∧ x ≤ 15
  · obtain ⟨p, hp⟩ : ∃ p, x / 4 = p := ⟨_, rfl⟩
    obtain ⟨q, hq⟩ : ∃ q, x % 4 = q := ⟨_, rfl⟩
    have HP := Lib.hid (fun w => implTurnPorts x p q hx.1 hx.2 hp hq w)
    by_cases hpq : p = q
    · have HV := Lib.hid (show nameT x = ⟨#[]⟩ by rw [nameT, if_neg]; simp [hp, hq, hpq])
      clear hx hp hq
      subst hpq
      go_enter Try.func48, Try.ntmps48
      go_wp2_with fail
      refine (HP.out _).mono ?_
      rintro e w1 ⟨rfl, rfl⟩
      go_wp2_with fail
      go_ret
      exact ⟨by rw [HV.out]; rfl, gb_refl _ _⟩
    · have HV := Lib.hid (show nameT x = portB p ++ ⟨#[45]⟩ ++ portB q by rw [nameT, if_pos, hp, hq]; simp [hx, hp, hq, hpq])
      have H1 := Lib.hid (fun w => implPortName p w)
      have H2 := Lib.hid (fun w => implPortName q w)
      have L1 := Lib.hid (portB_size p)
      have L2 := Lib.hid (portB_size q)
      clear hx hp hq
      obtain ⟨s, hs⟩ : ∃ s, portB p = s := ⟨_, rfl⟩
      obtain ⟨t, ht⟩ : ∃ t, portB q = t := ⟨_, rfl⟩
      rw [hs] at H1 L1 HV
      rw [ht] at H2 L2 HV
      clear hs ht
      go_enter Try.func48, Try.ntmps48
      go_wp2_with fail
      refine (HP.out _).mono ?_
      rintro e w1 ⟨rfl, rfl⟩
      go_wp2_with fail
      refine (H1.out _).mono ?_
      rintro e w1 ⟨rfl, hg1⟩
      have G1 := Lib.hid hg1
      clear hg1
      have s1 := L1.out
      go_wp2_with fail
      refine (H2.out _).mono ?_
      rintro e w2 ⟨rfl, hg2⟩
      have G2 := Lib.hid (G1.out.trans hg2)
      clear hg2
      have s2 := L2.out
      go_wp2_with fail
      go_ret
      exact ⟨by rw [HV.out]; rfl, G2.out⟩
  · have HV := Lib.hid (show nameT x = ⟨#[]⟩ by rw [nameT, decide_eq_false hx]; rfl)
    have HP := Lib.hid (fun w => implTurnPortsNo x hx w)
    clear hx
    go_enter Try.func48, Try.ntmps48
    go_wp2_with fail
    refine (HP.out _).mono ?_
    rintro e w1 ⟨rfl, rfl⟩
    go_wp2_with fail
    go_ret
    exact ⟨by rw [HV.out]; rfl, gb_refl _ _⟩
end Go.Proofs.Ytecaehkckamhkaa
end

section
namespace Go.Proofs.Ytecaehkckamhkaa
open Go.ChangeShapes Go.WideShapes Go.ChangeAt Go.RowKit
set_option linter.unusedVariables false

def stepT (r a b : Int) : Bool := decide (a % 4 = b % 4) || ((ruleL r).contains (4 * (a % 4) + b % 4) && !decide (b % 4 = oppG (a % 4)))
def wayOk (r : Int) : List Int → Bool
  | [] => true
  | a :: t => (match t with | [] => true | b :: _ => stepT r a b) && wayOk r t
def stdTurns (W H r : Int) : Bool := (List.range (sqG W H)).all fun i => wayOk r (pairW W H [] (stdTab W H r) i)

theorem stt_111 : stdTurns 1 1 1 = true := by decide +kernel
theorem stt_112 : stdTurns 1 1 2 = true := by decide +kernel
theorem stt_113 : stdTurns 1 1 3 = true := by decide +kernel
theorem stt_114 : stdTurns 1 1 4 = true := by decide +kernel
theorem stt_121 : stdTurns 1 2 1 = true := by decide +kernel
theorem stt_122 : stdTurns 1 2 2 = true := by decide +kernel
theorem stt_123 : stdTurns 1 2 3 = true := by decide +kernel
theorem stt_124 : stdTurns 1 2 4 = true := by decide +kernel
theorem stt_131 : stdTurns 1 3 1 = true := by decide +kernel
theorem stt_132 : stdTurns 1 3 2 = true := by decide +kernel
theorem stt_133 : stdTurns 1 3 3 = true := by decide +kernel
theorem stt_134 : stdTurns 1 3 4 = true := by decide +kernel
theorem stt_141 : stdTurns 1 4 1 = true := by decide +kernel
theorem stt_142 : stdTurns 1 4 2 = true := by decide +kernel
theorem stt_143 : stdTurns 1 4 3 = true := by decide +kernel
theorem stt_144 : stdTurns 1 4 4 = true := by decide +kernel
theorem stt_211 : stdTurns 2 1 1 = true := by decide +kernel
theorem stt_212 : stdTurns 2 1 2 = true := by decide +kernel
theorem stt_213 : stdTurns 2 1 3 = true := by decide +kernel
theorem stt_214 : stdTurns 2 1 4 = true := by decide +kernel
theorem stt_221 : stdTurns 2 2 1 = true := by decide +kernel
theorem stt_222 : stdTurns 2 2 2 = true := by decide +kernel
theorem stt_223 : stdTurns 2 2 3 = true := by decide +kernel
theorem stt_224 : stdTurns 2 2 4 = true := by decide +kernel
theorem stt_231 : stdTurns 2 3 1 = true := by decide +kernel
theorem stt_232 : stdTurns 2 3 2 = true := by decide +kernel
theorem stt_233 : stdTurns 2 3 3 = true := by decide +kernel
theorem stt_234 : stdTurns 2 3 4 = true := by decide +kernel
theorem stt_241 : stdTurns 2 4 1 = true := by decide +kernel
theorem stt_242 : stdTurns 2 4 2 = true := by decide +kernel
theorem stt_243 : stdTurns 2 4 3 = true := by decide +kernel
theorem stt_244 : stdTurns 2 4 4 = true := by decide +kernel
theorem stt_311 : stdTurns 3 1 1 = true := by decide +kernel
theorem stt_312 : stdTurns 3 1 2 = true := by decide +kernel
theorem stt_313 : stdTurns 3 1 3 = true := by decide +kernel
theorem stt_314 : stdTurns 3 1 4 = true := by decide +kernel
theorem stt_321 : stdTurns 3 2 1 = true := by decide +kernel
theorem stt_322 : stdTurns 3 2 2 = true := by decide +kernel
theorem stt_323 : stdTurns 3 2 3 = true := by decide +kernel
theorem stt_324 : stdTurns 3 2 4 = true := by decide +kernel
theorem stt_331 : stdTurns 3 3 1 = true := by decide +kernel
theorem stt_332 : stdTurns 3 3 2 = true := by decide +kernel
theorem stt_333 : stdTurns 3 3 3 = true := by decide +kernel
theorem stt_334 : stdTurns 3 3 4 = true := by decide +kernel
theorem stt_341 : stdTurns 3 4 1 = true := by decide +kernel
theorem stt_342 : stdTurns 3 4 2 = true := by decide +kernel
theorem stt_343 : stdTurns 3 4 3 = true := by decide +kernel
theorem stt_344 : stdTurns 3 4 4 = true := by decide +kernel
theorem stt_411 : stdTurns 4 1 1 = true := by decide +kernel
theorem stt_412 : stdTurns 4 1 2 = true := by decide +kernel
theorem stt_413 : stdTurns 4 1 3 = true := by decide +kernel
theorem stt_414 : stdTurns 4 1 4 = true := by decide +kernel
theorem stt_421 : stdTurns 4 2 1 = true := by decide +kernel
theorem stt_422 : stdTurns 4 2 2 = true := by decide +kernel
theorem stt_423 : stdTurns 4 2 3 = true := by decide +kernel
theorem stt_424 : stdTurns 4 2 4 = true := by decide +kernel
theorem stt_431 : stdTurns 4 3 1 = true := by decide +kernel
theorem stt_432 : stdTurns 4 3 2 = true := by decide +kernel
theorem stt_433 : stdTurns 4 3 3 = true := by decide +kernel
theorem stt_434 : stdTurns 4 3 4 = true := by decide +kernel
theorem stt_441 : stdTurns 4 4 1 = true := by decide +kernel
theorem stt_442 : stdTurns 4 4 2 = true := by decide +kernel
theorem stt_443 : stdTurns 4 4 3 = true := by decide +kernel
theorem stt_444 : stdTurns 4 4 4 = true := by decide +kernel
theorem std_turns {W H r : Int} (h : okG W H = true) (h1 : 1 ≤ r) (h4 : r ≤ 4) : stdTurns W H r = true := by
  obtain ⟨hW, hH⟩ := okG_cases h
  have hr : r = 1 ∨ r = 2 ∨ r = 3 ∨ r = 4 := by omega
  clear h h1 h4
  rcases hW with rfl | rfl | rfl | rfl
  · rcases hH with rfl | rfl | rfl | rfl
    · rcases hr with rfl | rfl | rfl | rfl
      · exact stt_111
      · exact stt_112
      · exact stt_113
      · exact stt_114
    · rcases hr with rfl | rfl | rfl | rfl
      · exact stt_121
      · exact stt_122
      · exact stt_123
      · exact stt_124
    · rcases hr with rfl | rfl | rfl | rfl
      · exact stt_131
      · exact stt_132
      · exact stt_133
      · exact stt_134
    · rcases hr with rfl | rfl | rfl | rfl
      · exact stt_141
      · exact stt_142
      · exact stt_143
      · exact stt_144
  · rcases hH with rfl | rfl | rfl | rfl
    · rcases hr with rfl | rfl | rfl | rfl
      · exact stt_211
      · exact stt_212
      · exact stt_213
      · exact stt_214
    · rcases hr with rfl | rfl | rfl | rfl
      · exact stt_221
      · exact stt_222
      · exact stt_223
      · exact stt_224
    · rcases hr with rfl | rfl | rfl | rfl
      · exact stt_231
      · exact stt_232
      · exact stt_233
      · exact stt_234
    · rcases hr with rfl | rfl | rfl | rfl
      · exact stt_241
      · exact stt_242
      · exact stt_243
      · exact stt_244
  · rcases hH with rfl | rfl | rfl | rfl
    · rcases hr with rfl | rfl | rfl | rfl
      · exact stt_311
      · exact stt_312
      · exact stt_313
      · exact stt_314
    · rcases hr with rfl | rfl | rfl | rfl
      · exact stt_321
      · exact stt_322
      · exact stt_323
      · exact stt_324
    · rcases hr with rfl | rfl | rfl | rfl
      · exact stt_331
      · exact stt_332
      · exact stt_333
      · exact stt_334
    · rcases hr with rfl | rfl | rfl | rfl
      · exact stt_341
      · exact stt_342
      · exact stt_343
      · exact stt_344
  · rcases hH with rfl | rfl | rfl | rfl
    · rcases hr with rfl | rfl | rfl | rfl
      · exact stt_411
      · exact stt_412
      · exact stt_413
      · exact stt_414
    · rcases hr with rfl | rfl | rfl | rfl
      · exact stt_421
      · exact stt_422
      · exact stt_423
      · exact stt_424
    · rcases hr with rfl | rfl | rfl | rfl
      · exact stt_431
      · exact stt_432
      · exact stt_433
      · exact stt_434
    · rcases hr with rfl | rfl | rfl | rfl
      · exact stt_441
      · exact stt_442
      · exact stt_443
      · exact stt_444

theorem wayOk_step {r : Int} : ∀ {R : List Int} {j : Nat}, wayOk r R = true → j + 1 < R.length → stepT r (R.getD j 0) (R.getD (j + 1) 0) = true
  | [], j, _, h => by simp at h
  | [a], j, _, h => by simp at h
  | a :: b :: t, 0, h, _ => by simp only [wayOk, Bool.and_eq_true] at h; simpa using h.1
  | a :: b :: t, j + 1, h, hj => by
    simp only [wayOk, Bool.and_eq_true] at h
    have h2 : wayOk r (b :: t) = true := by simp only [wayOk, Bool.and_eq_true]; exact h.2
    have := wayOk_step (r := r) (R := b :: t) (j := j) h2 (by simp at hj ⊢; omega)
    simpa using this

theorem rule_names (r : Int) : ∀ x ∈ ruleL r, (x % 4 ≠ oppG (x / 4)) → 0 ≤ x ∧ x ≤ 15 ∧ backT x = false ∧ (nameT x).toList.isEmpty = false := by
  unfold ruleL
  (repeat' split) <;> decide +kernel

/-- The turns of a standard table. -/
theorem std_turn {W H r : Int} (h : okG W H = true) (h1 : 1 ≤ r) (h4 : r ≤ 4) : ∀ x ∈ turnsG W H [] (stdTab W H r), inG (ruleL r) x = true ∧ backT x = false ∧ (nameT x).toList.isEmpty = false := by
  intro x hx
  have ht := (std_facts h h1 h4).1
  rw [turnsG_yes ht] at hx
  obtain ⟨y, hy, rfl, hm⟩ := setL_mem.1 hx
  simp only [allT, List.any_eq_true, List.mem_range] at hm
  obtain ⟨i, hi, hw⟩ := hm
  simp only [wayT, List.any_eq_true, List.mem_range] at hw
  obtain ⟨j, hj, hh⟩ := hw
  simp only [hitT, decide_eq_true_eq] at hh
  have hst := std_turns h h1 h4
  simp only [stdTurns, List.all_eq_true, List.mem_range] at hst
  have hs := wayOk_step (hst i hi) (show j + 1 < _ by omega)
  obtain ⟨r0, r1⟩ := pairW_range (W := W) (H := H) (L := []) (P := stdTab W H r) (i := i) (j := j) (by omega)
  obtain ⟨r2, r3⟩ := pairW_range (W := W) (H := H) (L := []) (P := stdTab W H r) (i := i) (j := j + 1) (by omega)
  obtain ⟨a, ha⟩ : ∃ a, (pairW W H [] (stdTab W H r) i).getD j 0 = a := ⟨_, rfl⟩
  obtain ⟨b, hb⟩ : ∃ b, (pairW W H [] (stdTab W H r) i).getD (j + 1) 0 = b := ⟨_, rfl⟩
  rw [ha] at r0 r1 hs hh
  rw [hb] at r2 r3 hs hh
  simp only [stepT, Bool.or_eq_true, Bool.and_eq_true, Bool.not_eq_true', decide_eq_true_eq, decide_eq_false_iff_not] at hs
  rcases hs with hs | ⟨hc, ho⟩
  · exact absurd hs hh.1
  · rw [hh.2] at hc
    have e1 : (y : Int) % 4 = b % 4 := by omega
    have e2 : (y : Int) / 4 = a % 4 := by omega
    obtain ⟨_, _, hb1, hn1⟩ := rule_names r (y : Int) (List.contains_iff_mem.1 hc) (by rw [e1, e2]; exact ho)
    exact ⟨hc, hb1, hn1⟩
theorem std_allows {W H r : Int} (h : okG W H = true) (h1 : 1 ≤ r) (h4 : r ≤ 4) : allowsG W H [] (stdTab W H r) (ruleL r) = true := by
  rw [allowsG, (std_facts h h1 h4).1, Bool.true_and, List.all_eq_true]
  exact fun x hx => (std_turn h h1 h4 x hx).1
end Go.Proofs.Ytecaehkckamhkaa
end

section
namespace Go.Proofs.Ytecaehkckamhkaa
open Go.ChangeShapes Go.WideShapes Go.ChangeAt Go.RowKit
set_option linter.unusedVariables false
set_option linter.unusedSimpArgs false

theorem lawsHas (A : Option Addr) (n cap B : Nat) (L : List Int) (c : Int) (w : World) (h : IntAt w B A n L) (hn : n ≤ 1000000000) :
    Calls Try.prog 46 #[.slice A n cap, .int .i64 c] w fun e w' => e = .returned (.bool (inG L c)) ∧ w = w' := by
  have hl := h.1
  have HI := Lib.hid h
  clear h
  go_enter Try.func46, Try.ntmps46
  go_wp2_with fail
  go_loop [5] (fun i => ∃ k : Nat, i = .int .i64 (k : Int) ∧ k ≤ n ∧ ∀ j, j < k → L.getD j 0 ≠ c) (fun i => n - (intOf i).toNat)
  case atStart => exact ⟨0, rfl, Nat.zero_le _, fun j h => by omega⟩
  case round =>
    obtain ⟨k, rfl, hk, hne⟩ := hrel
    have HNE := Lib.hid hne
    clear hne
    by_cases hlt : k < n
    · obtain ⟨b, off, rfl, hb, hc⟩ := HI.out.at k hlt
      obtain ⟨x, hx⟩ : ∃ x, L.getD k 0 = x := ⟨_, rfl⟩
      rw [hx] at hc
      have HX := Lib.hid hx
      clear hx
      by_cases hxc : x = c
      · subst hxc
        go_wp2_with fail
        go_ret
        exact ⟨ret_bool (inG_yes (by omega) HX.out).symm, rfl⟩
      · have hxb : (x == c) = false := by simpa using hxc
        have HXC := Lib.hid hxc
        clear hxc
        go_wp2_with fail
        go_round
        case rel => exact ⟨k + 1, by go_num, by omega, fun j hj => by
          rcases Nat.lt_succ_iff_lt_or_eq.1 hj with h1 | rfl
          · exact HNE.out j h1
          · rw [HX.out]; exact HXC.out⟩
        case measure => simp [intOf]; omega
    · obtain rfl : k = n := by omega
      go_wp2_with fail
      go_ret
      exact ⟨ret_bool (inG_no (fun j hj => HNE.out j (by omega))).symm, rfl⟩
theorem lawsHasV (A : Option Addr) (n cap B : Nat) (L : List Int) (c : Int) (b : Bool) (hb : inG L c = b) (w : World) (h : IntAt w B A n L) (hn : n ≤ 1000000000) :
    Calls Try.prog 46 #[.slice A n cap, .int .i64 c] w fun e w' => e = .returned (.bool b) ∧ w = w' := hb ▸ lawsHas A n cap B L c w h hn
end Go.Proofs.Ytecaehkckamhkaa
end

section
namespace Go.Proofs.Ytecaehkckamhkaa
open Go.ChangeShapes Go.WideShapes Go.ChangeAt Go.RowKit
set_option linter.unusedVariables false

/-- The drawn grid, the table, the mesh and the table's list are as they were. -/
def StandAt (W H : Int) (A2 : Option Addr) (c2 : Nat) (P : List Int) (w : World) (b0 b1 b2 : Nat) (wr : World) : Prop :=
  Blk wr b0 32 #[.int .i64 W, .int .i64 H] ∧ Blk wr b1 36 #[.slice A2 P.length c2] ∧ Blk wr b2 34 #[.int .i64 W, .int .i64 H, .slice none 0 0] ∧
  IntAt wr wr.heap.size A2 P.length P ∧ Below w.heap.size w wr
section
variable {W H : Int} {A2 : Option Addr} {c2 : Nat} {P : List Int} {w wr wr' : World} {b0 b1 b2 : Nat}
theorem StandAt.gb (h : StandAt W H A2 c2 P w b0 b1 b2 wr) (hg : wr.grownBy wr' none) : StandAt W H A2 c2 P w b0 b1 b2 wr' :=
  ⟨h.1.grown hg (by simp), h.2.1.grown hg (by simp), h.2.2.1.grown hg (by simp), (h.2.2.2.1.none (Nat.le_refl _) hg).more hg.size, below_gb h.2.2.2.2 (Nat.le_refl _) hg⟩
theorem StandAt.row (h : StandAt W H A2 c2 P w b0 b1 b2 wr) : IntAt wr wr.heap.size A2 P.length P := h.2.2.2.1
theorem StandAt.cells (h : StandAt W H A2 c2 P w b0 b1 b2 wr) : wr.cell? ⟨b0, 0, none⟩ = some (.int .i64 W) ∧ wr.cell? ⟨b0, 1, none⟩ = some (.int .i64 H) ∧ wr.cell? ⟨b1, 0, none⟩ = some (.slice A2 P.length c2) ∧ wr.cell? ⟨b2, 0, none⟩ = some (.int .i64 W) ∧ wr.cell? ⟨b2, 1, none⟩ = some (.int .i64 H) ∧ wr.cell? ⟨b2, 2, none⟩ = some (.slice none 0 0) :=
  ⟨h.1.cell 0, h.1.cell 1, h.2.1.cell 0, h.2.2.1.cell 0, h.2.2.1.cell 1, h.2.2.1.cell 2⟩
end

theorem wfl_nil : WfL [] := fun x h => by cases h
end Go.Proofs.Ytecaehkckamhkaa
end

section
namespace Go.Proofs.Ytecaehkckamhkaa
open Go.ChangeShapes Go.WideShapes Go.ChangeAt Go.RowKit
set_option linter.unusedVariables false
set_option maxRecDepth 20000

/-- The grid, the table and the mesh, with the table's turns and those of the rule. -/
structure TurL (W H : Int) (A2 : Option Addr) (c2 : Nat) (P R M : List Int) (w : World) (b0 b1 b2 N : Nat) (v8 v9 : Value) (wr : World) : Prop where
  st : StandAt W H A2 c2 P w b0 b1 b2 wr
  r8 : wr.ownsRow w.heap.size 3 1 v8 N (intsV R)
  r9 : wr.ownsRow w.heap.size 3 1 v9 M.length (intsV M)
theorem TurL.gb {W H : Int} {A2 : Option Addr} {c2 : Nat} {P R M : List Int} {w wr wr' : World} {b0 b1 b2 N : Nat} {v8 v9 : Value} (h : TurL W H A2 c2 P R M w b0 b1 b2 N v8 v9 wr) (hg : wr.grownBy wr' none) : TurL W H A2 c2 P R M w b0 b1 b2 N v8 v9 wr' :=
  ⟨h.st.gb hg, own_none h.r8 hg, own_none h.r9 hg⟩

set_option maxHeartbeats 1600000 in
theorem walk_FnTurns (A : Option Addr) (n cap : Nat) (w : World) (hr : ByteRow w w.heap.size A n) :
    Calls Try.prog 10 #[.slice A n cap] w fun e w' => e = .returned (.bool true) ∧ Below w.heap.size w w' := by
  by_cases hbig : 1048576 < n
  · go_enter Try.func10, Try.ntmps10
    go_wp2_with fail
    refine (lawsBig A n cap _).mono ?_
    rintro e w1 ⟨rfl, rfl⟩
    rw [decide_eq_true hbig]
    go_wp2_with fail
    go_ret
    exact ⟨rfl, Below.refl _ _⟩
  · have HR := Lib.hid hr
    have hn : n ≤ 1048576 := by omega
    clear hr
    go_enter Try.func10, Try.ntmps10
    go_wp2_with fail
    refine (lawsBig A n cap _).mono ?_
    rintro e w1 ⟨rfl, rfl⟩
    rw [decide_eq_false hbig]
    go_wp2_with fail
    refine (drawGrid A n cap _ HR.out hn).mono ?_
    rintro e w1 ⟨W, H, rfl, hok, hb⟩
    have HB1 := Lib.hid (hb.alloc hb.size (.cells #[.int .i64 W, .int .i64 H] 32))
    have K1 := Lib.hid (Blk.new w1 32 #[.int .i64 W, .int .i64 H])
    have HRW := Lib.hid (show ByteRow (w1.alloc (.cells #[.int .i64 W, .int .i64 H] 32)) (w1.alloc (.cells #[.int .i64 W, .int .i64 H] 32)).heap.size A n from
      (HR.out.keep fun p hp => World.cell?_of_block (HB1.out.block p.block hp)).more HB1.out.size)
    clear hb
    go_wp2_with fail
    refine (drawRule A n cap _ HRW.out hn).mono ?_
    rintro e w2 ⟨r, rfl, hr1, hr4, hb2⟩
    have K2 := Lib.hid (K1.out.below hb2 K1.out.lt)
    have HB2 := Lib.hid (HB1.out.trans (hb2.mono HB1.out.size))
    obtain ⟨b0, hb0⟩ : ∃ b, w1.heap.size = b := ⟨_, rfl⟩
    rw [hb0] at K2
    have a0 : w2.cell? ⟨b0, 0, none⟩ = some (.int .i64 W) := K2.out.cell 0
    have a1 : w2.cell? ⟨b0, 1, none⟩ = some (.int .i64 H) := K2.out.cell 1
    have HT := Lib.hid (std_turn hok hr1 hr4)
    have hal := std_allows hok hr1 hr4
    have hso : stdOk W H r = true := by rw [stdOk, hok]; simp [hr1, hr4]
    have hsr : stdRes W H r = stdTab W H r := by rw [stdRes, hso]; rfl
    have hpl := stdRes_length W H r
    have hrl := turnsG_len (W := W) (H := H) (L := []) (P := stdTab W H r)
    have hml := ruleL_len r
    obtain ⟨P, hP⟩ : ∃ P, stdTab W H r = P := ⟨_, rfl⟩
    have HST := Lib.hid (fun w => show Calls Try.prog 32 #[.agg #[.int .i64 W, .int .i64 H], .int .i64 r] w (RetTab P true w) from hP ▸ hsr ▸ hso ▸ implStdTab W H r w)
    rw [hsr, hP] at hpl
    rw [hP] at hrl HT hal
    obtain ⟨R, hR⟩ : ∃ R, turnsG W H [] P = R := ⟨_, rfl⟩
    obtain ⟨M, hM⟩ : ∃ M, ruleL r = M := ⟨_, rfl⟩
    rw [hR] at hrl HT
    rw [hM] at HT hal hml
    have CT := Lib.hid (fun A2 c2 w h2 => show Calls Try.prog 44 #[.agg #[.int .i64 W, .int .i64 H, .slice none 0 0], .agg #[.slice A2 P.length c2]] w (NewI R w) from hR ▸ implTurnsOf W H none A2 0 0 P.length c2 [] P wfl_nil w (IntAt.nil _ _ _) h2 (by omega) (by omega))
    have CM := Lib.hid (fun w => show Calls Try.prog 45 #[.int .i64 r] w (NewI M w) from hM ▸ implTurnsOfRule r w)
    have CA := Lib.hid (fun A2 c2 A3 c3 w h2 h3 => show Calls Try.prog 49 #[.agg #[.int .i64 W, .int .i64 H, .slice none 0 0], .agg #[.slice A2 P.length c2], .slice A3 M.length c3] w (RetB true w) from hal ▸ implAllows W H none A2 A3 0 0 P.length c2 M.length c3 [] P M wfl_nil w (IntAt.nil _ _ _) h2 h3 (by omega) (by omega) (by omega))
    clear hok hr1 hr4 hb2 hal hso hsr hP hR hM
    go_wp2_with fail
    (try rw [hb0])
    clear hb0
    refine (HST.out _).mono ?_
    rintro e w3 ⟨v, rfl, o3, b3⟩
    obtain ⟨A2, c2, rfl, _⟩ := own_form o3
    have hk3 := (K2.out.below b3 K2.out.lt).alloc (.cells #[.slice A2 P.length c2] 36)
    have a2 : (w3.alloc (.cells #[.slice A2 P.length c2] 36)).cell? ⟨b0, 0, none⟩ = some (.int .i64 W) := hk3.cell 0
    have a3 : (w3.alloc (.cells #[.slice A2 P.length c2] 36)).cell? ⟨b0, 1, none⟩ = some (.int .i64 H) := hk3.cell 1
    have hb1 := Blk.new (w3.alloc (.cells #[.slice A2 P.length c2] 36)) 34 #[.int .i64 W, .int .i64 H, .slice none 0 0]
    rw [alloc_size] at hb1
    have LA := Lib.hid (show StandAt W H A2 c2 P w b0 w3.heap.size (w3.heap.size + 1) ((w3.alloc (.cells #[.slice A2 P.length c2] 36)).alloc (.cells #[.int .i64 W, .int .i64 H, .slice none 0 0] 34)) from
      ⟨hk3.alloc _, (Blk.new w3 _ _).alloc _, hb1, ((intAt_own o3 rfl (Nat.le_refl _)).none (Nat.le_refl _) (gb_alloc (gb_alloc (gb_refl w3 none) _) _)).more (by rw [alloc_size, alloc_size]; omega),
        ((HB2.out.trans (b3.mono HB2.out.size)).alloc (HB2.out.trans (b3.mono HB2.out.size)).size _).alloc (by rw [alloc_size]; have := (HB2.out.trans (b3.mono HB2.out.size)).size; omega) _⟩)
    clear hb1 hk3 o3 b3 a0 a1
    go_wp2_with fail
    obtain ⟨w4, hw4⟩ : ∃ x, (w3.alloc (.cells #[.slice A2 P.length c2] 36)).alloc (.cells #[.int .i64 W, .int .i64 H, .slice none 0 0] 34) = x := ⟨_, rfl⟩
    rw [hw4] at LA
    (try rw [hw4])
    obtain ⟨b1, hb1⟩ : ∃ b, w3.heap.size = b := ⟨_, rfl⟩
    rw [hb1] at LA
    (try rw [hb1])
    obtain ⟨b2, hb2⟩ : ∃ b, b1 + 1 = b := ⟨_, rfl⟩
    rw [hb2] at LA
    (try rw [hb2])
    clear hw4 hb1 hb2 a2 a3
    refine (CT.out _ _ _ LA.out.row).mono ?_
    rintro e w5 ⟨v8, rfl, o5, b5⟩
    have L5 := Lib.hid (LA.out.gb (gb_of_below b5 none))
    have O5 := Lib.hid (own_less o5 LA.out.2.2.2.2.size)
    obtain ⟨A8, c8, rfl, h8⟩ := own_form o5
    have H8 := Lib.hid h8
    clear o5 b5 h8
    go_wp2_with fail
    refine (CM.out _).mono ?_
    rintro e w6 ⟨v9, rfl, o6, b6⟩
    obtain ⟨A9, c9, rfl, _⟩ := own_form o6
    have X6 := Lib.hid (show TurL W H A2 c2 P R M w b0 b1 b2 R.length (.slice A8 R.length c8) (.slice A9 M.length c9) w6 from
      ⟨L5.out.gb (gb_of_below b6 none), own_below O5.out (b6), own_less o6 L5.out.2.2.2.2.size⟩)
    obtain ⟨N, hN⟩ : ∃ N, R.length = N := ⟨_, rfl⟩
    rw [hN] at hrl H8 X6
    have HN := Lib.hid hN
    clear o6 b6
    go_wp2_with fail
    (try rw [hN])
    clear hN
    go_loopw [10] (fun i wr => ∃ j : Nat, i = .int .i64 (j : Int) ∧ j ≤ N ∧ TurL W H A2 c2 P R M w b0 b1 b2 N (.slice A8 N c8) (.slice A9 M.length c9) wr) (fun i _ => 17 - (Go.RowKit.intOf i).toNat)
    case atStart => exact ⟨0, rfl, Nat.zero_le _, X6.out⟩
    case round =>
      obtain ⟨j, rfl, hj, hx⟩ := hrel
      have X7 := Lib.hid hx
      clear hx
      by_cases hlt : j < N
      · have hli : (j : Int) < (N : Int) := by omega
        obtain ⟨gv, hgv⟩ := H8.out (by omega)
        subst hgv
        obtain ⟨x, hx⟩ : ∃ z, R.getD j 0 = z := ⟨_, rfl⟩
        have hxe : R[j]? = some x := by rw [← hx, List.getD, List.getElem?_eq_getElem (by rw [HN.out]; omega)]; rfl
        obtain ⟨t1, t2, t3⟩ := HT.out x (List.mem_of_getElem? hxe)
        have c1 := ints_cell X7.out.r8 j x hxe HN.out
        obtain ⟨s, hs⟩ : ∃ s, nameT x = s := ⟨_, rfl⟩
        have CH := Lib.hid (fun w h => lawsHasV A9 M.length c9 (w.heap.size) M x true t1 w h (by omega))
        have CR := Lib.hid (fun w => show Calls Try.prog 47 #[.int .i64 x] w (RetB false w) from t2 ▸ implIsReversal x w)
        have CN := Lib.hid (fun w => show Calls Try.prog 48 #[.int .i64 x] w (RetS s w) from hs ▸ implTurnName x w)
        rw [hs] at t3
        clear hx hxe t1 t2 hs
        go_wp2_with fail
        refine (CH.out _ (intAt_own X7.out.r9 rfl (Nat.le_refl _))).mono ?_
        rintro e w7 ⟨rfl, rfl⟩
        go_wp2_with fail
        refine (CR.out _).mono ?_
        rintro e w8 ⟨rfl, hg8⟩
        have X8 := Lib.hid (X7.out.gb hg8)
        have c2' : w8.cell? ⟨gv, j, none⟩ = some (.int .i64 x) := hg8.cell c1 (by simp)
        clear hg8 c1
        go_wp2_with fail
        refine (CN.out _).mono ?_
        rintro e w9 ⟨rfl, hg9⟩
        have X9 := Lib.hid (X8.out.gb hg9)
        clear hg9 c2'
        go_wp2_with fail
        go_roundw
        case rel => exact ⟨j + 1, by go_num, by omega, X9.out⟩
        case measure => simp [Go.RowKit.intOf]; omega
      · obtain rfl : j = N := by omega
        obtain ⟨g0, g1, g2, g3, g4, g5⟩ := X7.out.st.cells
        go_wp2_with fail
        refine (CA.out _ _ _ _ _ X7.out.st.row (intAt_own X7.out.r9 rfl (Nat.le_refl _))).mono ?_
        rintro e w8 ⟨rfl, hg8⟩
        have X8 := Lib.hid (X7.out.gb hg8)
        clear hg8 g0 g1 g2 g3 g4 g5
        go_wp2_with fail
        go_ret
        exact ⟨rfl, X8.out.st.2.2.2.2⟩
end Go.Proofs.Ytecaehkckamhkaa
end

section
namespace Go.Proofs.Ytecaehkckamhkaa.fnTurns
open Go.ChangeShapes Go.WideShapes Go.ChangeAt Go.RowKit
open Go.ChangeMaps (open_string shut_string)
set_option linter.unusedVariables false

theorem own : ownKnob Try.prog.godebug = none := by kernel_rfl
theorem laidOut : laidOutB Try.prog = true := by kernel_rfl

set_option maxRecDepth 100000 in
theorem lifted (os : Os) (started : os.Started) (H : Type) (enc : TypeId × Value → H) :
    ReturnsInHanded {} Try.checked os 10 .any (Rows.fnTurnsSpec.pre6 enc Try.prog Try.f10 Rows.fnTurnsRow.domain false) (Rows.fnTurnsSpec.post enc Try.prog Try.f10 false true false false) := by
  refine returnsInHanded_of_change (C := Try.checked) own started (by kernel_rfl) Try.func10
    (ChangeSpec.witness6 (enc := enc) (C := Try.checked) false ⟨#[], #[.slice none 0 0], []⟩ 8 (by kernel_rfl) (by kernel_rfl) (by kernel_rfl) (by kernel_rfl)) ?_
  intro W base args ds gs before hval0 hW hcnd _
  have hval : ∀ (j : Nat) t v, Try.f10.params[j]? = some t → args[j]? = some v → Value.okWide Try.prog W .any base t v := hval0
  have hW' := hW
  obtain ⟨p, q, hA0, hV, rfl, hfz, hnd⟩ := hW
  have hA : DataW.TrodAll enc Try.prog W 0 (fun _ => true) true Try.f10.params.toList args.toList ds p := hA0
  rw [Try.params10] at hA hval
  obtain ⟨v0, vs0, d0, ds0, p0, q0, hargs, rfl, rfl, h0, r0⟩ := trodAll_cons hA
  obtain ⟨rfl, rfl, rfl⟩ := trodAll_nil r0
  obtain rfl : args = #[v0] := by cases args; simp_all
  obtain ⟨rfl, rfl⟩ := trodVars_none hV
  have k0 := h0
  have lt0 : ∀ x ∈ p0, x.block < W.heap.size := by obtain ⟨m, hm⟩ := k0; exact DataW.trod_lt m _ _ _ hm
  obtain ⟨a0, len0, cap0, rfl⟩ := okWide_slice Try.underlying42 (hval 0 42 v0 rfl rfl)
  have w0 : ByteRow W W.heap.size a0 len0 := by
    obtain ⟨fuel, hf⟩ := h0
    rcases open_ints Try.underlying42 Try.underlying5 (by kernel_rfl) hf with ⟨hcs, _⟩ | ⟨x, l, c, zs, hcs, _, hl, hm, hz, _, hcell, hwz⟩
    · simp [Value.cells] at hcs
      obtain ⟨rfl, rfl, rfl⟩ := hcs
      exact fun h => absurd h (by omega)
    · simp [Value.cells] at hcs
      obtain ⟨rfl, rfl, rfl⟩ := hcs
      exact byteRow_of x zs (by simp at hz; omega) hcell hwz
  clear hA0 hval0
  refine (walk_FnTurns a0 len0 cap0 W w0).mono fun e W' ⟨he, bel⟩ => ?_
  subst he
  exact ⟨_, rfl, _, _, _, [], _, [], hW', trodAll_mk1 (shut_bool Try.underlying4 _), (trodAll_cons_mk (Below.trod laidOut (by kernel_rfl) (of_decide_eq_true (by kernel_rfl)) k0 bel lt0) trodAll_mk0), rfl, bel.frame _, fun h => by cases h⟩

theorem over : Rows.fnTurnsRow.holds Try.pinned (OpenSpec.ofChange Rows.fnTurnsSpec) :=
  OpenClaim.holds_of_wide 10 Try.f10 rfl rfl rfl rfl rfl rfl rfl ⟨rfl, rfl, rfl, rfl, rfl⟩ rfl rfl rfl rfl rfl (by kernel_rfl) Try.func10 (by kernel_rfl)
    (of_decide_eq_true (by kernel_rfl)) (by unfold Func.isWrapper; first | (rw [if_pos (by decide +kernel)]; kernel_rfl) | (rw [if_neg (by decide +kernel)]; exact ⟨rfl, rfl⟩))
    (fun os started H enc _ => lifted os started H enc)

theorem proved : Rows.FnTurnsSaid := over
#print axioms proved
end Go.Proofs.Ytecaehkckamhkaa.fnTurns
end
