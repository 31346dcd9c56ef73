/- What is proved here: what the program's table of ports holds for a mesh and a table of the right size, and what it is otherwise; only new blocks are written. -/
import Derived.Test.YtpcmkilaapjaaaaArr
import Derived.Test.YtpcmkilaapjaaaaMeshOkI
namespace Go.Proofs.Ytpcmkilaapjaaaa
open Go.ChangeShapes Go.WideShapes Go.ChangeAt Go.RowKit
set_option linter.unusedVariables false

/-- A mesh, a table and a square as blocks. -/
def thrB (W H : Int) (A A2 : Option Addr) (n cap n2 c2 : Nat) (w : World) : World :=
  ((w.alloc (.cells (meshC W H A n cap) 36)).alloc (.cells #[.slice A2 n2 c2] 38)).alloc (.cells (cellsX zerosX) 76)
section
variable {W H : Int} {A A2 : Option Addr} {n cap n2 c2 : Nat} {w wr : World}
theorem thrB_size : (thrB W H A A2 n cap n2 c2 w).heap.size = w.heap.size + 3 := by unfold thrB; rw [alloc_size, alloc_size, alloc_size]
theorem thrB_gb : w.grownBy (thrB W H A A2 n cap n2 c2 w) none := gb_alloc (gb_alloc (gb_alloc (gb_refl _ _) _) _) _
theorem thrB_mesh : Blk (thrB W H A A2 n cap n2 c2 w) w.heap.size 36 (meshC W H A n cap) := ((Blk.new w 36 (meshC W H A n cap)).alloc _).alloc _
theorem thrB_table : Blk (thrB W H A A2 n cap n2 c2 w) (w.heap.size + 1) 38 #[.slice A2 n2 c2] := by
  have := Blk.new (w.alloc (.cells (meshC W H A n cap) 36)) 38 #[.slice A2 n2 c2]
  rw [alloc_size] at this
  exact this.alloc _
theorem thrB_square : Blk (thrB W H A A2 n cap n2 c2 w) (w.heap.size + 2) 76 (cellsX (zerosX)) := by
  have := Blk.new ((w.alloc (.cells (meshC W H A n cap) 36)).alloc (.cells #[.slice A2 n2 c2] 38)) 76 (cellsX zerosX)
  rw [alloc_size, alloc_size] at this
  exact this
end

theorem implPortsNo (W H : Int) (A A2 : Option Addr) (n cap n2 c2 : Nat) (L P : List Int) (hL : WfL L) (w : World) (h : IntAt w w.heap.size A n L) (h2 : IntAt w w.heap.size A2 n2 P) (hn : n ≤ 1000000000) (hn2 : n2 ≤ 1000000000)
    (hs : sizedG W H L P = false) :
    Calls Try.prog 45 #[.agg #[.int .i64 W, .int .i64 H, .slice A n cap], .agg #[.slice A2 n2 c2]] w (RetX (zerosX) false w) := by
  have hp := h2.1
  have HI := Lib.hid (h.none (Nat.le_refl _) (thrB_gb (W := W) (H := H) (A := A) (A2 := A2) (n := n) (cap := cap) (n2 := n2) (c2 := c2)))
  clear h h2
  obtain ⟨k, hk⟩ : ∃ k, countG W H = k := ⟨_, rfl⟩
  obtain ⟨hk0, hk1⟩ := countG_le W H
  rw [hk] at hk0 hk1
  have HN := Lib.hid (fun w => show Calls Try.prog 43 #[.agg #[.int .i64 W, .int .i64 H]] w (RetI k none w) from hk ▸ implNodeCount W H w)
  have TM := Lib.hid (thrB_mesh (W := W) (H := H) (A := A) (A2 := A2) (n := n) (cap := cap) (n2 := n2) (c2 := c2) (w := w))
  have TT := Lib.hid (thrB_table (W := W) (H := H) (A := A) (A2 := A2) (n := n) (cap := cap) (n2 := n2) (c2 := c2) (w := w))
  have TS := Lib.hid (thrB_square (W := W) (H := H) (A := A) (A2 := A2) (n := n) (cap := cap) (n2 := n2) (c2 := c2) (w := w))
  have TG := Lib.hid (thrB_gb (W := W) (H := H) (A := A) (A2 := A2) (n := n) (cap := cap) (n2 := n2) (c2 := c2) (w := w))
  have TZ := Lib.hid (thrB_size (W := W) (H := H) (A := A) (A2 := A2) (n := n) (cap := cap) (n2 := n2) (c2 := c2) (w := w))
  cases hm : meshG W H L with
  | false =>
    have HK := Lib.hid (fun w h => implMeshOkV W H A n cap L false hm hL w h hn)
    clear hm hL hs hk
    go_enter Try.func45, Try.ntmps45
    go_wp2_with fail
    refine (HN.out _).mono ?_
    rintro e w1 ⟨rfl, hg⟩
    rw [zero_cells] at hg
    have hg1 : (thrB W H A A2 n cap n2 c2 w).grownBy w1 none := hg
    have hbk := TM.out.grown hg1 (by simp)
    have a0 : w1.cell? ⟨w.heap.size, 0, none⟩ = some (.int .i64 W) := hbk.cell 0
    have a1 : w1.cell? ⟨w.heap.size, 1, none⟩ = some (.int .i64 H) := hbk.cell 1
    have a2 : w1.cell? ⟨w.heap.size, 2, none⟩ = some (.slice A n cap) := hbk.cell 2
    have hi := (HI.out.none (by rw [TZ.out]; omega) hg1).more (B' := w1.heap.size) (gb_trans TG.out hg1).size
    have HG := Lib.hid hg1
    clear hg hg1 hbk
    go_wp2_with fail
    refine (HK.out _ hi).mono ?_
    rintro e w2 ⟨rfl, hg2⟩
    have HG2 := Lib.hid (gb_trans HG.out hg2)
    have HSq := Lib.hid (TS.out.grown HG2.out (by simp))
    clear hg2 hi a0 a1 a2
    go_wp2_with (refine wpList_storeX rfl _ _ rfl (w.heap.size + 1 + 1) zerosX zerosX rfl (congrArg Value.agg zero_cells) HSq.out zerosX_length zerosX_length ?_; intro w3 hb3 hg3; have HB3 := Lib.hid hb3; have HG3 := Lib.hid hg3; clear hb3 hg3)
    refine bodyPost_ret (v := .tuple #[.agg (cellsX zerosX), .bool false]) ?_ rfl ⟨rfl, gb_new (gb_trans TG.out HG2.out) HG3.out (by omega)⟩
    rw [results_cell_tmp rfl]
    simp [asAddr, Result.andThen, load_square HB3.out zerosX_length]
  | true =>
    have hsq : ¬ (n2 : Int) = k * k := fun e => by
      have : sizedG W H L P = true := by simp [sizedG, hm, hk, hp, e]
      rw [hs] at this; cases this
    have hkk0 : 0 ≤ k * k := Int.mul_nonneg hk0 hk0
    have hkk1 : k * k ≤ 256 := Int.le_trans (Int.mul_le_mul hk1 hk1 hk0 (by omega)) (by omega)
    obtain ⟨q, hq⟩ : ∃ q, k * k = q := ⟨_, rfl⟩
    rw [hq] at hkk0 hkk1 hsq
    have e1 : wrap64 (k * k) = q := by rw [hq]; exact IntWalk.wrap64_in _ (by omega)
    have hb : ((n2 : Int) != q) = true := by simpa using hsq
    have HK := Lib.hid (fun w h => implMeshOkV W H A n cap L true hm hL w h hn)
    clear hm hL hs hk hq
    go_enter Try.func45, Try.ntmps45
    go_wp2_with fail
    refine (HN.out _).mono ?_
    rintro e w1 ⟨rfl, hg⟩
    rw [zero_cells] at hg
    have hg1 : (thrB W H A A2 n cap n2 c2 w).grownBy w1 none := hg
    have hbk := TM.out.grown hg1 (by simp)
    have a0 : w1.cell? ⟨w.heap.size, 0, none⟩ = some (.int .i64 W) := hbk.cell 0
    have a1 : w1.cell? ⟨w.heap.size, 1, none⟩ = some (.int .i64 H) := hbk.cell 1
    have a2 : w1.cell? ⟨w.heap.size, 2, none⟩ = some (.slice A n cap) := hbk.cell 2
    have hi := (HI.out.none (by rw [TZ.out]; omega) hg1).more (B' := w1.heap.size) (gb_trans TG.out hg1).size
    have HG := Lib.hid hg1
    clear hg hg1 hbk
    go_wp2_with fail
    refine (HK.out _ hi).mono ?_
    rintro e w2 ⟨rfl, hg2⟩
    have HG2 := Lib.hid (gb_trans HG.out hg2)
    have HSq := Lib.hid (TS.out.grown HG2.out (by simp))
    have b0 : w2.cell? ⟨w.heap.size + 1, 0, none⟩ = some (.slice A2 n2 c2) := (TT.out.grown HG2.out (by simp)).cell 0
    clear hg2 hi a0 a1 a2
    go_wp2_with (refine wpList_storeX rfl _ _ rfl (w.heap.size + 1 + 1) zerosX zerosX rfl (congrArg Value.agg zero_cells) HSq.out zerosX_length zerosX_length ?_; intro w3 hb3 hg3; have HB3 := Lib.hid hb3; have HG3 := Lib.hid hg3; clear hb3 hg3)
    refine bodyPost_ret (v := .tuple #[.agg (cellsX zerosX), .bool false]) ?_ rfl ⟨rfl, gb_new (gb_trans TG.out HG2.out) HG3.out (by omega)⟩
    rw [results_cell_tmp rfl]
    simp [asAddr, Result.andThen, load_square HB3.out zerosX_length]

/-- The square after j entries, in a block of the call's own. -/
def PortsAt (W H : Int) (A A2 : Option Addr) (n cap n2 c2 : Nat) (P : List Int) (w : World) (g j : Nat) (wr : World) : Prop :=
  Blk wr g 76 (cellsX (portsX W H P j)) ∧ (thrB W H A A2 n cap n2 c2 w).grownBy wr none

theorem implPortsYes (W H : Int) (A A2 : Option Addr) (n cap n2 c2 : Nat) (L P : List Int) (hL : WfL L) (w : World) (h : IntAt w w.heap.size A n L) (h2 : IntAt w w.heap.size A2 n2 P) (hn : n ≤ 1000000000) (hn2 : n2 ≤ 1000000000)
    (hs : sizedG W H L P = true) :
    Calls Try.prog 45 #[.agg #[.int .i64 W, .int .i64 H, .slice A n cap], .agg #[.slice A2 n2 c2]] w (RetX (portsX W H P P.length) true w) := by
  have hp := h2.1
  have HI := Lib.hid (h.none (Nat.le_refl _) (thrB_gb (W := W) (H := H) (A := A) (A2 := A2) (n := n) (cap := cap) (n2 := n2) (c2 := c2)))
  have HP := Lib.hid (h2.none (Nat.le_refl _) (thrB_gb (W := W) (H := H) (A := A) (A2 := A2) (n := n) (cap := cap) (n2 := n2) (c2 := c2)))
  clear h h2
  obtain ⟨k, hk⟩ : ∃ k, cntN W H = k := ⟨_, rfl⟩
  have hki := cntN_int W H
  have hk1 := cntN_le W H
  rw [hk] at hki hk1
  have hsz := (sizedG_mesh hs).2
  have hm := (sizedG_mesh hs).1
  rw [hp, ← hki] at hsz
  have HN := Lib.hid (fun w => show Calls Try.prog 43 #[.agg #[.int .i64 W, .int .i64 H]] w (RetI (k : Int) none w) from hki ▸ implNodeCount W H w)
  have HK := Lib.hid (fun w h => implMeshOkV W H A n cap L true hm hL w h hn)
  have TM := Lib.hid (thrB_mesh (W := W) (H := H) (A := A) (A2 := A2) (n := n) (cap := cap) (n2 := n2) (c2 := c2) (w := w))
  have TT := Lib.hid (thrB_table (W := W) (H := H) (A := A) (A2 := A2) (n := n) (cap := cap) (n2 := n2) (c2 := c2) (w := w))
  have TS := Lib.hid (thrB_square (W := W) (H := H) (A := A) (A2 := A2) (n := n) (cap := cap) (n2 := n2) (c2 := c2) (w := w))
  have TG := Lib.hid (thrB_gb (W := W) (H := H) (A := A) (A2 := A2) (n := n) (cap := cap) (n2 := n2) (c2 := c2) (w := w))
  have TZ := Lib.hid (thrB_size (W := W) (H := H) (A := A) (A2 := A2) (n := n) (cap := cap) (n2 := n2) (c2 := c2) (w := w))
  have hkk1 : (k : Int) * k ≤ 256 := Int.le_trans (Int.mul_le_mul (Int.ofNat_le.2 hk1) (Int.ofNat_le.2 hk1) (by omega) (by omega)) (by omega)
  have hn256 : n2 ≤ 256 := by omega
  have e1 : wrap64 ((k : Int) * k) = (n2 : Int) := by rw [← hsz]; exact IntWalk.wrap64_in _ (by omega)
  have hb : ((n2 : Int) != (n2 : Int)) = false := by simp
  have HSZ := Lib.hid (show n2 = k * k by exact_mod_cast hsz)
  have HKK := Lib.hid hk
  have HPL := Lib.hid hp
  clear hm hL hs hk hki hsz hkk1 hp
  go_enter Try.func45, Try.ntmps45
  go_wp2_with fail
  refine (HN.out _).mono ?_
  rintro e w1 ⟨rfl, hg⟩
  rw [zero_cells] at hg
  have hg1 : (thrB W H A A2 n cap n2 c2 w).grownBy w1 none := hg
  have hbk := TM.out.grown hg1 (by simp)
  have a0 : w1.cell? ⟨w.heap.size, 0, none⟩ = some (.int .i64 W) := hbk.cell 0
  have a1 : w1.cell? ⟨w.heap.size, 1, none⟩ = some (.int .i64 H) := hbk.cell 1
  have a2 : w1.cell? ⟨w.heap.size, 2, none⟩ = some (.slice A n cap) := hbk.cell 2
  have hi := (HI.out.none (by rw [TZ.out]; omega) hg1).more (B' := w1.heap.size) (gb_trans TG.out hg1).size
  have HG := Lib.hid hg1
  clear hg hg1 hbk
  go_wp2_with fail
  refine (HK.out _ hi).mono ?_
  rintro e w2 ⟨rfl, hg2⟩
  have HG2 := Lib.hid (gb_trans HG.out hg2)
  have HSq := Lib.hid (TS.out.grown HG2.out (by simp))
  have b0 : w2.cell? ⟨w.heap.size + 1, 0, none⟩ = some (.slice A2 n2 c2) := (TT.out.grown HG2.out (by simp)).cell 0
  have b1 : (w2.alloc (.cells Try.zeroCells76 76)).cell? ⟨w.heap.size + 1, 0, none⟩ = some (.slice A2 n2 c2) := ((TT.out.grown HG2.out (by simp)).alloc _).cell 0
  have HB2 := Lib.hid (show w.heap.size + 3 ≤ w2.heap.size by have := HG2.out.size; rw [TZ.out] at this; exact this)
  clear hg2 hi a0 a1 a2
  go_wp2_with fail
  obtain ⟨g, hg⟩ : ∃ g, w2.heap.size = g := ⟨_, rfl⟩
  rw [zero_cells]
  have HX := Lib.hid (show PortsAt W H A A2 n cap n2 c2 P w g 0 (w2.alloc (.cells (cellsX zerosX) 76)) from ⟨hg ▸ Blk.new w2 76 (cellsX zerosX), gb_alloc HG2.out _⟩)
  rw [hg, e1]
  have HGE := Lib.hid (show w.heap.size + 3 ≤ g by rw [← hg]; exact HB2.out)
  clear hg b0 b1 e1 hb
  go_loopw [29] (fun i wr => ∃ j : Nat, i = .int .i64 (j : Int) ∧ j ≤ n2 ∧ PortsAt W H A A2 n cap n2 c2 P w g j wr) (fun i _ => n2 - (intOf i).toNat)
  case atStart => exact ⟨0, rfl, Nat.zero_le _, HX.out⟩
  case round =>
    obtain ⟨j, rfl, hj, hblk, hgr⟩ := hrel
    have HBk := Lib.hid hblk
    have HGr := Lib.hid hgr
    clear hgr hblk
    by_cases hlt : j < n2
    · have hsz := HSZ.out
      have hk0 : 0 < k := Nat.pos_of_ne_zero fun e => by rw [e] at hsz; omega
      obtain ⟨b, off, rfl, hbB, hcell⟩ := (HP.out.none (by rw [TZ.out]; omega) HGr.out).at j hlt
      obtain ⟨p, hpp⟩ : ∃ p, P.getD j 0 = p := ⟨_, rfl⟩
      rw [hpp] at hcell
      obtain ⟨x, hx⟩ : ∃ x, j / k = x := ⟨_, rfl⟩
      obtain ⟨y, hy⟩ : ∃ y, j % k = y := ⟨_, rfl⟩
      have hx1 : x < k := by rw [← hx]; exact Nat.div_lt_of_lt_mul (by rw [← hsz]; exact hlt)
      have hy1 : y < k := by rw [← hy]; exact Nat.mod_lt _ hk0
      have d1 : Int.tdiv (j : Int) (k : Int) = (x : Int) := by rw [← hx]; rfl
      have d2 : Int.tmod (j : Int) (k : Int) = (y : Int) := by rw [← hy]; rfl
      have hx16 : (x : Int) < 16 := by omega
      have hy16 : (y : Int) < 16 := by omega
      obtain ⟨o, ho⟩ : ∃ o, (portsX W H P j).getD (16 * x + y) 0 = o := ⟨_, rfl⟩
      have c1 : wr.cell? ⟨g, x * 16 + y, none⟩ = some (.int .i64 o) := by rw [Nat.mul_comm x 16]; exact (HBk.out.cell (16 * x + y)).trans (cellsX_at (by rw [portsX, sqTo_length]; omega) ho)
      have f1 := HBk.out.frozen (x * 16 + y)
      have hb2 := HBk.out.set_ (x * 16 + y) (.int .i64 (portP p))
      rw [cellsX_set, show (portsX W H P j).set (x * 16 + y) (portP p) = portsX W H P (j + 1) by rw [portsX, portsX, sqTo, HKK.out, hx, hy, hpp, Nat.mul_comm x 16]] at hb2
      have HB2x := Lib.hid hb2
      have HG2x := Lib.hid (gb_setCell HGr.out (p := ⟨g, x * 16 + y, none⟩) (.inr (by rw [TZ.out]; exact HGE.out)) (.int .i64 (portP p)))
      clear hb2 hx hy hpp ho hsz
      by_cases hp0 : p < 0
      · rw [portP_out (.inl hp0)] at HB2x HG2x
        go_wp2_with fail
        go_region
        go_wp2_with fail
        go_roundw
        case rel => exact ⟨j + 1, by go_num, by omega, HB2x.out.drewN 1, gb_drew HG2x.out⟩
        case measure => simp [intOf]; omega
      · by_cases hp4 : 4 < p
        · rw [portP_out (.inr hp4)] at HB2x HG2x
          go_wp2_with fail
          go_region
          go_wp2_with fail
          go_roundw
          case rel => exact ⟨j + 1, by go_num, by omega, HB2x.out.drewN 1, gb_drew HG2x.out⟩
          case measure => simp [intOf]; omega
        · rw [portP_in (by omega) (by omega)] at HB2x HG2x
          go_wp2_with fail
          go_region
          go_wp2_with fail
          go_roundw
          case rel => exact ⟨j + 1, by go_num, by omega, HB2x.out.drewN 1, gb_drew HG2x.out⟩
          case measure => simp [intOf]; omega
    · obtain rfl : j = n2 := by omega
      go_wp2_with (first | (refine wpList_loadX rfl _ rfl g rfl (portsX W H P j) HBk.out (sqTo_length _ _ _) ?_) | (refine wpList_storeX rfl _ _ rfl (w.heap.size + 1 + 1) zerosX (portsX W H P j) rfl rfl ((TS.out.grown HGr.out (by simp))) zerosX_length (sqTo_length _ _ _) ?_; intro w3 hb3 hg3; have HB3 := Lib.hid hb3; have HG3 := Lib.hid hg3; clear hb3 hg3))
      refine bodyPost_ret (v := .tuple #[.agg (cellsX (portsX W H P j)), .bool true]) ?_ rfl ⟨by rw [HPL.out], gb_new (gb_trans TG.out HGr.out) HG3.out (by omega)⟩
      rw [results_cell_tmp rfl]
      simp [asAddr, Result.andThen, load_square HB3.out (sqTo_length _ _ _)]
end Go.Proofs.Ytpcmkilaapjaaaa
