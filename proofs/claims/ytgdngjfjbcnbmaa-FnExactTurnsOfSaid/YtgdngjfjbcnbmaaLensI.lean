/- What is proved here: what the program's table of the lengths of walks holds for a valid table, and what it is otherwise; only new blocks are written. -/
import Derived.Test.YtgdngjfjbcnbmaaPairI
import Derived.Test.YtgdngjfjbcnbmaaWalkI
namespace Go.Proofs.Ytgdngjfjbcnbmaa
open Go.ChangeShapes Go.WideShapes Go.ChangeAt Go.RowKit
set_option linter.unusedVariables false
set_option maxRecDepth 20000

section
variable {W H : Int} {L P : List Int}
theorem lens_next {k x y : Nat} (hk : cntN W H = k) (hy : y < k) (h : (lensX W H L P (x * k + y)).length = 256) : (lensX W H L P (x * k + y)).set (x * 16 + y) ((walkOf W H L P x y).length : Int) = lensX W H L P (x * k + (y + 1)) := by
  have hki := cntN_int W H
  rw [hk] at hki
  rw [← Nat.add_assoc, lensX, lensX, sqTo, hk, pair_div hy, pair_mod hy, Nat.mul_comm x 16]
  have := lenAt_pair (L := L) (P := P) (a := x) (b := y) (W := W) (H := H) (by omega)
  rw [hk] at this
  rw [this]
end
theorem IntAt.thrI {w : World} {W H : Int} {A A2 : Option Addr} {n cap n2 c2 : Nat} {B : Option Addr} {m : Nat} {M : List Int} (h : IntAt w w.heap.size B m M) : IntAt (thrB W H A A2 n cap n2 c2 w) (thrB W H A A2 n cap n2 c2 w).heap.size B m M :=
  (h.none (Nat.le_refl _) thrB_gb).more (by rw [thrB_size]; omega)
/-- The lengths of a valid table; zeros otherwise. -/
def lensRes (W H : Int) (L P : List Int) : List Int := if tableG W H L P then lensX W H L P (sqG W H) else zerosX
theorem lensRes_yes {W H : Int} {L P : List Int} (h : tableG W H L P = true) : lensRes W H L P = lensX W H L P (sqG W H) := if_pos h
theorem lensRes_no {W H : Int} {L P : List Int} (h : tableG W H L P = false) : lensRes W H L P = zerosX := if_neg (by simp [h])
theorem lensRes_length (W H : Int) (L P : List Int) : (lensRes W H L P).length = 256 := by
  unfold lensRes; split
  · exact sqTo_length _ _ _
  · exact zerosX_length
/-- The squares of ports and of lengths, in blocks of the call's own. -/
def LensAt (W H : Int) (A A2 : Option Addr) (n cap n2 c2 : Nat) (L P : List Int) (w : World) (g1 g2 j : Nat) (wr : World) : Prop :=
  Blk wr g1 93 (cellsX (portsX W H P P.length)) ∧ Blk wr g2 93 (cellsX (lensX W H L P j)) ∧ (thrB W H A A2 n cap n2 c2 w).grownBy wr none
theorem LensAt.more {W H : Int} {A A2 : Option Addr} {n cap n2 c2 : Nat} {L P : List Int} {w wr wr' : World} {g1 g2 j : Nat} (h : LensAt W H A A2 n cap n2 c2 L P w g1 g2 j wr) (hg : wr.grownBy wr' none) : LensAt W H A A2 n cap n2 c2 L P w g1 g2 j wr' :=
  ⟨h.1.grown hg (by simp), h.2.1.grown hg (by simp), gb_trans h.2.2 hg⟩

theorem implLengths (W H : Int) (A A2 : Option Addr) (n cap n2 c2 : Nat) (L P : List Int) (hL : WfL L) (w : World) (h : IntAt w w.heap.size A n L) (h2 : IntAt w w.heap.size A2 n2 P) (hn : n ≤ 1000000000) (hn2 : n2 ≤ 1000000000) :
    Calls Try.prog 65 #[.agg #[.int .i64 W, .int .i64 H, .slice A n cap], .agg #[.slice A2 n2 c2]] w (RetX (lensRes W H L P) (tableG W H L P) w) := by
  have HI := Lib.hid h
  have HT1 := Lib.hid (h.thrI (W := W) (H := H) (A := A) (A2 := A2) (n := n) (cap := cap) (n2 := n2) (c2 := c2))
  have HT2 := Lib.hid (h2.thrI (W := W) (H := H) (A := A) (A2 := A2) (n := n) (cap := cap) (n2 := n2) (c2 := c2))
  have TM := Lib.hid (thrB_mesh (W := W) (H := H) (A := A) (A2 := A2) (n := n) (cap := cap) (n2 := n2) (c2 := c2) (w := w))
  have TS := Lib.hid (thrB_square (W := W) (H := H) (A := A) (A2 := A2) (n := n) (cap := cap) (n2 := n2) (c2 := c2) (w := w))
  have TG := Lib.hid (thrB_gb (W := W) (H := H) (A := A) (A2 := A2) (n := n) (cap := cap) (n2 := n2) (c2 := c2) (w := w))
  have TZ := Lib.hid (thrB_size (W := W) (H := H) (A := A) (A2 := A2) (n := n) (cap := cap) (n2 := n2) (c2 := c2) (w := w))
  clear h h2
  cases hs : sizedG W H L P with
  | false =>
    have HPO := Lib.hid (fun w h h2 => implPortsNo W H A A2 n cap n2 c2 L P hL w h h2 hn hn2 hs)
    rw [lensRes_no (tableG_unsized hs), tableG_unsized hs]
    clear hs hL
    go_enter Try.func65, Try.ntmps65
    go_wp2_with fail
    rw [zero_cells]
    refine (HPO.out _ HT1.out HT2.out).mono ?_
    rintro e w1 ⟨rfl, hg⟩
    have HG1 := Lib.hid (show (thrB W H A A2 n cap n2 c2 w).grownBy w1 none from hg)
    clear hg
    go_wp2_with (first | (refine wpList_storeX rfl (.tmp 6) _ rfl w1.heap.size zerosX zerosX rfl rfl (new_square w1) zerosX_length zerosX_length ?_; intro w2 hb2 hg2; have HG2 := Lib.hid (gb_new (gb_alloc HG1.out _) hg2 HG1.out.size); clear hb2 hg2) | (refine wpList_storeX rfl (.tmp 4) _ rfl (w.heap.size + 1 + 1) zerosX zerosX rfl (congrArg Value.agg zero_cells) (TS.out.grown HG2.out (by simp)) zerosX_length zerosX_length ?_; intro w3 hb3 hg3; have HB3 := Lib.hid hb3; have HG3 := Lib.hid hg3; clear hb3 hg3))
    refine bodyPost_ret (v := .tuple #[.agg (cellsX zerosX), .bool false]) ?_ rfl ⟨rfl, gb_new (gb_trans TG.out HG2.out) HG3.out (by omega)⟩
    rw [results_cell_tmp rfl]
    simp [asAddr, Result.andThen, load_square HB3.out zerosX_length]
  | true =>
    have HPO := Lib.hid (fun w h h2 => implPortsYes W H A A2 n cap n2 c2 L P hL w h h2 hn hn2 hs)
    have HPX := Lib.hid (portsX_is hs)
    have hki := cntN_int W H
    obtain ⟨k, hk⟩ : ∃ k, cntN W H = k := ⟨_, rfl⟩
    have hk1 := cntN_le W H
    rw [hk] at hki hk1
    have HN := Lib.hid (fun w => show Calls Try.prog 41 #[.agg #[.int .i64 W, .int .i64 H]] w (RetI (k : Int) none w) from hki ▸ implNodeCount W H w)
    have HW := Lib.hid (fun (x y : Nat) (hx : x < k) (hy : y < k) w g h hb => implWalk W H A n cap L P (portsX W H P P.length) g x y hL w h hn HPX.out hb (by omega) (by omega))
    have HS := Lib.hid hs
    have HKI := Lib.hid hki
    have HKK := Lib.hid hk
    clear hs hL hki hk
    go_enter Try.func65, Try.ntmps65
    go_wp2_with fail
    rw [zero_cells]
    refine (HPO.out _ HT1.out HT2.out).mono ?_
    rintro e w1 ⟨rfl, hg⟩
    have HG1 := Lib.hid (show (thrB W H A A2 n cap n2 c2 w).grownBy w1 none from hg)
    clear hg
    go_wp2_with (refine wpList_storeX rfl (.tmp 6) _ rfl w1.heap.size zerosX (portsX W H P P.length) rfl rfl (new_square w1) zerosX_length (sqTo_length _ _ _) ?_; intro w2 hb2 hg2; have HB2 := Lib.hid hb2; have HG2 := Lib.hid (gb_new (gb_alloc HG1.out _) hg2 HG1.out.size); have a0 : (w2.alloc (.cells Try.zeroCells93 93)).cell? ⟨w.heap.size, 0, none⟩ = some (.int .i64 W) := ((TM.out.grown HG2.out (by simp)).alloc _).cell 0; have a1 : (w2.alloc (.cells Try.zeroCells93 93)).cell? ⟨w.heap.size, 1, none⟩ = some (.int .i64 H) := ((TM.out.grown HG2.out (by simp)).alloc _).cell 1; clear hb2 hg2)
    refine (HN.out _).mono ?_
    rintro e w3 ⟨rfl, hg3⟩
    have HX0 := Lib.hid (show LensAt W H A A2 n cap n2 c2 L P w w1.heap.size w2.heap.size (0 * k) w3 from
      ⟨(HB2.out.alloc _).grown hg3 (by simp), by rw [Nat.zero_mul]; exact (new_square w2).grown hg3 (by simp), gb_trans (gb_alloc HG2.out _) hg3⟩)
    have HL1 := Lib.hid (show w.heap.size + 3 ≤ w1.heap.size by have := HG1.out.size; rw [TZ.out] at this; exact this)
    have HL2 := Lib.hid (show w1.heap.size < w2.heap.size from HB2.out.lt)
    obtain ⟨g1, hg1⟩ : ∃ g, w1.heap.size = g := ⟨_, rfl⟩
    obtain ⟨g2, hg2⟩ : ∃ g, w2.heap.size = g := ⟨_, rfl⟩
    rw [hg1] at HX0 HL1 HL2
    rw [hg2] at HX0 HL2
    clear a0 a1 hg3
    go_wp2_with fail
    (try rw [hg1])
    (try rw [hg2])
    clear hg1 hg2
    obtain ⟨rx, hrx⟩ : ∃ r, lensRes W H L P = r := ⟨_, rfl⟩
    obtain ⟨rt, hrt⟩ : ∃ r, tableG W H L P = r := ⟨_, rfl⟩
    rw [hrx, hrt]
    have HRX := Lib.hid hrx
    have HRT := Lib.hid hrt
    clear hrx hrt
    go_loopw [25] (fun i wr => ∃ x : Nat, i = .int .i64 (x : Int) ∧ x ≤ k ∧ pairsTo W H L P x 0 ∧ LensAt W H A A2 n cap n2 c2 L P w g1 g2 (x * k) wr) (fun i _ => 17 - (intOf i).toNat)
    case atStart => exact ⟨0, rfl, Nat.zero_le _, pairs_zero, HX0.out⟩
    case round =>
      obtain ⟨x, rfl, hxk, hpairs, hlens⟩ := hrel
      have HP0 := Lib.hid hpairs
      have HLe := Lib.hid hlens
      have tm := TM.out.grown hlens.2.2 (by simp)
      have a0 : wr.cell? ⟨w.heap.size, 0, none⟩ = some (.int .i64 W) := tm.cell 0
      have a1 : wr.cell? ⟨w.heap.size, 1, none⟩ = some (.int .i64 H) := tm.cell 1
      clear hpairs hlens tm
      by_cases hlt : x < k
      · have HXK := Lib.hid hlt
        have hx16 : (x : Int) < 16 := by omega
        go_wp2_with fail
        refine (HN.out _).mono ?_
        rintro e w4 ⟨rfl, hg4⟩
        have HLe4 := Lib.hid (HLe.out.more hg4)
        clear hg4 a0 a1
        go_wp2_with fail
        go_loopw [31] (fun i wr => ∃ y : Nat, i = .int .i64 (y : Int) ∧ y ≤ k ∧ pairsTo W H L P x y ∧ LensAt W H A A2 n cap n2 c2 L P w g1 g2 (x * k + y) wr) (fun i _ => 17 - (intOf i).toNat)
        case atStart => exact ⟨0, rfl, Nat.zero_le _, HP0.out, HLe4.out⟩
        case round =>
          obtain ⟨y, rfl, hyk, hpairs, hlens⟩ := hrel
          have HP1 := Lib.hid hpairs
          have HLe5 := Lib.hid hlens
          clear hpairs hlens
          by_cases hlt2 : y < k
          · have hy16 : (y : Int) < 16 := by omega
            have tm := TM.out.grown HLe5.out.2.2 (by simp)
            have a0 : wr.cell? ⟨w.heap.size, 0, none⟩ = some (.int .i64 W) := tm.cell 0
            have a1 : wr.cell? ⟨w.heap.size, 1, none⟩ = some (.int .i64 H) := tm.cell 1
            have a2 : wr.cell? ⟨w.heap.size, 2, none⟩ = some (.slice A n cap) := tm.cell 2
            have hi2 := (HI.out.none (Nat.le_refl _) (gb_trans TG.out HLe5.out.2.2)).more (B' := wr.heap.size) (gb_trans TG.out HLe5.out.2.2).size
            have HE := Lib.hid (ends_entry (W := W) (H := H) (L := L) (P := P) x y)
            clear tm
            go_wp2_with fail
            refine (HW.out x y HXK.out hlt2 _ _ hi2 HLe5.out.1).mono ?_
            rintro e w6 ⟨v, rfl, ho6, hb6⟩
            have hg6 := gb_of_below hb6 none
            have HLe6 := Lib.hid (HLe5.out.more hg6)
            obtain ⟨Aq, capq, rfl, _⟩ := own_form ho6
            rw [HE.out]
            clear a0 a1 a2 hi2 ho6 hb6 hg6
            cases he : entryG W H L P x y with
            | false =>
              have hf := tableG_no (W := W) (H := H) (L := L) (P := P) (a := x) (b := y) (by rw [← HKI.out]; omega) (by rw [← HKI.out]; omega) he
              have HF1 := Lib.hid (HRX.out.symm.trans (lensRes_no hf))
              have HF2 := Lib.hid (HRT.out.symm.trans hf)
              clear hf he
              go_wp2_with (refine wpList_storeX rfl (.tmp 4) _ rfl (w.heap.size + 1 + 1) zerosX zerosX rfl (congrArg Value.agg zero_cells) (TS.out.grown HLe6.out.2.2 (by simp)) zerosX_length zerosX_length ?_; intro w7 hb7 hg7; have HB7 := Lib.hid hb7; have HG7 := Lib.hid hg7; clear hb7 hg7)
              refine bodyPost_ret (v := .tuple #[.agg (cellsX zerosX), .bool false]) ?_ rfl ⟨by first | (rw [HF1.out, HF2.out]) | (rw [HRX.out, HRT.out, HF1.out, HF2.out]), gb_new (gb_trans TG.out HLe6.out.2.2) HG7.out (by omega)⟩
              rw [results_cell_tmp rfl]
              simp [asAddr, Result.andThen, load_square HB7.out zerosX_length]
            | true =>
              have HPn := Lib.hid (pairs_next HP1.out he)
              obtain ⟨o, ho⟩ : ∃ o, (lensX W H L P (x * k + y)).getD (16 * x + y) 0 = o := ⟨_, rfl⟩
              have c1 : w6.cell? ⟨g2, x * 16 + y, none⟩ = some (.int .i64 o) := by
                rw [Nat.mul_comm x 16]; exact (HLe6.out.2.1.cell (16 * x + y)).trans (cellsX_at (by rw [lensX, sqTo_length]; omega) ho)
              have f1 := HLe6.out.2.1.frozen (x * 16 + y)
              have hb2 := HLe6.out.2.1.set_ (x * 16 + y) (.int .i64 ((walkOf W H L P x y).length : Int))
              rw [cellsX_set, lens_next HKK.out hlt2 (sqTo_length _ _ _)] at hb2
              have hl2 : LensAt W H A A2 n cap n2 c2 L P w g1 g2 (x * k + (y + 1)) (w6.setCell ⟨g2, x * 16 + y, none⟩ (.int .i64 ((walkOf W H L P x y).length : Int))) :=
                ⟨HLe6.out.1.far (by have := HL2.out; show g1 ≠ g2; omega) _, hb2, gb_setCell HLe6.out.2.2 (p := ⟨g2, x * 16 + y, none⟩) (.inr (by rw [TZ.out]; have := HL1.out; have := HL2.out; show w.heap.size + 3 ≤ g2; omega)) _⟩
              have HL7 := Lib.hid hl2
              clear hb2 hl2 ho he
              go_wp2_with fail
              go_roundw
              case rel => exact ⟨y + 1, by go_num, by omega, HPn.out, HL7.out⟩
              case measure => simp [intOf]; omega
          · obtain rfl : y = k := by omega
            have HPr := Lib.hid (pairs_row HP1.out HKI.out)
            go_wp2_with fail
            go_roundw
            case rel => exact ⟨x + 1, by go_num, by omega, HPr.out, by rw [Nat.add_mul, Nat.one_mul]; exact HLe5.out⟩
            case measure => simp [intOf]; omega
      · obtain rfl : x = k := by omega
        have hf := tableG_yes HS.out HP0.out HKI.out
        have HF1 := Lib.hid (HRX.out.symm.trans (lensRes_yes hf))
        have HF2 := Lib.hid (HRT.out.symm.trans hf)
        have HSQ := Lib.hid (show sqG W H = x * x from by rw [← HKK.out]; rfl)
        clear a0 a1 hf
        go_wp2_with (first | (refine wpList_loadX rfl (.tmp 8) rfl g2 rfl (lensX W H L P (x * x)) HLe.out.2.1 (sqTo_length _ _ _) ?_) | (refine wpList_storeX rfl (.tmp 4) _ rfl (w.heap.size + 1 + 1) zerosX (lensX W H L P (x * x)) rfl rfl ((TS.out.grown HLe.out.2.2 (by simp))) zerosX_length (sqTo_length _ _ _) ?_; intro w7 hb7 hg7; have HB7 := Lib.hid hb7; have HG7 := Lib.hid hg7; clear hb7 hg7))
        refine bodyPost_ret (v := .tuple #[.agg (cellsX (lensX W H L P (x * x))), .bool true]) ?_ rfl ⟨by first | (rw [HF1.out, HF2.out, HSQ.out]) | (rw [HRX.out, HRT.out, HF1.out, HF2.out, HSQ.out]), gb_new (gb_trans TG.out HLe.out.2.2) HG7.out (by omega)⟩
        rw [results_cell_tmp rfl]
        simp [asAddr, Result.andThen, load_square HB7.out (sqTo_length _ _ _)]
end Go.Proofs.Ytgdngjfjbcnbmaa
