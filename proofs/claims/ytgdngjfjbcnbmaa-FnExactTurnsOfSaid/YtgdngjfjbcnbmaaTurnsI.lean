/- What is proved here: what the program's TurnsOf returns, for all arguments; only new blocks are written. -/
import Derived.Test.YtgdngjfjbcnbmaaAscI
import Derived.Test.YtgdngjfjbcnbmaaTurnP
import Derived.Test.YtgdngjfjbcnbmaaTwoS
import Derived.Test.YtgdngjfjbcnbmaaOneI
import Derived.Test.YtgdngjfjbcnbmaaTokI
import Derived.Test.YtgdngjfjbcnbmaaWalkTI
import Derived.Deep.RegionHeld3
namespace Go.Proofs.Ytgdngjfjbcnbmaa
open Go.ChangeShapes Go.WideShapes Go.ChangeAt Go.RowKit
set_option linter.unusedVariables false
set_option maxRecDepth 20000

/-- The set of turns in the block g, above the boxes of the mesh and the table. -/
def TuAt (W H : Int) (A A2 : Option Addr) (n cap n2 c2 : Nat) (w : World) (g : Nat) (f : Nat → Bool) (wr : World) : Prop :=
  w.heap.size + 2 ≤ g ∧ SetAt wr g f ∧ Below (w.heap.size + 2) (twoB W H A A2 n cap n2 c2 w) wr
section
variable {W H : Int} {A A2 : Option Addr} {n cap n2 c2 : Nat} {w wr w' : World} {g : Nat} {f f' : Nat → Bool}
theorem TuAt.gb (h : TuAt W H A A2 n cap n2 c2 w g f wr) (hg : wr.grownBy w' none) : TuAt W H A A2 n cap n2 c2 w g f w' := ⟨h.1, h.2.1.none hg, below_then h.2.2 hg⟩
theorem TuAt.below (h : TuAt W H A A2 n cap n2 c2 w g f wr) (hb : Below wr.heap.size wr w') : TuAt W H A A2 n cap n2 c2 w g f w' := h.gb (gb_of_below hb none)
theorem TuAt.put (h : TuAt W H A A2 n cap n2 c2 w g f wr) (hs : SetAt w' g f') (hg : wr.grownBy w' (some g)) : TuAt W H A A2 n cap n2 c2 w g f' w' :=
  ⟨h.1, hs, h.2.2.grown hg (by have := twoB_le h.2.2; omega) (fun j hj => by cases hj; exact h.1)⟩
theorem TuAt.cells (h : TuAt W H A A2 n cap n2 c2 w g f wr) : wr.cell? ⟨w.heap.size, 0, none⟩ = some (.int .i64 W) ∧ wr.cell? ⟨w.heap.size, 1, none⟩ = some (.int .i64 H) ∧ wr.cell? ⟨w.heap.size, 2, none⟩ = some (.slice A n cap) ∧ wr.cell? ⟨w.heap.size + 1, 0, none⟩ = some (.slice A2 n2 c2) :=
  ⟨(twoB_mesh h.2.2).cell 0, (twoB_mesh h.2.2).cell 1, (twoB_mesh h.2.2).cell 2, (twoB_table h.2.2).cell 0⟩
end

set_option maxHeartbeats 1600000 in
theorem implTurnsOf (W H : Int) (A A2 : Option Addr) (n cap n2 c2 : Nat) (L P : List Int) (hL : WfL L) (w : World) (h : IntAt w w.heap.size A n L) (h2 : IntAt w w.heap.size A2 n2 P) (hn : n ≤ 1000000000) (hn2 : n2 ≤ 1000000000) :
    Calls Try.prog 13 #[.agg #[.int .i64 W, .int .i64 H, .slice A n cap], .agg #[.slice A2 n2 c2]] w (NewI (turnsG W H L P) w) := by
  have HI := Lib.hid h
  have HP := Lib.hid h2
  have HT1 := Lib.hid (h.two (W := W) (H := H) (A := A) (A2 := A2) (n := n) (cap := cap) (n2 := n2) (c2 := c2))
  have HT2 := Lib.hid (h2.two (W := W) (H := H) (A := A) (A2 := A2) (n := n) (cap := cap) (n2 := n2) (c2 := c2))
  have HOK := Lib.hid (fun (w : World) h h2 => implTableOk W H A A2 n cap n2 c2 L P hL w h h2 hn hn2)
  clear h h2
  cases ht : tableG W H L P with
  | false =>
    have HF := Lib.hid (turnsG_no ht)
    rw [ht] at HOK
    clear ht hL
    go_enter Try.func13, Try.ntmps13
    go_wp2_with fail
    refine (HOK.out _ HT1.out HT2.out).mono ?_
    rintro e w1 ⟨rfl, hg⟩
    have B1 := Lib.hid (below_two hg)
    clear hg
    go_wp2_with fail
    go_ret
    exact ⟨_, rfl, own_nil HF.out _ _, twoB_old B1.out⟩
  | true =>
    have hki := cntN_int W H
    obtain ⟨k, hk⟩ : ∃ k, cntN W H = k := ⟨_, rfl⟩
    have hk1 := cntN_le W H
    rw [hk] at hki hk1
    have HN := Lib.hid (fun w => show Calls Try.prog 41 #[.agg #[.int .i64 W, .int .i64 H]] w (RetI (k : Int) none w) from hki ▸ implNodeCount W H w)
    have HW := Lib.hid (fun (x y : Nat) (hx : x < k) (hy : y < k) (w : World) (h : IntAt w w.heap.size A n L) (h2 : IntAt w w.heap.size A2 n2 P) =>
      show Calls Try.prog 43 #[.agg #[.int .i64 W, .int .i64 H, .slice A n cap], .agg #[.slice A2 n2 c2], .int .i64 x, .int .i64 y] w (NewI (pairW W H L P (x * k + y)) w) from by
        have e1 : hasG W H (x : Int) = true := hasG_iff.2 ⟨by omega, by omega⟩
        have e2 : hasG W H (y : Int) = true := hasG_iff.2 ⟨by omega, by omega⟩
        rw [pairW_at hk hy, ← walkG_valid ht e1 e2]
        exact implWalkTable W H A A2 n cap n2 c2 L P x y hL w h h2 hn hn2)
    have HF := Lib.hid (turnsG_yes ht)
    have HSQ := Lib.hid (sqG_cnt hk)
    rw [ht] at HOK
    clear ht hL hki hk
    have hmm := @run_makeMap Try.prog
    go_enter Try.func13, Try.ntmps13
    go_wp2_with fail
    refine (HOK.out _ HT1.out HT2.out).mono ?_
    rintro e w1 ⟨rfl, hg⟩
    have B1 := Lib.hid (below_two hg)
    clear hg
    have X1 := Lib.hid (show TuAt W H A A2 n cap n2 c2 w w1.heap.size (fun _ => false) (w1.alloc (.map #[] 0)) from
      ⟨twoB_le B1.out, SetAt.made w1, B1.out.alloc (by have := twoB_le B1.out; omega) _⟩)
    obtain ⟨a0, a1, a2, a3⟩ := X1.out.cells
    obtain ⟨g, hg⟩ : ∃ g, w1.heap.size = g := ⟨_, rfl⟩
    go_wp2_with fail
    refine (HN.out _).mono ?_
    rintro e w2 ⟨rfl, hg2⟩
    have X2 := Lib.hid (show TuAt W H A A2 n cap n2 c2 w g (allT W H L P (0 * k + 0)) w2 from by
      have h := X1.out.gb hg2
      rw [hg] at h
      rw [Nat.zero_mul]
      exact h)
    clear hg2 a0 a1 a2 a3 X1
    go_wp2_with fail
    (try rw [hg])
    clear hg
    go_loopw [18] (fun i wr => ∃ x : Nat, i = .int .i64 (x : Int) ∧ x ≤ k ∧ TuAt W H A A2 n cap n2 c2 w g (allT W H L P (x * k + 0)) wr) (fun i _ => 17 - (Go.RowKit.intOf i).toNat)
    case atStart => exact ⟨0, rfl, Nat.zero_le _, X2.out⟩
    case round =>
      obtain ⟨x, rfl, hxk, hx⟩ := hrel
      have X3 := Lib.hid hx
      obtain ⟨a0, a1, a2, a3⟩ := hx.cells
      clear hx
      by_cases hlt : x < k
      · have HXK := Lib.hid hlt
        have hx16 : (x : Int) < 16 := by omega
        go_wp2_with fail
        refine (HN.out _).mono ?_
        rintro e w4 ⟨rfl, hg4⟩
        have X4 := Lib.hid (X3.out.gb hg4)
        clear hg4 a0 a1 a2 a3
        go_wp2_with fail
        go_loopw [24] (fun i wr => ∃ y : Nat, i = .int .i64 (y : Int) ∧ y ≤ k ∧ TuAt W H A A2 n cap n2 c2 w g (allT W H L P (x * k + y)) wr) (fun i _ => 17 - (Go.RowKit.intOf i).toNat)
        case atStart => exact ⟨0, rfl, Nat.zero_le _, X4.out⟩
        case round =>
          obtain ⟨y, rfl, hyk, hy⟩ := hrel
          have X5 := Lib.hid hy
          obtain ⟨a0, a1, a2, a3⟩ := hy.cells
          clear hy
          by_cases hlt2 : y < k
          · have hy16 : (y : Int) < 16 := by omega
            obtain ⟨c, hc⟩ : ∃ c, x * k + y = c := ⟨_, rfl⟩
            obtain ⟨R, hR⟩ : ∃ R, pairW W H L P c = R := ⟨_, rfl⟩
            have hRN := pairW_len (W := W) (H := H) (L := L) (P := P) c
            have HRR := Lib.hid (fun j (h : j < (pairW W H L P c).length) => pairW_range (W := W) (H := H) (L := L) (P := P) h)
            have hw5 := HW.out x y HXK.out hlt2 _ (HI.out.old X5.out.2.2) (HP.out.old X5.out.2.2)
            rw [hc, hR] at hw5
            rw [hc] at X5
            rw [hR] at HRR hRN
            have HW5 := Lib.hid hw5
            obtain ⟨N, hN⟩ : ∃ N, R.length = N := ⟨_, rfl⟩
            clear hw5
            go_wp2_with fail
            refine HW5.out.mono ?_
            rintro e w6 ⟨v, rfl, ho6, hb6⟩
            rw [hN] at ho6 HRR hRN
            obtain ⟨AR, capR, rfl, har⟩ := own_form ho6
            have HAR := Lib.hid har
            have X6 := Lib.hid (show TuAt W H A A2 n cap n2 c2 w g (orT (allT W H L P c) (wayT R 0)) w6 by rw [orT_none _ (way_zero R)]; exact X5.out.below hb6)
            have O6 := Lib.hid (own_less ho6 (show g + 1 ≤ wr.heap.size from X5.out.2.1.lt))
            have HAN := Lib.hid (all_next hR)
            have HC := Lib.hid hc
            have HN2 := Lib.hid hN
            clear ho6 har hb6 a0 a1 a2 a3 hc hR
            go_wp2_with fail
            go_loopw [9] (fun i ws => ∃ j : Nat, i = .int .i64 ((j : Int) + 1) ∧ j ≤ N - 1 ∧ TuAt W H A A2 n cap n2 c2 w g (orT (allT W H L P c) (wayT R j)) ws ∧ ws.ownsRow (g + 1) 3 1 (.slice AR N capR) N (intsV R)) (fun i _ => 17 - (Go.RowKit.intOf i).toNat)
            case atStart => exact ⟨0, rfl, Nat.zero_le _, X6.out, O6.out⟩
            case round =>
              obtain ⟨j, rfl, hj, hx, ho⟩ := hrel
              have X7 := Lib.hid hx
              have O7 := Lib.hid ho
              clear hx ho
              by_cases hlt3 : j + 1 < N
              · have hl3 : (j : Int) + 1 < (N : Int) := by omega
                obtain ⟨gv, hgv⟩ := HAR.out (by omega)
                subst hgv
                obtain ⟨x1, hx1⟩ : ∃ z, R.getD j 0 = z := ⟨_, rfl⟩
                obtain ⟨x2, hx2⟩ : ∃ z, R.getD (j + 1) 0 = z := ⟨_, rfl⟩
                obtain ⟨r10, r11⟩ := HRR.out j (by omega)
                obtain ⟨r20, r21⟩ := HRR.out (j + 1) hlt3
                have c1 := ints_cell O7.out j x1 (by rw [← hx1, List.getD, List.getElem?_eq_getElem (by rw [HN2.out]; omega)]; rfl) HN2.out
                have c2 := ints_cell O7.out (j + 1) x2 (by rw [← hx2, List.getD, List.getElem?_eq_getElem (by rw [HN2.out]; omega)]; rfl) HN2.out
                rw [hx1] at r10 r11
                rw [hx2] at r20 r21
                obtain ⟨p, hp⟩ : ∃ p, x1 % 4 = p := ⟨_, rfl⟩
                obtain ⟨q, hq⟩ : ∃ q, x2 % 4 = q := ⟨_, rfl⟩
                have hwn := Lib.hid (way_next (allT W H L P c) R j p q (by rw [hx1, hp]) (by rw [hx2, hq]))
                have p0 : 0 ≤ p := by omega
                have p3 : p ≤ 3 := by omega
                have q0 : 0 ≤ q := by omega
                have q3 : q ≤ 3 := by omega
                have t1 : x1.tmod 4 = p := by rw [Int.tmod_eq_emod_of_nonneg r10, hp]
                have t2 : x2.tmod 4 = q := by rw [Int.tmod_eq_emod_of_nonneg r20, hq]
                have HA := Lib.hid (fun (w : World) h => implAdd g (orT (allT W H L P c) (wayT R j)) p q p0 p3 q0 q3 w h)
                obtain ⟨m, hm⟩ : ∃ m : Nat, j + 1 = m := ⟨_, rfl⟩
                have hmi : (j : Int) + 1 = (m : Int) := by omega
                rw [hm] at c2
                have j0 : (0 : Int) ≤ (j : Int) := by omega
                have j1 : (j : Int) < (N : Int) := by omega
                have j2 : (0 : Int) ≤ (m : Int) := by omega
                have j3 : (m : Int) < (N : Int) := by omega
                have e2 : IntKind.i64.wrap ((m : Int) - 1) = (j : Int) := by rw [IntWalk.i64_in _ (by omega)]; omega
                have HM := Lib.hid (And.intro hm hlt3)
                have hgv : some gv ≠ some g := fun e => by
                  have := (O7.out.lt gv rfl).1
                  injection e with e
                  omega
                rw [hmi]
                clear hp hq hx1 hx2 hl3 hlt3 hmi hm
                go_wp2_with fail
                go_region_held3 (fun w' => w'.cell? ⟨gv, j, none⟩ = some (.int .i64 x1) ∧ w'.cell? ⟨gv, m, none⟩ = some (.int .i64 x2))
                  (first | exact ⟨c1, c2⟩ | exact ⟨d1, d2⟩ | fail)
                  (first
                    | (go_at_call 44; (with_reducible refine (HA.out _ ?_).mono ?_); exact X7.out.2.1; rintro e w7 ⟨rfl, hs7, hg7⟩; have d1 := (gb_undraw hg7).cell c1 hgv; have d2 := (gb_undraw hg7).cell c2 hgv)
                    | fail)
                all_goals
                  have X8 := Lib.hid (X7.out.put hs7 (gb_undraw hg7))
                  have O8 := Lib.hid (O7.out.kept (gb_undraw hg7) (.inr hgv))
                  clear hs7 hg7 d1 d2 c1 c2
                  go_wp2_with fail
                  go_roundw
                  case rel => exact ⟨j + 1, by have hm := HM.out.1; go_num, by have := HM.out.2; omega, by rw [← hwn.out]; exact X8.out, O8.out⟩
                  case measure => have hm := HM.out; simp [Go.RowKit.intOf]; omega
              · obtain rfl : j = N - 1 := by omega
                have hl3 : ¬ ((N - 1 : Nat) : Int) + 1 < (N : Int) := by omega
                have X8 := Lib.hid (show TuAt W H A A2 n cap n2 c2 w g (allT W H L P (x * k + (y + 1))) _ from by
                  rw [← Nat.add_assoc, HC.out, ← HAN.out, HN2.out]
                  exact X7.out)
                clear X7 O7
                go_wp2_with fail
                go_roundw
                case rel => exact ⟨y + 1, by go_num, by omega, X8.out⟩
                case measure => simp [Go.RowKit.intOf]; omega
          · obtain rfl : y = k := by omega
            have X8 := Lib.hid (show TuAt W H A A2 n cap n2 c2 w g (allT W H L P ((x + 1) * y + 0)) _ from by
              have e : (x + 1) * y + 0 = x * y + y := by rw [Nat.add_zero, Nat.add_mul, Nat.one_mul]
              rw [e]
              exact X5.out)
            clear X5
            go_wp2_with fail
            go_roundw
            case rel => exact ⟨x + 1, by go_num, by have := HXK.out; omega, X8.out⟩
            case measure => have := HXK.out; simp [Go.RowKit.intOf]; omega
      · obtain rfl : x = k := by omega
        have HSo := Lib.hid (implAscending g _ _ X3.out.2.1)
        have HRes := Lib.hid (show turnsG W H L P = setL (allT W H L P (x * x + 0)) 16 by rw [HF.out, HSQ.out, Nat.add_zero])
        go_wp2_with fail
        refine HSo.out.mono ?_
        rintro e w4 ⟨v, rfl, ho, hb⟩
        rw [← HRes.out] at ho
        have HO4 := Lib.hid ho
        have HB4 := Lib.hid hb
        clear ho hb a0 a1 a2 a3
        go_wp2_with fail
        go_ret
        exact NewI.old X3.out.2.2 HO4.out HB4.out
end Go.Proofs.Ytgdngjfjbcnbmaa
