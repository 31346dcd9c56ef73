/- What is proved here: what the model's TableOk returns, for all arguments; only new blocks are written. -/
import Derived.Test.YtecaehkckamhkaaTwoS
namespace Go.Proofs.Ytecaehkckamhkaa
open Go.ChangeShapes Go.WideShapes Go.ChangeAt Go.RowKit
set_option linter.unusedVariables false
set_option maxRecDepth 20000

def TabAt (W H : Int) (A A2 : Option Addr) (n cap n2 c2 : Nat) (L P : List Int) (w : World) (a b : Nat) (wr : World) : Prop :=
  pairsTo W H L P a b ∧ Below (w.heap.size + 2) (twoB W H A A2 n cap n2 c2 w) wr
theorem specTableOk (W H : Int) (A A2 : Option Addr) (n cap n2 c2 : Nat) (L P : List Int) (w : World) (h : IntAt w w.heap.size A n L) (h2 : IntAt w w.heap.size A2 n2 P) (hn : n ≤ 1000000000) (hn2 : n2 ≤ 1000000000) :
    Calls Try.prog 15 #[.agg #[.int .i64 W, .int .i64 H, .slice A n cap], .agg #[.slice A2 n2 c2]] w (RetB (tableG W H L P) w) := by
  have hp := h2.1
  have HI := Lib.hid h
  have HP := Lib.hid h2
  have HT := Lib.hid (show IntAt (twoB W H A A2 n cap n2 c2 w) (twoB W H A A2 n cap n2 c2 w).heap.size A n L from h.two)
  clear h h2
  cases hs : sizedG W H L P with
  | false =>
    have HS := Lib.hid (fun w h => specSized W H A A2 n cap n2 c2 L P false hs w h hn hp hn2)
    have HF := Lib.hid (tableG_unsized hs)
    clear hs
    go_enter Try.func15, Try.ntmps15
    go_wp2_with fail
    refine (HS.out _ HT.out).mono ?_
    rintro e w1 ⟨rfl, hg⟩
    have G1 := Lib.hid (box2 hg).2.2
    clear hg
    go_wp2_with fail
    go_ret
    exact ⟨ret_bool HF.out.symm, G1.out⟩
  | true =>
    have HS := Lib.hid (fun w h => specSized W H A A2 n cap n2 c2 L P true hs w h hn hp hn2)
    obtain ⟨k, hk⟩ : ∃ k, countG W H = k := ⟨_, rfl⟩
    obtain ⟨hk0, hk1⟩ := countG_le W H
    rw [hk] at hk0 hk1
    have hsq := (sizedG_mesh hs).2
    rw [hp, hk] at hsq
    have HSQ := Lib.hid hsq
    have HN := Lib.hid (fun w => specNodeCountV W H k hk w)
    have HK := Lib.hid hk
    have HSZ := Lib.hid hs
    clear hk hs hsq hp
    go_enter Try.func15, Try.ntmps15
    go_wp2_with fail
    refine (HS.out _ HT.out).mono ?_
    rintro e w1 ⟨rfl, hg⟩
    have B1 := Lib.hid (below_two hg)
    clear hg
    have a0 : w1.cell? ⟨w.heap.size, 0, none⟩ = some (.int .i64 W) := (twoB_mesh B1.out).cell 0
    have a1 : w1.cell? ⟨w.heap.size, 1, none⟩ = some (.int .i64 H) := (twoB_mesh B1.out).cell 1
    go_wp2_with fail
    refine (HN.out _).mono ?_
    rintro e w2 ⟨rfl, hg⟩
    have X2 := Lib.hid (show TabAt W H A A2 n cap n2 c2 L P w 0 0 w2 from ⟨pairs_zero, below_then B1.out hg⟩)
    clear hg a0 a1
    go_wp2_with fail
    go_loopw [6] (fun i wr => ∃ x : Nat, i = .int .i64 (x : Int) ∧ (x : Int) ≤ k ∧ TabAt W H A A2 n cap n2 c2 L P w x 0 wr) (fun i _ => 17 - (intOf i).toNat)
    case atStart => exact ⟨0, rfl, by omega, X2.out⟩
    case round =>
      obtain ⟨x, rfl, hx, hpr, hbel⟩ := hrel
      have HX := Lib.hid (show TabAt W H A A2 n cap n2 c2 L P w x 0 wr from ⟨hpr, hbel⟩)
      have BX := Lib.hid hbel
      clear hpr hbel
      by_cases hlt : (x : Int) < k
      · go_wp2_with fail
        go_loopw [7] (fun i ws => ∃ y : Nat, i = .int .i64 (y : Int) ∧ (y : Int) ≤ k ∧ TabAt W H A A2 n cap n2 c2 L P w x y ws) (fun i _ => 17 - (intOf i).toNat)
        case atStart => exact ⟨0, rfl, by omega, HX.out⟩
        case round =>
          obtain ⟨y, rfl, hy, hpr, hbel⟩ := hrel
          have HPR := Lib.hid hpr
          have BY := Lib.hid hbel
          clear hpr hbel
          by_cases hly : (y : Int) < k
          · by_cases hxy : x = y
            · subst hxy
              obtain ⟨t0, t1⟩ := tab_at HSQ.out (Int.natCast_nonneg x) hlt (Int.natCast_nonneg x) hlt
              obtain ⟨j, hj⟩ : ∃ j : Nat, (x : Int) * k + x = (j : Int) := ⟨((x : Int) * k + x).toNat, (Int.toNat_of_nonneg t0).symm⟩
              have hjn : j < n2 := by omega
              have hak := Int.mul_nonneg (Int.natCast_nonneg x) hk0
              have e1 : wrap64 ((x : Int) * k) = (x : Int) * k := IntWalk.wrap64_in _ (by omega)
              have e2 : wrap64 ((x : Int) * k + x) = (j : Int) := by rw [hj]; exact IntWalk.wrap64_in _ (by omega)
              have hold := twoB_old BY.out
              obtain ⟨b, off, rfl, hbB, hcell⟩ := (HP.out.below hold).at j hjn
              obtain ⟨p, hpp⟩ : ∃ p, P.getD j 0 = p := ⟨_, rfl⟩
              rw [hpp] at hcell
              have htab : tabG (countG W H) P x x = p := by unfold tabG; rw [HK.out, hj, Int.toNat_natCast]; exact hpp
              have hen := entry_same (W := W) (H := H) (L := L) (P := P) (a := (x : Int))
              rw [htab] at hen
              have j0 : (0 : Int) ≤ (j : Int) := by omega
              have j1 : (j : Int) < (n2 : Int) := by omega
              have b0 : wr.cell? ⟨w.heap.size + 1, 0, none⟩ = some (.slice (some ⟨b, off, none⟩) n2 c2) := (twoB_table BY.out).cell 0
              by_cases h4 : p = 4
              · have hb4 : (p != 4) = false := by simpa using h4
                have HE := Lib.hid (pairs_next HPR.out (hen.trans (decide_eq_true h4)))
                clear hj hpp htab hen h4 t0 t1 hak hold
                go_wp2_with fail
                go_roundw
                case rel => exact ⟨x + 1, by go_num, by omega, HE.out, BY.out⟩
                case measure => simp [intOf]; omega
              · have hb4 : (p != 4) = true := by simpa using h4
                have HE := Lib.hid (tableG_no (W := W) (H := H) (L := L) (P := P) (a := x) (b := x) (by rw [HK.out]; exact hlt) (by rw [HK.out]; exact hlt) (hen.trans (decide_eq_false h4)))
                clear hj hpp htab hen h4 t0 t1 hak hold
                go_wp2_with fail
                go_ret
                exact ⟨ret_bool HE.out.symm, gb_of_below (twoB_old BY.out) none⟩
            · have hb1 : ((x : Int) == (y : Int)) = false := by simp; omega
              have hb2 : ((x : Int) != (y : Int)) = true := by simp; omega
              have hax : hasG W H (x : Int) = true := hasG_iff.2 ⟨by omega, by rw [HK.out]; exact hlt⟩
              have hay : hasG W H (y : Int) = true := hasG_iff.2 ⟨by omega, by rw [HK.out]; exact hly⟩
              have HWK := Lib.hid (fun w h h2 => specWalk W H A A2 n cap n2 c2 L P x y w h h2 hn hn2 HSZ.out hax hay)
              have hen := entry_two (W := W) (H := H) (L := L) (P := P) (a := (x : Int)) (b := (y : Int)) (by omega)
              have HEN := Lib.hid hen
              have a0 : wr.cell? ⟨w.heap.size, 0, none⟩ = some (.int .i64 W) := (twoB_mesh BY.out).cell 0
              have a1 : wr.cell? ⟨w.heap.size, 1, none⟩ = some (.int .i64 H) := (twoB_mesh BY.out).cell 1
              have a2 : wr.cell? ⟨w.heap.size, 2, none⟩ = some (.slice A n cap) := (twoB_mesh BY.out).cell 2
              have b0 : wr.cell? ⟨w.heap.size + 1, 0, none⟩ = some (.slice A2 n2 c2) := (twoB_table BY.out).cell 0
              have hi2 := HI.out.old BY.out
              have hp2 := HP.out.old BY.out
              clear hen hax hay
              go_wp2_with fail
              refine (HWK.out _ hi2 hp2).mono ?_
              rintro e w4 ⟨v, rfl, o4, b4⟩
              obtain ⟨A4, c4, rfl, _⟩ := own_form o4
              have B4 := Lib.hid (below_then BY.out (gb_of_below b4 none))
              obtain ⟨wl, hwl⟩ : ∃ q, walkOf W H L P x y = q := ⟨_, rfl⟩
              rw [hwl] at HEN
              have hlen : wl.length ≤ 16 := by rw [← hwl]; exact walkOf_len _ _
              clear o4 b4 hi2 hp2 a0 a1 a2 b0
              rw [hwl]
              clear hwl
              cases wl with
              | nil =>
                have HE := Lib.hid (tableG_no (W := W) (H := H) (L := L) (P := P) (a := x) (b := y) (by rw [HK.out]; exact hlt) (by rw [HK.out]; exact hly) (HEN.out.trans rfl))
                simp only [List.length_nil]
                go_wp2_with fail
                go_ret
                exact ⟨ret_bool HE.out.symm, gb_of_below (twoB_old B4.out) none⟩
              | cons c cs =>
                have HE := Lib.hid (pairs_next HPR.out (HEN.out.trans rfl))
                obtain ⟨q, hq⟩ : ∃ q, (c :: cs).length = q := ⟨_, rfl⟩
                have hq0 : ((q : Int) == 0) = false := by rw [← hq]; simp; omega
                rw [hq] at hlen ⊢
                clear hq
                go_wp2_with fail
                go_roundw
                case rel => exact ⟨y + 1, by go_num, by omega, HE.out, B4.out⟩
                case measure => simp [intOf]; omega
          · obtain ⟨e1, e2⟩ : (y : Int) = k ∧ True := ⟨by omega, trivial⟩
            have HE := Lib.hid (pairs_row HPR.out (by rw [HK.out]; exact e1))
            clear e1 e2
            go_wp2_with fail
            go_roundw
            case rel => exact ⟨x + 1, by go_num, by omega, HE.out, BY.out⟩
            case measure => simp [intOf]; omega
      · have hxk : (x : Int) = k := by omega
        have HE := Lib.hid (tableG_yes HSZ.out HX.out.1 (by rw [HK.out]; exact hxk))
        clear hxk
        go_wp2_with fail
        go_ret
        exact ⟨ret_bool HE.out.symm, gb_of_below (twoB_old BX.out) none⟩
end Go.Proofs.Ytecaehkckamhkaa
