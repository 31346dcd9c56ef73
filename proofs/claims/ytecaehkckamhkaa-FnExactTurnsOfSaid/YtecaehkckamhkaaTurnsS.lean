/- What is proved here: what the model's TurnsOf returns, for all arguments; only new blocks are written. -/
import Derived.Test.YtecaehkckamhkaaTokV
import Derived.Test.YtecaehkckamhkaaMarkS
import Derived.Test.YtecaehkckamhkaaTurnP
import Derived.Deep.RegionHeld3
namespace Go.Proofs.Ytecaehkckamhkaa
open Go.ChangeShapes Go.WideShapes Go.ChangeAt Go.RowKit
set_option linter.unusedVariables false
set_option maxRecDepth 20000

/-- The slice of truths above the boxes of the mesh and the table. -/
def TvAt (W H : Int) (A A2 : Option Addr) (n cap n2 c2 : Nat) (w : World) (f : Nat → Bool) (wr : World) : Prop :=
  Blk wr (w.heap.size + 1 + 1) 4 (cellsF f) ∧ Below (w.heap.size + 2) (twoB W H A A2 n cap n2 c2 w) wr
/-- Sixteen truths that are false. -/
def noB : Obj := .cells #[.bool false, .bool false, .bool false, .bool false, .bool false, .bool false, .bool false, .bool false, .bool false, .bool false, .bool false, .bool false, .bool false, .bool false, .bool false, .bool false] 4
theorem put_with (f : Nat → Bool) {p q y : Nat} (hpq : (p : Int) ≠ (q : Int)) (hy : 4 * p + q = y) : (fun x => if x = y then true else f x) = withT f (p : Int) (q : Int) := by
  funext x
  subst hy
  by_cases h : x = 4 * p + q
  · subst h
    simp [withT, hpq]
  · have h2 : ¬ (4 * (p : Int) + (q : Int) = (x : Int)) := by omega
    simp [withT, h, h2]
section
variable {W H : Int} {A A2 : Option Addr} {n cap n2 c2 : Nat} {w wr w' : World} {f f' : Nat → Bool}
theorem TvAt.lt (h : TvAt W H A A2 n cap n2 c2 w f wr) : w.heap.size + 3 ≤ wr.heap.size := h.1.lt
theorem TvAt.gb (h : TvAt W H A A2 n cap n2 c2 w f wr) (hg : wr.grownBy w' none) : TvAt W H A A2 n cap n2 c2 w f w' := ⟨h.1.grown hg (by simp), below_then h.2 hg⟩
theorem TvAt.below (h : TvAt W H A A2 n cap n2 c2 w f wr) (hb : Below wr.heap.size wr w') : TvAt W H A A2 n cap n2 c2 w f w' := h.gb (gb_of_below hb none)
theorem TvAt.dr (h : TvAt W H A A2 n cap n2 c2 w f wr) : TvAt W H A A2 n cap n2 c2 w f wr.drew := h.gb (gb_drew (gb_refl _ _))
theorem own_dr {lo : Nat} {e : TypeId} {v : Value} {k : Nat} {xs : List Value} (h : wr.ownsRow lo e 1 v k xs) : wr.drew.ownsRow lo e 1 v k xs := own_none h (gb_drew (gb_refl _ _))
theorem TvAt.start : TvAt W H A A2 n cap n2 c2 w (fun _ => false) ((twoB W H A A2 n cap n2 c2 w).alloc noB) := by
  refine ⟨?_, (Below.refl _ _).alloc (by rw [twoB_size]; exact Nat.le_refl _) _⟩
  have h := Blk.new (twoB W H A A2 n cap n2 c2 w) 4 (cellsF fun _ => false)
  rw [twoB_size] at h
  exact h
theorem TvAt.put {p q y : Nat} (h : TvAt W H A A2 n cap n2 c2 w f wr) (hpq : (p : Int) ≠ (q : Int)) (hy : 4 * p + q = y) :
    TvAt W H A A2 n cap n2 c2 w (withT f p q) (wr.setCell ⟨w.heap.size + 1 + 1, y, none⟩ (.bool true)) := by
  refine ⟨?_, gb_below_none (gb_setCell (gb_of_below (by rw [twoB_size]; exact h.2) none) (.inr (by rw [twoB_size]; exact Nat.le_refl _)) _) (by rw [twoB_size]; exact Nat.le_refl _)⟩
  have h1 := h.1.set_ y (.bool true)
  rw [cellsF_set, put_with f hpq hy] at h1
  exact h1
theorem TvAt.cells (h : TvAt W H A A2 n cap n2 c2 w f wr) : wr.cell? ⟨w.heap.size, 0, none⟩ = some (.int .i64 W) ∧ wr.cell? ⟨w.heap.size, 1, none⟩ = some (.int .i64 H) ∧ wr.cell? ⟨w.heap.size, 2, none⟩ = some (.slice A n cap) ∧ wr.cell? ⟨w.heap.size + 1, 0, none⟩ = some (.slice A2 n2 c2) :=
  ⟨(twoB_mesh h.2).cell 0, (twoB_mesh h.2).cell 1, (twoB_mesh h.2).cell 2, (twoB_table h.2).cell 0⟩
theorem TvAt.mark (h : TvAt W H A A2 n cap n2 c2 w f wr) : Calls Try.prog 93 #[.slice (some ⟨w.heap.size + 1 + 1, 0, none⟩) 16 16] wr (NewI (setL f 16) w) :=
  (specMark (w.heap.size + 1 + 1) f wr (fun i hi => (h.1.cell i).trans (cellsF_at f hi)) h.1.lt).mono fun e w' ⟨v, he, ho, hb⟩ => he ▸ NewI.old h.2 ho hb
end

set_option maxHeartbeats 1600000 in
theorem specTurnsOf (W H : Int) (A A2 : Option Addr) (n cap n2 c2 : Nat) (L P : List Int) (w : World) (h : IntAt w w.heap.size A n L) (h2 : IntAt w w.heap.size A2 n2 P) (hn : n ≤ 1000000000) (hn2 : n2 ≤ 1000000000) :
    Calls Try.prog 50 #[.agg #[.int .i64 W, .int .i64 H, .slice A n cap], .agg #[.slice A2 n2 c2]] w (NewI (turnsG W H L P) w) := by
  have X0 := Lib.hid (TvAt.start (W := W) (H := H) (A := A) (A2 := A2) (n := n) (cap := cap) (n2 := n2) (c2 := c2) (w := w))
  have HI := Lib.hid h
  have HP := Lib.hid h2
  have HT := Lib.hid (h.old X0.out.2)
  have HT2 := Lib.hid (h2.old X0.out.2)
  have hmk : ∀ w, (Instr.makeSlice 114 (.int .i64 16) (.int .i64 16)).run Try.prog w = .ok (.slice (some ⟨w.heap.size, 0, none⟩) 16 16) (w.alloc noB) := fun _ => by kernel_rfl
  clear h h2
  cases ht : tableG W H L P with
  | false =>
    have HS := Lib.hid (fun w h h2 => specTableOkV W H A A2 n cap n2 c2 L P false ht w h h2 hn hn2)
    have HF := Lib.hid (turnsG_no ht)
    clear ht
    go_enter Try.func50, Try.ntmps50
    go_wp2_with fail
    refine (HS.out _ HT.out HT2.out).mono ?_
    rintro e w1 ⟨rfl, hg⟩
    have B1 := Lib.hid (twoB_old (X0.out.gb hg).2)
    clear hg
    go_wp2_with fail
    go_ret
    rw [HF.out]
    exact ⟨_, rfl, (new_nil B1.out).1, (new_nil B1.out).2⟩
  | true =>
    have HS := Lib.hid (fun w h h2 => specTableOkV W H A A2 n cap n2 c2 L P true ht w h h2 hn hn2)
    have HF := Lib.hid (turnsG_yes ht)
    obtain ⟨k, hk⟩ : ∃ k, countG W H = k := ⟨_, rfl⟩
    obtain ⟨hk0, hk1⟩ := countG_le W H
    have hsq := sq_int W H
    rw [hk] at hk0 hk1 hsq
    obtain ⟨m0, m1⟩ := sq_bounds hk0 hk1
    have HSQ := Lib.hid hsq
    have hw : wrap64 (k * k) = k * k := IntWalk.wrap64_in _ (by omega)
    have HN := Lib.hid (fun w => specNodeCountV W H k hk w)
    have HK := Lib.hid hk
    have HSZ := Lib.hid (tableG_sized ht)
    clear hk ht hsq
    go_enter Try.func50, Try.ntmps50
    go_wp2_with fail
    refine (HS.out _ HT.out HT2.out).mono ?_
    rintro e w1 ⟨rfl, hg⟩
    have X1 := Lib.hid (X0.out.gb hg)
    obtain ⟨a0, a1, a2, a3⟩ := X1.out.cells
    clear hg
    go_wp2_with fail
    refine (HN.out _).mono ?_
    rintro e w2 ⟨rfl, hg⟩
    have X2 := Lib.hid (show TvAt W H A A2 n cap n2 c2 w (allT W H L P 0) w2 from X1.out.gb hg)
    clear hg a0 a1 a2 a3
    go_wp2_with fail
    go_loopw [7] (fun i wr => ∃ x : Nat, i = .int .i64 (x : Int) ∧ (x : Int) ≤ k * k ∧ TvAt W H A A2 n cap n2 c2 w (allT W H L P x) wr) (fun i _ => 257 - (intOf i).toNat)
    case atStart => exact ⟨0, rfl, by omega, X2.out⟩
    case round =>
      obtain ⟨x, rfl, hx, hxx⟩ := hrel
      have X3 := Lib.hid hxx
      clear hxx
      by_cases hlt : (x : Int) < k * k
      · obtain ⟨hax, hay⟩ := pair_at (W := W) (H := H) (i := x) (by have := HSQ.out; omega)
        have hk1' : 1 ≤ k := by
          rcases Int.lt_or_le k 1 with h | h
          · have : k = 0 := by omega
            subst this; omega
          · exact h
        obtain ⟨u, hu⟩ : ∃ u, (x : Int) / countG W H = u := ⟨_, rfl⟩
        obtain ⟨y, hy⟩ : ∃ y, (x : Int) % countG W H = y := ⟨_, rfl⟩
        obtain ⟨R, hR⟩ : ∃ R, pairW W H L P x = R := ⟨_, rfl⟩
        have hRN := pairW_len (W := W) (H := H) (L := L) (P := P) x
        have HRR := Lib.hid (fun j (h : j < (pairW W H L P x).length) => pairW_range (W := W) (H := H) (L := L) (P := P) h)
        have HAN := Lib.hid (all_next hR)
        rw [hR] at HRR hRN
        have hRw : walkOf W H L P u y = R := by rw [← hR, pairW, hu, hy]
        rw [hu] at hax
        rw [hy] at hay
        have hu15 := hasG_le hax
        have hy15 := hasG_le hay
        rw [HK.out] at hu hy
        have q1 : (x : Int).tdiv k = u := by rw [Int.tdiv_eq_ediv_of_nonneg (by omega)]; exact hu
        have q2 : (x : Int).tmod k = y := by rw [Int.tmod_eq_emod_of_nonneg (by omega)]; exact hy
        have q3 : IntKind.i64.wrap u = u := IntWalk.i64_in _ (by omega)
        have q4 : IntKind.i64.wrap y = y := IntWalk.i64_in _ (by omega)
        have q5 : (k == 0) = false := by simp; omega
        have q6 : k ≠ 0 := by omega
        have HWK := Lib.hid (fun w h h2 => hRw ▸ specWalk W H A A2 n cap n2 c2 L P u y w h h2 hn hn2 HSZ.out hax hay)
        obtain ⟨a0, a1, a2, a3⟩ := X3.out.cells
        have HI2 : Hid (IntAt wr.drew wr.drew.heap.size A n L) := (HI.out.old X3.out.2 : IntAt wr wr.heap.size A n L)
        have HP2 : Hid (IntAt wr.drew wr.drew.heap.size A2 n2 P) := (HP.out.old X3.out.2 : IntAt wr wr.heap.size A2 n2 P)
        obtain ⟨N, hN⟩ : ∃ N, R.length = N := ⟨_, rfl⟩
        have HN2 := Lib.hid hN
        clear hax hay hu hy hR hRw
        go_wp2_with fail
        go_region_held3 (fun w' => w'.cell? ⟨w.heap.size, 0, none⟩ = some (.int .i64 W) ∧ w'.cell? ⟨w.heap.size, 1, none⟩ = some (.int .i64 H) ∧ w'.cell? ⟨w.heap.size, 2, none⟩ = some (.slice A n cap) ∧ w'.cell? ⟨w.heap.size + 1, 0, none⟩ = some (.slice A2 n2 c2))
          (first | exact ⟨a0, a1, a2, a3⟩ | exact ⟨d0, d1, d2, d3⟩)
          (first
            | (go_at_call 61; (with_reducible refine (HWK.out _ HI2.out HP2.out).mono ?_); rintro e w4 ⟨v, rfl, o4, b4⟩; have X4 := Lib.hid (X3.out.gb (gb_of_below (below_undrew3 b4) none)); obtain ⟨d0, d1, d2, d3⟩ := X4.out.cells; have O4 := Lib.hid (own_less o4 (show w.heap.size + 3 ≤ wr.heap.size from X3.out.lt)); obtain ⟨AR, capR, rfl, har⟩ := own_form o4; have HAR := Lib.hid har; clear o4 b4 har; rw [hN])
            | fail)
        all_goals
          have X6 := Lib.hid (show TvAt W H A A2 n cap n2 c2 w (orT (allT W H L P x) (wayT R 0)) w4 by rw [orT_none _ (way_zero R)]; exact X4.out)
          rw [hN] at O4 HAR HRR hRN
          clear d0 d1 d2 d3 hN X4 q1 q2 q3 q4 q5 q6
          go_wp2_with fail
          go_loopw [9] (fun i ws => ∃ j : Nat, i = .int .i64 ((j : Int) + 1) ∧ j ≤ N - 1 ∧ TvAt W H A A2 n cap n2 c2 w (orT (allT W H L P x) (wayT R j)) ws ∧ ws.ownsRow (w.heap.size + 3) 3 1 (.slice AR N capR) N (intsV R)) (fun i _ => 17 - (intOf i).toNat)
          case atStart => exact ⟨0, rfl, Nat.zero_le _, X6.out, O4.out⟩
          case round =>
            obtain ⟨j, rfl, hj, hx, ho⟩ := hrel
            have X7 := Lib.hid hx
            have O7 := Lib.hid ho
            clear hx ho
            by_cases hlt3 : j + 1 < N
            · have hl3 : (j : Int) + 1 < (N : Int) := by omega
              obtain ⟨gv, hgv⟩ := HAR.out (by omega)
              subst hgv
              obtain ⟨x1, hx1⟩ : ∃ z, R.getD j 0 = z := ⟨_, rfl⟩
              obtain ⟨x2, hx2⟩ : ∃ z, R.getD (j + 1) 0 = z := ⟨_, rfl⟩
              obtain ⟨r10, r11⟩ := HRR.out j (by omega)
              obtain ⟨r20, r21⟩ := HRR.out (j + 1) hlt3
              have c1 := ints_cell O7.out j x1 (by rw [← hx1, List.getD, List.getElem?_eq_getElem (by rw [HN2.out]; omega)]; rfl) HN2.out
              have c2' := ints_cell O7.out (j + 1) x2 (by rw [← hx2, List.getD, List.getElem?_eq_getElem (by rw [HN2.out]; omega)]; rfl) HN2.out
              rw [hx1] at r10 r11
              rw [hx2] at r20 r21
              obtain ⟨p, hp⟩ : ∃ p : Nat, x1 % 4 = (p : Int) := ⟨(x1 % 4).toNat, by omega⟩
              obtain ⟨q, hq⟩ : ∃ q : Nat, x2 % 4 = (q : Int) := ⟨(x2 % 4).toNat, by omega⟩
              have hwn := Lib.hid (way_next (allT W H L P x) R j p q (by rw [hx1, hp]) (by rw [hx2, hq]))
              have p3 : (p : Int) ≤ 3 := by omega
              have q3 : (q : Int) ≤ 3 := by omega
              have t1 : x1.tmod 4 = (p : Int) := by rw [Int.tmod_eq_emod_of_nonneg r10, hp]
              have t2 : x2.tmod 4 = (q : Int) := by rw [Int.tmod_eq_emod_of_nonneg r20, hq]
              have t3 : IntKind.i64.wrap (p : Int) = (p : Int) := IntWalk.i64_in _ (by omega)
              have t4 : IntKind.i64.wrap (q : Int) = (q : Int) := IntWalk.i64_in _ (by omega)
              obtain ⟨m, hm⟩ : ∃ m : Nat, j + 1 = m := ⟨_, rfl⟩
              have hmi : (j : Int) + 1 = (m : Int) := by omega
              rw [hm] at c2'
              have j0 : (0 : Int) ≤ (j : Int) := by omega
              have j1 : (j : Int) < (N : Int) := by omega
              have j2 : (0 : Int) ≤ (m : Int) := by omega
              have j3 : (m : Int) < (N : Int) := by omega
              have e2 : IntKind.i64.wrap ((m : Int) - 1) = (j : Int) := by rw [IntWalk.i64_in _ (by omega)]; omega
              have HM := Lib.hid (And.intro hm hlt3)
              rw [hmi]
              clear hp hq hx1 hx2 hl3 hlt3 hmi hm
              by_cases hpq : (p : Int) = (q : Int)
              · have hne : ((p : Int) != (q : Int)) = false := by simpa using hpq
                have X8 := Lib.hid (show TvAt W H A A2 n cap n2 c2 w (orT (allT W H L P x) (wayT R (j + 1))) wr by rw [← hwn.out, withT_same hpq]; exact X7.out)
                clear hpq
                go_wp2_with fail
                go_region_held3 (fun w' => w'.cell? ⟨gv, j, none⟩ = some (.int .i64 x1) ∧ w'.cell? ⟨gv, m, none⟩ = some (.int .i64 x2))
                  (first | exact ⟨c1, c2'⟩ | fail)
                  (first | fail)
                all_goals
                  go_wp2_with fail
                  go_roundw
                  case rel => exact ⟨j + 1, by have hm := HM.out.1; go_num, by have := HM.out.2; omega, X8.out.dr, own_dr O7.out⟩
                  case measure => have hm := HM.out; simp [intOf]; omega
              · have hne : ((p : Int) != (q : Int)) = true := by simpa using hpq
                obtain ⟨z, hz⟩ : ∃ z : Nat, 4 * p = z := ⟨_, rfl⟩
                obtain ⟨y', hy'⟩ : ∃ y' : Nat, 4 * p + q = y' := ⟨_, rfl⟩
                have X8 := Lib.hid (show TvAt W H A A2 n cap n2 c2 w (orT (allT W H L P x) (wayT R (j + 1))) (wr.setCell ⟨w.heap.size + 1 + 1, y', none⟩ (.bool true)) by rw [← hwn.out]; exact X7.out.put hpq hy')
                have O8 := Lib.hid (ownsRow_setCell_below O7.out (a := ⟨w.heap.size + 1 + 1, y', none⟩) (by show w.heap.size + 1 + 1 < w.heap.size + 3; omega) (.bool true))
                obtain ⟨o, hoo⟩ : ∃ o, orT (allT W H L P x) (wayT R j) y' = o := ⟨_, rfl⟩
                have c3 : wr.cell? ⟨w.heap.size + 1 + 1, y', none⟩ = some (.bool o) := hoo ▸ (X7.out.1.cell y').trans (cellsF_at _ (by omega))
                have f3 := X7.out.1.frozen y'
                have e3 : IntKind.i64.wrap (4 * (p : Int)) = (z : Int) := by rw [IntWalk.i64_in _ (by omega)]; omega
                have e4 : IntKind.i64.wrap ((z : Int) + (q : Int)) = (y' : Int) := by rw [IntWalk.i64_in _ (by omega)]; omega
                have j4 : (0 : Int) ≤ (y' : Int) := by omega
                have j5 : (y' : Int) < 16 := by omega
                clear hpq hz hy' hoo
                go_wp2_with fail
                go_region_held3 (fun w' => w'.cell? ⟨gv, j, none⟩ = some (.int .i64 x1) ∧ w'.cell? ⟨gv, m, none⟩ = some (.int .i64 x2))
                  (first | exact ⟨c1, c2'⟩ | fail)
                  (first | fail)
                all_goals
                  go_wp2_with fail
                  go_region
                all_goals
                  go_wp2_with fail
                  go_roundw
                  case rel => exact ⟨j + 1, by have hm := HM.out.1; go_num, by have := HM.out.2; omega, X8.out.dr.dr, own_dr (own_dr O8.out)⟩
                  case measure => have hm := HM.out; simp [intOf]; omega
            · obtain rfl : j = N - 1 := by omega
              have hl3 : ¬ ((N - 1 : Nat) : Int) + 1 < (N : Int) := by omega
              have X8 := Lib.hid (show TvAt W H A A2 n cap n2 c2 w (allT W H L P (x + 1)) _ from by
                rw [← HAN.out, HN2.out]
                exact X7.out)
              clear X7 O7
              go_wp2_with fail
              go_roundw
              case rel => exact ⟨x + 1, by go_num, by omega, X8.out⟩
              case measure => simp [intOf]; omega
      · have hxk : x = sqG W H := by have := HSQ.out; omega
        have HE := Lib.hid (hxk ▸ X3.out.mark)
        rw [← hxk] at HF
        clear hxk
        go_wp2_with fail
        refine X3.out.mark.mono ?_
        rintro e w2 hn
        have HN3 := Lib.hid hn
        clear hn
        obtain ⟨v, rfl, _⟩ := HN3.out
        go_wp2_with fail
        go_ret
        rw [HF.out]
        exact HN3.out
end Go.Proofs.Ytecaehkckamhkaa
