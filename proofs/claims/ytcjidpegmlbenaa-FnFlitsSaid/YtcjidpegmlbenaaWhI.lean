/- What is proved here: what the program's IsWhole, CountPackets and SameFlits return, for every list of flits; only new blocks are written. -/
import Derived.Test.YtcjidpegmlbenaaFlS
namespace Go.Proofs.Ytcjidpegmlbenaa
open Go.ChangeShapes Go.WideShapes Go.ChangeAt Go.RowKit
set_option linter.unusedVariables false
set_option maxRecDepth 20000

/-- All elements are the first one. -/
def eqF (D : List Flt) : Bool := (List.range D.length).all fun i => decide (atF D i = atF D 0)
theorem eq_noF {D : List Flt} {i : Nat} (hi : i < D.length) (h : atF D i ≠ atF D 0) : eqF D = false := by
  cases he : eqF D with
  | false => rfl
  | true =>
    simp only [eqF, List.all_eq_true, List.mem_range, decide_eq_true_eq] at he
    exact absurd (he i hi) h
theorem eq_yesF {D : List Flt} (h : ∀ i, i < D.length → atF D i = atF D 0) : eqF D = true := by
  simp only [eqF, List.all_eq_true, List.mem_range, decide_eq_true_eq]
  exact h
theorem eq_two (x y : Flt) : eqF [x, y] = decide (x = y) := by
  by_cases h : x = y
  · subst h
    rw [decide_eq_true rfl]
    refine eq_yesF fun i hi => ?_
    rcases (show i = 0 ∨ i = 1 by simp at hi; omega) with rfl | rfl <;> rfl
  · rw [decide_eq_false h]
    exact eq_noF (i := 1) (by simp) (fun e => h e.symm)
def bodyF (x : Flt) : Flt := ⟨x.pk, x.to, x.cl, false, false⟩
theorem atF_body {D : List Flt} {i : Nat} (h : i < D.length) : atF (D.map bodyF) i = bodyF (atF D i) := atF_of (by rw [List.getElem?_map, atF_get h]; rfl)
theorem body_eq {x y : Flt} : bodyF x = bodyF y ↔ x.pk = y.pk ∧ x.to = y.to ∧ x.cl = y.cl := by simp [bodyF]
theorem whole_eq {D : List Flt} (hp : 0 < D.length) (h : ∀ i, i < D.length → (atF D i).hd = decide (i = 0) ∧ (atF D i).tl = decide (i + 1 = D.length)) : eqF (D.map bodyF) = wholeG D := by
  cases he : eqF (D.map bodyF) with
  | true =>
    simp only [eqF, List.all_eq_true, List.mem_range, decide_eq_true_eq, List.length_map] at he
    refine (whole_yes hp fun i hi => ?_).symm
    have h1 := he i hi
    rw [atF_body hi, atF_body hp, body_eq] at h1
    exact decide_eq_true ⟨h1.1, h1.2.1, h1.2.2, (h i hi).1, (h i hi).2⟩
  | false =>
    cases hw : wholeG D with
    | false => rfl
    | true =>
      rw [eq_yesF fun i hi => ?_] at he
      · cases he
      · rw [List.length_map] at hi
        have h1 := of_decide_eq_true ((whole_iff.1 hw).2 i hi)
        rw [atF_body hi, atF_body hp, body_eq]
        exact ⟨h1.1, h1.2.1, h1.2.2.1⟩
def bodiesTo (D : List Flt) (k : Nat) : List Flt := (D.take k).map bodyF
theorem bodies_next {D : List Flt} {k : Nat} {x : Flt} (h : D[k]? = some x) : bodiesTo D (k + 1) = bodiesTo D k ++ [bodyF x] := by
  have hk := (List.getElem?_eq_some_iff.1 h).1
  have e : D[k] = x := (List.getElem?_eq_some_iff.1 h).2
  rw [bodiesTo, List.take_succ_eq_append_getElem hk, List.map_append, e]
  rfl
theorem bodies_len {D : List Flt} {k : Nat} (h : k ≤ D.length) : (bodiesTo D k).length = k := by simp [bodiesTo]; omega
theorem bodies_all (D : List Flt) : bodiesTo D D.length = D.map bodyF := by rw [bodiesTo, List.take_length]

theorem implBody (x : Flt) (w : World) :
    Calls Try.prog 35 #[.agg #[.int .i64 x.pk, .int .i64 x.to, .int .i64 x.cl, .bool x.hd, .bool x.tl]] w fun e w' => e = .returned (.agg #[.int .i64 x.pk, .int .i64 x.to, .int .i64 x.cl, .bool false, .bool false]) ∧ w.grownBy w' none := by
  go_enter Try.func35, Try.ntmps35
  go_wp2_with fail
  refine bodyPost_ret (v := .agg #[.int .i64 x.pk, .int .i64 x.to, .int .i64 x.cl, .bool false, .bool false]) (by simp [results, Try.results35, go_sem]) rfl ⟨rfl, ?_⟩
  exact gb_alloc (gb_alloc (gb_refl _ _) _) _

set_option maxHeartbeats 1600000 in
theorem implEqual (A : Option Addr) (n cap : Nat) (D : List Flt) (w : World) (h : RecAt 5 fltC w w.heap.size A n D) (hn : n ≤ 1000000000) :
    Calls Try.prog 36 #[.slice A n cap] w (RetB (eqF D) w) := by
  have HI := Lib.hid h
  have hl := h.1
  have HNO := Lib.hid (fun i => eq_noF (D := D) (i := i))
  have HYES := Lib.hid (eq_yesF (D := D))
  obtain ⟨r, hr⟩ : ∃ r, eqF D = r := ⟨_, rfl⟩
  rw [hr] at HNO HYES
  rw [hr]
  clear h hr
  go_enter Try.func36, Try.ntmps36
  go_wp2_with fail
  go_loopw [7] (fun i wr => ∃ k : Nat, i = .int .i64 (k : Int) ∧ k ≤ n ∧ (∀ j, j < k → atF D j = atF D 0) ∧ w.grownBy wr none) (fun i _ => n - (intOf i).toNat)
  case atStart => exact ⟨0, rfl, Nat.zero_le _, fun j hj => by omega, gb_refl _ _⟩
  case round =>
    obtain ⟨k, rfl, hk, hs, hg⟩ := hrel
    have HG := Lib.hid hg
    have HS := Lib.hid hs
    by_cases hlt : k < n
    · obtain ⟨b1, o1, x, rfl, hb1, hx, ha⟩ := (HI.out.none (Nat.le_refl _) hg).at k hlt
      obtain ⟨b2, o2, y, e2, _, hy, hb⟩ := (HI.out.none (Nat.le_refl _) hg).at 0 (by omega)
      injection e2 with e2
      injection e2 with e3 e4
      subst e3 e4
      rw [Nat.zero_mul, Nat.add_zero] at hb
      obtain ⟨a0, a1, a2, a3, a4⟩ := flt_five ha
      obtain ⟨b0, b1', b2', b3, b4⟩ := flt_five hb
      have HX := Lib.hid (atF_of hx)
      have HY := Lib.hid (atF_of hy)
      have k0 : (0 : Int) ≤ (k : Int) := by omega
      have k1 : (k : Int) < (n : Int) := by omega
      have hsz := hg.size
      have g0 := Lib.hid (show w.grownBy (fltB x wr) none from gb_alloc hg _)
      have c0 : (fltB x wr).cell? ⟨b1, o1, none⟩ = some (.int .i64 y.pk) := (gb_alloc (gb_refl wr none) _).cell b0 (by simp)
      have c1 : (fltB x wr).cell? ⟨b1, o1 + 1, none⟩ = some (.int .i64 y.to) := (gb_alloc (gb_refl wr none) _).cell b1' (by simp)
      have c2 : (fltB x wr).cell? ⟨b1, o1 + 2, none⟩ = some (.int .i64 y.cl) := (gb_alloc (gb_refl wr none) _).cell b2' (by simp)
      have c3 : (fltB x wr).cell? ⟨b1, o1 + 3, none⟩ = some (.bool y.hd) := (gb_alloc (gb_refl wr none) _).cell b3 (by simp)
      have c4 : (fltB x wr).cell? ⟨b1, o1 + 4, none⟩ = some (.bool y.tl) := (gb_alloc (gb_refl wr none) _).cell b4 (by simp)
      have d0 : (fltB x wr).cell? ⟨wr.heap.size, 0, none⟩ = some (.int .i64 x.pk) := (fltB_blk x wr).cell 0
      have d1 : (fltB x wr).cell? ⟨wr.heap.size, 1, none⟩ = some (.int .i64 x.to) := (fltB_blk x wr).cell 1
      have d2 : (fltB x wr).cell? ⟨wr.heap.size, 2, none⟩ = some (.int .i64 x.cl) := (fltB_blk x wr).cell 2
      have d3 : (fltB x wr).cell? ⟨wr.heap.size, 3, none⟩ = some (.bool x.hd) := (fltB_blk x wr).cell 3
      have d4 : (fltB x wr).cell? ⟨wr.heap.size, 4, none⟩ = some (.bool x.tl) := (fltB_blk x wr).cell 4
      clear hx hy ha hb hs hg b0 b1' b2' b3 b4
      go_wp2_with fail
      change Code.wp _ _ _ _ (fltB x wr)
      clear a0 a1 a2 a3 a4
      obtain ⟨gx, hgx⟩ : ∃ gx, wr.heap.size = gx := ⟨_, rfl⟩
      obtain ⟨W1, hW1⟩ : ∃ W1, fltB x wr = W1 := ⟨_, rfl⟩
      rw [hW1] at g0 c0 c1 c2 c3 c4 d0 d1 d2 d3 d4 ⊢
      rw [hgx] at d0 d1 d2 d3 d4 hsz ⊢
      clear hW1 hgx
      by_cases hxy : x = y
      · have HE := run_neF (x := x) (d := y) (b := false) (by simp [hxy])
        have HXY := Lib.hid hxy
        clear hxy
        go_wp2_with fail
        go_quiet (fail)
        go_wp2_with fail
        go_roundw
        case rel => exact ⟨k + 1, by go_num, by omega, fun j hj => by
          rcases Nat.lt_succ_iff_lt_or_eq.1 hj with h | h
          · exact HS.out j h
          · rw [h, HX.out, HY.out, HXY.out], by first | exact g0.out | exact gb_drewN g0.out _⟩
        case measure => simp [intOf]; omega
      · have HE := run_neF (x := x) (d := y) (b := true) (by simp [hxy])
        have HR := Lib.hid (HNO.out k (by omega) (by rw [HX.out, HY.out]; exact hxy))
        clear hxy
        go_wp2_with fail
        go_quiet (fail)
        go_wp2_with fail
        go_ret
        exact ⟨ret_bool HR.out.symm, by first | exact g0.out | exact gb_drewN g0.out _⟩
    · have k1 : ¬ (k : Int) < (n : Int) := by omega
      have HR := Lib.hid (HYES.out (fun j hj => hs j (by omega)))
      clear hs hg
      go_wp2_with fail
      go_ret
      exact ⟨ret_bool HR.out.symm, HG.out⟩

theorem implEqualV (A : Option Addr) (n cap : Nat) (D : List Flt) (b : Bool) (hb : eqF D = b) (w : World) (h : RecAt 5 fltC w w.heap.size A n D) (hn : n ≤ 1000000000) :
    Calls Try.prog 36 #[.slice A n cap] w (RetB b w) := hb ▸ implEqual A n cap D w h hn
/-- A new row of two records. -/
theorem two_rec (x y : Flt) (w : World) : RecAt 5 fltC (w.alloc (.cells #[.int .i64 x.pk, .int .i64 x.to, .int .i64 x.cl, .bool x.hd, .bool x.tl, .int .i64 y.pk, .int .i64 y.to, .int .i64 y.cl, .bool y.hd, .bool y.tl] 39)) (w.alloc (.cells #[.int .i64 x.pk, .int .i64 x.to, .int .i64 x.cl, .bool x.hd, .bool x.tl, .int .i64 y.pk, .int .i64 y.to, .int .i64 y.cl, .bool y.hd, .bool y.tl] 39)).heap.size (some ⟨w.heap.size, 0, none⟩) 2 [x, y] := by
  have hb := Blk.new w 39 #[.int .i64 x.pk, .int .i64 x.to, .int .i64 x.cl, .bool x.hd, .bool x.tl, .int .i64 y.pk, .int .i64 y.to, .int .i64 y.cl, .bool y.hd, .bool y.tl]
  refine ⟨rfl, fun _ => ⟨w.heap.size, 0, rfl, by rw [alloc_size]; omega, fun k z hz j v hv => ?_⟩⟩
  have hj : j < 5 := by have := (List.getElem?_eq_some_iff.1 hv).1; rw [fltL.len] at this; exact this
  have hk : k = 0 ∨ k = 1 := by have := (List.getElem?_eq_some_iff.1 hz).1; simp at this; omega
  rcases hk with rfl | rfl
  · obtain rfl : x = z := by simpa using hz
    rcases (show j = 0 ∨ j = 1 ∨ j = 2 ∨ j = 3 ∨ j = 4 by omega) with rfl | rfl | rfl | rfl | rfl <;> (obtain rfl := Option.some.inj hv; first | exact hb.cell 0 | exact hb.cell 1 | exact hb.cell 2 | exact hb.cell 3 | exact hb.cell 4)
  · obtain rfl : y = z := by simpa using hz
    rcases (show j = 0 ∨ j = 1 ∨ j = 2 ∨ j = 3 ∨ j = 4 by omega) with rfl | rfl | rfl | rfl | rfl <;> (obtain rfl := Option.some.inj hv; first | exact hb.cell 5 | exact hb.cell 6 | exact hb.cell 7 | exact hb.cell 8 | exact hb.cell 9)
theorem two_recD (x y : Flt) (w : World) : RecAt 5 fltC (w.alloc (.cells #[.int .i64 x.pk, .int .i64 x.to, .int .i64 x.cl, .bool x.hd, .bool x.tl, .int .i64 y.pk, .int .i64 y.to, .int .i64 y.cl, .bool y.hd, .bool y.tl] 39)).drew (w.alloc (.cells #[.int .i64 x.pk, .int .i64 x.to, .int .i64 x.cl, .bool x.hd, .bool x.tl, .int .i64 y.pk, .int .i64 y.to, .int .i64 y.cl, .bool y.hd, .bool y.tl] 39)).drew.heap.size (some ⟨w.heap.size, 0, none⟩) 2 [x, y] := (two_rec x y w).none (Nat.le_refl _) (gb_drew (gb_refl _ none))

set_option maxHeartbeats 1600000 in
theorem implCountPackets (A : Option Addr) (n cap : Nat) (D : List Flt) (w : World) (h : RecAt 5 fltC w w.heap.size A n D) (hn : n ≤ 1000000000) :
    Calls Try.prog 15 #[.slice A n cap] w (RetI (tailsN D : Int) none w) := by
  have HI := Lib.hid h
  have hl := h.1
  have HZ := Lib.hid (tails_zero D)
  clear h
  go_enter Try.func15, Try.ntmps15
  go_wp2_with fail
  go_loopw [3, 8] (fun c i wr => ∃ k : Nat, i = .int .i64 (k : Int) ∧ k ≤ n ∧ c = .int .i64 (tailsN (D.take k) : Int) ∧ w.grownBy wr none) (fun _ i _ => n - (intOf i).toNat)
  case atStart => exact ⟨0, rfl, Nat.zero_le _, by rw [HZ.out]; rfl, gb_refl _ _⟩
  case round =>
    obtain ⟨k, rfl, hk, rfl, hg⟩ := hrel
    have HG := Lib.hid hg
    obtain ⟨t, ht⟩ : ∃ t, tailsN (D.take k) = t := ⟨_, rfl⟩
    have ht9 : t ≤ 1000000000 := by rw [← ht]; have := tails_le (D.take k); simp at this; omega
    rw [ht]
    by_cases hlt : k < n
    · obtain ⟨b, o, x, rfl, _, hx, hc⟩ := (HI.out.none (Nat.le_refl _) hg).at k hlt
      obtain ⟨a0, a1, a2, a3, a4⟩ := flt_five hc
      have k0 : (0 : Int) ≤ (k : Int) := by omega
      have k1 : (k : Int) < (n : Int) := by omega
      have e1 : IntKind.i64.wrap ((t : Int) + 1) = ((t + 1 : Nat) : Int) := by rw [IntWalk.i64_in _ (by omega)]; omega
      obtain ⟨b, hb⟩ : ∃ b, x.tl = b := ⟨_, rfl⟩
      have HNX := Lib.hid (tailsN_next hx hb)
      rw [ht] at HNX
      clear hx hc hg ht
      cases b with
      | true =>
        go_wp2_with fail
        go_roundw
        case rel => exact ⟨k + 1, by go_num, by omega, by rw [HNX.out]; simp, gb_alloc HG.out _⟩
        case measure => simp [intOf]; omega
      | false =>
        go_wp2_with fail
        go_roundw
        case rel => exact ⟨k + 1, by go_num, by omega, by rw [HNX.out]; simp, gb_alloc HG.out _⟩
        case measure => simp [intOf]; omega
    · obtain rfl : k = n := by omega
      have HT := Lib.hid (show t = tailsN D by rw [← ht, ← hl, tails_all])
      have k1 : ¬ (k : Int) < (k : Int) := by omega
      clear hg ht
      go_wp2_with fail
      go_ret
      exact ⟨by rw [HT.out]; rfl, HG.out⟩

set_option maxHeartbeats 1600000 in
theorem implSameFlits (A A2 : Option Addr) (n cap n2 c2 : Nat) (D E : List Flt) (w : World) (h : RecAt 5 fltC w w.heap.size A n D) (h2 : RecAt 5 fltC w w.heap.size A2 n2 E) (hn : n ≤ 1000000000) (hn2 : n2 ≤ 1000000000) :
    Calls Try.prog 16 #[.slice A n cap, .slice A2 n2 c2] w (RetB (sameF D E) w) := by
  have HI := Lib.hid h
  have HI2 := Lib.hid h2
  have hl := h.1
  have hl2 := h2.1
  have HNO := Lib.hid (fun i => same_no (D := D) (E := E) (i := i))
  have HYES := Lib.hid (same_yes (D := D) (E := E))
  have HLEN := Lib.hid (same_len (D := D) (E := E))
  have HEQ := Lib.hid (fun A n cap D b hb w h hn => implEqualV A n cap D b hb w h hn)
  obtain ⟨r, hr⟩ : ∃ r, sameF D E = r := ⟨_, rfl⟩
  rw [hr] at HNO HYES HLEN
  rw [hr]
  clear h h2 hr
  by_cases hnn : n = n2
  · subst hnn
    have q0 : ((n : Int) != (n : Int)) = false := by simp
    go_enter Try.func16, Try.ntmps16
    go_wp2_with fail
    go_loopw [14] (fun i wr => ∃ k : Nat, i = .int .i64 (k : Int) ∧ k ≤ n ∧ (∀ j, j < k → atF D j = atF E j) ∧ w.grownBy wr none) (fun i _ => n - (intOf i).toNat)
    case atStart => exact ⟨0, rfl, Nat.zero_le _, fun j hj => by omega, gb_refl _ _⟩
    case round =>
      obtain ⟨k, rfl, hk, hs, hg⟩ := hrel
      have HG := Lib.hid hg
      have HS := Lib.hid hs
      by_cases hlt : k < n
      · obtain ⟨b1, o1, x, rfl, _, hx, ha⟩ := (HI.out.none (Nat.le_refl _) hg).at k hlt
        obtain ⟨b2, o2, y, rfl, hb2, hy, hb⟩ := (HI2.out.none (Nat.le_refl _) hg).at k hlt
        obtain ⟨a0, a1, a2, a3, a4⟩ := flt_five ha
        obtain ⟨b0, b1', b2', b3, b4⟩ := flt_five hb
        have HX := Lib.hid (atF_of hx)
        have HY := Lib.hid (atF_of hy)
        have k0 : (0 : Int) ≤ (k : Int) := by omega
        have k1 : (k : Int) < (n : Int) := by omega
        have g0 := Lib.hid (show w.grownBy (fltB x wr) none from gb_alloc hg _)
        have c0 : (fltB x wr).cell? ⟨b2, o2 + k * 5, none⟩ = some (.int .i64 y.pk) := (gb_alloc (gb_refl wr none) _).cell b0 (by simp)
        have c1 : (fltB x wr).cell? ⟨b2, o2 + k * 5 + 1, none⟩ = some (.int .i64 y.to) := (gb_alloc (gb_refl wr none) _).cell b1' (by simp)
        have c2 : (fltB x wr).cell? ⟨b2, o2 + k * 5 + 2, none⟩ = some (.int .i64 y.cl) := (gb_alloc (gb_refl wr none) _).cell b2' (by simp)
        have c3 : (fltB x wr).cell? ⟨b2, o2 + k * 5 + 3, none⟩ = some (.bool y.hd) := (gb_alloc (gb_refl wr none) _).cell b3 (by simp)
        have c4 : (fltB x wr).cell? ⟨b2, o2 + k * 5 + 4, none⟩ = some (.bool y.tl) := (gb_alloc (gb_refl wr none) _).cell b4 (by simp)
        have d0 : (fltB x wr).cell? ⟨wr.heap.size, 0, none⟩ = some (.int .i64 x.pk) := (fltB_blk x wr).cell 0
        have d1 : (fltB x wr).cell? ⟨wr.heap.size, 1, none⟩ = some (.int .i64 x.to) := (fltB_blk x wr).cell 1
        have d2 : (fltB x wr).cell? ⟨wr.heap.size, 2, none⟩ = some (.int .i64 x.cl) := (fltB_blk x wr).cell 2
        have d3 : (fltB x wr).cell? ⟨wr.heap.size, 3, none⟩ = some (.bool x.hd) := (fltB_blk x wr).cell 3
        have d4 : (fltB x wr).cell? ⟨wr.heap.size, 4, none⟩ = some (.bool x.tl) := (fltB_blk x wr).cell 4
        clear hx hy ha hb hs hg b0 b1' b2' b3 b4
        go_wp2_with fail
        change Code.wp _ _ _ _ (fltB x wr)
        clear a0 a1 a2 a3 a4
        obtain ⟨gx, hgx⟩ : ∃ gx, wr.heap.size = gx := ⟨_, rfl⟩
        obtain ⟨W1, hW1⟩ : ∃ W1, fltB x wr = W1 := ⟨_, rfl⟩
        rw [hW1] at g0 c0 c1 c2 c3 c4 d0 d1 d2 d3 d4 ⊢
        rw [hgx] at d0 d1 d2 d3 d4 ⊢
        clear hW1 hgx
        have e0 := (gb_drew (gb_refl W1 none)).cell c0 (by simp)
        have e1 := (gb_drew (gb_refl W1 none)).cell c1 (by simp)
        have e2 := (gb_drew (gb_refl W1 none)).cell c2 (by simp)
        have e3 := (gb_drew (gb_refl W1 none)).cell c3 (by simp)
        have e4 := (gb_drew (gb_refl W1 none)).cell c4 (by simp)
        have f0 := (gb_drew (gb_refl W1 none)).cell d0 (by simp)
        have f1 := (gb_drew (gb_refl W1 none)).cell d1 (by simp)
        have f2 := (gb_drew (gb_refl W1 none)).cell d2 (by simp)
        have f3 := (gb_drew (gb_refl W1 none)).cell d3 (by simp)
        have f4 := (gb_drew (gb_refl W1 none)).cell d4 (by simp)
        have TR := Lib.hid (two_recD x y W1)
        have G2 := Lib.hid (fun w4 (g4 : (W1.alloc (.cells #[.int .i64 x.pk, .int .i64 x.to, .int .i64 x.cl, .bool x.hd, .bool x.tl, .int .i64 y.pk, .int .i64 y.to, .int .i64 y.cl, .bool y.hd, .bool y.tl] 39)).drew.grownBy w4 none) => show w.grownBy w4 none from gb_trans (gb_drew (gb_alloc g0.out _)) g4)
        clear c0 c1 c2 c3 c4 d0 d1 d2 d3 d4
        by_cases hxy : x = y
        · have HE := Lib.hid (show eqF [x, y] = true by rw [eq_two]; exact decide_eq_true hxy)
          have HXY := Lib.hid hxy
          clear hxy
          go_still_tail 5, (by kernel_rfl)
          change wpList _ _ _ _ _ W1.drew
          go_wp2_with fail
          refine (HEQ.out _ 2 2 [x, y] true HE.out _ TR.out (by omega)).mono ?_
          rintro e w4 ⟨rfl, g4⟩
          have G4 := Lib.hid (G2.out w4 g4)
          clear g4 e0 e1 e2 e3 e4 f0 f1 f2 f3 f4
          go_wp2_with fail
          go_roundw
          case rel => exact ⟨k + 1, by go_num, by omega, fun j hj => by
            rcases Nat.lt_succ_iff_lt_or_eq.1 hj with h | h
            · exact HS.out j h
            · rw [h, HX.out, HY.out, HXY.out], G4.out⟩
          case measure => simp [intOf]; omega
        · have HE := Lib.hid (show eqF [x, y] = false by rw [eq_two]; exact decide_eq_false hxy)
          have HR := Lib.hid (HNO.out k (by rw [HX.out, HY.out]; exact hxy))
          clear hxy
          go_still_tail 5, (by kernel_rfl)
          change wpList _ _ _ _ _ W1.drew
          go_wp2_with fail
          refine (HEQ.out _ 2 2 [x, y] false HE.out _ TR.out (by omega)).mono ?_
          rintro e w4 ⟨rfl, g4⟩
          have G4 := Lib.hid (G2.out w4 g4)
          clear g4 e0 e1 e2 e3 e4 f0 f1 f2 f3 f4
          go_wp2_with fail
          go_ret
          exact ⟨ret_bool HR.out.symm, G4.out⟩
      · have k1 : ¬ (k : Int) < (n : Int) := by omega
        have HR := Lib.hid (HYES.out (by omega) (fun j hj => hs j (by omega)))
        clear hs hg
        go_wp2_with fail
        go_ret
        exact ⟨ret_bool HR.out.symm, HG.out⟩
  · have HR := Lib.hid (HLEN.out (by omega))
    have q0 : ((n : Int) != (n2 : Int)) = true := by simp; omega
    clear hnn
    go_enter Try.func16, Try.ntmps16
    go_wp2_with fail
    go_ret
    exact ⟨ret_bool HR.out.symm, gb_refl _ _⟩

set_option maxHeartbeats 3200000 in
theorem implIsWhole (A : Option Addr) (n cap : Nat) (D : List Flt) (w : World) (h : RecAt 5 fltC w w.heap.size A n D) (hn : n ≤ 1000000000) :
    Calls Try.prog 14 #[.slice A n cap] w (RetB (wholeG D) w) := by
  obtain ⟨i0, hi, hz0, hz1, hz2⟩ := info_parts info_flt
  have HI := Lib.hid h
  have hl := h.1
  have HNO := Lib.hid (fun i => whole_no (D := D) (i := i))
  have HEQ := Lib.hid (whole_eq (D := D))
  have HNIL := Lib.hid (fun (e : D = []) => show wholeG D = false by rw [e]; rfl)
  have HBL := Lib.hid (fun k (h : k ≤ D.length) => bodies_len h)
  have HALL := Lib.hid (bodies_all D)
  obtain ⟨r, hr⟩ : ∃ r, wholeG D = r := ⟨_, rfl⟩
  rw [hr] at HNO HEQ HNIL
  rw [hr]
  have hlw : IntKind.i64.wrap ((n : Int) - 1) = (n : Int) - 1 := IntWalk.i64_in _ (by omega)
  clear h hr
  go_enter Try.func14, Try.ntmps14
  go_wp2_with fail
  go_loopw [3, 8] (fun v i wr => ∃ k : Nat, i = .int .i64 (k : Int) ∧ k ≤ n ∧ (∀ j, j < k → (atF D j).hd = decide (j = 0) ∧ (atF D j).tl = decide (j + 1 = n)) ∧ wr.ownsRow w.heap.size 39 5 v k (recV fltC (bodiesTo D k)) ∧ Below w.heap.size w wr) (fun _ i _ => n - (intOf i).toNat)
  case atStart => exact ⟨0, rfl, Nat.zero_le _, fun j hj => by omega, World.ownsRow_nil _ _ _ _, gb_below_none (gb_refl w none) (Nat.le_refl _)⟩
  case round =>
    obtain ⟨k, rfl, hk, hs, ho, hbl⟩ := hrel
    have HS := Lib.hid hs
    have HO := Lib.hid ho
    have HB := Lib.hid hbl
    have hsz := hbl.size
    obtain ⟨Av, cv, rfl, _⟩ := own_form ho
    by_cases hlt : k < n
    · obtain ⟨b1, o1, x, rfl, hb1, hx, ha⟩ := (HI.out.below hbl).at k hlt
      obtain ⟨a0, a1, a2, a3, a4⟩ := flt_five ha
      have hat : wholeAt D k = decide (x.pk = (atF D 0).pk ∧ x.to = (atF D 0).to ∧ x.cl = (atF D 0).cl ∧ x.hd = decide (k = 0) ∧ x.tl = decide (k + 1 = n)) := by
        rw [wholeAt, atF_of hx, hl]
      have k0 : (0 : Int) ≤ (k : Int) := by omega
      have k1 : (k : Int) < (n : Int) := by omega
      obtain ⟨t4, ht4⟩ : ∃ t, decide (k = 0) = t := ⟨_, rfl⟩
      obtain ⟨t5, ht5⟩ : ∃ t, decide (k + 1 = n) = t := ⟨_, rfl⟩
      have u4 : ((k : Int) == 0) = t4 := by rw [← ht4]; by_cases h : k = 0 <;> simp [h]
      have u5 : ((k : Int) == (n : Int) - 1) = t5 := by rw [← ht5]; exact Bool.eq_iff_iff.2 (by simp; omega)
      rw [ht4, ht5] at hat
      have HFL := Lib.hid (fun (h4 : x.hd = t4) (h5 : x.tl = t5) => show ∀ j, j < k + 1 → (atF D j).hd = decide (j = 0) ∧ (atF D j).tl = decide (j + 1 = n) from fun j hj => by
        rcases Nat.lt_succ_iff_lt_or_eq.1 hj with h | h
        · exact HS.out j h
        · rw [h, atF_of hx, ht4, ht5]; exact ⟨h4, h5⟩)
      have b3' := Lib.hid (show ∀ u ∈ [Value.int .i64 x.pk, .int .i64 x.to, .int .i64 x.cl, .bool false, .bool false], u.oneCell' = true by simp [Value.oneCell'])
      have b4' := Lib.hid (show k + 1 ≤ maxLen by unfold maxLen; omega)
      have HTO := Lib.hid (show recV fltC (bodiesTo D k) ++ [.int .i64 x.pk, .int .i64 x.to, .int .i64 x.cl, .bool false, .bool false] = recV fltC (bodiesTo D (k + 1)) by rw [bodies_next hx, recV_append]; rfl)
      clear hx ht4 ht5
      obtain ⟨xp, xt, xc, xh, xl⟩ := x
      simp only at hat a0 a1 a2 a3 a4 HFL b3' HTO
      have g0 := Lib.hid (show w.grownBy (wr.alloc (.cells #[.int .i64 xp, .int .i64 xt, .int .i64 xc, .bool xh, .bool xl] 39)) none from gb_alloc (gb_of_below hbl none) _)
      have B1 := Lib.hid (show Below w.heap.size w (wr.alloc (.cells #[.int .i64 xp, .int .i64 xt, .int .i64 xc, .bool xh, .bool xl] 39)) from hbl.alloc hbl.size _)
      have O1 := Lib.hid (show (wr.alloc (.cells #[.int .i64 xp, .int .i64 xt, .int .i64 xc, .bool xh, .bool xl] 39)).ownsRow w.heap.size 39 5 (.slice Av k cv) k (recV fltC (bodiesTo D k)) from ho.alloc _)
      have HBD := Lib.hid (fun w => show Calls Try.prog 35 #[.agg #[.int .i64 xp, .int .i64 xt, .int .i64 xc, .bool xh, .bool xl]] w (fun e w' => e = .returned (.agg #[.int .i64 xp, .int .i64 xt, .int .i64 xc, .bool false, .bool false]) ∧ w.grownBy w' none) from implBody ⟨xp, xt, xc, xh, xl⟩ w)
      clear ha hs ho hbl
      cases xh with
      | true =>
        cases t4 with
        | true =>
          cases xl with
          | true =>
            cases t5 with
            | true =>
              have HFLk := Lib.hid (HFL.out rfl rfl)
              clear hat HFL
              go_wp2_with fail
              refine (HBD.out _).mono ?_
              rintro e w4 ⟨rfl, g4⟩
              have O4 := Lib.hid (own_none O1.out g4)
              have B4 := Lib.hid (below_gb B1.out (Nat.le_refl _) g4)
              have SZ := Lib.hid (show w.heap.size ≤ (w4.alloc (.cells #[.int .i64 xp, .int .i64 xt, .int .i64 xc, .bool false, .bool false] 39)).heap.size by rw [alloc_size]; have := B4.out.size; omega)
              clear g4 a0 a1 a2 a3 a4
              go_wp2_with (at_builtin; refine wpList_append_own _ rfl _ _ 30 rfl w.heap.size 39 i0 (fltX flt0) 5 32 Try.underlying30 hi hz0 hz1 hz2 rfl (by decide) _ k _ rfl (O4.out.alloc _) ⟨w4.heap.size, 0, none⟩ 1 1 [.int .i64 xp, .int .i64 xt, .int .i64 xc, .bool false, .bool false] rfl rfl (World.news_of_block (cs := #[.int .i64 xp, .int .i64 xt, .int .i64 xc, .bool false, .bool false]) (t := 39) (fr := (0, 0)) (heap_alloc_new w4 _)) b3'.out b4'.out (by omega) SZ.out ?_; intro v' w5 hown5 hgrow5 hnb5; rw [HTO.out] at hown5; have O5 := Lib.hid hown5; have B5 := Lib.hid ((B4.out.alloc (B4.out.size) _).grown hgrow5 SZ.out (fun j hj => (O4.out.lt j hj).1)); obtain ⟨A5, c5', rfl, _⟩ := own_form hown5; clear hown5 hgrow5 hnb5)
              go_roundw
              case rel => exact ⟨k + 1, by go_num, by omega, HFLk.out, O5.out, B5.out⟩
              case measure => simp [intOf]; omega
            | false =>
              have HR := Lib.hid (HNO.out k (by omega) (by rw [hat]; exact decide_eq_false (fun h => by have h9 := h.2.2.2; simp at h9)))
              clear hat HFL
              go_wp2_with fail
              go_ret
              exact ⟨ret_bool HR.out.symm, g0.out⟩
          | false =>
            cases t5 with
            | true =>
              have HR := Lib.hid (HNO.out k (by omega) (by rw [hat]; exact decide_eq_false (fun h => by have h9 := h.2.2.2; simp at h9)))
              clear hat HFL
              go_wp2_with fail
              go_ret
              exact ⟨ret_bool HR.out.symm, g0.out⟩
            | false =>
              have HFLk := Lib.hid (HFL.out rfl rfl)
              clear hat HFL
              go_wp2_with fail
              refine (HBD.out _).mono ?_
              rintro e w4 ⟨rfl, g4⟩
              have O4 := Lib.hid (own_none O1.out g4)
              have B4 := Lib.hid (below_gb B1.out (Nat.le_refl _) g4)
              have SZ := Lib.hid (show w.heap.size ≤ (w4.alloc (.cells #[.int .i64 xp, .int .i64 xt, .int .i64 xc, .bool false, .bool false] 39)).heap.size by rw [alloc_size]; have := B4.out.size; omega)
              clear g4 a0 a1 a2 a3 a4
              go_wp2_with (at_builtin; refine wpList_append_own _ rfl _ _ 30 rfl w.heap.size 39 i0 (fltX flt0) 5 32 Try.underlying30 hi hz0 hz1 hz2 rfl (by decide) _ k _ rfl (O4.out.alloc _) ⟨w4.heap.size, 0, none⟩ 1 1 [.int .i64 xp, .int .i64 xt, .int .i64 xc, .bool false, .bool false] rfl rfl (World.news_of_block (cs := #[.int .i64 xp, .int .i64 xt, .int .i64 xc, .bool false, .bool false]) (t := 39) (fr := (0, 0)) (heap_alloc_new w4 _)) b3'.out b4'.out (by omega) SZ.out ?_; intro v' w5 hown5 hgrow5 hnb5; rw [HTO.out] at hown5; have O5 := Lib.hid hown5; have B5 := Lib.hid ((B4.out.alloc (B4.out.size) _).grown hgrow5 SZ.out (fun j hj => (O4.out.lt j hj).1)); obtain ⟨A5, c5', rfl, _⟩ := own_form hown5; clear hown5 hgrow5 hnb5)
              go_roundw
              case rel => exact ⟨k + 1, by go_num, by omega, HFLk.out, O5.out, B5.out⟩
              case measure => simp [intOf]; omega
        | false =>
          have HR := Lib.hid (HNO.out k (by omega) (by rw [hat]; exact decide_eq_false (fun h => by have h9 := h.2.2.2; simp at h9)))
          clear hat HFL
          go_wp2_with fail
          go_ret
          exact ⟨ret_bool HR.out.symm, g0.out⟩
      | false =>
        cases t4 with
        | true =>
          have HR := Lib.hid (HNO.out k (by omega) (by rw [hat]; exact decide_eq_false (fun h => by have h9 := h.2.2.2; simp at h9)))
          clear hat HFL
          go_wp2_with fail
          go_ret
          exact ⟨ret_bool HR.out.symm, g0.out⟩
        | false =>
          cases xl with
          | true =>
            cases t5 with
            | true =>
              have HFLk := Lib.hid (HFL.out rfl rfl)
              clear hat HFL
              go_wp2_with fail
              refine (HBD.out _).mono ?_
              rintro e w4 ⟨rfl, g4⟩
              have O4 := Lib.hid (own_none O1.out g4)
              have B4 := Lib.hid (below_gb B1.out (Nat.le_refl _) g4)
              have SZ := Lib.hid (show w.heap.size ≤ (w4.alloc (.cells #[.int .i64 xp, .int .i64 xt, .int .i64 xc, .bool false, .bool false] 39)).heap.size by rw [alloc_size]; have := B4.out.size; omega)
              clear g4 a0 a1 a2 a3 a4
              go_wp2_with (at_builtin; refine wpList_append_own _ rfl _ _ 30 rfl w.heap.size 39 i0 (fltX flt0) 5 32 Try.underlying30 hi hz0 hz1 hz2 rfl (by decide) _ k _ rfl (O4.out.alloc _) ⟨w4.heap.size, 0, none⟩ 1 1 [.int .i64 xp, .int .i64 xt, .int .i64 xc, .bool false, .bool false] rfl rfl (World.news_of_block (cs := #[.int .i64 xp, .int .i64 xt, .int .i64 xc, .bool false, .bool false]) (t := 39) (fr := (0, 0)) (heap_alloc_new w4 _)) b3'.out b4'.out (by omega) SZ.out ?_; intro v' w5 hown5 hgrow5 hnb5; rw [HTO.out] at hown5; have O5 := Lib.hid hown5; have B5 := Lib.hid ((B4.out.alloc (B4.out.size) _).grown hgrow5 SZ.out (fun j hj => (O4.out.lt j hj).1)); obtain ⟨A5, c5', rfl, _⟩ := own_form hown5; clear hown5 hgrow5 hnb5)
              go_roundw
              case rel => exact ⟨k + 1, by go_num, by omega, HFLk.out, O5.out, B5.out⟩
              case measure => simp [intOf]; omega
            | false =>
              have HR := Lib.hid (HNO.out k (by omega) (by rw [hat]; exact decide_eq_false (fun h => by have h9 := h.2.2.2; simp at h9)))
              clear hat HFL
              go_wp2_with fail
              go_ret
              exact ⟨ret_bool HR.out.symm, g0.out⟩
          | false =>
            cases t5 with
            | true =>
              have HR := Lib.hid (HNO.out k (by omega) (by rw [hat]; exact decide_eq_false (fun h => by have h9 := h.2.2.2; simp at h9)))
              clear hat HFL
              go_wp2_with fail
              go_ret
              exact ⟨ret_bool HR.out.symm, g0.out⟩
            | false =>
              have HFLk := Lib.hid (HFL.out rfl rfl)
              clear hat HFL
              go_wp2_with fail
              refine (HBD.out _).mono ?_
              rintro e w4 ⟨rfl, g4⟩
              have O4 := Lib.hid (own_none O1.out g4)
              have B4 := Lib.hid (below_gb B1.out (Nat.le_refl _) g4)
              have SZ := Lib.hid (show w.heap.size ≤ (w4.alloc (.cells #[.int .i64 xp, .int .i64 xt, .int .i64 xc, .bool false, .bool false] 39)).heap.size by rw [alloc_size]; have := B4.out.size; omega)
              clear g4 a0 a1 a2 a3 a4
              go_wp2_with (at_builtin; refine wpList_append_own _ rfl _ _ 30 rfl w.heap.size 39 i0 (fltX flt0) 5 32 Try.underlying30 hi hz0 hz1 hz2 rfl (by decide) _ k _ rfl (O4.out.alloc _) ⟨w4.heap.size, 0, none⟩ 1 1 [.int .i64 xp, .int .i64 xt, .int .i64 xc, .bool false, .bool false] rfl rfl (World.news_of_block (cs := #[.int .i64 xp, .int .i64 xt, .int .i64 xc, .bool false, .bool false]) (t := 39) (fr := (0, 0)) (heap_alloc_new w4 _)) b3'.out b4'.out (by omega) SZ.out ?_; intro v' w5 hown5 hgrow5 hnb5; rw [HTO.out] at hown5; have O5 := Lib.hid hown5; have B5 := Lib.hid ((B4.out.alloc (B4.out.size) _).grown hgrow5 SZ.out (fun j hj => (O4.out.lt j hj).1)); obtain ⟨A5, c5', rfl, _⟩ := own_form hown5; clear hown5 hgrow5 hnb5)
              go_roundw
              case rel => exact ⟨k + 1, by go_num, by omega, HFLk.out, O5.out, B5.out⟩
              case measure => simp [intOf]; omega
    · obtain rfl : k = n := by omega
      have k1 : ¬ (k : Int) < (k : Int) := by omega
      by_cases hp : 0 < k
      · have HV := Lib.hid (show eqF (bodiesTo D k) = r by
          have h2 := HEQ.out (by omega) (fun i hi => by rw [hl]; exact HS.out i (by omega))
          rw [← HALL.out, hl] at h2
          exact h2)
        have HRE := Lib.hid (recAt_own fltL (by decide) HO.out (Nat.le_refl _))
        have k2 : (0 : Int) < (k : Int) := by omega
        have HG := Lib.hid (gb_of_below hbl none)
        clear hs ho hbl
        go_wp2_with fail
        refine (implEqualV Av k cv (bodiesTo D k) r HV.out _ HRE.out (by omega)).mono ?_
        rintro e w4 ⟨rfl, g4⟩
        have G4 := Lib.hid (gb_trans HG.out g4)
        clear g4
        go_wp2_with fail
        go_ret
        exact ⟨rfl, G4.out⟩
      · have HR := Lib.hid (HNIL.out (List.eq_nil_of_length_eq_zero (by omega)))
        have k2 : ¬ (0 : Int) < (k : Int) := by omega
        have HG := Lib.hid (gb_of_below hbl none)
        clear hs ho hbl
        go_wp2_with fail
        go_ret
        exact ⟨ret_bool HR.out.symm, HG.out⟩
end Go.Proofs.Ytcjidpegmlbenaa
