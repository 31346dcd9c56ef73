/- What is proved here: whether the program says that all numbers of a list lie in a range, and what its BufferAt returns, for all arguments; only new blocks are written. -/
import Derived.Test.YtffnbmaoainhmaaNetM
import Derived.Test.YtffnbmaoainhmaaIntAt
namespace Go.Proofs.Ytffnbmaoainhmaa
open Go.ChangeShapes Go.WideShapes Go.ChangeAt Go.RowKit
set_option linter.unusedVariables false
set_option maxRecDepth 20000

def withL (lo hi : Int) (L : List Int) : Bool := L.all fun x => decide (lo ≤ x ∧ x ≤ hi)
theorem withL_no {lo hi : Int} {L : List Int} {k : Nat} {x : Int} (h : L[k]? = some x) (hf : ¬ (lo ≤ x ∧ x ≤ hi)) : withL lo hi L = false := by
  cases ha : withL lo hi L with
  | false => rfl
  | true =>
    rw [withL, List.all_eq_true] at ha
    exact absurd (of_decide_eq_true (ha x (List.mem_of_getElem? h))) hf
theorem withL_yes {lo hi : Int} {L : List Int} (h : ∀ (k : Nat) x, L[k]? = some x → lo ≤ x ∧ x ≤ hi) : withL lo hi L = true := by
  rw [withL, List.all_eq_true]
  intro x hx
  obtain ⟨k, hk, e⟩ := List.getElem_of_mem hx
  exact decide_eq_true (h k x (by rw [List.getElem?_eq_getElem hk, e]))
theorem withL_one (lo hi x : Int) : withL lo hi [x] = decide (lo ≤ x ∧ x ≤ hi) := by simp [withL]
set_option maxHeartbeats 1600000 in
theorem implWithinV (lo hi : Int) (A : Option Addr) (n cap : Nat) (L : List Int) (r : Bool) (hr : withL lo hi L = r) (w : World) (h : IntAt w w.heap.size A n L) (hn : n ≤ 1000000000) :
    Calls Try.prog 44 #[.int .i64 lo, .int .i64 hi, .slice A n cap] w (RetB r w) := by
  have HI := Lib.hid h
  have hl := h.1
  have HNO := Lib.hid (fun k x => withL_no (lo := lo) (hi := hi) (L := L) (k := k) (x := x))
  have HYES := Lib.hid (withL_yes (lo := lo) (hi := hi) (L := L))
  rw [hr] at HNO HYES
  clear h hr
  go_enter Try.func44, Try.ntmps44
  go_wp2_with fail
  go_loopw [11] (fun i wr => ∃ k : Nat, i = .int .i64 (k : Int) ∧ k ≤ n ∧ (∀ (j : Nat) x, j < k → L[j]? = some x → lo ≤ x ∧ x ≤ hi) ∧ w.grownBy wr none) (fun i _ => n - (intOf i).toNat)
  case atStart => exact ⟨0, rfl, Nat.zero_le _, fun j x hj => by omega, gb_refl _ _⟩
  case round =>
    obtain ⟨k, rfl, hk, hs, hg⟩ := hrel
    have HS := Lib.hid hs
    have HG := Lib.hid hg
    by_cases hlt : k < n
    · have hkL : k < L.length := by omega
      obtain ⟨x, hx⟩ : ∃ x, L[k]? = some x := ⟨_, List.getElem?_eq_getElem hkL⟩
      obtain ⟨b, off, rfl, _, c0⟩ := (HI.out.none (Nat.le_refl _) hg).at k hlt
      rw [List.getD_eq_getElem?_getD, hx, Option.getD_some] at c0
      have HX := Lib.hid hx
      have k0 : (0 : Int) ≤ (k : Int) := by omega
      have k1 : (k : Int) < (n : Int) := by omega
      clear hs hg hx
      by_cases h1 : x < lo
      · have HR := Lib.hid (HNO.out k x HX.out (by omega))
        go_wp2_with fail
        go_ret
        exact ⟨ret_bool HR.out.symm, HG.out⟩
      · by_cases h2 : x > hi
        · have HR := Lib.hid (HNO.out k x HX.out (by omega))
          go_wp2_with fail
          go_ret
          exact ⟨ret_bool HR.out.symm, HG.out⟩
        · have HIN := Lib.hid (show lo ≤ x ∧ x ≤ hi by omega)
          go_wp2_with fail
          go_roundw
          case rel => exact ⟨k + 1, by go_num, by omega, fun j z hj hz => by
            rcases Nat.lt_or_ge j k with h1 | h1
            · exact HS.out j z h1 hz
            · obtain rfl : j = k := by omega
              rw [HX.out] at hz
              cases hz
              exact HIN.out, HG.out⟩
          case measure => simp [intOf]; omega
    · have k1 : ¬ (k : Int) < (n : Int) := by omega
      have HR := Lib.hid (HYES.out (fun j x hx => HS.out j x (by have := (List.getElem?_eq_some_iff.1 hx).1; omega) hx))
      clear hs hg
      go_wp2_with fail
      go_ret
      exact ⟨ret_bool HR.out.symm, HG.out⟩
/-- One number. -/
theorem int_new (w : World) (x : Int) : IntAt (w.alloc (.cells #[.int .i64 x] 3)) (w.alloc (.cells #[.int .i64 x] 3)).heap.size (some ⟨w.heap.size, 0, none⟩) 1 [x] :=
  ⟨rfl, fun _ => ⟨w.heap.size, 0, rfl, by rw [alloc_size]; omega, fun k z hk => by
    cases k with
    | zero => cases hk; exact (Blk.new w 3 #[.int .i64 x]).cell 0
    | succ k => simp at hk⟩⟩
theorem implWithin1 (lo hi x : Int) (r : Bool) (hr : decide (lo ≤ x ∧ x ≤ hi) = r) (w : World) :
    Calls Try.prog 44 #[.int .i64 lo, .int .i64 hi, .slice (some ⟨w.heap.size, 0, none⟩) 1 1] (w.alloc (.cells #[.int .i64 x] 3)) (fun e w' => e = .returned (.bool r) ∧ w.grownBy w' none) :=
  (implWithinV lo hi _ 1 1 [x] r ((withL_one lo hi x).trans hr) _ (int_new w x) (by omega)).mono fun e w' ⟨h1, h2⟩ => ⟨h1, gb_trans (gb_alloc (gb_refl _ _) _) h2⟩
theorem implIsClassN (c : Int) (b : Bool) (hb : decide (0 ≤ c ∧ c ≤ 1) = b) (w : World) :
    Calls Try.prog 46 #[.int .i64 c] w fun e w' => e = .returned (.bool b) ∧ w = w' := by
  have HB := Lib.hid hb
  clear hb
  by_cases h0 : c = 0
  · have HN := Lib.hid (show true = b by rw [← HB.out]; exact (decide_eq_true (by omega)).symm)
    subst h0
    go_enter Try.func46, Try.ntmps46
    go_wp2_with fail
    go_ret
    exact ⟨ret_bool HN.out, rfl⟩
  · have HN := Lib.hid (show (c == 1) = b by rw [← HB.out]; exact Bool.eq_iff_iff.2 (by simp; omega))
    have q0 : (c == 0) = false := by simpa using h0
    go_enter Try.func46, Try.ntmps46
    go_wp2_with fail
    go_ret
    exact ⟨ret_bool (by first | exact HN.out | (rw [← HN.out]; simp)), rfl⟩

theorem implBufferAt (n p c : Int) (w : World) :
    Calls Try.prog 16 #[.int .i64 n, .int .i64 p, .int .i64 c] w (RetI (bufN n p c) none w) := by
  have HR := Lib.hid (fun (x lo hi : Int) (b : Bool) (hb : decide (lo ≤ x ∧ x ≤ hi) = b) w => implWithin1 lo hi x b hb w)
  have HC := Lib.hid (fun (b : Bool) (hb : decide (0 ≤ c ∧ c ≤ 1) = b) w => implIsClassN c b hb w)
  cases h1 : decide (0 ≤ n ∧ n ≤ 15) with
  | false =>
    have hr := Lib.hid (show (-1 : Int) = bufN n p c from (if_neg (fun h => of_decide_eq_false h1 h.1)).symm)
    have H1 := Lib.hid (HR.out n 0 15 false h1)
    clear h1
    go_enter Try.func16, Try.ntmps16
    go_wp2_with fail
    refine (H1.out _).mono ?_
    rintro e w1 ⟨rfl, g1⟩
    have G1 := Lib.hid g1
    clear g1
    go_wp2_with fail
    go_ret
    exact ⟨ret_int64 hr.out, G1.out⟩
  | true =>
    have hn := of_decide_eq_true h1
    have H1 := Lib.hid (HR.out n 0 15 true h1)
    cases h2 : decide (0 ≤ p ∧ p ≤ 4) with
    | false =>
      have hr := Lib.hid (show (-1 : Int) = bufN n p c from (if_neg (fun h => of_decide_eq_false h2 h.2.1)).symm)
      have H2 := Lib.hid (HR.out p 0 4 false h2)
      clear h1 h2
      go_enter Try.func16, Try.ntmps16
      go_wp2_with fail
      refine (H1.out _).mono ?_
      rintro e w1 ⟨rfl, g1⟩
      have G1 := Lib.hid g1
      clear g1
      go_wp2_with fail
      refine (H2.out _).mono ?_
      rintro e w2 ⟨rfl, g2⟩
      have G2 := Lib.hid (gb_trans G1.out g2)
      clear g2
      go_wp2_with fail
      go_ret
      exact ⟨ret_int64 hr.out, G2.out⟩
    | true =>
      have hp := of_decide_eq_true h2
      have H2 := Lib.hid (HR.out p 0 4 true h2)
      cases h3 : decide (0 ≤ c ∧ c ≤ 1) with
      | false =>
        have hr := Lib.hid (show (-1 : Int) = bufN n p c from (if_neg (fun h => of_decide_eq_false h3 h.2.2)).symm)
        have H3 := Lib.hid (HC.out false h3)
        clear h1 h2 h3
        go_enter Try.func16, Try.ntmps16
        go_wp2_with fail
        refine (H1.out _).mono ?_
        rintro e w1 ⟨rfl, g1⟩
        have G1 := Lib.hid g1
        clear g1
        go_wp2_with fail
        refine (H2.out _).mono ?_
        rintro e w2 ⟨rfl, g2⟩
        have G2 := Lib.hid (gb_trans G1.out g2)
        clear g2
        go_wp2_with fail
        refine (H3.out _).mono ?_
        rintro e w3 ⟨rfl, rfl⟩
        go_wp2_with fail
        go_ret
        exact ⟨ret_int64 hr.out, G2.out⟩
      | true =>
        have hc := of_decide_eq_true h3
        have H3 := Lib.hid (HC.out true h3)
        have hr := Lib.hid (show 10 * n + 2 * p + c = bufN n p c by rw [bufN, if_pos ⟨hn, hp, hc⟩]; omega)
        have e1 : wrap64 (10 * n) = 10 * n := IntWalk.wrap64_in _ (by omega)
        have e2 : IntKind.i64.wrap (10 * n) = 10 * n := IntWalk.i64_in _ (by omega)
        have e3 : wrap64 (2 * p) = 2 * p := IntWalk.wrap64_in _ (by omega)
        have e4 : IntKind.i64.wrap (2 * p) = 2 * p := IntWalk.i64_in _ (by omega)
        have e5 : IntKind.i64.wrap (10 * n + 2 * p) = 10 * n + 2 * p := IntWalk.i64_in _ (by omega)
        have e6 : IntKind.i64.wrap (10 * n + 2 * p + c) = 10 * n + 2 * p + c := IntWalk.i64_in _ (by omega)
        clear h1 h2 h3
        go_enter Try.func16, Try.ntmps16
        go_wp2_with fail
        refine (H1.out _).mono ?_
        rintro e w1 ⟨rfl, g1⟩
        have G1 := Lib.hid g1
        clear g1
        go_wp2_with fail
        refine (H2.out _).mono ?_
        rintro e w2 ⟨rfl, g2⟩
        have G2 := Lib.hid (gb_trans G1.out g2)
        clear g2
        go_wp2_with fail
        refine (H3.out _).mono ?_
        rintro e w3 ⟨rfl, rfl⟩
        go_wp2_with fail
        go_ret
        exact ⟨ret_int64 hr.out, G2.out⟩
end Go.Proofs.Ytffnbmaoainhmaa
