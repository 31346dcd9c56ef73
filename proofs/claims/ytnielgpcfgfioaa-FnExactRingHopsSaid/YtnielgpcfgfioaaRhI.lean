/- What is proved here: what the program's HopsBetween and RingHops return, for all arguments; only new blocks are written. -/
import Derived.Test.YtnielgpcfgfioaaRingP
import Derived.Test.YtnielgpcfgfioaaHopI
namespace Go.Proofs.Ytnielgpcfgfioaa
open Go.ChangeShapes Go.WideShapes Go.ChangeAt Go.RowKit
set_option linter.unusedVariables false
set_option maxRecDepth 20000

theorem new_atH (w : World) (o o2 : Obj) : ((w.alloc o).alloc o2).heap[w.heap.size + 1]? = some o2 := by
  have h := heap_alloc_new (w.alloc o) o2
  rw [alloc_size] at h
  exact h
theorem implIsRing (n : Int) (b : Bool) (hb : rinG n = b) (w : World) :
    Calls Try.prog 27 #[.int .i64 n] w fun e w' => e = .returned (.bool b) ∧ w = w' := by
  have HB := Lib.hid hb
  clear hb
  by_cases h1 : 2 ≤ n
  · have HN := Lib.hid (show decide (n ≤ 12) = b by rw [← HB.out, rinG]; exact decide_eq_decide.2 ⟨fun h => ⟨h1, h⟩, fun h => h.2⟩)
    go_enter Try.func27, Try.ntmps27
    go_wp2_with fail
    go_ret
    exact ⟨ret_bool HN.out, rfl⟩
  · have HN := Lib.hid (show false = b by rw [← HB.out, rinG]; exact (decide_eq_false (fun h => h1 h.1)).symm)
    go_enter Try.func27, Try.ntmps27
    go_wp2_with fail
    go_ret
    exact ⟨ret_bool HN.out, rfl⟩
theorem implOnRing (n x : Int) (b : Bool) (hb : decide (0 ≤ x ∧ x ≤ n - 1) = b) (w : World) :
    Calls Try.prog 29 #[.int .i64 n, .int .i64 x] w fun e w' => e = .returned (.bool b) ∧ w = w' := by
  have HB := Lib.hid hb
  clear hb
  by_cases h1 : 0 ≤ x
  · have HN := Lib.hid (show decide (x < n) = b by rw [← HB.out]; exact decide_eq_decide.2 ⟨fun h => ⟨h1, by omega⟩, fun h => by omega⟩)
    go_enter Try.func29, Try.ntmps29
    go_wp2_with fail
    go_ret
    exact ⟨ret_bool HN.out, rfl⟩
  · have HN := Lib.hid (show false = b by rw [← HB.out]; exact (decide_eq_false (fun h => h1 h.1)).symm)
    go_enter Try.func29, Try.ntmps29
    go_wp2_with fail
    go_ret
    exact ⟨ret_bool HN.out, rfl⟩
theorem implHopsBetween (n a b : Int) (w : World) :
    Calls Try.prog 13 #[.int .i64 n, .int .i64 a, .int .i64 b] w (RetI (betG n a b) none w) := by
  have HR := Lib.hid (fun (b : Bool) (hb : rinG n = b) w => implIsRing n b hb w)
  have HO := Lib.hid (fun (x : Int) (b : Bool) (hb : decide (0 ≤ x ∧ x ≤ n - 1) = b) w => implOnRing n x b hb w)
  cases hr : rinG n with
  | false =>
    have H1 := Lib.hid (HR.out false hr)
    have hok : ringOk n a b = false := decide_eq_false (fun h => by have := of_decide_eq_false hr; exact this h.1)
    rw [betG_no hok]
    clear hr hok
    go_enter Try.func13, Try.ntmps13
    go_wp2_with fail
    refine (H1.out _).mono ?_
    rintro e w1 ⟨rfl, rfl⟩
    go_wp2_with fail
    go_ret
    exact ⟨rfl, gb_refl _ _⟩
  | true =>
    have H1 := Lib.hid (HR.out true hr)
    cases ha : decide (0 ≤ a ∧ a ≤ n - 1) with
    | false =>
      have H2 := Lib.hid (HO.out a false ha)
      have hok : ringOk n a b = false := decide_eq_false (fun h => by have := of_decide_eq_false ha; exact this h.2.1)
      rw [betG_no hok]
      clear hr hok ha
      go_enter Try.func13, Try.ntmps13
      go_wp2_with fail
      refine (H1.out _).mono ?_
      rintro e w1 ⟨rfl, rfl⟩
      go_wp2_with fail
      refine (H2.out _).mono ?_
      rintro e w1 ⟨rfl, rfl⟩
      go_wp2_with fail
      go_ret
      exact ⟨rfl, gb_refl _ _⟩
    | true =>
      have H2 := Lib.hid (HO.out a true ha)
      cases hb : decide (0 ≤ b ∧ b ≤ n - 1) with
      | false =>
        have H3 := Lib.hid (HO.out b false hb)
        have hok : ringOk n a b = false := decide_eq_false (fun h => by have := of_decide_eq_false hb; exact this h.2.2)
        rw [betG_no hok]
        clear hr hok ha hb
        go_enter Try.func13, Try.ntmps13
        go_wp2_with fail
        refine (H1.out _).mono ?_
        rintro e w1 ⟨rfl, rfl⟩
        go_wp2_with fail
        refine (H2.out _).mono ?_
        rintro e w1 ⟨rfl, rfl⟩
        go_wp2_with fail
        refine (H3.out _).mono ?_
        rintro e w1 ⟨rfl, rfl⟩
        go_wp2_with fail
        go_ret
        exact ⟨rfl, gb_refl _ _⟩
      | true =>
        have H3 := Lib.hid (HO.out b true hb)
        have hok : ringOk n a b = true := ringOk_iff.2 ⟨of_decide_eq_true hr, of_decide_eq_true ha, of_decide_eq_true hb⟩
        clear hr ha hb HR HO
        obtain ⟨n, a, b, rfl, rfl, rfl, h2, h12, ha, hb⟩ := ring_nat hok
        rw [betG_nat hok]
        have e1 : IntKind.i64.wrap ((b : Int) - (a : Int)) = (b : Int) - (a : Int) := IntWalk.i64_in _ (by omega)
        have e2 : IntKind.i64.wrap ((b : Int) - (a : Int) + (n : Int)) = ((b + n - a : Nat) : Int) := by rw [IntWalk.i64_in _ (by omega)]; omega
        have e3 : Int.tmod ((b + n - a : Nat) : Int) (n : Int) = ((hopN n a b : Nat) : Int) := tmod_nat _ _
        have hl := hopN_lt (n := n) (a := a) (b := b) (by omega)
        have e4 : IntKind.i64.wrap ((hopN n a b : Nat) : Int) = ((hopN n a b : Nat) : Int) := IntWalk.i64_in _ (by omega)
        obtain ⟨s, hs⟩ : ∃ s, b + n - a = s := ⟨_, rfl⟩
        rw [hs] at e2 e3
        have q0 : ((n : Int) == 0) = false := by simp; omega
        have q1 : ¬ (n : Int) = 0 := by omega
        have q2 : ¬ n = 0 := by omega
        clear hok hs
        go_enter Try.func13, Try.ntmps13
        go_wp2_with fail
        refine (H1.out _).mono ?_
        rintro e w1 ⟨rfl, rfl⟩
        go_wp2_with fail
        refine (H2.out _).mono ?_
        rintro e w1 ⟨rfl, rfl⟩
        go_wp2_with fail
        refine (H3.out _).mono ?_
        rintro e w1 ⟨rfl, rfl⟩
        go_wp2_with fail
        go_ret
        exact ⟨rfl, gb_refl _ _⟩

set_option maxHeartbeats 1600000 in
theorem implRingHops (n a b : Int) (d : Bool) (w : World) :
    Calls Try.prog 12 #[.int .i64 n, .int .i64 a, .int .i64 b, .bool d] w (NewHp (hopG n a b d) w) := by
  obtain ⟨i0, hi, hz0, hz1, hz2⟩ := info_parts info_hop
  have HBT := Lib.hid (fun w => implHopsBetween n a b w)
  cases hok : ringOk n a b with
  | false =>
    rw [betG_no hok] at HBT
    rw [hopG_no hok]
    clear hok
    go_enter Try.func12, Try.ntmps12
    go_wp2_with fail
    refine (HBT.out _).mono ?_
    rintro e w1 ⟨rfl, hg1⟩
    have G1 := Lib.hid hg1
    clear hg1
    go_wp2_with fail
    go_loopw [9, 17] (fun v i wr => v = .slice none 0 0 ∧ i = .int .i64 0 ∧ wr = w1) (fun _ _ _ => 0)
    case atStart => exact ⟨rfl, rfl, rfl⟩
    case round =>
      obtain ⟨rfl, rfl, rfl⟩ := hrel
      go_wp2_with fail
      go_ret
      exact ⟨_, rfl, own_nilHp rfl _ _, gb_below_none G1.out (Nat.le_refl _)⟩
  | true =>
    obtain ⟨n, a, b, rfl, rfl, rfl, h2, h12, ha, hb⟩ := ring_nat hok
    rw [betG_nat hok] at HBT
    rw [hopG_nat hok]
    obtain ⟨m, hm⟩ : ∃ m, hopN n a b = m := ⟨_, rfl⟩
    have hmn : m < n := by rw [← hm]; exact hopN_lt (by omega)
    have q0 : ((n : Int) == 0) = false := by simp; omega
    have q1 : ¬ (n : Int) = 0 := by omega
    have q2 : ¬ n = 0 := by omega
    rw [hm] at HBT
    rw [hm]
    clear hok hm
    go_enter Try.func12, Try.ntmps12
    go_wp2_with fail
    refine (HBT.out _).mono ?_
    rintro e w1 ⟨rfl, hg1⟩
    have B1 := Lib.hid (gb_below_none hg1 (Nat.le_refl _))
    clear hg1
    go_wp2_with fail
    go_loopw [9, 17] (fun v i wr => ∃ k : Nat, k ≤ m ∧ i = .int .i64 (k : Int) ∧ wr.ownsRow w.heap.size 31 2 v k (depV (hopTo n a d k)) ∧ Below w.heap.size w wr) (fun _ i _ => 12 - (intOf i).toNat)
    case atStart => exact ⟨0, Nat.zero_le _, rfl, World.ownsRow_nil _ _ _ _, B1.out⟩
    case round =>
      obtain ⟨k, hk, rfl, ho, hbl⟩ := hrel
      have HO1 := Lib.hid ho
      have HB1 := Lib.hid hbl
      have hsz := hbl.size
      obtain ⟨Av, cv, rfl, _⟩ := own_form ho
      by_cases hlt : k < m
      · have e1 : IntKind.i64.wrap ((a : Int) + (k : Int)) = ((a + k : Nat) : Int) := by rw [IntWalk.i64_in _ (by omega)]; omega
        have e2 : Int.tmod ((a + k : Nat) : Int) (n : Int) = (((a + k) % n : Nat) : Int) := tmod_nat _ _
        obtain ⟨x, hx⟩ : ∃ x, (a + k) % n = x := ⟨_, rfl⟩
        obtain ⟨y, hy⟩ : ∃ y, a + k = y := ⟨_, rfl⟩
        have hxn : x < n := by rw [← hx]; exact Nat.mod_lt _ (by omega)
        have hca : hopAt n a d k = ((x : Int), clsH n a d k) := by rw [hopAt, hx]
        have hcl : clsH n a d k = if d = true ∧ n ≤ y then 1 else 0 := by rw [clsH, hy]
        rw [hx] at e2
        rw [hy] at e1 e2
        have e3 : IntKind.i64.wrap (x : Int) = (x : Int) := IntWalk.i64_in _ (by omega)
        have l1 : (k : Int) < (m : Int) := by omega
        have b4' := Lib.hid (show k + 1 ≤ maxLen by unfold maxLen; omega)
        clear ho hbl hx hy
        by_cases hd : d = true ∧ n ≤ y
        · obtain ⟨rfl, hd2⟩ := hd
          rw [if_pos ⟨rfl, hd2⟩] at hcl
          rw [hcl] at hca
          have l2 : (n : Int) ≤ (y : Int) := by omega
          have b3' := Lib.hid (show ∀ u ∈ [Value.int .i64 (x : Int), Value.int .i64 1], u.oneCell' = true by simp [Value.oneCell'])
          have SZ := Lib.hid ((HB1.out.alloc HB1.out.size (.cells #[.int .i64 (x : Int), .int .i64 1] 31)).alloc (by rw [alloc_size]; omega) (.cells #[.int .i64 (x : Int), .int .i64 1] 31))
          have HTO := Lib.hid (show depV (hopTo n a true k) ++ [Value.int .i64 (x : Int), Value.int .i64 1] = depV (hopTo n a true (k + 1)) by rw [hopTo_next, depV_append, hca]; rfl)
          clear hca hcl
          go_wp2_with (at_builtin; refine wpList_append_own _ rfl _ _ 27 rfl w.heap.size 31 i0 (.agg #[.int .i64 0, .int .i64 0]) 2 16 Try.underlying27 hi hz0 hz1 hz2 rfl (by decide) _ k _ rfl ((HO1.out.alloc _).alloc _) ⟨wr.heap.size + 1, 0, none⟩ 1 1 [.int .i64 (x : Int), .int .i64 1] rfl rfl (World.news_of_block (cs := #[.int .i64 (x : Int), .int .i64 1]) (t := 31) (fr := (0, 0)) (new_atH wr _ _)) b3'.out b4'.out (by omega) (by simp; omega) ?_; intro v' w4 hown4 hgrow4 _; rw [HTO.out] at hown4; have O4 := Lib.hid hown4; have B4 := Lib.hid (SZ.out.grown hgrow4 (by simp; omega) (fun j hj => (HO1.out.lt j hj).1)); obtain ⟨A4, c4, rfl, _⟩ := own_form hown4; clear hown4 hgrow4)
          go_roundw
          case rel => exact ⟨k + 1, by omega, by go_num, O4.out, B4.out⟩
          case measure => simp [intOf]; omega
        · rw [if_neg hd] at hcl
          rw [hcl] at hca
          have b3' := Lib.hid (show ∀ u ∈ [Value.int .i64 (x : Int), Value.int .i64 0], u.oneCell' = true by simp [Value.oneCell'])
          have SZ := Lib.hid ((HB1.out.alloc HB1.out.size (.cells #[.int .i64 (x : Int), .int .i64 0] 31)).alloc (by rw [alloc_size]; omega) (.cells #[.int .i64 (x : Int), .int .i64 0] 31))
          have HTO := Lib.hid (show depV (hopTo n a d k) ++ [Value.int .i64 (x : Int), Value.int .i64 0] = depV (hopTo n a d (k + 1)) by rw [hopTo_next, depV_append, hca]; rfl)
          clear hca hcl
          cases d with
          | false =>
            clear hd
            go_wp2_with (at_builtin; refine wpList_append_own _ rfl _ _ 27 rfl w.heap.size 31 i0 (.agg #[.int .i64 0, .int .i64 0]) 2 16 Try.underlying27 hi hz0 hz1 hz2 rfl (by decide) _ k _ rfl ((HO1.out.alloc _).alloc _) ⟨wr.heap.size + 1, 0, none⟩ 1 1 [.int .i64 (x : Int), .int .i64 0] rfl rfl (World.news_of_block (cs := #[.int .i64 (x : Int), .int .i64 0]) (t := 31) (fr := (0, 0)) (new_atH wr _ _)) b3'.out b4'.out (by omega) (by simp; omega) ?_; intro v' w4 hown4 hgrow4 _; rw [HTO.out] at hown4; have O4 := Lib.hid hown4; have B4 := Lib.hid (SZ.out.grown hgrow4 (by simp; omega) (fun j hj => (HO1.out.lt j hj).1)); obtain ⟨A4, c4, rfl, _⟩ := own_form hown4; clear hown4 hgrow4)
            go_roundw
            case rel => exact ⟨k + 1, by omega, by go_num, O4.out, B4.out⟩
            case measure => simp [intOf]; omega
          | true =>
            have l2 : ¬ (n : Int) ≤ (y : Int) := by have : ¬ n ≤ y := fun h => hd ⟨rfl, h⟩; omega
            clear hd
            go_wp2_with (at_builtin; refine wpList_append_own _ rfl _ _ 27 rfl w.heap.size 31 i0 (.agg #[.int .i64 0, .int .i64 0]) 2 16 Try.underlying27 hi hz0 hz1 hz2 rfl (by decide) _ k _ rfl ((HO1.out.alloc _).alloc _) ⟨wr.heap.size + 1, 0, none⟩ 1 1 [.int .i64 (x : Int), .int .i64 0] rfl rfl (World.news_of_block (cs := #[.int .i64 (x : Int), .int .i64 0]) (t := 31) (fr := (0, 0)) (new_atH wr _ _)) b3'.out b4'.out (by omega) (by simp; omega) ?_; intro v' w4 hown4 hgrow4 _; rw [HTO.out] at hown4; have O4 := Lib.hid hown4; have B4 := Lib.hid (SZ.out.grown hgrow4 (by simp; omega) (fun j hj => (HO1.out.lt j hj).1)); obtain ⟨A4, c4, rfl, _⟩ := own_form hown4; clear hown4 hgrow4)
            go_roundw
            case rel => exact ⟨k + 1, by omega, by go_num, O4.out, B4.out⟩
            case measure => simp [intOf]; omega
      · obtain rfl : k = m := by omega
        have l1 : ¬ (k : Int) < (k : Int) := by omega
        clear ho hbl
        go_wp2_with fail
        go_ret
        exact ⟨_, rfl, by rw [hopTo_length]; exact HO1.out, HB1.out⟩
end Go.Proofs.Ytnielgpcfgfioaa
