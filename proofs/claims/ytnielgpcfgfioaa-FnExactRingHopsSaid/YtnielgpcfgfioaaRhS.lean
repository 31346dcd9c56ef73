/- What is proved here: what the model's RingHops and HopsBetween return, for all arguments; only new blocks are written. -/
import Derived.Test.YtnielgpcfgfioaaRingP
import Derived.Test.YtnielgpcfgfioaaHopI
import Derived.Test.YtnielgpcfgfioaaInS
namespace Go.Proofs.Ytnielgpcfgfioaa
open Go.ChangeShapes Go.WideShapes Go.ChangeAt Go.RowKit
set_option linter.unusedVariables false
set_option maxRecDepth 20000

theorem specL13Ok (n a b : Int) (w : World) :
    Calls Try.prog 30 #[.int .i64 n, .int .i64 a, .int .i64 b] w fun e w' => e = .returned (.bool (ringOk n a b)) ∧ w = w' := by
  have HR := Lib.hid (fun (x lo hi : Int) (b : Bool) (hb : decide (lo ≤ x ∧ x ≤ hi) = b) w => specInV x lo hi b hb w)
  obtain ⟨r, hr⟩ : ∃ r, ringOk n a b = r := ⟨_, rfl⟩
  rw [hr]
  cases h1 : decide (2 ≤ n ∧ n ≤ 12) with
  | false =>
    obtain rfl : r = false := by rw [← hr]; exact decide_eq_false (fun h => of_decide_eq_false h1 h.1)
    have H1 := Lib.hid (HR.out n 2 12 false h1)
    clear hr
    go_enter Try.func30, Try.ntmps30
    go_wp2_with fail
    refine (H1.out _).mono ?_
    rintro e w1 ⟨rfl, rfl⟩
    go_wp2_with fail
    go_ret
    exact ⟨rfl, rfl⟩
  | true =>
    have hn := of_decide_eq_true h1
    have e1 : IntKind.i64.wrap (n - 1) = n - 1 := IntWalk.i64_in _ (by omega)
    have H1 := Lib.hid (HR.out n 2 12 true h1)
    cases h2 : decide (0 ≤ a ∧ a ≤ n - 1) with
    | false =>
      obtain rfl : r = false := by rw [← hr]; exact decide_eq_false (fun h => of_decide_eq_false h2 h.2.1)
      have H2 := Lib.hid (HR.out a 0 (n - 1) false h2)
      clear hr
      go_enter Try.func30, Try.ntmps30
      go_wp2_with fail
      refine (H1.out _).mono ?_
      rintro e w1 ⟨rfl, rfl⟩
      go_wp2_with fail
      refine (H2.out _).mono ?_
      rintro e w1 ⟨rfl, rfl⟩
      go_wp2_with fail
      go_ret
      exact ⟨rfl, rfl⟩
    | true =>
      have ha := of_decide_eq_true h2
      have H2 := Lib.hid (HR.out a 0 (n - 1) true h2)
      obtain ⟨c, hc⟩ : ∃ c, decide (0 ≤ b ∧ b ≤ n - 1) = c := ⟨_, rfl⟩
      have H3 := Lib.hid (HR.out b 0 (n - 1) c hc)
      obtain rfl : r = c := by
        rw [← hr, ← hc]
        exact decide_eq_decide.2 ⟨fun h => h.2.2, fun h => ⟨hn, ha, h⟩⟩
      clear hr hc
      go_enter Try.func30, Try.ntmps30
      go_wp2_with fail
      refine (H1.out _).mono ?_
      rintro e w1 ⟨rfl, rfl⟩
      go_wp2_with fail
      refine (H2.out _).mono ?_
      rintro e w1 ⟨rfl, rfl⟩
      go_wp2_with fail
      refine (H3.out _).mono ?_
      rintro e w1 ⟨rfl, rfl⟩
      go_wp2_with fail
      go_ret
      exact ⟨rfl, rfl⟩
theorem specL13V (n a b : Int) (r : Bool) (h : ringOk n a b = r) (w : World) :
    Calls Try.prog 30 #[.int .i64 n, .int .i64 a, .int .i64 b] w fun e w' => e = .returned (.bool r) ∧ w = w' := h ▸ specL13Ok n a b w
theorem specHopsBetween (n a b : Int) (w : World) :
    Calls Try.prog 14 #[.int .i64 n, .int .i64 a, .int .i64 b] w (RetI (betG n a b) none w) := by
  cases hok : ringOk n a b with
  | false =>
    have HO := Lib.hid (specL13V n a b false hok w)
    rw [betG_no hok]
    clear hok
    go_enter Try.func14, Try.ntmps14
    go_wp2_with fail
    refine HO.out.mono ?_
    rintro e w1 ⟨rfl, rfl⟩
    go_wp2_with fail
    go_ret
    exact ⟨rfl, gb_refl _ _⟩
  | true =>
    have HO := Lib.hid (specL13V n a b true hok w)
    obtain ⟨n, a, b, rfl, rfl, rfl, h2, h12, ha, hb⟩ := ring_nat hok
    rw [betG_nat hok]
    have e1 : IntKind.i64.wrap ((b : Int) - (a : Int)) = (b : Int) - (a : Int) := IntWalk.i64_in _ (by omega)
    have e2 : IntKind.i64.wrap ((b : Int) - (a : Int) + (n : Int)) = ((b + n - a : Nat) : Int) := by rw [IntWalk.i64_in _ (by omega)]; omega
    have e3 : Int.tmod ((b + n - a : Nat) : Int) (n : Int) = ((hopN n a b : Nat) : Int) := tmod_nat _ _
    have hl := hopN_lt (n := n) (a := a) (b := b) (by omega)
    have e4 : IntKind.i64.wrap ((hopN n a b : Nat) : Int) = ((hopN n a b : Nat) : Int) := IntWalk.i64_in _ (by omega)
    obtain ⟨s, hs⟩ : ∃ s, b + n - a = s := ⟨_, rfl⟩
    rw [hs] at e2 e3
    have q0 : ((n : Int) == 0) = false := by simp; omega
    have q1 : ¬ (n : Int) = 0 := by omega
    have q2 : ¬ n = 0 := by omega
    clear hok hs
    go_enter Try.func14, Try.ntmps14
    go_wp2_with fail
    refine HO.out.mono ?_
    rintro e w1 ⟨rfl, rfl⟩
    go_wp2_with fail
    go_ret
    exact ⟨rfl, gb_refl _ _⟩
set_option maxHeartbeats 1600000 in
theorem specRingHops (n a b : Int) (d : Bool) (w : World) :
    Calls Try.prog 15 #[.int .i64 n, .int .i64 a, .int .i64 b, .bool d] w (NewHp (hopG n a b d) w) := by
  obtain ⟨i0, hi, hz0, hz1, hz2⟩ := info_parts info_hop
  have HO0 := Lib.hid (World.ownsRow_made (base := w.heap.size) (e := 31) (size := 2) w #[] 0 (Nat.le_refl _) (by decide) rfl)
  have HB0 := Lib.hid ((Below.refl w.heap.size w).alloc (Nat.le_refl _) (.cells #[] 31))
  cases hok : ringOk n a b with
  | false =>
    have HO := Lib.hid (fun w => specL13V n a b false hok w)
    rw [hopG_no hok]
    clear hok
    go_enter Try.func15, Try.ntmps15
    go_wp2_with fail
    refine (HO.out _).mono ?_
    rintro e w1 ⟨rfl, rfl⟩
    go_wp2_with fail
    go_ret
    exact ⟨_, rfl, HO0.out, HB0.out⟩
  | true =>
    have HO := Lib.hid (fun w => specL13V n a b true hok w)
    obtain ⟨n, a, b, rfl, rfl, rfl, h2, h12, ha, hb⟩ := ring_nat hok
    rw [hopG_nat hok]
    obtain ⟨m, hm⟩ : ∃ m, hopN n a b = m := ⟨_, rfl⟩
    have hmn : m < n := by rw [← hm]; exact hopN_lt (by omega)
    have HEND := Lib.hid (fun k (hk : k ≤ m) => hm ▸ hop_end (k := k) ha hb (by rw [hm]; exact hk))
    have q0 : ((n : Int) == 0) = false := by simp; omega
    have q1 : ¬ (n : Int) = 0 := by omega
    have q2 : ¬ n = 0 := by omega
    have e1 : IntKind.i64.wrap ((n : Int) - 1) = ((n - 1 : Nat) : Int) := by rw [IntWalk.i64_in _ (by omega)]; omega
    have HST := Lib.hid (show (a : Int) = (((a + 0) % n : Nat) : Int) by rw [Nat.add_zero, Nat.mod_eq_of_lt ha])
    have HC0 := Lib.hid (clsH_zero (d := d) ha)
    have HNX := Lib.hid (fun k => next_mod (n := n) (a := a) (k := k) (by omega))
    rw [hm]
    clear hok hm
    go_enter Try.func15, Try.ntmps15
    go_wp2_with fail
    refine (HO.out _).mono ?_
    rintro e w1 ⟨rfl, rfl⟩
    go_wp2_with fail
    go_loopw [9, 10, 11] (fun v c x wr => ∃ k : Nat, k ≤ m ∧ c = .int .i64 (clsH n a d k) ∧ x = .int .i64 (((a + k) % n : Nat) : Int) ∧ wr.ownsRow w.heap.size 31 2 v k (depV (hopTo n a d k)) ∧ Below w.heap.size w wr) (fun v _ _ _ => m - lenHp v)
    case atStart => exact ⟨0, Nat.zero_le _, by rw [HC0.out], by rw [← HST.out], HO0.out, HB0.out⟩
    case round =>
      obtain ⟨k, hk, rfl, rfl, ho, hbl⟩ := hrel
      have HO1 := Lib.hid ho
      have HB1 := Lib.hid hbl
      have hsz := hbl.size
      obtain ⟨Av, cv, rfl, _⟩ := own_form ho
      obtain ⟨x, hx⟩ : ∃ x, (a + k) % n = x := ⟨_, rfl⟩
      have hxn : x < n := by rw [← hx]; exact Nat.mod_lt _ (by omega)
      have hend := HEND.out k hk
      have hnx := HNX.out k
      have hca : hopAt n a d k = ((x : Int), clsH n a d k) := by rw [hopAt, hx]
      have hcl := fun h => clsH_last (n := n) (a := a) (k := k) (d := d) (by omega) h
      have hcs := fun h => clsH_same (n := n) (a := a) (k := k) (d := d) (by omega) h
      rw [hx] at hend hnx hcl hcs
      rw [hx]
      obtain ⟨c, hc⟩ : ∃ c, clsH n a d k = c := ⟨_, rfl⟩
      rw [hc] at hca hcs
      rw [hc]
      have HC := Lib.hid hc
      by_cases hend1 : x = b
      · have hkm : k = m := hend.1 hend1
        have HKM := Lib.hid hkm
        subst hend1
        clear ho hbl hx hc hend hnx hca hcl hcs
        go_wp2_with fail
        go_ret
        refine ⟨_, rfl, ?_, HB1.out⟩
        have := HO1.out
        rw [HKM.out] at this ⊢
        rw [hopTo_length]
        exact this
      · have hkm : k < m := by
          rcases Nat.lt_or_ge k m with h | h
          · exact h
          · exact absurd (hend.2 (by omega)) hend1
        have p1 : ¬ (x : Int) = (b : Int) := by omega
        have t1 : IntKind.i64.wrap ((x : Int) + 1) = (x : Int) + 1 := IntWalk.i64_in _ (by omega)
        have t2 : Int.tmod ((x : Int) + 1) (n : Int) = (((a + (k + 1)) % n : Nat) : Int) := by
          rw [show (x : Int) + 1 = ((x + 1 : Nat) : Int) by omega, tmod_nat, hnx]
        obtain ⟨y, hy⟩ : ∃ y, (a + (k + 1)) % n = y := ⟨_, rfl⟩
        have hyn : y < n := by rw [← hy]; exact Nat.mod_lt _ (by omega)
        rw [hy] at t2
        have t3 : IntKind.i64.wrap (y : Int) = (y : Int) := IntWalk.i64_in _ (by omega)
        have HY := Lib.hid hy
        have b3' := Lib.hid (show ∀ u ∈ [Value.int .i64 (x : Int), Value.int .i64 c], u.oneCell' = true by simp [Value.oneCell'])
        have b4' := Lib.hid (show k + 1 ≤ maxLen by unfold maxLen; omega)
        have HTO := Lib.hid (show depV (hopTo n a d k) ++ [Value.int .i64 (x : Int), Value.int .i64 c] = depV (hopTo n a d (k + 1)) by rw [hopTo_next, depV_append, hca]; rfl)
        have SZ := Lib.hid (show w.heap.size ≤ (wr.alloc (.cells #[.int .i64 (x : Int), .int .i64 c] 31)).heap.size by rw [alloc_size]; omega)
        have HCL := Lib.hid hcl
        have HCS := Lib.hid hcs
        clear ho hbl hx hc hend hnx hca hcl hcs hy
        by_cases hlast : x = n - 1
        · subst hlast
          cases d with
          | true =>
            have HCN := Lib.hid (HCL.out rfl rfl (by omega))
            go_wp2_with (at_builtin; refine wpList_append_own _ rfl _ _ 27 rfl w.heap.size 31 i0 (.agg #[.int .i64 0, .int .i64 0]) 2 16 Try.underlying27 hi hz0 hz1 hz2 rfl (by decide) _ k _ rfl (HO1.out.alloc _) ⟨wr.heap.size, 0, none⟩ 1 1 [.int .i64 ((n - 1 : Nat) : Int), .int .i64 c] rfl rfl (World.news_of_block (cs := #[.int .i64 ((n - 1 : Nat) : Int), .int .i64 c]) (t := 31) (fr := (0, 0)) (heap_alloc_new wr _)) b3'.out b4'.out (by omega) SZ.out ?_; intro v' w4 hown4 hgrow4 _; rw [HTO.out] at hown4; have O4 := Lib.hid hown4; have B4 := Lib.hid ((HB1.out.alloc (HB1.out.size) _).grown hgrow4 SZ.out (fun j hj => (HO1.out.lt j hj).1)); obtain ⟨A4, c4, rfl, _⟩ := own_form hown4; clear hown4 hgrow4)
            go_roundw
            case rel => exact ⟨k + 1, by omega, by rw [HCN.out], by rw [HY.out], O4.out, B4.out⟩
            case measure => simp [lenHp]; omega
          | false =>
            have HCN := Lib.hid (HCS.out (fun h => by cases h.2) (by omega))
            go_wp2_with (at_builtin; refine wpList_append_own _ rfl _ _ 27 rfl w.heap.size 31 i0 (.agg #[.int .i64 0, .int .i64 0]) 2 16 Try.underlying27 hi hz0 hz1 hz2 rfl (by decide) _ k _ rfl (HO1.out.alloc _) ⟨wr.heap.size, 0, none⟩ 1 1 [.int .i64 ((n - 1 : Nat) : Int), .int .i64 c] rfl rfl (World.news_of_block (cs := #[.int .i64 ((n - 1 : Nat) : Int), .int .i64 c]) (t := 31) (fr := (0, 0)) (heap_alloc_new wr _)) b3'.out b4'.out (by omega) SZ.out ?_; intro v' w4 hown4 hgrow4 _; rw [HTO.out] at hown4; have O4 := Lib.hid hown4; have B4 := Lib.hid ((HB1.out.alloc (HB1.out.size) _).grown hgrow4 SZ.out (fun j hj => (HO1.out.lt j hj).1)); obtain ⟨A4, c4, rfl, _⟩ := own_form hown4; clear hown4 hgrow4)
            go_roundw
            case rel => exact ⟨k + 1, by omega, by rw [HCN.out], by rw [HY.out], O4.out, B4.out⟩
            case measure => simp [lenHp]; omega
        · have p2 : ¬ (x : Int) = ((n - 1 : Nat) : Int) := by omega
          have HCN := Lib.hid (HCS.out (fun h => hlast h.1) (by omega))
          go_wp2_with (at_builtin; refine wpList_append_own _ rfl _ _ 27 rfl w.heap.size 31 i0 (.agg #[.int .i64 0, .int .i64 0]) 2 16 Try.underlying27 hi hz0 hz1 hz2 rfl (by decide) _ k _ rfl (HO1.out.alloc _) ⟨wr.heap.size, 0, none⟩ 1 1 [.int .i64 (x : Int), .int .i64 c] rfl rfl (World.news_of_block (cs := #[.int .i64 (x : Int), .int .i64 c]) (t := 31) (fr := (0, 0)) (heap_alloc_new wr _)) b3'.out b4'.out (by omega) SZ.out ?_; intro v' w4 hown4 hgrow4 _; rw [HTO.out] at hown4; have O4 := Lib.hid hown4; have B4 := Lib.hid ((HB1.out.alloc (HB1.out.size) _).grown hgrow4 SZ.out (fun j hj => (HO1.out.lt j hj).1)); obtain ⟨A4, c4, rfl, _⟩ := own_form hown4; clear hown4 hgrow4)
          go_roundw
          case rel => exact ⟨k + 1, by omega, by rw [HCN.out], by rw [HY.out], O4.out, B4.out⟩
          case measure => simp [lenHp]; omega
end Go.Proofs.Ytnielgpcfgfioaa
