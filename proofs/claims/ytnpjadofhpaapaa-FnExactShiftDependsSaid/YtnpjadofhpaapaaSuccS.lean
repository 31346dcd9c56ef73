/- What is proved here: what the model's SuccessorsOf and ShiftDepends return; only new blocks are written. -/
import Derived.Test.YtnpjadofhpaapaaDokS
import Derived.Deep.RegionLaw
namespace Go.Proofs.Ytnpjadofhpaapaa
open Go.ChangeShapes Go.WideShapes Go.ChangeAt Go.RowKit
set_option linter.unusedVariables false
set_option maxRecDepth 20000

theorem specSuccessors (A : Option Addr) (n cap : Nat) (D : List Dep) (c : Int) (w : World) (h : DepAt w w.heap.size A n D) (hn : n ≤ 1000000000) :
    Calls Try.prog 36 #[.slice A n cap, .int .i64 c] w (NewI (succD D c) w) := by
  obtain ⟨i0, hi, hz0, hz1, hz2⟩ := info_parts info_int
  have HI := Lib.hid h
  have hl := h.1
  have HALL := Lib.hid (show succD (D.take n) c = succD D c by rw [← hl]; exact succ_all D c)
  have HST := Lib.hid (own_empty (L := succD (D.take 0) c) rfl (Below.refl w.heap.size w))
  clear h
  go_enter Try.func36, Try.ntmps36
  go_wp2_with fail
  go_loopw [5, 6] (fun v i wr => ∃ k : Nat, i = .int .i64 (k : Int) ∧ k ≤ n ∧ wr.ownsRow w.heap.size 3 1 v (succD (D.take k) c).length (intsV (succD (D.take k) c)) ∧ Below w.heap.size w wr) (fun _ i _ => n - (intOf i).toNat)
  case atStart => exact ⟨0, rfl, Nat.zero_le _, HST.out.1, HST.out.2⟩
  case round =>
    obtain ⟨k, rfl, hk, ho, hb⟩ := hrel
    have HB := Lib.hid hb
    have HO := Lib.hid ho
    have hai := HI.out.below hb
    obtain ⟨Ao, co, rfl, _⟩ := own_form ho
    clear ho hb
    by_cases hlt : k < n
    · obtain ⟨b1, off, rfl, hb1, c0, c1⟩ := hai.at k hlt
      obtain ⟨x, hx⟩ : ∃ x, atD D k = x := ⟨_, rfl⟩
      rw [hx] at c0 c1
      have k0 : (0 : Int) ≤ (k : Int) := by omega
      have k1 : (k : Int) < (n : Int) := by omega
      have hkl : k < D.length := by omega
      have hlen : (succD (D.take k) c).length ≤ k := Nat.le_trans (succ_length _ _) (by simp; omega)
      clear hai
      by_cases hc : x.1 = c
      · have HE := Lib.hid (succ_yes (c := c) hkl (by rw [hx]; exact hc))
        rw [hx] at HE
        subst hc
        have hsz1 : w.heap.size ≤ wr.heap.size := HB.out.size
        have b3' := Lib.hid (show ∀ u ∈ [Value.int .i64 x.2], u.oneCell' = true by simp [Value.oneCell'])
        have b4' := Lib.hid (show (succD (D.take k) x.1).length + 1 ≤ maxLen by unfold maxLen; omega)
        go_wp2_with (at_builtin; refine wpList_append_own _ rfl _ _ 26 rfl w.heap.size 3 i0 (.int .i64 0) 1 8 Try.underlying26 hi hz0 hz1 hz2 rfl (by decide) _ (succD (D.take k) x.1).length _ rfl (HO.out.alloc _) ⟨wr.heap.size, 0, none⟩ 1 1 [.int .i64 x.2] rfl rfl (World.news_of_block (cs := #[.int .i64 x.2]) (t := 3) (fr := (0, 0)) (heap_alloc_new wr _)) b3'.out b4'.out (by omega) (by simp; omega) ?_; intro v' w4 hown4 hgrow4 _)
        have X4 := Lib.hid (show w4.ownsRow w.heap.size 3 1 v' (succD (D.take (k + 1)) x.1).length (intsV (succD (D.take (k + 1)) x.1)) ∧ Below w.heap.size w w4 from by
          refine ⟨by rw [HE.out, List.length_append, intsV_append]; exact hown4, ?_⟩
          exact (HB.out.alloc HB.out.size _).grown hgrow4 (by have := HB.out.size; simp; omega) (fun j hj => (HO.out.lt j hj).1))
        clear hown4 hgrow4 c0 c1 hx
        go_wp2_with fail
        go_roundw
        case rel => exact ⟨k + 1, by go_num, by omega, X4.out.1, X4.out.2⟩
        case measure => simp [intOf]; omega
      · have HE := Lib.hid (succ_no (c := c) hkl (by rw [hx]; exact hc))
        clear hx
        go_wp2_with fail
        go_roundw
        case rel => exact ⟨k + 1, by go_num, by omega, by rw [HE.out]; exact HO.out, HB.out⟩
        case measure => simp [intOf]; omega
    · obtain rfl : k = n := by omega
      clear hai
      go_wp2_with fail
      go_ret
      refine ⟨_, rfl, ?_, HB.out⟩
      have h3 := HO.out
      rw [HALL.out] at h3 ⊢
      exact h3

theorem okD_at_in {D : List Dep} (h : okD D = true) {k : Nat} (hk : k < D.length) : 0 ≤ (atD D k).1 ∧ (atD D k).1 ≤ 127 ∧ 0 ≤ (atD D k).2 ∧ (atD D k).2 ≤ 127 := inD_iff.1 (okD_in h (atD_mem hk))
/-- The list that is built; nothing below it is touched. -/
def SfAt (w : World) (k : Nat) (D : List Dep) (v : Value) (wr : World) : Prop := wr.ownsRow w.heap.size 36 2 v k (depV D) ∧ Below w.heap.size w wr
theorem SfAt.gb {w wr w' : World} {k : Nat} {D : List Dep} {v : Value} (h : SfAt w k D v wr) (hg : wr.grownBy w' none) : SfAt w k D v w' := ⟨own_none h.1 hg, below_gb h.2 (Nat.le_refl _) hg⟩
theorem SfAt.start (w : World) : SfAt w 0 [] (.slice (some ⟨w.heap.size, 0, none⟩) 0 0) (w.alloc (.cells #[] 36)) := ⟨own_madeD w (Nat.le_refl _), (Below.refl _ _).alloc (Nat.le_refl _) _⟩
theorem specShift (A : Option Addr) (n cap : Nat) (D : List Dep) (z : Int) (w : World) (h : DepAt w w.heap.size A n D) (hn : n ≤ 1000000000) :
    Calls Try.prog 40 #[.slice A n cap, .int .i64 z] w (NewD (shiftD D z) w) := by
  obtain ⟨i0, hi, hz0, hz1, hz2⟩ := info_parts info_dep
  have HI := Lib.hid h
  have hl := h.1
  have X0 := Lib.hid (SfAt.start w)
  have HOKS := Lib.hid (fun (A' : Option Addr) (c' : Nat) (E : List Dep) (w' : World) (h' : DepAt w' w'.heap.size A' n E) => specDependsOk A' n c' E w' h' (by omega))
  have HOK := Lib.hid (fun (w' : World) (hb : Below w.heap.size w w') => specDependsOk A n cap D w' ((h.below hb).more hb.size) (by omega))
  have HZI := Lib.hid (fun (b : Bool) (hb : decide (-1000 ≤ z ∧ z ≤ 1000) = b) w => specInV z (-1000) 1000 b hb w)
  clear h
  cases hok : okD D with
  | false =>
    rw [shift_no1 hok]
    rw [hok] at HOK
    clear hok
    go_enter Try.func40, Try.ntmps40
    go_wp2_with fail
    refine (HOK.out _ X0.out.2).mono ?_
    rintro e w1 ⟨rfl, hg1⟩
    have X1 := Lib.hid (X0.out.gb hg1)
    clear hg1
    go_wp2_with fail
    go_ret
    exact ⟨_, rfl, X1.out.1, X1.out.2⟩
  | true =>
    rw [hok] at HOK
    cases hz : inS z with
    | false =>
      rw [shift_no2 hz]
      have HZ := Lib.hid (fun w => HZI.out false hz w)
      clear hok hz
      go_enter Try.func40, Try.ntmps40
      go_wp2_with fail
      refine (HOK.out _ X0.out.2).mono ?_
      rintro e w1 ⟨rfl, hg1⟩
      have X1 := Lib.hid (X0.out.gb hg1)
      clear hg1
      go_wp2_with fail
      refine (HZ.out _).mono ?_
      rintro e w2 ⟨rfl, rfl⟩
      go_wp2_with fail
      go_ret
      exact ⟨_, rfl, X1.out.1, X1.out.2⟩
    | true =>
      have HIN := Lib.hid (fun k (hk : k < D.length) => okD_at_in hok hk)
      have HS := Lib.hid (shift_no3 (D := D) (z := z))
      have HY := Lib.hid (shift_yes (D := D) (z := z) hok hz)
      have HZ := Lib.hid (fun w => HZI.out true hz w)
      unfold inS at hz
      obtain ⟨z1, z2⟩ := of_decide_eq_true hz
      obtain ⟨S, hS⟩ : ∃ S, shiftD D z = S := ⟨_, rfl⟩
      rw [hS] at HS HY
      rw [hS]
      clear hok hz hS
      go_enter Try.func40, Try.ntmps40
      go_wp2_with fail
      refine (HOK.out _ X0.out.2).mono ?_
      rintro e w1 ⟨rfl, hg1⟩
      have X1 := Lib.hid (show SfAt w 0 (moveD (D.take 0) z) _ w1 from X0.out.gb hg1)
      clear hg1
      go_wp2_with fail
      refine (HZ.out _).mono ?_
      rintro e w2 ⟨rfl, rfl⟩
      go_wp2_with fail
      go_loopw [5, 6] (fun v i wr => ∃ k : Nat, i = .int .i64 (k : Int) ∧ k ≤ n ∧ SfAt w k (moveD (D.take k) z) v wr) (fun _ i _ => n - (intOf i).toNat)
      case atStart => exact ⟨0, rfl, Nat.zero_le _, X1.out⟩
      case round =>
        obtain ⟨k, rfl, hk, hx⟩ := hrel
        have X2 := Lib.hid hx
        have hai := HI.out.below hx.2
        obtain ⟨Ao, co, rfl, _⟩ := own_form hx.1
        clear hx
        by_cases hlt : k < n
        · obtain ⟨b1, off, rfl, hb1, c0, c1⟩ := hai.at k hlt
          obtain ⟨x, hx⟩ : ∃ x, atD D k = x := ⟨_, rfl⟩
          have hin := HIN.out k (by omega)
          have HE := Lib.hid (move_next (D := D) z (k := k) (by omega))
          rw [hx] at c0 c1 hin HE
          have k0 : (0 : Int) ≤ (k : Int) := by omega
          have k1 : (k : Int) < (n : Int) := by omega
          obtain ⟨x1, x2, x3, x4⟩ := hin
          have q1 : IntKind.i64.wrap (x.1 + z) = x.1 + z := IntWalk.i64_in _ (by omega)
          have q2 : IntKind.i64.wrap (x.2 + z) = x.2 + z := IntWalk.i64_in _ (by omega)
          have b3 : ∀ u ∈ [Value.int .i64 (x.1 + z), Value.int .i64 (x.2 + z)], u.oneCell' = true := by simp [Value.oneCell']
          have b4 : k + 1 ≤ maxLen := by unfold maxLen; omega
          have b5 : (k + 1) * 16 ≤ 140737488355328 := by omega
          have o4 : (wr.drew.alloc (.cells #[.int .i64 (x.1 + z), .int .i64 (x.2 + z)] 36)).ownsRow w.heap.size 36 2 (.slice Ao k co) k (depV (moveD (D.take k) z)) := (own_none X2.out.1 (gb_drew (gb_refl wr none))).alloc _
          have s4 : w.heap.size ≤ (wr.drew.alloc (.cells #[.int .i64 (x.1 + z), .int .i64 (x.2 + z)] 36)).heap.size := by rw [alloc_size]; exact Nat.le_succ_of_le X2.out.2.size
          clear hai hx
          go_wp2_with fail
          go_region_law
            (first
              | (refine step_append_lies _ (by rfl) _ _ _ (by rfl) w.heap.size 36 i0 _ 2 16 Try.underlying33 hi hz0 hz1 hz2 rfl (by omega) (.slice Ao k co) k (depV (moveD (D.take k) z)) (by rfl) o4
                  ⟨wr.heap.size, 0, none⟩ 1 1 [.int .i64 (x.1 + z), .int .i64 (x.2 + z)] (by rfl) (by rfl) (World.news_of_block (cs := #[.int .i64 (x.1 + z), .int .i64 (x.2 + z)]) (t := 36) (fr := (0, 0)) (heap_alloc_new wr.drew _)) b3
                  (by omega) b4 b5 s4 (wr.heap.size + 1) (by simp) ?_; intro g4 cap4 w5 hown5 hgrow5 hat5 hltg5; have X5 := Lib.hid (show SfAt w (k + 1) (moveD (D.take (k + 1)) z) _ w5 from ⟨by rw [HE.out, depV_append]; exact hown5, ((below_gb X2.out.2 (Nat.le_refl _) (gb_drew (gb_refl wr none))).alloc X2.out.2.size _).grown hgrow5 s4 (fun j hj => (X2.out.1.lt j hj).1)⟩); clear hown5 hgrow5 hat5 hltg5)
              | fail)
          all_goals
            clear c0 c1 o4 s4 q1 q2
            go_wp2_with fail
            go_roundw
            case rel => exact ⟨k + 1, by go_num, by omega, X5.out⟩
            case measure => simp [intOf]; omega
        · obtain rfl : k = n := by omega
          rw [show D.take k = D from by rw [← hl]; exact List.take_length] at X2
          have HOM := HOKS.out Ao co (moveD D z) wr (depAt_own X2.out.1 (Nat.le_refl _))
          cases hm : okD (moveD D z) with
          | false =>
            have hr := HS.out hm
            subst hr
            rw [hm] at HOM
            have HOM2 := Lib.hid HOM
            clear HOM hm hai
            go_wp2_with fail
            refine HOM2.out.mono ?_
            rintro e w2 ⟨rfl, hg2⟩
            have X3 := Lib.hid (X2.out.gb hg2)
            clear hg2
            go_wp2_with fail
            go_ret
            exact ⟨_, rfl, own_emptyD rfl X3.out.2⟩
          | true =>
            have hr := HY.out hm
            rw [hm] at HOM
            have HOM2 := Lib.hid HOM
            have HR := Lib.hid hr
            clear HOM hm hai hr
            go_wp2_with fail
            refine HOM2.out.mono ?_
            rintro e w2 ⟨rfl, hg2⟩
            have X3 := Lib.hid (X2.out.gb hg2)
            clear hg2
            go_wp2_with fail
            go_ret
            exact ⟨_, rfl, by rw [HR.out, move_length, hl]; exact X3.out.1, X3.out.2⟩
end Go.Proofs.Ytnpjadofhpaapaa
