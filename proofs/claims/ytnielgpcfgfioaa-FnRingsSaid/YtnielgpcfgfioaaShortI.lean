/- What is proved here: the program's shortest cycle; only new blocks are written. -/
import Derived.Test.YtnielgpcfgfioaaToI
import Derived.Test.YtnielgpcfgfioaaWayI
namespace Go.Proofs.Ytnielgpcfgfioaa
open Go.ChangeShapes Go.WideShapes Go.ChangeAt Go.RowKit
set_option linter.unusedVariables false
set_option maxRecDepth 20000

/-- The shortest cycle through the first channels. -/
def ShAt (w : World) (D : List Dep) (c : Nat) (v : Value) (wr : World) : Prop := wr.ownsRow w.heap.size 3 1 v (bestTo D c).1 (intsV (cycP D (bestTo D c).2.toNat (bestTo D c).1)) ∧ Below w.heap.size w wr
theorem ShAt.below {w wr w' : World} {D : List Dep} {c : Nat} {v : Value} (h : ShAt w D c v wr) (hb : Below wr.heap.size wr w') : ShAt w D c v w' :=
  ⟨own_none h.1 (gb_of_below hb none), below_gb h.2 (Nat.le_refl _) (gb_of_below hb none)⟩
theorem ShAt.pass {w wr : World} {D : List Dep} {c : Nat} {v : Value} (h : ShAt w D c v wr) (k : ¬ (0 < distD D c c ∧ ((bestTo D c).1 = 0 ∨ distD D c c < (bestTo D c).1))) : ShAt w D (c + 1) v wr := by
  unfold ShAt
  rw [best_pass k]
  exact h
theorem ShAt.take {w wr w' : World} {D : List Dep} {c d : Nat} {v v' : Value} (h : ShAt w D c v wr) (hd : distD D c c = d) (k : 0 < distD D c c ∧ ((bestTo D c).1 = 0 ∨ distD D c c < (bestTo D c).1)) (ho : w'.ownsRow wr.heap.size 3 1 v' (cycP D c d).length (intsV (cycP D c d))) (hb : Below wr.heap.size wr w') : ShAt w D (c + 1) v' w' := by
  unfold ShAt
  rw [best_take k.1 k.2, hd]
  rw [cyc_len] at ho
  exact ⟨own_less ho h.2.size, below_gb h.2 (Nat.le_refl _) (gb_of_below hb none)⟩
theorem implShortest (A : Option Addr) (n cap : Nat) (D : List Dep) (w : World) (h : DepAt w w.heap.size A n D) (hn : n ≤ 1000000000) :
    Calls Try.prog 40 #[.slice A n cap] w (NewI (cycG D) w) := by
  have HI := Lib.hid h
  have hl := h.1
  have HOKC := Lib.hid (fun w h => implDependsOk A n cap D w h (by omega))
  clear h
  cases hok : okD D with
  | false =>
    rw [cyc_bad hok]
    rw [hok] at HOKC
    clear hok
    go_enter Try.func40, Try.ntmps40
    go_wp2_with fail
    refine (HOKC.out _ HI.out).mono ?_
    rintro e w1 ⟨rfl, hg⟩
    go_wp2_with fail
    go_ret
    exact ⟨_, rfl, World.ownsRow_nil _ _ _ _, gb_below_none hg (Nat.le_refl _)⟩
  | true =>
    rw [cyc_ok hok]
    have HWA := Lib.hid (fun w h => implWaiters A n cap D w h hok hn)
    have HTO := Lib.hid (fun a ha g w h => implStepsTo D a ha g hok (by omega) w h)
    have HWB := Lib.hid (fun AX cX st b hst hb hb1 w h hX => implWayBack A AX n cap cX D st b hst hok hb hb1 w h hX hn)
    have HOK := Lib.hid hok
    rw [hok] at HOKC
    clear hok
    go_enter Try.func40, Try.ntmps40
    go_wp2_with fail
    refine (HOKC.out _ HI.out).mono ?_
    rintro e w1 ⟨rfl, hg⟩
    have HG1 := Lib.hid hg
    have HI1 := Lib.hid ((HI.out.none (Nat.le_refl _) hg).more hg.size)
    clear hg
    go_wp2_with fail
    refine (HWA.out _ HI1.out).mono ?_
    rintro e w2 ⟨g, V, rfl, hx, hb2⟩
    have HR := Lib.hid (hx.read (Nat.le_refl _))
    have HI2 := Lib.hid ((HI1.out.below hb2).more hb2.size)
    have HB2 := Lib.hid (show Below w.heap.size w w2 from (gb_below_none HG1.out (Nat.le_refl _)).trans (hb2.mono HG1.out.size))
    clear hx hb2
    go_wp2_with fail
    go_loopw [4, 12] (fun v i wr => ∃ c : Nat, i = .int .i64 (c : Int) ∧ c ≤ 128 ∧ ShAt w2 D c v wr) (fun _ i _ => 128 - (intOf i).toNat)
    case atStart => exact ⟨0, rfl, Nat.zero_le _, World.ownsRow_nil _ _ _ _, Below.refl _ _⟩
    case round =>
      obtain ⟨c, rfl, hc, hx⟩ := hrel
      have X1 := Lib.hid hx
      obtain ⟨As, cs, rfl, _⟩ := own_form hx.1
      obtain ⟨m, hm⟩ : ∃ m, (bestTo D c).1 = m := ⟨_, rfl⟩
      have HM := Lib.hid hm
      clear hx
      rw [hm]
      clear hm
      by_cases hlt : c < 128
      · have c0 : (0 : Int) ≤ (c : Int) := by omega
        have c1 : (c : Int) < 128 := by omega
        go_wp2_with fail
        refine (HTO.out c hlt g _ ((HR.out.below X1.out.2).more X1.out.2.size)).mono ?_
        rintro e w3 ⟨v3, rfl, o3, b3⟩
        rw [toL_len] at o3
        have X3 := Lib.hid (X1.out.below b3)
        obtain ⟨A3, cap3, rfl, hA3⟩ := own_form o3
        obtain ⟨g3, rfl⟩ := hA3 (by omega)
        have e0 := ints_get o3 hlt
        rw [toL_at hlt] at e0
        have HX3 := Lib.hid (intAt_own o3 (toL_len D c) (Nat.le_refl _))
        obtain ⟨d, hd⟩ : ∃ d, distD D c c = d := ⟨_, rfl⟩
        rw [hd] at e0
        have HD := Lib.hid hd
        clear o3 b3 hA3 hd
        by_cases hd0 : d = 0
        · rw [if_pos hd0] at e0
          have HP := Lib.hid (X3.out.pass (by rw [HD.out]; omega))
          clear hd0
          go_wp2_with fail
          go_roundw
          case rel => exact ⟨c + 1, by go_num, by omega, by rw [← HM.out] at *; exact HP.out⟩
          case measure => simp [intOf]; omega
        · rw [if_neg hd0] at e0
          have hdb : ((d : Int) == -1) = false := beq_eq_false_iff_ne.2 (by omega)
          have h0 : ¬ (d : Int) = -1 := by omega
          by_cases hm0 : m = 0
          · have HT := Lib.hid (fun (v' : Value) (w' : World) (ho : w'.ownsRow w3.heap.size 3 1 v' (cycP D c d).length (intsV (cycP D c d))) (hb : Below w3.heap.size w3 w') => X3.out.take HD.out (by rw [HD.out, HM.out]; omega) ho hb)
            have HI3 := Lib.hid ((HI2.out.below X3.out.2).more X3.out.2.size)
            subst hm0
            clear hdb
            go_wp2_with fail
            refine (HWB.out _ _ c d hlt HD.out (by omega) _ HI3.out HX3.out).mono ?_
            rintro e w4 ⟨v4, rfl, o4, b4⟩
            have X4 := Lib.hid (HT.out _ _ o4 b4)
            clear o4 b4
            go_wp2_with fail
            go_roundw
            case rel => exact ⟨c + 1, by go_num, by omega, X4.out⟩
            case measure => simp [intOf]; omega
          · by_cases hdm : d < m
            · have HT := Lib.hid (fun (v' : Value) (w' : World) (ho : w'.ownsRow w3.heap.size 3 1 v' (cycP D c d).length (intsV (cycP D c d))) (hb : Below w3.heap.size w3 w') => X3.out.take HD.out (by rw [HD.out, HM.out]; omega) ho hb)
              have HI3 := Lib.hid ((HI2.out.below X3.out.2).more X3.out.2.size)
              have m0 : ¬ (m : Int) = 0 := by omega
              have m1 : ((m : Int) == 0) = false := by simpa using hm0
              have m2 : (d : Int) < (m : Int) := by omega
              go_wp2_with fail
              refine (HWB.out _ _ c d hlt HD.out (by omega) _ HI3.out HX3.out).mono ?_
              rintro e w4 ⟨v4, rfl, o4, b4⟩
              have X4 := Lib.hid (HT.out _ _ o4 b4)
              clear o4 b4
              go_wp2_with fail
              go_roundw
              case rel => exact ⟨c + 1, by go_num, by omega, X4.out⟩
              case measure => simp [intOf]; omega
            · have HP := Lib.hid (X3.out.pass (by rw [HD.out, HM.out]; omega))
              have m0 : ¬ (m : Int) = 0 := by omega
              have m1 : ((m : Int) == 0) = false := by simpa using hm0
              have m2 : ¬ (d : Int) < (m : Int) := by omega
              go_wp2_with fail
              go_roundw
              case rel => exact ⟨c + 1, by go_num, by omega, by rw [← HM.out] at *; exact HP.out⟩
              case measure => simp [intOf]; omega
      · obtain rfl : c = 128 := by omega
        have HE := Lib.hid (show NewI (cycP D (bestTo D 128).2.toNat (bestTo D 128).1) w (.returned (.slice As m cs)) wr from ⟨_, rfl, by rw [cyc_len, HM.out]; rw [← HM.out]; have := X1.out.1; rw [HM.out] at this ⊢; exact own_less this HB2.out.size, HB2.out.trans (X1.out.2.mono HB2.out.size)⟩)
        go_wp2_with fail
        go_ret
        exact HE.out
end Go.Proofs.Ytnielgpcfgfioaa
