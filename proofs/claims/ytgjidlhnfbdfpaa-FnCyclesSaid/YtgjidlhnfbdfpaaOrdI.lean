/- What is proved here: what the program's OrderOf returns, for all arguments; only new blocks are written. -/
import Derived.Test.YtgjidlhnfbdfpaaNxtI
import Derived.Test.YtgjidlhnfbdfpaaRepI
namespace Go.Proofs.Ytgjidlhnfbdfpaa
open Go.ChangeShapes Go.WideShapes Go.ChangeAt Go.RowKit
set_option linter.unusedVariables false
set_option maxRecDepth 20000

theorem own_low {w : World} {base base' : Nat} {e : TypeId} {size : Nat} {v : Value} {n : Nat} {xs : List Value} (h : w.ownsRow base' e size v n xs) (hb : base ≤ base') : w.ownsRow base e size v n xs := by
  refine ⟨h.1, ?_⟩
  rcases h.2 with h1 | ⟨g, cap, cur, h1, h2, h3⟩
  · exact .inl h1
  · exact .inr ⟨g, cap, cur, h1, Nat.le_trans hb h2, h3⟩
theorem rk_up {w w1 w2 : World} {n : Nat} {R : List Int} {v : Value} (hb : Below w.heap.size w w1) (h : w2.ownsRow w1.heap.size 3 1 v n (intsV R) ∧ Below w1.heap.size w1 w2) : RkAt w n R v w2 :=
  ⟨own_low h.1 hb.size, hb.trans (h.2.mono hb.size)⟩
theorem rk_nil {D : List Dep} {w wr : World} (h : orderO D = none) (hb : Below w.heap.size w wr) : NewR (ranksO D) (canO D) w (.returned (.tuple #[.slice none 0 0, .bool false])) wr := by
  obtain ⟨e1, e2⟩ := order_none h
  rw [e2]
  exact ⟨_, rfl, own_nil e1 _ _, hb⟩
set_option maxHeartbeats 1600000 in
theorem implOrderOf (A : Option Addr) (n cap : Nat) (D : List Dep) (w : World) (h : DepAt w w.heap.size A n D) (hn : n ≤ 1000000000) :
    Calls Try.prog 11 #[.slice A n cap] w (NewR (ranksO D) (canO D) w) := by
  have HI := Lib.hid h
  have HOK := Lib.hid (implDependsOk A n cap D w h (by omega))
  clear h
  cases hok : okD D with
  | false =>
    have HN := Lib.hid (orderO_bad hok)
    rw [hok] at HOK
    clear hok
    go_enter Try.func11, Try.ntmps11
    go_wp2_with fail
    refine HOK.out.mono ?_
    rintro e w1 ⟨rfl, hg1⟩
    have B1 := Lib.hid (gb_below_none hg1 (Nat.le_refl _))
    clear hg1
    go_wp2_with fail
    go_ret2
    exact rk_nil HN.out B1.out
  | true =>
    have HORD := Lib.hid (orderO_ok hok)
    have HOKD := Lib.hid hok
    have HREP := Lib.hid (fun b o w h => libRepeat b o w h)
    rw [hok] at HOK
    clear hok
    go_enter Try.func11, Try.ntmps11
    go_wp2_with fail
    refine HOK.out.mono ?_
    rintro e w1 ⟨rfl, hg1⟩
    have B1 := Lib.hid ((gb_below_none hg1 (Nat.le_refl _)).alloc hg1.size (.cells #[.int .i64 (-1)] 3))
    have C1 := Lib.hid ((Blk.new w1 3 #[.int .i64 (-1)]).cell 0)
    clear hg1
    go_wp2_with fail
    refine (HREP.out _ _ _ C1.out).mono ?_
    rintro e w2 ⟨v, rfl, hrk⟩
    have X2 := Lib.hid (rk_up B1.out hrk)
    obtain ⟨Av, cv, rfl, hav⟩ := own_form hrk.1
    obtain ⟨g, hg⟩ := hav (by omega)
    subst hg
    clear hrk hav
    go_wp2_with fail
    go_loopw [12] (fun i wr => ∃ (r : Nat) (R : List Int), i = .int .i64 (r : Int) ∧ r ≤ 128 ∧ ordTo D r = some R ∧ RkAt w 128 R (.slice (some ⟨g, 0, none⟩) 128 cv) wr) (fun i _ => 128 - (intOf i).toNat)
    case atStart => exact ⟨0, _, rfl, Nat.zero_le _, rfl, X2.out⟩
    case round =>
      obtain ⟨r, R, rfl, hr, hord, hx⟩ := hrel
      have X5 := Lib.hid hx
      have HO := Lib.hid hord
      have hRl := ordTo_len hord
      clear hx hord
      by_cases hlt : r < 128
      · have HLT := Lib.hid hlt
        have HMIN := Lib.hid (fun c (hc : c < 128) => show R.getD c 0 = -1 ∨ 0 ≤ R.getD c 0 from ((ord_inv HOKD.out hr HO.out).rng c hc).imp id And.left)
        cases hb : bestO D R with
        | none =>
          have HF := Lib.hid (fun w h hR => implNext A (some ⟨g, 0, none⟩) n cap cv D R (-1) (nxt_none hb) w h hR HOKD.out HMIN.out hn)
          have HE := Lib.hid (HORD.out.trans (ordTo_dead (ordTo_stop HO.out hb) (by omega)))
          clear hb
          go_wp2_with fail
          refine (HF.out _ ((HI.out.below X5.out.2).more X5.out.2.size) (intAt_own X5.out.1 hRl (Nat.le_refl _))).mono ?_
          rintro e w6 ⟨rfl, hg6⟩
          have X6 := Lib.hid (X5.out.gb hg6)
          clear hg6
          go_wp2_with fail
          go_ret2
          exact rk_nil HE.out X6.out.2
        | some c =>
          have hc := (bestO_is hb).1
          have HF := Lib.hid (fun w h hR => implNext A (some ⟨g, 0, none⟩) n cap cv D R (c : Int) (nxt_some hb) w h hR HOKD.out HMIN.out hn)
          have HNX := Lib.hid (ordTo_next HO.out hb)
          have k0 : (0 : Int) ≤ (c : Int) := by omega
          have k1 : (c : Int) < 128 := by omega
          have k2 : ¬ (c : Int) < 0 := by omega
          clear hb
          go_wp2_with fail
          refine (HF.out _ ((HI.out.below X5.out.2).more X5.out.2.size) (intAt_own X5.out.1 hRl (Nat.le_refl _))).mono ?_
          rintro e w6 ⟨rfl, hg6⟩
          have X6 := Lib.hid (X5.out.gb hg6)
          have X7 := Lib.hid (X6.out.set c (r : Int))
          have c0 := ints_cell X6.out.1 c (R.getD c 0) (by rw [List.getD, List.getElem?_eq_getElem (by omega)]; rfl) hRl
          have f0 := X6.out.1.frozenAt c
          clear hg6
          go_wp2_with fail
          go_roundw
          case rel => exact ⟨r + 1, _, by go_num, by have := HLT.out; omega, HNX.out, X7.out⟩
          case measure => have := HLT.out; simp [intOf]; omega
      · obtain rfl : r = 128 := by omega
        have HE := Lib.hid (order_some (HORD.out.trans HO.out))
        go_wp2_with fail
        go_ret2
        refine ⟨_, ret_pair HE.out.2.symm, ?_, X5.out.2⟩
        have h3 := X5.out.1
        rw [HE.out.1, hRl]
        exact h3
end Go.Proofs.Ytgjidlhnfbdfpaa
