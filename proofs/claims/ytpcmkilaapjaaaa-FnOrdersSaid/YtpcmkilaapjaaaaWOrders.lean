/- What is proved here: the law on orders that are found answers true, for every draw; only new blocks are written. -/
import Derived.Test.YtpcmkilaapjaaaaListD
import Derived.Test.YtpcmkilaapjaaaaBig
import Derived.Test.YtpcmkilaapjaaaaOrdS
import Derived.Test.YtpcmkilaapjaaaaOrdI
import Derived.Test.YtpcmkilaapjaaaaIsOrdI
namespace Go.Proofs.Ytpcmkilaapjaaaa
open Go.ChangeShapes Go.WideShapes Go.ChangeAt Go.RowKit
set_option linter.unusedVariables false
set_option maxRecDepth 20000

/-- The least channel above t without predecessors is z, if there is one. -/
def fstO (D : List Dep) (z t : Int) : Prop :=
  (z = -1 ∧ ∀ j : Nat, t < (j : Int) → j < 128 → noPre D j = false) ∨ (∃ f : Nat, z = (f : Int) ∧ t < (f : Int) ∧ f < 128 ∧ noPre D f = true ∧ ∀ j : Nat, t < (j : Int) → j < f → noPre D j = false)
theorem fst_hit {D : List Dep} {m : Nat} (hm : m < 128) (h : noPre D m = true) : fstO D (m : Int) ((m : Int) - 1) := .inr ⟨m, rfl, by omega, hm, h, fun j h1 h2 => by omega⟩
theorem fst_pass {D : List Dep} {z : Int} {m : Nat} (h : fstO D z (m : Int)) (hn : noPre D m = false) : fstO D z ((m : Int) - 1) := by
  rcases h with ⟨hz, hall⟩ | ⟨f, hz, hf, hf2, hp, hall⟩
  · refine .inl ⟨hz, fun j h1 h2 => ?_⟩
    by_cases e : j = m
    · rw [e]; exact hn
    · exact hall j (by omega) h2
  · refine .inr ⟨f, hz, by omega, hf2, hp, fun j h1 h2 => ?_⟩
    by_cases e : j = m
    · rw [e]; exact hn
    · exact hall j (by omega) h2
theorem fst_end {D : List Dep} (hD : okD D = true) {R : List Int} (h : ordTo D 128 = some R) {z : Int} (hf : fstO D z (-1)) : ∃ c : Nat, c < 128 ∧ z = (c : Int) ∧ R.getD c 0 = 0 := by
  obtain ⟨c, hc, hp, hl, he⟩ := ord_first hD h
  rcases hf with ⟨hz, hall⟩ | ⟨f, hz, hf, hf2, hpf, hall⟩
  · rw [hall c (by omega) hc] at hp
    cases hp
  · rcases Nat.lt_trichotomy f c with h1 | h1 | h1
    · rw [hl f h1] at hpf; cases hpf
    · subst h1; exact ⟨f, hf2, hz, he⟩
    · rw [hall c (by omega) h1] at hp; cases hp
/-- None of the first j elements leads to c. -/
def preTo (D : List Dep) (c : Int) (j : Nat) : Bool := (List.range j).all fun i => decide ((atD D i).2 ≠ c)
theorem pre_zero (D : List Dep) (c : Int) : preTo D c 0 = true := rfl
theorem pre_next (D : List Dep) (c : Int) (j : Nat) : preTo D c (j + 1) = (preTo D c j && decide ((atD D j).2 ≠ c)) := by simp [preTo, List.range_succ, List.all_append]
theorem pre_all (D : List Dep) (m : Nat) : preTo D (m : Int) D.length = noPre D m := rfl
/-- The drawn list and the ranks. -/
structure OrL (w : World) (D : List Dep) (R : List Int) (N K : Nat) (va vr : Value) (wr : World) : Prop where
  ra : wr.ownsRow w.heap.size 30 2 va N (depV D)
  rr : wr.ownsRow w.heap.size 3 1 vr K (intsV R)
  lb : Below w.heap.size w wr

set_option maxHeartbeats 1600000 in
theorem walk_FnOrders (A : Option Addr) (n cap : Nat) (w : World) (hr : ByteRow w w.heap.size A n) :
    Calls Try.prog 3 #[.slice A n cap] w fun e w' => e = .returned (.bool true) ∧ Below w.heap.size w w' := by
  by_cases hbig : 1048576 < n
  · go_enter Try.func3, Try.ntmps3
    go_wp2_with fail
    refine (lawsBig A n cap _).mono ?_
    rintro e w1 ⟨rfl, rfl⟩
    rw [decide_eq_true hbig]
    go_wp2_with fail
    go_ret
    exact ⟨rfl, Below.refl _ _⟩
  · have HR := Lib.hid hr
    have hn : n ≤ 1048576 := by omega
    clear hr
    go_enter Try.func3, Try.ntmps3
    go_wp2_with fail
    refine (lawsBig A n cap _).mono ?_
    rintro e w1 ⟨rfl, rfl⟩
    rw [decide_eq_false hbig]
    go_wp2_with fail
    refine (drawDepends A n cap _ HR.out hn).mono ?_
    rintro e w0 ⟨va, D, rfl, hDa, hDs, hDl, ho0, hb0⟩
    have HO0 := Lib.hid ho0
    have HB0 := Lib.hid hb0
    have hok : okD D = true := okD_of hDa fun d hd => by have := hDs d hd; exact inD_iff.2 (by omega)
    have HOK := Lib.hid hok
    obtain ⟨Aa, ca, rfl, haa⟩ := own_form ho0
    have HAA := Lib.hid haa
    have CO := Lib.hid (fun w h => implOrderOf Aa D.length ca D w h (by omega))
    have CS := Lib.hid (fun w h => specOrderOf Aa D.length ca D w h (by omega))
    clear ho0 hb0 hDa hDs haa hok
    cases ho : orderO D with
    | none =>
      obtain ⟨e1, e2⟩ := order_none ho
      rw [e1, e2] at CO CS
      clear e1 e2 ho
      go_wp2_with fail
      refine (CO.out _ (depAt_own HO0.out (Nat.le_refl _))).mono ?_
      rintro e w2 ⟨v2, rfl, o2, b2⟩
      obtain ⟨A2, c2, rfl, _⟩ := own_form o2
      have HO2 := Lib.hid (own_below HO0.out b2)
      have B2 := Lib.hid (HB0.out.trans (b2.mono HB0.out.size))
      clear o2 b2
      go_wp2_with fail
      refine (CS.out _ (depAt_own HO2.out (Nat.le_refl _))).mono ?_
      rintro e w3 ⟨v3, rfl, o3, b3⟩
      have B3 := Lib.hid (B2.out.trans (b3.mono B2.out.size))
      clear o3 b3
      go_wp2_with fail
      go_ret
      exact ⟨by first | rfl | exact ret_bool (by simp), B3.out⟩
    | some R =>
      obtain ⟨e1, e2⟩ := order_some ho
      have hR128 := (order_is ho).2.1
      have HIS := Lib.hid (order_is ho).2.2
      have HEND := Lib.hid (fun z (hf : fstO D z (-1)) => fst_end HOK.out (by rw [← orderO_ok HOK.out]; exact ho) hf)
      rw [e1, e2] at CO CS
      clear e1 e2 ho
      go_wp2_with fail
      refine (CO.out _ (depAt_own HO0.out (Nat.le_refl _))).mono ?_
      rintro e w2 ⟨v2, rfl, o2, b2⟩
      rw [hR128] at o2
      obtain ⟨A2, c2, rfl, ha2⟩ := own_form o2
      obtain ⟨g2, rfl⟩ := ha2 (by omega)
      have HO2 := Lib.hid (own_below HO0.out b2)
      have HR2 := Lib.hid (own_less o2 HB0.out.size)
      have B2 := Lib.hid (HB0.out.trans (b2.mono HB0.out.size))
      clear o2 b2 ha2
      go_wp2_with fail
      refine (CS.out _ (depAt_own HO2.out (Nat.le_refl _))).mono ?_
      rintro e w3 ⟨v3, rfl, o3, b3⟩
      have X3 := Lib.hid (show OrL w D R D.length 128 (.slice Aa D.length ca) (.slice (some ⟨g2, 0, none⟩) 128 c2) w3 from ⟨own_below HO2.out b3, own_below HR2.out b3, B2.out.trans (b3.mono B2.out.size)⟩)
      obtain ⟨A3, c3, rfl, _⟩ := own_form o3
      obtain ⟨N, hN⟩ : ∃ N, D.length = N := ⟨_, rfl⟩
      rw [hN] at X3 HAA hDl
      have HN := Lib.hid hN
      clear o3 b3
      go_wp2_with fail
      (try rw [hN])
      clear hN
      go_loopw [8, 9] (fun b i wr => ∃ z t : Int, b = .int .i64 z ∧ i = .int .i64 t ∧ -1 ≤ t ∧ t ≤ 127 ∧ fstO D z t ∧ OrL w D R N 128 (.slice Aa N ca) (.slice (some ⟨g2, 0, none⟩) 128 c2) wr) (fun _ i _ => (intOf i + 1).toNat)
      case atStart => exact ⟨-1, 127, rfl, rfl, by omega, by omega, .inl ⟨rfl, fun j h1 h2 => by omega⟩, X3.out⟩
      case round =>
        obtain ⟨z, t, rfl, rfl, ht0, ht1, hf, hx⟩ := hrel
        have X4 := Lib.hid hx
        have HF := Lib.hid hf
        clear hx hf
        by_cases hlt : 0 ≤ t
        · obtain ⟨m, hm⟩ : ∃ m : Nat, t = (m : Int) := ⟨t.toNat, by omega⟩
          subst hm
          have HLT := Lib.hid (And.intro hlt ht1)
          go_wp2_with fail
          clear hlt ht0 ht1
          go_loopw [10, 11] (fun b i ws => ∃ j : Nat, b = .bool (preTo D (m : Int) j) ∧ i = .int .i64 (j : Int) ∧ j ≤ N ∧ OrL w D R N 128 (.slice Aa N ca) (.slice (some ⟨g2, 0, none⟩) 128 c2) ws) (fun _ i _ => N - (intOf i).toNat)
          case atStart => exact ⟨0, rfl, rfl, Nat.zero_le _, X4.out⟩
          case round =>
            obtain ⟨j, rfl, rfl, hj, hx⟩ := hrel
            have X5 := Lib.hid hx
            clear hx
            by_cases hlt2 : j < N
            · have hpn := pre_next D (m : Int) j
              obtain ⟨x, hx⟩ : ∃ x, atD D j = x := ⟨_, rfl⟩
              obtain ⟨ga, hga⟩ := HAA.out (by omega)
              subst hga
              obtain ⟨c0, c1⟩ := dep_cell X5.out.ra j (by rw [HN.out]; exact hlt2)
              rw [hx] at c0 c1 hpn
              have j0 : (0 : Int) ≤ (j : Int) := by omega
              have j1 : (j : Int) < (N : Int) := by omega
              have HPN := Lib.hid hpn
              clear hx hpn
              cases hb : preTo D (m : Int) j with
              | false =>
                rw [hb, Bool.false_and] at HPN
                go_wp2_with fail
                go_roundw
                case rel => exact ⟨j + 1, by rw [HPN.out], by go_num, by omega, X5.out⟩
                case measure => simp [intOf]; omega
              | true =>
                rw [hb, Bool.true_and] at HPN
                by_cases hxm : x.2 = (m : Int)
                · have hxb : (x.2 != (m : Int)) = false := by simpa using hxm
                  rw [decide_eq_false (fun h => h hxm)] at HPN
                  clear hxm
                  go_wp2_with fail
                  go_roundw
                  case rel => exact ⟨j + 1, by rw [HPN.out], by go_num, by omega, X5.out⟩
                  case measure => simp [intOf]; omega
                · have hxb : (x.2 != (m : Int)) = true := by simpa using hxm
                  rw [decide_eq_true hxm] at HPN
                  clear hxm
                  go_wp2_with fail
                  go_roundw
                  case rel => exact ⟨j + 1, by rw [HPN.out], by go_num, by omega, X5.out⟩
                  case measure => simp [intOf]; omega
            · obtain rfl : j = N := by omega
              have hm1 : wrap64 ((m : Int) - 1) = (m : Int) - 1 := IntWalk.wrap64_in _ (by have := HLT.out; omega)
              cases hb : preTo D (m : Int) j with
              | true =>
                have HH := Lib.hid (fst_hit (m := m) (by have := HLT.out; omega) (by rw [← pre_all, HN.out]; exact hb))
                go_wp2_with fail
                go_roundw
                case rel => exact ⟨_, (m : Int) - 1, rfl, by first | rfl | rw [hm1], by omega, by have := HLT.out; omega, HH.out, X5.out⟩
                case measure => simp [intOf]; omega
              | false =>
                have HH := Lib.hid (fst_pass HF.out (by rw [← pre_all, HN.out]; exact hb))
                go_wp2_with fail
                go_roundw
                case rel => exact ⟨_, (m : Int) - 1, rfl, by first | rfl | rw [hm1], by omega, by have := HLT.out; omega, HH.out, X5.out⟩
                case measure => simp [intOf]; omega
        · obtain rfl : t = -1 := by omega
          obtain ⟨c, hc, rfl, he⟩ := HEND.out z HF.out
          have CI := Lib.hid (show Calls Try.prog 13 #[.slice Aa N ca, .slice (some ⟨g2, 0, none⟩) 128 c2] wr (RetB true wr) from HIS.out ▸ implIsOrder Aa (some ⟨g2, 0, none⟩) N ca 128 c2 D R wr (depAt_own X4.out.ra (Nat.le_refl _)) (intAt_own X4.out.rr hR128 (Nat.le_refl _)) (by omega) (by omega))
          have k0 : (0 : Int) ≤ (c : Int) := by omega
          have k1 : (c : Int) < 128 := by omega
          go_wp2_with fail
          refine CI.out.mono ?_
          rintro e w4 ⟨rfl, hg4⟩
          have RR := Lib.hid (own_none X4.out.rr hg4)
          have c0 := ints_cell RR.out c (R.getD c 0) (by rw [List.getD, List.getElem?_eq_getElem (by omega)]; rfl) hR128
          rw [he] at c0
          have B4 := Lib.hid (below_gb X4.out.lb (Nat.le_refl _) hg4)
          clear hg4
          go_wp2_with fail
          go_ret
          exact ⟨by first | rfl | exact ret_bool (by simp), B4.out⟩
end Go.Proofs.Ytpcmkilaapjaaaa
