/- What is proved here: the law on cycles answers true, for every draw: either an order or a cycle exists, and the shortest cycle cannot be shortened; only new blocks are written. -/
import Derived.Test.YtgjidlhnfbdfpaaListD
import Derived.Test.YtgjidlhnfbdfpaaBig
import Derived.Test.YtgjidlhnfbdfpaaPathM
import Derived.Test.YtgjidlhnfbdfpaaOrdI
import Derived.Test.YtgjidlhnfbdfpaaShortI
import Derived.Test.YtgjidlhnfbdfpaaStepI
import Derived.Test.YtgjidlhnfbdfpaaIsCycI
import Derived.Test.YtgjidlhnfbdfpaaHasCI
namespace Go.Proofs.Ytgjidlhnfbdfpaa
open Go.ChangeShapes Go.WideShapes Go.ChangeAt Go.RowKit
set_option linter.unusedVariables false
set_option maxRecDepth 20000

theorem steps_on {D : List Dep} (h : okD D = true) {a : Nat} (ha : a < 128) : stepsG D (a : Int) (a : Int) = if distD D a a = 0 then -1 else (distD D a a : Int) := by
  unfold stepsG
  rw [if_pos ⟨h, by omega, by omega⟩, Int.toNat_natCast]
theorem cyc_none {D : List Dep} {R : List Int} (h : orderO D = some R) : cycG D = [] := by
  rcases cyc_facts (order_is h).1 with ⟨h1, _⟩ | ⟨st, b, _, _, hb, h1, _⟩
  · exact h1
  · have := ord_acyclic h st
    omega
/-- The drawn list and the cycle. -/
structure CyL (w : World) (D : List Dep) (C : List Int) (N K : Nat) (va vc : Value) (wr : World) : Prop where
  ra : wr.ownsRow w.heap.size 55 2 va N (depV D)
  rc : wr.ownsRow w.heap.size 3 1 vc K (intsV C)
  lb : Below w.heap.size w wr
theorem CyL.gb {w wr w' : World} {D : List Dep} {C : List Int} {N K : Nat} {va vc : Value} (h : CyL w D C N K va vc wr) (hg : wr.grownBy w' none) : CyL w D C N K va vc w' := ⟨own_none h.ra hg, own_none h.rc hg, below_gb h.lb (Nat.le_refl _) hg⟩
theorem gb_drC {a b : World} {row : Option Nat} (h : a.drew.grownBy b row) : a.grownBy b row := ⟨h.os, h.tape, h.output, h.size, h.block⟩
theorem cyc_cell {w : World} {base g cap n : Nat} {L : List Int} (h : w.ownsRow base 3 1 (.slice (some ⟨g, 0, none⟩) n cap) n (intsV L)) (hn : L.length = n) {k : Nat} (hk : k < n) : w.cell? ⟨g, k, none⟩ = some (.int .i64 (L.getD k 0)) :=
  ints_cell h k (L.getD k 0) (by rw [List.getD, List.getElem?_eq_getElem (by omega)]; rfl) hn

set_option maxHeartbeats 3200000 in
theorem walk_FnCycles (A : Option Addr) (n cap : Nat) (w : World) (hr : ByteRow w w.heap.size A n) :
    Calls Try.prog 3 #[.slice A n cap] w fun e w' => e = .returned (.bool true) ∧ Below w.heap.size w w' := by
  by_cases hbig : 1048576 < n
  · go_enter Try.func3, Try.ntmps3
    go_wp2_with fail
    refine (lawsBig A n cap _).mono ?_
    rintro e w1 ⟨rfl, rfl⟩
    rw [decide_eq_true hbig]
    go_wp2_with fail
    go_ret
    exact ⟨rfl, Below.refl _ _⟩
  · have HR := Lib.hid hr
    have hn : n ≤ 1048576 := by omega
    clear hr
    go_enter Try.func3, Try.ntmps3
    go_wp2_with fail
    refine (lawsBig A n cap _).mono ?_
    rintro e w1 ⟨rfl, rfl⟩
    rw [decide_eq_false hbig]
    go_wp2_with fail
    refine (drawDepends A n cap _ HR.out hn).mono ?_
    rintro e w0 ⟨va, D, rfl, hDa, hDs, hDl, ho0, hb0⟩
    have HOK := Lib.hid (okD_of hDa fun d hd => by have := hDs d hd; exact inD_iff.2 (by omega))
    obtain ⟨Aa, ca, rfl, _⟩ := own_form ho0
    have CO := Lib.hid (fun w h => implOrderOf Aa D.length ca D w h (by omega))
    have CS := Lib.hid (fun w h => implShortest Aa D.length ca D w h (by omega))
    have CH := Lib.hid (fun w h => implHasCycle Aa D.length ca D w h (by omega))
    have HST := Lib.hid (fun (x y : Int) w h => implSteps Aa D.length ca D x y w h (by omega))
    have HCY := Lib.hid (fun (AC : Option Addr) (nC cC : Nat) (C : List Int) w h hC hcc hnC => implIsCycle Aa AC D.length ca nC cC D C w h hC hcc (by omega) hnC)
    obtain ⟨N, hN⟩ : ∃ N, D.length = N := ⟨_, rfl⟩
    have X0 := Lib.hid (show CyL w D [] N 0 (.slice Aa N ca) (.slice none 0 0) w0 from ⟨by rw [← hN]; exact ho0, World.ownsRow_nil _ _ _ _, hb0⟩)
    rw [hN] at CO CS CH HST HCY
    clear ho0 hb0 hDa hDs hDl
    cases ho : orderO D with
    | some R =>
      obtain ⟨e1, e2⟩ := order_some ho
      have hc0 := cyc_none ho
      have hh : hasCyc D = false := by unfold hasCyc; rw [hc0]; rfl
      rw [e2] at CO
      rw [hc0] at CS
      rw [hh] at CH
      clear e1 e2 ho hc0 hh
      go_wp2_with fail
      (try simp only [hN])
      clear hN
      refine (CO.out _ (depAt_own X0.out.ra (Nat.le_refl _))).mono ?_
      rintro e w2 ⟨v2, rfl, _, b2⟩
      have X2 := Lib.hid (X0.out.gb (gb_of_below b2 none))
      clear b2
      go_wp2_with fail
      refine (CS.out _ (depAt_own X2.out.ra (Nat.le_refl _))).mono ?_
      rintro e w3 ⟨v3, rfl, o3, b3⟩
      have X3 := Lib.hid (X2.out.gb (gb_of_below b3 none))
      obtain ⟨A3, c3, rfl, _⟩ := own_form o3
      clear o3 b3
      go_wp2_with fail
      refine (CH.out _ (depAt_own X3.out.ra (Nat.le_refl _))).mono ?_
      rintro e w4 ⟨rfl, g4⟩
      have X4 := Lib.hid (X3.out.gb g4)
      clear g4
      go_wp2_with fail
      go_ret
      exact ⟨rfl, X4.out.lb⟩
    | none =>
      obtain ⟨e1, e2⟩ := order_none ho
      obtain ⟨q, hq, hq1⟩ := cycle_of HOK.out ho
      rcases cyc_facts HOK.out with ⟨_, h0⟩ | ⟨st, b, hcy, hst, hbd, hb1, hmin, hle, his⟩
      · have := h0 q hq
        omega
      have hb128 : b ≤ 128 := by rw [← hbd]; exact dist_le HOK.out st st
      have hh : hasCyc D = true := by unfold hasCyc; rw [hcy, cyc_len]; exact decide_eq_true (by omega)
      have HAT := Lib.hid (fun i (hi : i < b) => cyc_at (D := D) (st := st) hi)
      have HLT := Lib.hid (fun i (hi : i < b) => path_lt HOK.out hbd hi)
      have HLE := Lib.hid hle
      have HSELF := Lib.hid (fun i (hi : i < b) => show stepsG D (atP D st b i : Int) (atP D st b i : Int) = (b : Int) by rw [steps_on HOK.out (path_lt HOK.out hbd hi), path_self HOK.out hbd hmin hi, if_neg (by omega)])
      have HMIN := Lib.hid (fun (i : Nat) (hi : i < 128) => show stepsG D (i : Int) (i : Int) < 0 ∨ (b : Int) ≤ stepsG D (i : Int) (i : Int) by
        rw [steps_on HOK.out hi]
        rcases hmin i hi with h | h
        · rw [if_pos h]; left; omega
        · rw [if_neg (by omega)]; right; omega)
      have HB0 := Lib.hid (show atP D st b 0 = st from rfl)
      rw [e2] at CO
      rw [hh] at CH
      obtain ⟨C, hC⟩ : ∃ C, cycP D st b = C := ⟨_, rfl⟩
      have hCl : C.length = b := by rw [← hC]; exact cyc_len _ _ _
      rw [hcy, hC] at CS his
      rw [hC] at HAT
      have HIS := Lib.hid his
      have HCL := Lib.hid hCl
      have HB1 := Lib.hid hb1
      clear e1 e2 ho hh hq hq1 hcy hst hbd hb1 hmin hle his hC
      go_wp2_with fail
      (try simp only [hN])
      clear hN
      refine (CO.out _ (depAt_own X0.out.ra (Nat.le_refl _))).mono ?_
      rintro e w2 ⟨v2, rfl, _, b2⟩
      have X2 := Lib.hid (X0.out.gb (gb_of_below b2 none))
      clear b2
      go_wp2_with fail
      refine (CS.out _ (depAt_own X2.out.ra (Nat.le_refl _))).mono ?_
      rintro e w3 ⟨v3, rfl, o3, b3⟩
      rw [hCl] at o3
      obtain ⟨A3, c3, rfl, ha3⟩ := own_form o3
      obtain ⟨g3, rfl⟩ := ha3 (by have := HB1.out; omega)
      have hcap := own_cap o3
      have k2 := X2.out.gb (gb_of_below b3 none)
      have X3 := Lib.hid (show CyL w D C N b (.slice Aa N ca) (.slice (some ⟨g3, 0, none⟩) b c3) w3 from ⟨k2.ra, own_less o3 X2.out.lb.size, k2.lb⟩)
      have hb0 : ((b : Int) == 0) = false := by have := HB1.out; simp; omega
      clear o3 b3 k2 hCl ha3
      go_wp2_with fail
      refine (CH.out _ (depAt_own X3.out.ra (Nat.le_refl _))).mono ?_
      rintro e w4 ⟨rfl, g4⟩
      have X4 := Lib.hid (X3.out.gb g4)
      clear g4
      go_wp2_with fail
      go_loopw [7] (fun i wr => ∃ k : Nat, i = .int .i64 (k : Int) ∧ k ≤ b ∧ CyL w D C N b (.slice Aa N ca) (.slice (some ⟨g3, 0, none⟩) b c3) wr) (fun i _ => b - (intOf i).toNat)
      case atStart => exact ⟨0, rfl, Nat.zero_le _, X4.out⟩
      case round =>
        obtain ⟨k, rfl, hk, hx⟩ := hrel
        have X5 := Lib.hid hx
        clear hx
        by_cases hlt : k < b
        · obtain ⟨u, hu⟩ : ∃ u, atP D st b k = u := ⟨_, rfl⟩
          have c0 := cyc_cell X5.out.rc HCL.out hlt
          rw [HAT.out k hlt, hu] at c0
          have c1 := cyc_cell X5.out.rc HCL.out (k := 0) (by omega)
          rw [HAT.out 0 (by omega), HB0.out] at c1
          have hle := HLE.out k hlt
          have hss := HSELF.out k hlt
          rw [hu] at hle hss
          have CU := Lib.hid (fun w h => show Calls Try.prog 14 #[.slice Aa N ca, .int .i64 (u : Int), .int .i64 (u : Int)] w (RetI (b : Int) none w) from hss ▸ HST.out (u : Int) (u : Int) w h)
          have hnl : ¬ u < st := by omega
          have hnd : decide (u < st) = false := decide_eq_false hnl
          have k0 : (0 : Int) ≤ (k : Int) := by omega
          have k1 : (k : Int) < (b : Int) := by omega
          have k2 : 0 < b := by omega
          have HLT2 := Lib.hid hlt
          have D5 := Lib.hid (show DepAt wr.drew wr.drew.heap.size Aa N D from depAt_own (own_none X5.out.ra (gb_drew (gb_refl wr none))) (Nat.le_refl _))
          clear hu hle hss
          go_wp2_with fail
          go_region_held3 (fun w' => w'.cell? ⟨g3, k, none⟩ = some (.int .i64 (u : Int)) ∧ w'.cell? ⟨g3, 0, none⟩ = some (.int .i64 (st : Int)))
            (first | exact ⟨c0, c1⟩ | exact ⟨d0, d1⟩ | fail)
            (first
              | (go_at_call 14; (with_reducible refine (CU.out _ D5.out).mono ?_); rintro e w6 ⟨rfl, g6⟩; have h6 := gb_drC g6; have d0 := h6.cell c0 (by simp); have d1 := h6.cell c1 (by simp); have X6 := Lib.hid (X5.out.gb h6); clear g6 h6)
              | fail)
          all_goals
            clear c0 c1 d0 d1
            go_wp2_with fail
            go_roundw
            case rel => exact ⟨k + 1, by go_num, by have := HLT2.out; omega, X6.out⟩
            case measure => have := HLT2.out; simp [intOf]; omega
        · obtain rfl : k = b := by omega
          go_wp2_with fail
          go_loopw [8] (fun i wr => ∃ j : Nat, i = .int .i64 (j : Int) ∧ j ≤ 6 ∧ CyL w D C N k (.slice Aa N ca) (.slice (some ⟨g3, 0, none⟩) k c3) wr) (fun i _ => 6 - (intOf i).toNat)
          case atStart => exact ⟨0, rfl, Nat.zero_le _, X5.out⟩
          case round =>
            obtain ⟨j, rfl, hj, hx⟩ := hrel
            have X6 := Lib.hid hx
            clear hx
            by_cases hlt2 : j < 6
            · obtain ⟨s, hs⟩ : ∃ s, stepsG D (j : Int) (j : Int) = s := ⟨_, rfl⟩
              have hm := HMIN.out j (by omega)
              rw [hs] at hm
              have CU := Lib.hid (fun w h => show Calls Try.prog 14 #[.slice Aa N ca, .int .i64 (j : Int), .int .i64 (j : Int)] w (RetI s none w) from hs ▸ HST.out (j : Int) (j : Int) w h)
              have HLT2 := Lib.hid hlt2
              clear hs
              rcases hm with hm | hm
              · have hm2 : ¬ 0 ≤ s := by omega
                go_wp2_with fail
                refine (CU.out _ (depAt_own X6.out.ra (Nat.le_refl _))).mono ?_
                rintro e w7 ⟨rfl, g7⟩
                have X7 := Lib.hid (X6.out.gb g7)
                clear g7
                go_wp2_with fail
                go_roundw
                case rel => exact ⟨j + 1, by go_num, by have := HLT2.out; omega, X7.out⟩
                case measure => have := HLT2.out; simp [intOf]; omega
              · have hm2 : 0 ≤ s := by omega
                have hm3 : ¬ s < (k : Int) := by omega
                go_wp2_with fail
                refine (CU.out _ (depAt_own X6.out.ra (Nat.le_refl _))).mono ?_
                rintro e w7 ⟨rfl, g7⟩
                have X7 := Lib.hid (X6.out.gb g7)
                clear g7
                go_wp2_with fail
                go_roundw
                case rel => exact ⟨j + 1, by go_num, by have := HLT2.out; omega, X7.out⟩
                case measure => have := HLT2.out; simp [intOf]; omega
            · obtain rfl : j = 6 := by omega
              have CI := Lib.hid (fun w h hC => show Calls Try.prog 15 #[.slice Aa N ca, .slice (some ⟨g3, 0, none⟩) k c3] w (RetB true w) from HIS.out ▸ HCY.out (some ⟨g3, 0, none⟩) k c3 C w h hC hcap.1 (by omega))
              go_wp2_with fail
              refine (CI.out _ (depAt_own X6.out.ra (Nat.le_refl _)) (intAt_own X6.out.rc HCL.out (Nat.le_refl _))).mono ?_
              rintro e w8 ⟨rfl, g8⟩
              have X8 := Lib.hid (X6.out.gb g8)
              clear g8
              go_wp2_with fail
              go_ret
              exact ⟨rfl, X8.out.lb⟩
end Go.Proofs.Ytgjidlhnfbdfpaa
