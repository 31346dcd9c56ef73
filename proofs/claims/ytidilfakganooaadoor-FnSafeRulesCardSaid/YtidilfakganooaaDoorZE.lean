/- What is proved here: what the program's IsCycle returns, for all arguments; only new blocks are written; whether the program finds that a verdict proves itself, for all arguments, where the sentinel holds an error; only new blocks are written; the exact law on ProvesVerdict answers true, for every argument, where the sentinel holds an error; only new blocks are written; a slice of numbers inside an argument can be read; nothing of the program; a table that came in as an argument is a slice of numbers that can be read; nothing of the program; a mesh that came in as an argument is two numbers and a slice of numbers that can be read; nothing of the program; a verdict that came in as an argument is a number and two slices of numbers that can be read; nothing of the program. -/
import Derived.Test.YtidilfakganooaaDoorZD
import Derived.Lib.SmallJoins
section
namespace Go.Proofs.YtidilfakganooaaDoor
open Go.ChangeShapes Go.WideShapes Go.ChangeAt Go.RowKit
set_option linter.unusedVariables false
set_option maxRecDepth 20000

theorem hasD_iff {D : List Dep} {x y : Int} : hasD D x y = true ↔ (x, y) ∈ D := by
  constructor
  · intro h
    obtain ⟨i, hi, h1⟩ := List.any_eq_true.1 h
    simp only [Bool.and_eq_true, decide_eq_true_eq] at h1
    have : atD D i = (x, y) := Prod.ext h1.1 h1.2
    rw [← this]
    exact atD_mem (List.mem_range.1 hi)
  · intro h
    obtain ⟨k, hk, e⟩ := atD_ex h
    exact has_yes hk (by rw [e]) (by rw [e])
/-- The channel ahead of the one at i, around the end. -/
def befC (C : List Int) (i : Nat) : Int := if i = 0 then C.getD (C.length - 1) 0 else C.getD (i - 1) 0
theorem bef_zero (C : List Int) : befC C 0 = C.getD (C.length - 1) 0 := rfl
theorem bef_next (C : List Int) (i : Nat) : befC C (i + 1) = C.getD i 0 := rfl
theorem ring_iff {D : List Dep} {C : List Int} : (∀ i, i < C.length → hasD D (C.getD i 0) (C.getD ((i + 1) % C.length) 0) = true) ↔ ∀ i, i < C.length → (befC C i, C.getD i 0) ∈ D := by
  constructor
  · intro h i hi
    cases i with
    | zero =>
      have h1 := h (C.length - 1) (by omega)
      rw [show C.length - 1 + 1 = C.length by omega, Nat.mod_self] at h1
      exact hasD_iff.1 h1
    | succ i =>
      have h1 := h i (by omega)
      rw [Nat.mod_eq_of_lt hi] at h1
      exact hasD_iff.1 h1
  · intro h i hi
    rw [hasD_iff]
    by_cases e : i + 1 = C.length
    · have h1 := h 0 (by omega)
      rw [e, Nat.mod_self]
      rw [bef_zero, show C.length - 1 = i by omega] at h1
      exact h1
    · rw [Nat.mod_eq_of_lt (by omega)]
      exact h (i + 1) (by omega)
theorem isCyc_all {D : List Dep} {C : List Int} (hD : okD D = true) (h0 : 0 < C.length) (h : ∀ i, i < C.length → (befC C i, C.getD i 0) ∈ D ∧ inG (C.take i) (C.getD i 0) = false) : isCycG D C = true := by
  rw [isCyc_yes hD (fun i hi => ?_)]
  · exact decide_eq_true h0
  · unfold cycAt
    rw [(h i hi).2, ring_iff.2 (fun j hj => (h j hj).1) i hi]
    rfl
theorem isCyc_miss {D : List Dep} {C : List Int} {i : Nat} (hi : i < C.length) (h : (befC C i, C.getD i 0) ∉ D) : isCycG D C = false := by
  cases ho : isCycG D C with
  | false => rfl
  | true =>
    simp only [isCycG, Bool.and_eq_true, List.all_eq_true, List.mem_range] at ho
    have h1 : ∀ i, i < C.length → hasD D (C.getD i 0) (C.getD ((i + 1) % C.length) 0) = true := fun j hj => by
      have := ho.1.2 j hj
      unfold cycAt at this
      rw [Bool.and_eq_true] at this
      exact this.2
    exact absurd (ring_iff.1 h1 i hi) h
theorem isCyc_twice {D : List Dep} {C : List Int} {i : Nat} (hi : i < C.length) (h : inG (C.take i) (C.getD i 0) = true) : isCycG D C = false :=
  isCyc_no hi (by unfold cycAt; rw [h]; rfl)

set_option maxHeartbeats 1600000 in
theorem implIsCycle (A AC : Option Addr) (n cap nC cC : Nat) (D : List Dep) (C : List Int) (w : World) (h : DepAt w w.heap.size A n D) (hC : IntAt w w.heap.size AC nC C) (hcc : nC ≤ cC) (hn : n ≤ 1000000000) (hnC : nC ≤ 1000000000) :
    Calls Tryd.prog 38 #[.slice A n cap, .slice AC nC cC] w (RetB (isCycG D C) w) := by
  have hl := h.1
  have hCl := hC.1
  have HI := Lib.hid h
  have HC := Lib.hid hC
  have HOK := Lib.hid (implDependsOk A n cap D w h (by omega))
  clear h hC
  cases hok : okD D with
  | false =>
    rw [isCyc_bad hok]
    rw [hok] at HOK
    clear hok
    go_enter Tryd.func38, Tryd.ntmps38
    go_wp2_with fail
    refine HOK.out.mono ?_
    rintro e w1 ⟨rfl, hg1⟩
    have G1 := Lib.hid hg1
    clear hg1
    go_wp2_with fail
    go_ret
    exact ⟨rfl, G1.out⟩
  | true =>
    by_cases h0 : nC = 0
    · subst h0
      have hCn : C = [] := List.eq_nil_of_length_eq_zero hCl
      subst hCn
      rw [isCyc_nil]
      rw [hok] at HOK
      clear hok
      go_enter Tryd.func38, Tryd.ntmps38
      go_wp2_with fail
      refine HOK.out.mono ?_
      rintro e w1 ⟨rfl, hg1⟩
      have G1 := Lib.hid hg1
      clear hg1
      go_wp2_with fail
      go_ret
      exact ⟨rfl, G1.out⟩
    · have HYES := Lib.hid (fun h => isCyc_all (D := D) (C := C) hok (by omega) h)
      have HNO := Lib.hid (fun (i : Nat) (hi : i < nC) h => isCyc_miss (D := D) (C := C) (i := i) (by omega) h)
      have HTW := Lib.hid (fun (i : Nat) (hi : i < nC) h => isCyc_twice (D := D) (C := C) (i := i) (by omega) h)
      have HBS := Lib.hid (fun d w h => libSearch A n cap D d (okD_asc hok) w h (by omega))
      have HCO := Lib.hid (fun (i : Nat) (hi : i < nC) (x : Int) (b : Bool) (hb : inG (C.take i) x = b) B w h => implContains AC i cC B (C.take i) x b hb w h (by omega))
      obtain ⟨r, hr⟩ : ∃ r, isCycG D C = r := ⟨_, rfl⟩
      rw [hr] at HYES HNO HTW
      rw [hr]
      rw [hok] at HOK
      have HCL := Lib.hid hCl
      obtain ⟨bC, oC, rfl, hbC, _⟩ := HC.out.at 0 (by omega)
      obtain ⟨z, hz⟩ : ∃ z, C.getD (nC - 1) 0 = z := ⟨_, rfl⟩
      have HZ := Lib.hid (show befC C 0 = z by rw [bef_zero, hCl, hz])
      obtain ⟨bz, oz, ez, _, cz⟩ := HC.out.at (nC - 1) (by omega)
      injection ez with ez
      injection ez with ez1 ez2
      subst ez1 ez2
      rw [hz] at cz
      have CZ := Lib.hid cz
      have n0 : (0 : Int) ≤ ((nC - 1 : Nat) : Int) := by omega
      have n1 : ((nC - 1 : Nat) : Int) < (nC : Int) := by omega
      have n2 : IntKind.i64.wrap ((nC : Int) - 1) = ((nC - 1 : Nat) : Int) := by rw [IntWalk.i64_in _ (by omega)]; omega
      have n3 : ¬ (nC : Int) = 0 := by omega
      have n4 : ((nC : Int) == 0) = false := by simpa using h0
      clear hr hok hCl hz cz
      go_enter Tryd.func38, Tryd.ntmps38
      go_wp2_with fail
      refine HOK.out.mono ?_
      rintro e w1 ⟨rfl, hg1⟩
      have G1 := Lib.hid hg1
      have cz1 := hg1.cell CZ.out (by simp)
      clear hg1
      go_wp2_with fail
      clear cz1
      go_loopw [5, 26] (fun bv i wr => ∃ k : Nat, i = .int .i64 (k : Int) ∧ k ≤ nC ∧ bv = .int .i64 (befC C k) ∧ (∀ j, j < k → (befC C j, C.getD j 0) ∈ D ∧ inG (C.take j) (C.getD j 0) = false) ∧ w.grownBy wr none) (fun _ i _ => nC - (intOf i).toNat)
      case atStart => exact ⟨0, rfl, Nat.zero_le _, by rw [HZ.out], fun j h => by omega, G1.out⟩
      case round =>
        obtain ⟨k, rfl, hk, rfl, hall, hg⟩ := hrel
        have HA := Lib.hid hall
        have HG := Lib.hid hg
        clear hall hg
        by_cases hlt : k < nC
        · obtain ⟨b2, o2, e2, _, c0⟩ := (HC.out.none (Nat.le_refl _) HG.out).at k hlt
          injection e2 with e2
          injection e2 with e21 e22
          subst e21 e22
          obtain ⟨x, hx⟩ : ∃ x, C.getD k 0 = x := ⟨_, rfl⟩
          obtain ⟨y, hy⟩ : ∃ y, befC C k = y := ⟨_, rfl⟩
          rw [hx] at c0
          rw [hy]
          have HX := Lib.hid hx
          have HY := Lib.hid hy
          have HI2 := Lib.hid ((HI.out.none (Nat.le_refl _) HG.out).more HG.out.size)
          have HN2 := Lib.hid (HNO.out k hlt)
          have HT2 := Lib.hid (HTW.out k hlt)
          have HCO2 := Lib.hid (fun b hb w' h => HCO.out k hlt x b hb w.heap.size w' h)
          have HLT := Lib.hid hlt
          have k0 : (0 : Int) ≤ (k : Int) := by omega
          have k1 : (k : Int) < (nC : Int) := by omega
          have k2 : (k : Int) ≤ (cC : Int) := by omega
          have k3 : k ≤ cC := by omega
          clear hx hy hlt
          go_wp2_with fail
          refine (HBS.out (y, x) _ HI2.out).mono ?_
          rintro e w2 ⟨rfl, hg2⟩
          have HG2 := Lib.hid (gb_trans HG.out hg2)
          clear hg2 c0
          by_cases hin : (y, x) ∈ D
          · have HIN := Lib.hid hin
            rw [decide_eq_true hin]
            clear hin
            have HT3 := Lib.hid (((HC.out.none (Nat.le_refl _) HG2.out)).take (Nat.le_of_lt HLT.out))
            obtain ⟨q, hq⟩ : ∃ q, inG (C.take k) x = q := ⟨_, rfl⟩
            have HQ := Lib.hid hq
            have HCO3 := Lib.hid (fun w' h => HCO2.out q hq w' h)
            clear hq
            go_wp2_with fail
            refine (HCO3.out _ HT3.out).mono ?_
            rintro e w3 ⟨rfl, rfl⟩
            cases q with
            | true =>
              have HR := Lib.hid (HT2.out (by rw [HX.out]; exact HQ.out))
              go_wp2_with fail
              go_ret
              exact ⟨ret_bool HR.out.symm, HG2.out⟩
            | false =>
              go_wp2_with fail
              go_roundw
              case rel => exact ⟨k + 1, by go_num, by have := HLT.out; omega, by rw [bef_next, HX.out], fun j hj => by
                rcases Nat.lt_succ_iff_lt_or_eq.1 hj with h1 | rfl
                · exact HA.out j h1
                · rw [HX.out, HY.out]; exact ⟨HIN.out, HQ.out⟩, HG2.out⟩
              case measure => have := HLT.out; simp [intOf]; omega
          · have HR := Lib.hid (HN2.out (by rw [HX.out, HY.out]; exact hin))
            rw [decide_eq_false hin]
            clear hin
            go_wp2_with fail
            go_ret
            exact ⟨ret_bool HR.out.symm, HG2.out⟩
        · obtain rfl : k = nC := by omega
          have HR := Lib.hid (HYES.out (by rw [HCL.out]; exact HA.out))
          go_wp2_with fail
          go_ret
          exact ⟨ret_bool HR.out.symm, HG.out⟩
end Go.Proofs.YtidilfakganooaaDoor
end

section
namespace Go.Proofs.YtidilfakganooaaDoor
open Go.ChangeShapes Go.WideShapes Go.ChangeAt Go.RowKit
set_option linter.unusedVariables false
set_option maxRecDepth 20000

theorem beq_nat0' (n : Nat) : ((n : Int) == 0) = decide (n = 0) := by
  rw [Bool.eq_iff_iff]
  simp
/-- errors.Is of the error and the sentinel. -/
theorem is_err (t : Bool) (a : Addr) (w : World) : Calls Tryd.prog 28 #[errV t a, .iface 160 (.pointer (some a))] w fun e w' => e = .returned (.bool (!t)) ∧ w' = w := by
  cases t with
  | true => exact is_nil _ w
  | false => exact is_same a w
set_option maxHeartbeats 3200000 in
theorem implProves (W H : Int) (A A2 AR AC : Option Addr) (n cap n2 c2 nR cR nC cC : Nat) (L P : List Int) (v : Verd) (hL : WfL L) (w : World) (h : IntAt w w.heap.size A n L) (h2 : IntAt w w.heap.size A2 n2 P) (hR : IntAt w w.heap.size AR nR v.ranks) (hC : IntAt w w.heap.size AC nC v.cycle) (hn : n ≤ 1000000000) (hn2 : n2 ≤ 1000000000) (hnR : nR ≤ 1000000000) (hnC : nC ≤ 1000000000) (hcc : nC ≤ cC) (hp : Pre w) :
    Calls Tryd.prog 18 #[.agg #[.int .i64 W, .int .i64 H, .slice A n cap], .agg #[.slice A2 n2 c2], .agg #[.int .i64 v.code, .slice AR nR cR, .slice AC nC cC]] w (RetB (provesG W H L P v) w) := by
  obtain ⟨a, he⟩ := hp.at
  obtain ⟨z, R, C⟩ := v
  simp only at hR hC ⊢
  have hRl := hR.1
  have hCl := hC.1
  have X0 := Lib.hid (vdAt_start (W := W) (H := H) (A := A) (A2 := A2) (n := n) (cap := cap) (n2 := n2) (c2 := c2) #[.int .i64 z, .slice AR nR cR, .slice AC nC cC] w)
  have HT := Lib.hid ((h.none (Nat.le_refl _) X0.out.g).more X0.out.g.size)
  have HT2 := Lib.hid ((h2.none (Nat.le_refl _) X0.out.g).more X0.out.g.size)
  have HE := Lib.hid (he.gb X0.out.g)
  have HR := Lib.hid hR
  have HC := Lib.hid hC
  have HDV := Lib.hid (fun w h h2 he => implDov W H A A2 n cap n2 c2 L P a hL w h h2 hn hn2 he)
  have HDL := Lib.hid (depG_len (W := W) (H := H) (L := L) (P := P))
  obtain ⟨t, ht⟩ : ∃ t, tableG W H L P = t := ⟨_, rfl⟩
  rw [ht] at HDV
  obtain ⟨r, hr⟩ : ∃ r, provesG W H L P ⟨z, R, C⟩ = r := ⟨_, rfl⟩
  have P0 := Lib.hid (fun (h : z = 0) => show r = (!t && decide (nR = 0) && decide (nC = 0)) by rw [← hr, proves_bad (v := ⟨z, R, C⟩) h, ht, hRl, hCl])
  have P1 := Lib.hid (fun (h : z = 1) => show r = (t && isOrdO (depG W H L P) R && decide (nC = 0)) by rw [← hr, proves_safe (v := ⟨z, R, C⟩) h, ht, hCl])
  have P2 := Lib.hid (fun (h : z = 2) => show r = (t && isCycG (depG W H L P) C && decide (nR = 0)) by rw [← hr, proves_cyc (v := ⟨z, R, C⟩) h, ht, hRl])
  have P3 := Lib.hid (fun (h0 : z ≠ 0) (h1 : z ≠ 1) (h2 : z ≠ 2) => show r = false by rw [← hr, proves_no (v := ⟨z, R, C⟩) h0 h1 h2])
  rw [hr]
  obtain ⟨D, hD⟩ : ∃ D, depG W H L P = D := ⟨_, rfl⟩
  rw [hD] at HDV HDL P1 P2
  have HO := Lib.hid (fun A n cap w h hR hn => implIsOrder A AR n cap nR cR D R w h hR hn hnR)
  have HY := Lib.hid (fun A n cap w h hC hn => implIsCycle A AC n cap nC cC D C w h hC hcc hn hnC)
  have HIS := Lib.hid (fun w => is_err t a w)
  obtain ⟨x, hx⟩ : ∃ x, errV t a = x := ⟨_, rfl⟩
  rw [hx] at HDV HIS
  clear h h2 hR hC ht hr hD hRl hCl he hp hL hx
  go_enter Tryd.func18, Tryd.ntmps18
  go_wp2_with fail
  refine (HDV.out _ HT.out HT2.out HE.out).mono ?_
  rintro e w1 ⟨vd, rfl, od, bd⟩
  obtain ⟨Ad, cd, rfl, _⟩ := own_form od
  obtain ⟨nd, hnd⟩ : ∃ nd, D.length = nd := ⟨_, rfl⟩
  rw [hnd] at od HDL
  have HD := Lib.hid (depAt_own (B := w1.heap.size) od (Nat.le_refl _))
  rw [hnd]
  have X2 := Lib.hid (X0.out.gb (gb_of_below bd none))
  have E1 := Lib.hid (HE.out.below bd)
  have c0 := E1.out.cell
  clear od bd hnd
  go_wp2_with fail
  refine (HIS.out _).mono ?_
  rintro e w2 ⟨rfl, rfl⟩
  have HR2 := Lib.hid ((HR.out.none (Nat.le_refl _) X2.out.g).more X2.out.g.size)
  have HC2 := Lib.hid ((HC.out.none (Nat.le_refl _) X2.out.g).more X2.out.g.size)
  have v0 : w2.cell? ⟨w.heap.size + 2, 0, none⟩ = some (.int .i64 z) := X2.out.v.cell 0
  have v1 : w2.cell? ⟨w.heap.size + 2, 1, none⟩ = some (.slice AR nR cR) := X2.out.v.cell 1
  have v2 : w2.cell? ⟨w.heap.size + 2, 2, none⟩ = some (.slice AC nC cC) := X2.out.v.cell 2
  clear c0
  by_cases z0 : z = 0
  · have Q := Lib.hid (P0.out z0)
    subst z0
    cases t with
    | true =>
      have hr := Lib.hid (show r = false by rw [Q.out]; rfl)
      go_wp2_with fail
      go_ret
      exact ⟨ret_bool hr.out.symm, X2.out.g⟩
    | false =>
      by_cases hr0 : nR = 0
      · have hr := Lib.hid (show r = decide (nC = 0) by rw [Q.out, hr0]; rfl)
        subst hr0
        go_wp2_with fail
        go_ret
        exact ⟨ret_bool ((beq_nat0' nC).trans hr.out.symm), X2.out.g⟩
      · have hr := Lib.hid (show r = false by rw [Q.out, decide_eq_false hr0]; rfl)
        go_wp2_with fail
        go_ret
        exact ⟨ret_bool hr.out.symm, X2.out.g⟩
  · by_cases z1 : z = 1
    · have Q := Lib.hid (P1.out z1)
      subst z1
      clear z0
      cases t with
      | false =>
        have hr := Lib.hid (show r = false by rw [Q.out]; rfl)
        go_wp2_with fail
        go_ret
        exact ⟨ret_bool hr.out.symm, X2.out.g⟩
      | true =>
        go_wp2_with fail
        refine (HO.out Ad nd cd _ HD.out HR2.out (by have := HDL.out; omega)).mono ?_
        rintro e w3 ⟨rfl, hg3⟩
        have X3 := Lib.hid (X2.out.gb hg3)
        have u2 : w3.cell? ⟨w.heap.size + 2, 2, none⟩ = some (.slice AC nC cC) := X3.out.v.cell 2
        clear hg3 v0 v1 v2
        cases ho : isOrdO D R with
        | false =>
          have hr := Lib.hid (show r = false by rw [Q.out, ho]; rfl)
          clear ho
          go_wp2_with fail
          go_ret
          exact ⟨ret_bool hr.out.symm, X3.out.g⟩
        | true =>
          have hr := Lib.hid (show r = decide (nC = 0) by rw [Q.out, ho]; rfl)
          clear ho
          go_wp2_with fail
          go_ret
          exact ⟨ret_bool ((beq_nat0' nC).trans hr.out.symm), X3.out.g⟩
    · by_cases z2 : z = 2
      · have Q := Lib.hid (P2.out z2)
        subst z2
        clear z0 z1
        cases t with
        | false =>
          have hr := Lib.hid (show r = false by rw [Q.out]; rfl)
          go_wp2_with fail
          go_ret
          exact ⟨ret_bool hr.out.symm, X2.out.g⟩
        | true =>
          go_wp2_with fail
          refine (HY.out Ad nd cd _ HD.out HC2.out (by have := HDL.out; omega)).mono ?_
          rintro e w3 ⟨rfl, hg3⟩
          have X3 := Lib.hid (X2.out.gb hg3)
          have u1 : w3.cell? ⟨w.heap.size + 2, 1, none⟩ = some (.slice AR nR cR) := X3.out.v.cell 1
          clear hg3 v0 v1 v2
          cases ho : isCycG D C with
          | false =>
            have hr := Lib.hid (show r = false by rw [Q.out, ho]; rfl)
            clear ho
            go_wp2_with fail
            go_ret
            exact ⟨ret_bool hr.out.symm, X3.out.g⟩
          | true =>
            have hr := Lib.hid (show r = decide (nR = 0) by rw [Q.out, ho]; rfl)
            clear ho
            go_wp2_with fail
            go_ret
            exact ⟨ret_bool ((beq_nat0' nR).trans hr.out.symm), X3.out.g⟩
      · have hr := Lib.hid (P3.out z0 z1 z2)
        have b0 : (z == 0) = false := beq_eq_false_iff_ne.2 z0
        have b1 : (z == 1) = false := beq_eq_false_iff_ne.2 z1
        have b2 : (z == 2) = false := beq_eq_false_iff_ne.2 z2
        go_wp2_with fail
        go_ret
        exact ⟨ret_bool hr.out.symm, X2.out.g⟩
end Go.Proofs.YtidilfakganooaaDoor
end

section
namespace Go.Proofs.YtidilfakganooaaDoor
open Go.ChangeShapes Go.WideShapes Go.ChangeAt Go.RowKit
set_option linter.unusedVariables false
set_option maxRecDepth 20000

set_option maxHeartbeats 6400000 in
theorem walk_FnExactProvesVerdict (W H : Int) (A : Option Addr) (n cap : Nat) (L : List Int) (A2 : Option Addr) (n2 c2 : Nat) (P : List Int) (z : Int) (AR : Option Addr) (nR cR : Nat) (R : List Int) (AC : Option Addr) (nC cC : Nat) (C : List Int) (w : World) (hw : (Lit.int .i64 W).wf = true) (hh : (Lit.int .i64 H).wf = true) (hnc : n ≤ cap) (hcm : cap ≤ maxLen) (h : IntAt w w.heap.size A n L) (hl : ∀ x ∈ L, (Lit.int .i64 x).wf = true) (hnc2 : n2 ≤ c2) (hcm2 : c2 ≤ maxLen) (h2 : IntAt w w.heap.size A2 n2 P) (hl2 : ∀ x ∈ P, (Lit.int .i64 x).wf = true) (hz : (Lit.int .i64 z).wf = true) (hncR : nR ≤ cR) (hcmR : cR ≤ maxLen) (hR : IntAt w w.heap.size AR nR R) (hlR : ∀ x ∈ R, (Lit.int .i64 x).wf = true) (hncC : nC ≤ cC) (hcmC : cC ≤ maxLen) (hC : IntAt w w.heap.size AC nC C) (hlC : ∀ x ∈ C, (Lit.int .i64 x).wf = true) (hp : Pre w) :
    Calls Tryd.prog 4 #[.agg #[.int .i64 W, .int .i64 H, .slice A n cap], .agg #[.slice A2 n2 c2], .agg #[.int .i64 z, .slice AR nR cR, .slice AC nC cC]] w fun e w' => e = .returned (.bool true) ∧ Below w.heap.size w w' := by
  have hn9 : n ≤ 9223372036854775807 := Nat.le_trans hnc (Nat.le_trans hcm (by decide))
  have hm9 : n2 ≤ 9223372036854775807 := Nat.le_trans hnc2 (Nat.le_trans hcm2 (by decide))
  have hR9 : nR ≤ 9223372036854775807 := Nat.le_trans hncR (Nat.le_trans hcmR (by decide))
  have hC9 : nC ≤ 9223372036854775807 := Nat.le_trans hncC (Nat.le_trans hcmC (by decide))
  have hLn := h.1
  have hPn := h2.1
  have hRn := hR.1
  have hCn := hC.1
  have HI := Lib.hid h
  have HP := Lib.hid h2
  have HR := Lib.hid hR
  have HC := Lib.hid hC
  have HPR := Lib.hid hp
  have HWF := Lib.hid (show WfL L from hl)
  have HCC := Lib.hid hncC
  clear hw hh hl hl2 hnc hcm hnc2 hcm2 h h2 hz hncR hcmR hR hlR hncC hcmC hC hlC hp
  subst hLn
  subst hPn
  subst hRn
  subst hCn
  by_cases hbig : (1048576 : Int) < (L.length : Int)
  · skip
    go_enter Tryd.func4, Tryd.ntmps4
    go_wp2_with fail
    refine (lawsSzMesh W H A L.length cap 1048576 _ hn9 (by omega) (by omega)).mono ?_
    rintro e w1 ⟨rfl, hg1⟩
    rw [if_pos hbig]
    have B1 := Lib.hid (show PB W H A A2 AR AC L.length cap P.length c2 z R.length cR C.length cC w w1 from PB.first hg1)
    clear hg1
    go_wp2_with fail
    go_ret
    exact ⟨rfl, B1.out.old⟩
  have hn : L.length ≤ 1048576 := by omega
  obtain ⟨q, hq⟩ : ∃ q : Int, (1048576 : Int) - (L.length : Int) = q := ⟨_, rfl⟩
  have hq0 : ¬ q < 0 := by omega
  have hq1 : q ≤ 1048576 := by omega
  by_cases hbig2 : q < (P.length : Int)
  · skip
    go_enter Tryd.func4, Tryd.ntmps4
    go_wp2_with fail
    refine (lawsSzMesh W H A L.length cap 1048576 _ hn9 (by omega) (by omega)).mono ?_
    rintro e w1 ⟨rfl, hg1⟩
    rw [if_neg (by omega), hq]
    have B1 := Lib.hid (show PB W H A A2 AR AC L.length cap P.length c2 z R.length cR C.length cC w w1 from PB.first hg1)
    have at0 : w1.cell? ⟨w.heap.size + 1, 0, none⟩ = some (.slice A2 P.length c2) := B1.out.t.cell 0
    clear hg1 hq
    go_wp2_with fail
    refine (lawsSzTable A2 P.length c2 q _ hm9 (by omega) hq1).mono ?_
    rintro e w2 ⟨rfl, hg2⟩
    rw [if_pos hbig2]
    have B2 := Lib.hid (B1.out.gb hg2)
    clear hg2 at0
    go_wp2_with fail
    go_ret
    exact ⟨rfl, B2.out.old⟩
  have hn2 : P.length ≤ 1048576 := by omega
  obtain ⟨q2, hq2⟩ : ∃ q2 : Int, q - (P.length : Int) = q2 := ⟨_, rfl⟩
  have hq20 : ¬ q2 < 0 := by omega
  have hq21 : q2 ≤ 1048576 := by omega
  by_cases hbig3 : q2 < (R.length : Int) + (C.length : Int)
  · skip
    go_enter Tryd.func4, Tryd.ntmps4
    go_wp2_with fail
    refine (lawsSzMesh W H A L.length cap 1048576 _ hn9 (by omega) (by omega)).mono ?_
    rintro e w1 ⟨rfl, hg1⟩
    rw [if_neg (by omega), hq]
    have B1 := Lib.hid (show PB W H A A2 AR AC L.length cap P.length c2 z R.length cR C.length cC w w1 from PB.first hg1)
    have at0 : w1.cell? ⟨w.heap.size + 1, 0, none⟩ = some (.slice A2 P.length c2) := B1.out.t.cell 0
    clear hg1 hq
    go_wp2_with fail
    refine (lawsSzTable A2 P.length c2 q _ hm9 (by omega) hq1).mono ?_
    rintro e w2 ⟨rfl, hg2⟩
    rw [if_neg (by omega), hq2]
    have B2 := Lib.hid (B1.out.gb hg2)
    have a2v0 : w2.cell? ⟨w.heap.size + 2, 0, none⟩ = some (.int .i64 z) := B2.out.v.cell 0
    have a2v1 : w2.cell? ⟨w.heap.size + 2, 1, none⟩ = some (.slice AR R.length cR) := B2.out.v.cell 1
    have a2v2 : w2.cell? ⟨w.heap.size + 2, 2, none⟩ = some (.slice AC C.length cC) := B2.out.v.cell 2
    clear hg2 at0 hq2
    go_wp2_with fail
    refine (lawsSzVerdict z AR AC R.length cR C.length cC q2 _ hR9 hC9 (by omega) hq21).mono ?_
    rintro e w3 ⟨rfl, hg3⟩
    rw [if_pos hbig3]
    have B3 := Lib.hid (B2.out.gb hg3)
    clear hg3 a2v0 a2v1 a2v2
    go_wp2_with fail
    go_ret
    exact ⟨rfl, B3.out.old⟩
  have hnR : R.length ≤ 1048576 := by omega
  have hnC : C.length ≤ 1048576 := by omega
  obtain ⟨q3, hq3⟩ : ∃ q3 : Int, q2 - (R.length : Int) - (C.length : Int) = q3 := ⟨_, rfl⟩
  have hq30 : ¬ q3 < 0 := by omega
  go_enter Tryd.func4, Tryd.ntmps4
  go_wp2_with fail
  refine (lawsSzMesh W H A L.length cap 1048576 _ hn9 (by omega) (by omega)).mono ?_
  rintro e w1 ⟨rfl, hg1⟩
  rw [if_neg (by omega), hq]
  have B1 := Lib.hid (show PB W H A A2 AR AC L.length cap P.length c2 z R.length cR C.length cC w w1 from PB.first hg1)
  have at0 : w1.cell? ⟨w.heap.size + 1, 0, none⟩ = some (.slice A2 P.length c2) := B1.out.t.cell 0
  clear hg1 hq
  go_wp2_with fail
  refine (lawsSzTable A2 P.length c2 q _ hm9 (by omega) hq1).mono ?_
  rintro e w2 ⟨rfl, hg2⟩
  rw [if_neg (by omega), hq2]
  have B2 := Lib.hid (B1.out.gb hg2)
  have a2v0 : w2.cell? ⟨w.heap.size + 2, 0, none⟩ = some (.int .i64 z) := B2.out.v.cell 0
  have a2v1 : w2.cell? ⟨w.heap.size + 2, 1, none⟩ = some (.slice AR R.length cR) := B2.out.v.cell 1
  have a2v2 : w2.cell? ⟨w.heap.size + 2, 2, none⟩ = some (.slice AC C.length cC) := B2.out.v.cell 2
  clear hg2 at0 hq2
  go_wp2_with fail
  refine (lawsSzVerdict z AR AC R.length cR C.length cC q2 _ hR9 hC9 (by omega) hq21).mono ?_
  rintro e w3 ⟨rfl, hg3⟩
  rw [if_neg (by omega), hq3]
  have B3 := Lib.hid (B2.out.gb hg3)
  clear hg3 a2v0 a2v1 a2v2 hq3
  go_wp2_with fail
  clear hq0 hq1 hq20 hq21 hq30 hbig hbig2 hbig3
  obtain ⟨res, hres⟩ : ∃ r, provesG W H L P ⟨z, R, C⟩ = r := ⟨_, rfl⟩
  have HSP := Lib.hid (fun A n cap A2 n2 c2 AR nR cR AC nC cC w h h2 hR hC hn hn2 hnR hnC hcc => show Calls Tryd.prog 14 #[.agg #[.int .i64 W, .int .i64 H, .slice A n cap], .agg #[.slice A2 n2 c2], .agg #[.int .i64 z, .slice AR nR cR, .slice AC nC cC]] w (RetB res w) from hres ▸ specProves W H A A2 AR AC n cap n2 c2 nR cR nC cC L P ⟨z, R, C⟩ w h h2 hR hC hn hn2 hnR hnC hcc)
  have HIM := Lib.hid (fun A n cap A2 n2 c2 AR nR cR AC nC cC w h h2 hR hC hn hn2 hnR hnC hcc hp => show Calls Tryd.prog 18 #[.agg #[.int .i64 W, .int .i64 H, .slice A n cap], .agg #[.slice A2 n2 c2], .agg #[.int .i64 z, .slice AR nR cR, .slice AC nC cC]] w (RetB res w) from hres ▸ implProves W H A A2 AR AC n cap n2 c2 nR cR nC cC L P ⟨z, R, C⟩ HWF.out w h h2 hR hC hn hn2 hnR hnC hcc hp)
  clear hres
  have am0 : w3.cell? ⟨w.heap.size, 0, none⟩ = some (.int .i64 W) := B3.out.m.cell 0
  have am1 : w3.cell? ⟨w.heap.size, 1, none⟩ = some (.int .i64 H) := B3.out.m.cell 1
  have am2 : w3.cell? ⟨w.heap.size, 2, none⟩ = some (.slice A L.length cap) := B3.out.m.cell 2
  have at0 : w3.cell? ⟨w.heap.size + 1, 0, none⟩ = some (.slice A2 P.length c2) := B3.out.t.cell 0
  have av0 : w3.cell? ⟨w.heap.size + 2, 0, none⟩ = some (.int .i64 z) := B3.out.v.cell 0
  have av1 : w3.cell? ⟨w.heap.size + 2, 1, none⟩ = some (.slice AR R.length cR) := B3.out.v.cell 1
  have av2 : w3.cell? ⟨w.heap.size + 2, 2, none⟩ = some (.slice AC C.length cC) := B3.out.v.cell 2
  have B3d := Lib.hid B3.out.dr
  go_region_held3 (fun w' => w'.cell? ⟨w.heap.size, 0, none⟩ = some (.int .i64 W) ∧ w'.cell? ⟨w.heap.size, 1, none⟩ = some (.int .i64 H) ∧ w'.cell? ⟨w.heap.size, 2, none⟩ = some (.slice A L.length cap) ∧ w'.cell? ⟨w.heap.size + 1, 0, none⟩ = some (.slice A2 P.length c2) ∧ w'.cell? ⟨w.heap.size + 2, 0, none⟩ = some (.int .i64 z) ∧ w'.cell? ⟨w.heap.size + 2, 1, none⟩ = some (.slice AR R.length cR) ∧ w'.cell? ⟨w.heap.size + 2, 2, none⟩ = some (.slice AC C.length cC))
    (first | exact ⟨am0, am1, am2, at0, av0, av1, av2⟩ | exact ⟨jm0, jm1, jm2, jt0, jv0, jv1, jv2⟩ | exact ⟨km0, km1, km2, kt0, kv0, kv1, kv2⟩ | exact ⟨lm0, lm1, lm2, lt0, lv0, lv1, lv2⟩ | exact ⟨um0, um1, um2, ut0, uv0, uv1, uv2⟩ | fail)
    (first
      | (go_at_call 15; (with_reducible refine (lawsToMesh W H A L.length cap L _ (B3d.out.at HI.out) hn).mono ?_); rintro e w4 ⟨g6, rfl, o6, b6⟩; have B4 := Lib.hid (B3d.out.bl b6); have O6 := Lib.hid o6; have jm0 : w4.cell? ⟨w.heap.size, 0, none⟩ = some (.int .i64 W) := B4.out.m.cell 0; have jm1 : w4.cell? ⟨w.heap.size, 1, none⟩ = some (.int .i64 H) := B4.out.m.cell 1; have jm2 : w4.cell? ⟨w.heap.size, 2, none⟩ = some (.slice A L.length cap) := B4.out.m.cell 2; have jt0 : w4.cell? ⟨w.heap.size + 1, 0, none⟩ = some (.slice A2 P.length c2) := B4.out.t.cell 0; have jv0 : w4.cell? ⟨w.heap.size + 2, 0, none⟩ = some (.int .i64 z) := B4.out.v.cell 0; have jv1 : w4.cell? ⟨w.heap.size + 2, 1, none⟩ = some (.slice AR R.length cR) := B4.out.v.cell 1; have jv2 : w4.cell? ⟨w.heap.size + 2, 2, none⟩ = some (.slice AC C.length cC) := B4.out.v.cell 2; clear o6 b6)
      | (go_at_call 16; (with_reducible refine (lawsToTable A2 P.length c2 P _ (B4.out.at HP.out) hn2).mono ?_); rintro e w5 ⟨g7, rfl, o7, b7⟩; have B5 := Lib.hid (B4.out.bl b7); have O6b := Lib.hid (own_below O6.out b7); have O7 := Lib.hid o7; have km0 : w5.cell? ⟨w.heap.size, 0, none⟩ = some (.int .i64 W) := B5.out.m.cell 0; have km1 : w5.cell? ⟨w.heap.size, 1, none⟩ = some (.int .i64 H) := B5.out.m.cell 1; have km2 : w5.cell? ⟨w.heap.size, 2, none⟩ = some (.slice A L.length cap) := B5.out.m.cell 2; have kt0 : w5.cell? ⟨w.heap.size + 1, 0, none⟩ = some (.slice A2 P.length c2) := B5.out.t.cell 0; have kv0 : w5.cell? ⟨w.heap.size + 2, 0, none⟩ = some (.int .i64 z) := B5.out.v.cell 0; have kv1 : w5.cell? ⟨w.heap.size + 2, 1, none⟩ = some (.slice AR R.length cR) := B5.out.v.cell 1; have kv2 : w5.cell? ⟨w.heap.size + 2, 2, none⟩ = some (.slice AC C.length cC) := B5.out.v.cell 2; clear o7 b7)
      | (go_at_call 17; (with_reducible refine (lawsToVerdict z AR AC R.length cR C.length cC R C _ (B5.out.at HR.out) (B5.out.at HC.out) hnR hnC).mono ?_); rintro e w6 ⟨vr6, vc6, rfl, o8, b8⟩; obtain ⟨Ar6, cr6, rfl, _⟩ := own_form o8.r; obtain ⟨Ac6, cc6, rfl, _⟩ := own_form o8.c; have B6 := Lib.hid (B5.out.bl b8); have O6c := Lib.hid (own_below O6b.out b8); have O7c := Lib.hid (own_below O7.out b8); have O8 := Lib.hid o8; have lm0 : w6.cell? ⟨w.heap.size, 0, none⟩ = some (.int .i64 W) := B6.out.m.cell 0; have lm1 : w6.cell? ⟨w.heap.size, 1, none⟩ = some (.int .i64 H) := B6.out.m.cell 1; have lm2 : w6.cell? ⟨w.heap.size, 2, none⟩ = some (.slice A L.length cap) := B6.out.m.cell 2; have lt0 : w6.cell? ⟨w.heap.size + 1, 0, none⟩ = some (.slice A2 P.length c2) := B6.out.t.cell 0; have lv0 : w6.cell? ⟨w.heap.size + 2, 0, none⟩ = some (.int .i64 z) := B6.out.v.cell 0; have lv1 : w6.cell? ⟨w.heap.size + 2, 1, none⟩ = some (.slice AR R.length cR) := B6.out.v.cell 1; have lv2 : w6.cell? ⟨w.heap.size + 2, 2, none⟩ = some (.slice AC C.length cC) := B6.out.v.cell 2; clear o8 b8)
      | (go_at_call 14; (with_reducible refine (HSP.out _ _ _ _ _ _ _ _ _ _ _ _ _ (intAt_own O6c.out rfl (Nat.le_refl _)) (intAt_own O7c.out rfl (Nat.le_refl _)) (intAt_own O8.out.r rfl (Nat.le_refl _)) (intAt_own O8.out.c rfl (Nat.le_refl _)) (by omega) (by omega) (by omega) (by omega) (own_cap O8.out.c).1).mono ?_); rintro e w7 ⟨rfl, hg7⟩; have B7 := Lib.hid (B6.out.gb hg7); have um0 : w7.cell? ⟨w.heap.size, 0, none⟩ = some (.int .i64 W) := B7.out.m.cell 0; have um1 : w7.cell? ⟨w.heap.size, 1, none⟩ = some (.int .i64 H) := B7.out.m.cell 1; have um2 : w7.cell? ⟨w.heap.size, 2, none⟩ = some (.slice A L.length cap) := B7.out.m.cell 2; have ut0 : w7.cell? ⟨w.heap.size + 1, 0, none⟩ = some (.slice A2 P.length c2) := B7.out.t.cell 0; have uv0 : w7.cell? ⟨w.heap.size + 2, 0, none⟩ = some (.int .i64 z) := B7.out.v.cell 0; have uv1 : w7.cell? ⟨w.heap.size + 2, 1, none⟩ = some (.slice AR R.length cR) := B7.out.v.cell 1; have uv2 : w7.cell? ⟨w.heap.size + 2, 2, none⟩ = some (.slice AC C.length cC) := B7.out.v.cell 2; clear hg7)
      | fail)
  all_goals
    clear am0 am1 am2 at0 av0 av1 av2 jm0 jm1 jm2 jt0 jv0 jv1 jv2 km0 km1 km2 kt0 kv0 kv1 kv2 lm0 lm1 lm2 lt0 lv0 lv1 lv2
    go_wp2_with fail
    refine (lawsToMesh W H A L.length cap L _ (B7.out.at HI.out) hn).mono ?_
    rintro e w8 ⟨gm, rfl, o9, b9⟩
    have O9 := Lib.hid (own_less o9 (show w.heap.size ≤ w7.heap.size from B7.out.g.size))
    have B8 := Lib.hid ((B7.out.bl b9).gb (gb_alloc (gb_refl w8 none) (.cells (meshC W H (some ⟨gm, 0, none⟩) L.length L.length) 37)))
    clear o9 b9 um0 um1 um2 ut0 uv0 uv1 uv2
    have at0 : (w8.alloc (.cells #[.int .i64 W, .int .i64 H, .slice (some ⟨gm, 0, none⟩) L.length L.length] 37)).cell? ⟨w.heap.size + 1, 0, none⟩ = some (.slice A2 P.length c2) := B8.out.t.cell 0
    have av0 : (w8.alloc (.cells #[.int .i64 W, .int .i64 H, .slice (some ⟨gm, 0, none⟩) L.length L.length] 37)).cell? ⟨w.heap.size + 2, 0, none⟩ = some (.int .i64 z) := B8.out.v.cell 0
    have av1 : (w8.alloc (.cells #[.int .i64 W, .int .i64 H, .slice (some ⟨gm, 0, none⟩) L.length L.length] 37)).cell? ⟨w.heap.size + 2, 1, none⟩ = some (.slice AR R.length cR) := B8.out.v.cell 1
    have av2 : (w8.alloc (.cells #[.int .i64 W, .int .i64 H, .slice (some ⟨gm, 0, none⟩) L.length L.length] 37)).cell? ⟨w.heap.size + 2, 2, none⟩ = some (.slice AC C.length cC) := B8.out.v.cell 2
    go_wp2_with fail
    refine (lawsToTable A2 P.length c2 P _ (B8.out.at HP.out) hn2).mono ?_
    rintro e w9 ⟨gp, rfl, o10, b10⟩
    have K9 := Lib.hid (show Blk (w9.alloc (.cells #[.slice (some ⟨gp, 0, none⟩) P.length P.length] 30)) w8.heap.size 37 (meshC W H (some ⟨gm, 0, none⟩) L.length L.length) from (Blk.new w8 37 _).grown (gb_alloc (gb_of_below b10 none) _) (by simp))
    have OM9 := Lib.hid (own_none (O9.out.alloc (.cells (meshC W H (some ⟨gm, 0, none⟩) L.length L.length) 37)) (gb_alloc (gb_of_below b10 none) (.cells #[.slice (some ⟨gp, 0, none⟩) P.length P.length] 30)))
    have OT9 := Lib.hid ((own_less o10 B8.out.g.size).alloc (.cells #[.slice (some ⟨gp, 0, none⟩) P.length P.length] 30))
    have B9 := Lib.hid ((B8.out.bl b10).gb (gb_alloc (gb_refl w9 none) (.cells #[.slice (some ⟨gp, 0, none⟩) P.length P.length] 30)))
    clear o10 b10 at0 av0 av1 av2
    have av0 : (w9.alloc (.cells #[.slice (some ⟨gp, 0, none⟩) P.length P.length] 30)).cell? ⟨w.heap.size + 2, 0, none⟩ = some (.int .i64 z) := B9.out.v.cell 0
    have av1 : (w9.alloc (.cells #[.slice (some ⟨gp, 0, none⟩) P.length P.length] 30)).cell? ⟨w.heap.size + 2, 1, none⟩ = some (.slice AR R.length cR) := B9.out.v.cell 1
    have av2 : (w9.alloc (.cells #[.slice (some ⟨gp, 0, none⟩) P.length P.length] 30)).cell? ⟨w.heap.size + 2, 2, none⟩ = some (.slice AC C.length cC) := B9.out.v.cell 2
    go_wp2_with fail
    refine (lawsToVerdict z AR AC R.length cR C.length cC R C _ (B9.out.at HR.out) (B9.out.at HC.out) hnR hnC).mono ?_
    rintro e w10 ⟨vr, vc, rfl, o11, b11⟩
    obtain ⟨Ar, cr, rfl, _⟩ := own_form o11.r
    obtain ⟨Ac, cc, rfl, _⟩ := own_form o11.c
    have B10 := Lib.hid ((B9.out.bl b11).gb (gb_alloc (gb_refl w10 none) (.cells #[.int .i64 z, .slice Ar R.length cr, .slice Ac C.length cc] 34)))
    have X10 := Lib.hid (show PC W H z L P R C gm gp Ar cr Ac cc w.heap.size w8.heap.size w9.heap.size w10.heap.size (w10.alloc (.cells #[.int .i64 z, .slice Ar R.length cr, .slice Ac C.length cc] 34)) from ⟨K9.out.grown (gb_alloc (gb_of_below b11 none) _) (by simp), (Blk.new w9 30 _).grown (gb_alloc (gb_of_below b11 none) _) (by simp), Blk.new w10 34 _, own_none OM9.out (gb_alloc (gb_of_below b11 none) _), own_none OT9.out (gb_alloc (gb_of_below b11 none) _), (o11.less B9.out.g.size).gb (gb_alloc (gb_refl _ _) _)⟩)
    clear o11 b11 av0 av1 av2
    obtain ⟨b0, hb0⟩ : ∃ b, w8.heap.size = b := ⟨_, rfl⟩
    obtain ⟨b1, hb1⟩ : ∃ b, w9.heap.size = b := ⟨_, rfl⟩
    obtain ⟨b2, hb2⟩ : ∃ b, w10.heap.size = b := ⟨_, rfl⟩
    rw [hb0, hb1, hb2] at X10
    (try simp only [hb0])
    (try simp only [hb1])
    have aM0 : (w10.alloc (.cells #[.int .i64 z, .slice Ar R.length cr, .slice Ac C.length cc] 34)).cell? ⟨b0, 0, none⟩ = some (.int .i64 W) := X10.out.m.cell 0
    have aM1 : (w10.alloc (.cells #[.int .i64 z, .slice Ar R.length cr, .slice Ac C.length cc] 34)).cell? ⟨b0, 1, none⟩ = some (.int .i64 H) := X10.out.m.cell 1
    have aM2 : (w10.alloc (.cells #[.int .i64 z, .slice Ar R.length cr, .slice Ac C.length cc] 34)).cell? ⟨b0, 2, none⟩ = some (.slice (some ⟨gm, 0, none⟩) L.length L.length) := X10.out.m.cell 2
    have aT0 : (w10.alloc (.cells #[.int .i64 z, .slice Ar R.length cr, .slice Ac C.length cc] 34)).cell? ⟨b1, 0, none⟩ = some (.slice (some ⟨gp, 0, none⟩) P.length P.length) := X10.out.t.cell 0
    have aV0 : (w10.alloc (.cells #[.int .i64 z, .slice Ar R.length cr, .slice Ac C.length cc] 34)).cell? ⟨b2, 0, none⟩ = some (.int .i64 z) := X10.out.v.cell 0
    have aV1 : (w10.alloc (.cells #[.int .i64 z, .slice Ar R.length cr, .slice Ac C.length cc] 34)).cell? ⟨b2, 1, none⟩ = some (.slice Ar R.length cr) := X10.out.v.cell 1
    have aV2 : (w10.alloc (.cells #[.int .i64 z, .slice Ar R.length cr, .slice Ac C.length cc] 34)).cell? ⟨b2, 2, none⟩ = some (.slice Ac C.length cc) := X10.out.v.cell 2
    have HB2 := Lib.hid hb2
    clear hb0 hb1 hb2
    go_wp2_with fail
    (try simp only [HB2.out])
    refine (HIM.out _ _ _ _ _ _ _ _ _ _ _ _ _ X10.out.atM X10.out.atP X10.out.atR X10.out.atC (by omega) (by omega) (by omega) (by omega) X10.out.cap (HPR.out.below B10.out.old)).mono ?_
    rintro e w11 ⟨rfl, hg11⟩
    have B11 := Lib.hid (B10.out.gb hg11)
    have X11 := Lib.hid (X10.out.gb hg11)
    clear hg11 aM0 aM1 aM2 aT0 aV0 aV1 aV2
    go_wp2_with fail
    have dm0 : w11.cell? ⟨w.heap.size, 0, none⟩ = some (.int .i64 W) := B11.out.m.cell 0
    have dm1 : w11.cell? ⟨w.heap.size, 1, none⟩ = some (.int .i64 H) := B11.out.m.cell 1
    have dm2 : w11.cell? ⟨w.heap.size, 2, none⟩ = some (.slice A L.length cap) := B11.out.m.cell 2
    have dM0 : w11.cell? ⟨b0, 0, none⟩ = some (.int .i64 W) := X11.out.m.cell 0
    have dM1 : w11.cell? ⟨b0, 1, none⟩ = some (.int .i64 H) := X11.out.m.cell 1
    have dM2 : w11.cell? ⟨b0, 2, none⟩ = some (.slice (some ⟨gm, 0, none⟩) L.length L.length) := X11.out.m.cell 2
    have B11d := Lib.hid B11.out.dr
    have X11d := Lib.hid X11.out.dr
    go_region_held3 (fun w' => w'.cell? ⟨w.heap.size, 0, none⟩ = some (.int .i64 W) ∧ w'.cell? ⟨w.heap.size, 1, none⟩ = some (.int .i64 H) ∧ w'.cell? ⟨w.heap.size, 2, none⟩ = some (.slice A L.length cap) ∧ w'.cell? ⟨b0, 0, none⟩ = some (.int .i64 W) ∧ w'.cell? ⟨b0, 1, none⟩ = some (.int .i64 H) ∧ w'.cell? ⟨b0, 2, none⟩ = some (.slice (some ⟨gm, 0, none⟩) L.length L.length))
      (first | exact ⟨dm0, dm1, dm2, dM0, dM1, dM2⟩ | exact ⟨em0, em1, em2, eM0, eM1, eM2⟩ | exact ⟨fm0, fm1, fm2, fM0, fM1, fM2⟩ | fail)
      (first
        | (go_at_call 15; (with_reducible refine (lawsToMesh W H A L.length cap L _ (B11d.out.at HI.out) hn).mono ?_); rintro e w12 ⟨g9, rfl, ox, bx⟩; have B12 := Lib.hid (B11d.out.bl bx); have X12 := Lib.hid (X11d.out.bl bx); have OX := Lib.hid ox; have em0 : w12.cell? ⟨w.heap.size, 0, none⟩ = some (.int .i64 W) := B12.out.m.cell 0; have em1 : w12.cell? ⟨w.heap.size, 1, none⟩ = some (.int .i64 H) := B12.out.m.cell 1; have em2 : w12.cell? ⟨w.heap.size, 2, none⟩ = some (.slice A L.length cap) := B12.out.m.cell 2; have eM0 : w12.cell? ⟨b0, 0, none⟩ = some (.int .i64 W) := X12.out.m.cell 0; have eM1 : w12.cell? ⟨b0, 1, none⟩ = some (.int .i64 H) := X12.out.m.cell 1; have eM2 : w12.cell? ⟨b0, 2, none⟩ = some (.slice (some ⟨gm, 0, none⟩) L.length L.length) := X12.out.m.cell 2; clear ox bx)
        | (go_at_call 19; (with_reducible refine (lawsEqMesh W H (some ⟨gm, 0, none⟩) (some ⟨g9, 0, none⟩) L.length L.length L.length _ _ L _ X12.out.atM (intAt_own OX.out rfl (Nat.le_refl _)) (Nat.le_refl _) (Nat.le_refl _) (by omega)).mono ?_); rintro e w13 ⟨rfl, hgb⟩; have B13 := Lib.hid (B12.out.gb hgb); have X13 := Lib.hid (X12.out.gb hgb); have fm0 : w13.cell? ⟨w.heap.size, 0, none⟩ = some (.int .i64 W) := B13.out.m.cell 0; have fm1 : w13.cell? ⟨w.heap.size, 1, none⟩ = some (.int .i64 H) := B13.out.m.cell 1; have fm2 : w13.cell? ⟨w.heap.size, 2, none⟩ = some (.slice A L.length cap) := B13.out.m.cell 2; have fM0 : w13.cell? ⟨b0, 0, none⟩ = some (.int .i64 W) := X13.out.m.cell 0; have fM1 : w13.cell? ⟨b0, 1, none⟩ = some (.int .i64 H) := X13.out.m.cell 1; have fM2 : w13.cell? ⟨b0, 2, none⟩ = some (.slice (some ⟨gm, 0, none⟩) L.length L.length) := X13.out.m.cell 2; clear hgb)
        | fail)
    all_goals
      clear OX dm0 dm1 dm2 dM0 dM1 dM2 em0 em1 em2 eM0 eM1 eM2 fm0 fm1 fm2 fM0 fM1 fM2
      go_wp2_with fail
      have dt0 : w13.cell? ⟨w.heap.size + 1, 0, none⟩ = some (.slice A2 P.length c2) := B13.out.t.cell 0
      have dT0 : w13.cell? ⟨b1, 0, none⟩ = some (.slice (some ⟨gp, 0, none⟩) P.length P.length) := X13.out.t.cell 0
      have B13d := Lib.hid B13.out.dr
      have X13d := Lib.hid X13.out.dr
      go_region_held3 (fun w' => w'.cell? ⟨w.heap.size + 1, 0, none⟩ = some (.slice A2 P.length c2) ∧ w'.cell? ⟨b1, 0, none⟩ = some (.slice (some ⟨gp, 0, none⟩) P.length P.length))
        (first | exact ⟨dt0, dT0⟩ | exact ⟨et0, eT0⟩ | exact ⟨ft0, fT0⟩ | fail)
        (first
          | (go_at_call 16; (with_reducible refine (lawsToTable A2 P.length c2 P _ (B13d.out.at HP.out) hn2).mono ?_); rintro e w14 ⟨g9, rfl, ox, bx⟩; have B14 := Lib.hid (B13d.out.bl bx); have X14 := Lib.hid (X13d.out.bl bx); have OX := Lib.hid ox; have et0 : w14.cell? ⟨w.heap.size + 1, 0, none⟩ = some (.slice A2 P.length c2) := B14.out.t.cell 0; have eT0 : w14.cell? ⟨b1, 0, none⟩ = some (.slice (some ⟨gp, 0, none⟩) P.length P.length) := X14.out.t.cell 0; clear ox bx)
          | (go_at_call 20; (with_reducible refine (lawsEqTable (some ⟨gp, 0, none⟩) (some ⟨g9, 0, none⟩) P.length P.length P.length _ _ P _ X14.out.atP (intAt_own OX.out rfl (Nat.le_refl _)) (Nat.le_refl _) (Nat.le_refl _) (by omega)).mono ?_); rintro e w15 ⟨rfl, hgb⟩; have B15 := Lib.hid (B14.out.gb hgb); have X15 := Lib.hid (X14.out.gb hgb); have ft0 : w15.cell? ⟨w.heap.size + 1, 0, none⟩ = some (.slice A2 P.length c2) := B15.out.t.cell 0; have fT0 : w15.cell? ⟨b1, 0, none⟩ = some (.slice (some ⟨gp, 0, none⟩) P.length P.length) := X15.out.t.cell 0; clear hgb)
          | fail)
      all_goals
        clear OX dt0 dT0 et0 eT0 ft0 fT0
        go_wp2_with fail
        have dv0 : w15.cell? ⟨w.heap.size + 2, 0, none⟩ = some (.int .i64 z) := B15.out.v.cell 0
        have dv1 : w15.cell? ⟨w.heap.size + 2, 1, none⟩ = some (.slice AR R.length cR) := B15.out.v.cell 1
        have dv2 : w15.cell? ⟨w.heap.size + 2, 2, none⟩ = some (.slice AC C.length cC) := B15.out.v.cell 2
        have dV0 : w15.cell? ⟨b2, 0, none⟩ = some (.int .i64 z) := X15.out.v.cell 0
        have dV1 : w15.cell? ⟨b2, 1, none⟩ = some (.slice Ar R.length cr) := X15.out.v.cell 1
        have dV2 : w15.cell? ⟨b2, 2, none⟩ = some (.slice Ac C.length cc) := X15.out.v.cell 2
        have B15d := Lib.hid B15.out.dr
        have X15d := Lib.hid X15.out.dr
        go_region_held3 (fun w' => w'.cell? ⟨w.heap.size + 2, 0, none⟩ = some (.int .i64 z) ∧ w'.cell? ⟨w.heap.size + 2, 1, none⟩ = some (.slice AR R.length cR) ∧ w'.cell? ⟨w.heap.size + 2, 2, none⟩ = some (.slice AC C.length cC) ∧ w'.cell? ⟨b2, 0, none⟩ = some (.int .i64 z) ∧ w'.cell? ⟨b2, 1, none⟩ = some (.slice Ar R.length cr) ∧ w'.cell? ⟨b2, 2, none⟩ = some (.slice Ac C.length cc))
          (first | exact ⟨dv0, dv1, dv2, dV0, dV1, dV2⟩ | exact ⟨ev0, ev1, ev2, eV0, eV1, eV2⟩ | exact ⟨fv0, fv1, fv2, fV0, fV1, fV2⟩ | fail)
          (first
            | (go_at_call 17; (with_reducible refine (lawsToVerdict z AR AC R.length cR C.length cC R C _ (B15d.out.at HR.out) (B15d.out.at HC.out) hnR hnC).mono ?_); rintro e w16 ⟨vr9, vc9, rfl, ox, bx⟩; obtain ⟨Ar9, cr9, rfl, _⟩ := own_form ox.r; obtain ⟨Ac9, cc9, rfl, _⟩ := own_form ox.c; have B16 := Lib.hid (B15d.out.bl bx); have X16 := Lib.hid (X15d.out.bl bx); have OX := Lib.hid ox; have ev0 : w16.cell? ⟨w.heap.size + 2, 0, none⟩ = some (.int .i64 z) := B16.out.v.cell 0; have ev1 : w16.cell? ⟨w.heap.size + 2, 1, none⟩ = some (.slice AR R.length cR) := B16.out.v.cell 1; have ev2 : w16.cell? ⟨w.heap.size + 2, 2, none⟩ = some (.slice AC C.length cC) := B16.out.v.cell 2; have eV0 : w16.cell? ⟨b2, 0, none⟩ = some (.int .i64 z) := X16.out.v.cell 0; have eV1 : w16.cell? ⟨b2, 1, none⟩ = some (.slice Ar R.length cr) := X16.out.v.cell 1; have eV2 : w16.cell? ⟨b2, 2, none⟩ = some (.slice Ac C.length cc) := X16.out.v.cell 2; clear ox bx)
            | (go_at_call 21; (with_reducible refine (lawsEqVerdict z _ _ _ _ _ _ R C _ X16.out.ov OX.out (by omega) (by omega)).mono ?_); rintro e w17 ⟨rfl, hgb⟩; have B17 := Lib.hid (B16.out.gb hgb); have X17 := Lib.hid (X16.out.gb hgb); have fv0 : w17.cell? ⟨w.heap.size + 2, 0, none⟩ = some (.int .i64 z) := B17.out.v.cell 0; have fv1 : w17.cell? ⟨w.heap.size + 2, 1, none⟩ = some (.slice AR R.length cR) := B17.out.v.cell 1; have fv2 : w17.cell? ⟨w.heap.size + 2, 2, none⟩ = some (.slice AC C.length cC) := B17.out.v.cell 2; have fV0 : w17.cell? ⟨b2, 0, none⟩ = some (.int .i64 z) := X17.out.v.cell 0; have fV1 : w17.cell? ⟨b2, 1, none⟩ = some (.slice Ar R.length cr) := X17.out.v.cell 1; have fV2 : w17.cell? ⟨b2, 2, none⟩ = some (.slice Ac C.length cc) := X17.out.v.cell 2; clear hgb)
            | fail)
        all_goals
          clear OX dv0 dv1 dv2 dV0 dV1 dV2 ev0 ev1 ev2 eV0 eV1 eV2 fv0 fv1 fv2 fV0 fV1 fV2
          go_wp2_with fail
          go_ret
          exact ⟨rfl, B17.out.old⟩
end Go.Proofs.YtidilfakganooaaDoor
end

section
namespace Go.Proofs.YtidilfakganooaaDoor
open Go.ChangeShapes Go.WideShapes Go.ChangeAt Go.RowKit
set_option linter.unusedVariables false

section
variable {H : Type} {enc : TypeId × Value → H} {w : World} {spare : Nat → Bool} {held : Bool} {base fuel : Nat}

theorem intAt_of (x : Addr) (l : Nat) (zs : List Int) (hl : l ≤ zs.length) (hcell : ∀ i, i < zs.length → w.cell? (x.add i) = some (.int .i64 (zs.getD i 0))) :
    IntAt w w.heap.size (some x) l (zs.take l) := ⟨by simp; omega, fun hn => by
  obtain ⟨b, off, spot⟩ := x
  have hc := hcell 0 (by omega)
  have hspot : spot = none := by simpa [Addr.add] using World.cell?_spot hc
  subst hspot
  have hlt : b < w.heap.size := by simpa [Addr.add] using World.block_lt_of_cell? _ _ hc
  refine ⟨b, off, rfl, hlt, fun k y hy => ?_⟩
  have hkl : k < l := by
    rcases Nat.lt_or_ge k l with h1 | h1
    · exact h1
    · rw [List.getElem?_eq_none (by simp; omega)] at hy; cases hy
  rw [List.getElem?_take_of_lt hkl] at hy
  have h2 := hcell k (by omega)
  rw [List.getD_eq_getElem?_getD, hy] at h2
  simpa [Addr.add_lit] using h2⟩

/-- A cell that reads as a slice of integers. -/
theorem open_intS {cs : List Value} {y : DataW H × List MemPlace} (hf : DataW.trod enc Tryd.prog w base spare held fuel 27 cs = some y) :
    ∃ (A : Option Addr) (n cap : Nat) (L : List Int), cs = [.slice A n cap] ∧ n ≤ cap ∧ cap ≤ maxLen ∧ IntAt w w.heap.size A n L ∧ ∀ x ∈ L, (Lit.int .i64 x).wf = true := by
  rcases open_ints Tryd.underlying27 Tryd.underlying3 (by kernel_rfl) hf with ⟨hcs, _⟩ | ⟨x, l, c, zs, hcs, _, hl, hm, hz, _, hcell, hwz⟩
  · exact ⟨none, 0, 0, [], hcs, Nat.le_refl _, Nat.zero_le _, IntAt.nil _ _ _, fun x h => by cases h⟩
  · refine ⟨some x, l, c, zs.take l, hcs, hl, hm, intAt_of x l zs (by rw [hz]; split <;> omega) hcell, fun y hy => hwz y (List.mem_of_mem_take hy)⟩
end
end Go.Proofs.YtidilfakganooaaDoor
end

section
namespace Go.Proofs.YtidilfakganooaaDoor
open Go.ChangeShapes Go.WideShapes Go.ChangeAt Go.RowKit
set_option linter.unusedVariables false
set_option maxRecDepth 20000

section
variable {H : Type} {enc : TypeId × Value → H} {w : World} {spare : Nat → Bool} {held : Bool} {base : Nat}
theorem open_table {r : Reach} {b0 : Nat} {v : Value} {d : DataW H} {p : List MemPlace}
    (hv : Value.okWide Tryd.prog w r b0 42 v) (h : DataW.Trod enc Tryd.prog w base spare held 42 v d p) :
    ∃ (A : Option Addr) (n cap : Nat) (P : List Int), v = .agg #[.slice A n cap] ∧ n ≤ cap ∧ cap ≤ maxLen ∧ IntAt w w.heap.size A n P ∧ ∀ x ∈ P, (Lit.int .i64 x).wf = true := by
  obtain ⟨cs, rfl, hsz⟩ := okWide_struct Tryd.underlying42 hv
  have hC : Tryd.prog.cellsOf 42 = 1 := by kernel_rfl
  have hS : Tryd.prog.cellsOf 27 = 1 := by kernel_rfl
  obtain ⟨c0, rfl⟩ : ∃ c, cs = #[c] := by
    obtain ⟨l⟩ := cs
    have h1 : l.length = 1 := hsz.trans hC
    obtain ⟨c, rfl⟩ := List.length_eq_one_iff.1 h1
    exact ⟨c, rfl⟩
  obtain ⟨fuel, hf⟩ := h
  obtain ⟨y0, n, hx, _, h0⟩ := trod_struct1 Tryd.underlying42 hf
  simp [Value.cells, hS] at h0
  obtain ⟨A, l, cap, P, e2, i1, i2, i3, i4⟩ := open_intS h0
  simp at e2
  subst e2
  exact ⟨A, l, cap, P, rfl, i1, i2, i3, i4⟩
end
end Go.Proofs.YtidilfakganooaaDoor
end

section
namespace Go.Proofs.YtidilfakganooaaDoor
open Go.ChangeShapes Go.WideShapes Go.ChangeAt Go.RowKit
set_option linter.unusedVariables false

section
variable {H : Type} {enc : TypeId × Value → H} {w : World} {spare : Nat → Bool} {held : Bool} {base fuel : Nat}
set_option maxRecDepth 100000 in
theorem open_mesh {r : Reach} {b0 : Nat} {v : Value} {d : DataW H} {p : List MemPlace}
    (hv : Value.okWide Tryd.prog w r b0 41 v) (h : DataW.Trod enc Tryd.prog w base spare held 41 v d p) :
    ∃ (W Hh : Int) (A : Option Addr) (n cap : Nat) (L : List Int), v = .agg #[.int .i64 W, .int .i64 Hh, .slice A n cap] ∧ (Lit.int .i64 W).wf = true ∧ (Lit.int .i64 Hh).wf = true ∧ n ≤ cap ∧ cap ≤ maxLen ∧ IntAt w w.heap.size A n L ∧ ∀ x ∈ L, (Lit.int .i64 x).wf = true := by
  obtain ⟨cs, rfl, hsz⟩ := okWide_struct Tryd.underlying41 hv
  have hC : Tryd.prog.cellsOf 41 = 3 := by kernel_rfl
  have hG : Tryd.prog.cellsOf 39 = 2 := by kernel_rfl
  have hS : Tryd.prog.cellsOf 27 = 1 := by kernel_rfl
  have hI : Tryd.prog.cellsOf 3 = 1 := by kernel_rfl
  obtain ⟨c0, c1, c2, rfl⟩ := Go.Joins.array3 (hsz.trans hC)
  obtain ⟨fuel, hf⟩ := h
  obtain ⟨y0, y1, n, hx, _, h0, h1⟩ := trod_struct2 Tryd.underlying41 hf
  obtain ⟨z0, z1, m, _, _, g0, g1⟩ := trod_struct2 Tryd.underlying39 h0
  simp [Value.cells, hG, hS, hI] at h1 g0 g1
  obtain ⟨W, e0, _, w0⟩ := DataW.trod_int Tryd.underlying3 g0
  obtain ⟨Hh, e1, _, w1⟩ := DataW.trod_int Tryd.underlying3 g1
  obtain ⟨A, l, cap, L, e2, i1, i2, i3, i4⟩ := open_intS h1
  simp at e0 e1 e2
  subst e0 e1 e2
  exact ⟨W, Hh, A, l, cap, L, rfl, w0, w1, i1, i2, i3, i4⟩
end
end Go.Proofs.YtidilfakganooaaDoor
end

section
namespace Go.Proofs.YtidilfakganooaaDoor
open Go.ChangeShapes Go.WideShapes Go.ChangeAt Go.RowKit
set_option linter.unusedVariables false

section
variable {H : Type} {enc : TypeId × Value → H} {w : World} {spare : Nat → Bool} {held : Bool} {base : Nat}
set_option maxRecDepth 100000 in
theorem open_verdict {r : Reach} {b0 : Nat} {v : Value} {d : DataW H} {p : List MemPlace}
    (hv : Value.okWide Tryd.prog w r b0 43 v) (h : DataW.Trod enc Tryd.prog w base spare held 43 v d p) :
    ∃ (z : Int) (AR : Option Addr) (nR cR : Nat) (R : List Int) (AC : Option Addr) (nC cC : Nat) (C : List Int), v = .agg #[.int .i64 z, .slice AR nR cR, .slice AC nC cC] ∧ (Lit.int .i64 z).wf = true ∧ nR ≤ cR ∧ cR ≤ maxLen ∧ IntAt w w.heap.size AR nR R ∧ (∀ x ∈ R, (Lit.int .i64 x).wf = true) ∧ nC ≤ cC ∧ cC ≤ maxLen ∧ IntAt w w.heap.size AC nC C ∧ ∀ x ∈ C, (Lit.int .i64 x).wf = true := by
  obtain ⟨cs, rfl, hsz⟩ := okWide_struct Tryd.underlying43 hv
  have hC : Tryd.prog.cellsOf 43 = 3 := by kernel_rfl
  have hS : Tryd.prog.cellsOf 27 = 1 := by kernel_rfl
  have hI : Tryd.prog.cellsOf 3 = 1 := by kernel_rfl
  obtain ⟨c0, c1, c2, rfl⟩ := Go.Joins.array3 (hsz.trans hC)
  obtain ⟨fuel, hf⟩ := h
  obtain ⟨xs, n, _, hx, _, hlen, hf'⟩ := DataW.trod_struct Tryd.underlying43 hf
  match xs, hlen with
  | [y0, y1, y2], _ =>
    have g0 := hf' 0 _ rfl
    have g1 := hf' 1 _ rfl
    have g2 := hf' 2 _ rfl
    simp [Value.cells, hS, hI] at g0 g1 g2
    obtain ⟨z, e0, _, w0⟩ := DataW.trod_int Tryd.underlying3 g0
    obtain ⟨AR, nR, cR, R, e1, i1, i2, i3, i4⟩ := open_intS g1
    obtain ⟨AC, nC, cC, C, e2, j1, j2, j3, j4⟩ := open_intS g2
    simp at e0 e1 e2
    subst e0 e1 e2
    exact ⟨z, AR, nR, cR, R, AC, nC, cC, C, rfl, w0, i1, i2, i3, i4, j1, j2, j3, j4⟩
end
end Go.Proofs.YtidilfakganooaaDoor
end
