/- What is proved here: what the program's IsCycle returns, for all arguments; only new blocks are written. -/
import Derived.Test.YtgjidlhnfbdfpaaPathM
import Derived.Test.YtgjidlhnfbdfpaaDokI
import Derived.Test.YtgjidlhnfbdfpaaBsI
import Derived.Test.YtgjidlhnfbdfpaaContI
import Derived.Test.YtgjidlhnfbdfpaaNewR
namespace Go.Proofs.Ytgjidlhnfbdfpaa
open Go.ChangeShapes Go.WideShapes Go.ChangeAt Go.RowKit
set_option linter.unusedVariables false
set_option maxRecDepth 20000

theorem hasD_iff {D : List Dep} {x y : Int} : hasD D x y = true ↔ (x, y) ∈ D := by
  constructor
  · intro h
    obtain ⟨i, hi, h1⟩ := List.any_eq_true.1 h
    simp only [Bool.and_eq_true, decide_eq_true_eq] at h1
    have : atD D i = (x, y) := Prod.ext h1.1 h1.2
    rw [← this]
    exact atD_mem (List.mem_range.1 hi)
  · intro h
    obtain ⟨k, hk, e⟩ := atD_ex h
    exact has_yes hk (by rw [e]) (by rw [e])
/-- The channel ahead of the one at i, around the end. -/
def befC (C : List Int) (i : Nat) : Int := if i = 0 then C.getD (C.length - 1) 0 else C.getD (i - 1) 0
theorem bef_zero (C : List Int) : befC C 0 = C.getD (C.length - 1) 0 := rfl
theorem bef_next (C : List Int) (i : Nat) : befC C (i + 1) = C.getD i 0 := rfl
theorem ring_iff {D : List Dep} {C : List Int} : (∀ i, i < C.length → hasD D (C.getD i 0) (C.getD ((i + 1) % C.length) 0) = true) ↔ ∀ i, i < C.length → (befC C i, C.getD i 0) ∈ D := by
  constructor
  · intro h i hi
    cases i with
    | zero =>
      have h1 := h (C.length - 1) (by omega)
      rw [show C.length - 1 + 1 = C.length by omega, Nat.mod_self] at h1
      exact hasD_iff.1 h1
    | succ i =>
      have h1 := h i (by omega)
      rw [Nat.mod_eq_of_lt hi] at h1
      exact hasD_iff.1 h1
  · intro h i hi
    rw [hasD_iff]
    by_cases e : i + 1 = C.length
    · have h1 := h 0 (by omega)
      rw [e, Nat.mod_self]
      rw [bef_zero, show C.length - 1 = i by omega] at h1
      exact h1
    · rw [Nat.mod_eq_of_lt (by omega)]
      exact h (i + 1) (by omega)
theorem isCyc_all {D : List Dep} {C : List Int} (hD : okD D = true) (h0 : 0 < C.length) (h : ∀ i, i < C.length → (befC C i, C.getD i 0) ∈ D ∧ inG (C.take i) (C.getD i 0) = false) : isCycG D C = true := by
  rw [isCyc_yes hD (fun i hi => ?_)]
  · exact decide_eq_true h0
  · unfold cycAt
    rw [(h i hi).2, ring_iff.2 (fun j hj => (h j hj).1) i hi]
    rfl
theorem isCyc_miss {D : List Dep} {C : List Int} {i : Nat} (hi : i < C.length) (h : (befC C i, C.getD i 0) ∉ D) : isCycG D C = false := by
  cases ho : isCycG D C with
  | false => rfl
  | true =>
    simp only [isCycG, Bool.and_eq_true, List.all_eq_true, List.mem_range] at ho
    have h1 : ∀ i, i < C.length → hasD D (C.getD i 0) (C.getD ((i + 1) % C.length) 0) = true := fun j hj => by
      have := ho.1.2 j hj
      unfold cycAt at this
      rw [Bool.and_eq_true] at this
      exact this.2
    exact absurd (ring_iff.1 h1 i hi) h
theorem isCyc_twice {D : List Dep} {C : List Int} {i : Nat} (hi : i < C.length) (h : inG (C.take i) (C.getD i 0) = true) : isCycG D C = false :=
  isCyc_no hi (by unfold cycAt; rw [h]; rfl)

set_option maxHeartbeats 1600000 in
theorem implIsCycle (A AC : Option Addr) (n cap nC cC : Nat) (D : List Dep) (C : List Int) (w : World) (h : DepAt w w.heap.size A n D) (hC : IntAt w w.heap.size AC nC C) (hcc : nC ≤ cC) (hn : n ≤ 1000000000) (hnC : nC ≤ 1000000000) :
    Calls Try.prog 15 #[.slice A n cap, .slice AC nC cC] w (RetB (isCycG D C) w) := by
  have hl := h.1
  have hCl := hC.1
  have HI := Lib.hid h
  have HC := Lib.hid hC
  have HOK := Lib.hid (implDependsOk A n cap D w h (by omega))
  clear h hC
  cases hok : okD D with
  | false =>
    rw [isCyc_bad hok]
    rw [hok] at HOK
    clear hok
    go_enter Try.func15, Try.ntmps15
    go_wp2_with fail
    refine HOK.out.mono ?_
    rintro e w1 ⟨rfl, hg1⟩
    have G1 := Lib.hid hg1
    clear hg1
    go_wp2_with fail
    go_ret
    exact ⟨rfl, G1.out⟩
  | true =>
    by_cases h0 : nC = 0
    · subst h0
      have hCn : C = [] := List.eq_nil_of_length_eq_zero hCl
      subst hCn
      rw [isCyc_nil]
      rw [hok] at HOK
      clear hok
      go_enter Try.func15, Try.ntmps15
      go_wp2_with fail
      refine HOK.out.mono ?_
      rintro e w1 ⟨rfl, hg1⟩
      have G1 := Lib.hid hg1
      clear hg1
      go_wp2_with fail
      go_ret
      exact ⟨rfl, G1.out⟩
    · have HYES := Lib.hid (fun h => isCyc_all (D := D) (C := C) hok (by omega) h)
      have HNO := Lib.hid (fun (i : Nat) (hi : i < nC) h => isCyc_miss (D := D) (C := C) (i := i) (by omega) h)
      have HTW := Lib.hid (fun (i : Nat) (hi : i < nC) h => isCyc_twice (D := D) (C := C) (i := i) (by omega) h)
      have HBS := Lib.hid (fun d w h => libSearch A n cap D d (okD_asc hok) w h (by omega))
      have HCO := Lib.hid (fun (i : Nat) (hi : i < nC) (x : Int) (b : Bool) (hb : inG (C.take i) x = b) B w h => implContains AC i cC B (C.take i) x b hb w h (by omega))
      obtain ⟨r, hr⟩ : ∃ r, isCycG D C = r := ⟨_, rfl⟩
      rw [hr] at HYES HNO HTW
      rw [hr]
      rw [hok] at HOK
      have HCL := Lib.hid hCl
      obtain ⟨bC, oC, rfl, hbC, _⟩ := HC.out.at 0 (by omega)
      obtain ⟨z, hz⟩ : ∃ z, C.getD (nC - 1) 0 = z := ⟨_, rfl⟩
      have HZ := Lib.hid (show befC C 0 = z by rw [bef_zero, hCl, hz])
      obtain ⟨bz, oz, ez, _, cz⟩ := HC.out.at (nC - 1) (by omega)
      injection ez with ez
      injection ez with ez1 ez2
      subst ez1 ez2
      rw [hz] at cz
      have CZ := Lib.hid cz
      have n0 : (0 : Int) ≤ ((nC - 1 : Nat) : Int) := by omega
      have n1 : ((nC - 1 : Nat) : Int) < (nC : Int) := by omega
      have n2 : IntKind.i64.wrap ((nC : Int) - 1) = ((nC - 1 : Nat) : Int) := by rw [IntWalk.i64_in _ (by omega)]; omega
      have n3 : ¬ (nC : Int) = 0 := by omega
      have n4 : ((nC : Int) == 0) = false := by simpa using h0
      clear hr hok hCl hz cz
      go_enter Try.func15, Try.ntmps15
      go_wp2_with fail
      refine HOK.out.mono ?_
      rintro e w1 ⟨rfl, hg1⟩
      have G1 := Lib.hid hg1
      have cz1 := hg1.cell CZ.out (by simp)
      clear hg1
      go_wp2_with fail
      clear cz1
      go_loopw [5, 26] (fun bv i wr => ∃ k : Nat, i = .int .i64 (k : Int) ∧ k ≤ nC ∧ bv = .int .i64 (befC C k) ∧ (∀ j, j < k → (befC C j, C.getD j 0) ∈ D ∧ inG (C.take j) (C.getD j 0) = false) ∧ w.grownBy wr none) (fun _ i _ => nC - (intOf i).toNat)
      case atStart => exact ⟨0, rfl, Nat.zero_le _, by rw [HZ.out], fun j h => by omega, G1.out⟩
      case round =>
        obtain ⟨k, rfl, hk, rfl, hall, hg⟩ := hrel
        have HA := Lib.hid hall
        have HG := Lib.hid hg
        clear hall hg
        by_cases hlt : k < nC
        · obtain ⟨b2, o2, e2, _, c0⟩ := (HC.out.none (Nat.le_refl _) HG.out).at k hlt
          injection e2 with e2
          injection e2 with e21 e22
          subst e21 e22
          obtain ⟨x, hx⟩ : ∃ x, C.getD k 0 = x := ⟨_, rfl⟩
          obtain ⟨y, hy⟩ : ∃ y, befC C k = y := ⟨_, rfl⟩
          rw [hx] at c0
          rw [hy]
          have HX := Lib.hid hx
          have HY := Lib.hid hy
          have HI2 := Lib.hid ((HI.out.none (Nat.le_refl _) HG.out).more HG.out.size)
          have HN2 := Lib.hid (HNO.out k hlt)
          have HT2 := Lib.hid (HTW.out k hlt)
          have HCO2 := Lib.hid (fun b hb w' h => HCO.out k hlt x b hb w.heap.size w' h)
          have HLT := Lib.hid hlt
          have k0 : (0 : Int) ≤ (k : Int) := by omega
          have k1 : (k : Int) < (nC : Int) := by omega
          have k2 : (k : Int) ≤ (cC : Int) := by omega
          have k3 : k ≤ cC := by omega
          clear hx hy hlt
          go_wp2_with fail
          refine (HBS.out (y, x) _ HI2.out).mono ?_
          rintro e w2 ⟨rfl, hg2⟩
          have HG2 := Lib.hid (gb_trans HG.out hg2)
          clear hg2 c0
          by_cases hin : (y, x) ∈ D
          · have HIN := Lib.hid hin
            rw [decide_eq_true hin]
            clear hin
            have HT3 := Lib.hid (((HC.out.none (Nat.le_refl _) HG2.out)).take (Nat.le_of_lt HLT.out))
            obtain ⟨q, hq⟩ : ∃ q, inG (C.take k) x = q := ⟨_, rfl⟩
            have HQ := Lib.hid hq
            have HCO3 := Lib.hid (fun w' h => HCO2.out q hq w' h)
            clear hq
            go_wp2_with fail
            refine (HCO3.out _ HT3.out).mono ?_
            rintro e w3 ⟨rfl, rfl⟩
            cases q with
            | true =>
              have HR := Lib.hid (HT2.out (by rw [HX.out]; exact HQ.out))
              go_wp2_with fail
              go_ret
              exact ⟨ret_bool HR.out.symm, HG2.out⟩
            | false =>
              go_wp2_with fail
              go_roundw
              case rel => exact ⟨k + 1, by go_num, by have := HLT.out; omega, by rw [bef_next, HX.out], fun j hj => by
                rcases Nat.lt_succ_iff_lt_or_eq.1 hj with h1 | rfl
                · exact HA.out j h1
                · rw [HX.out, HY.out]; exact ⟨HIN.out, HQ.out⟩, HG2.out⟩
              case measure => have := HLT.out; simp [intOf]; omega
          · have HR := Lib.hid (HN2.out (by rw [HX.out, HY.out]; exact hin))
            rw [decide_eq_false hin]
            clear hin
            go_wp2_with fail
            go_ret
            exact ⟨ret_bool HR.out.symm, HG2.out⟩
        · obtain rfl : k = nC := by omega
          have HR := Lib.hid (HYES.out (by rw [HCL.out]; exact HA.out))
          go_wp2_with fail
          go_ret
          exact ⟨ret_bool HR.out.symm, HG.out⟩
end Go.Proofs.Ytgjidlhnfbdfpaa
