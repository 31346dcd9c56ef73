/- What is proved here: whether the numbers of packets differ, as the model says it, for all arguments; only new blocks are written. -/
import Derived.Test.YtfloekbmgjmhbaaPksE
import Derived.Deep.RegionLaw
namespace Go.Proofs.Ytfloekbmgjmhbaa
open Go.ChangeShapes Go.WideShapes Go.ChangeAt Go.RowKit
set_option linter.unusedVariables false
set_option maxRecDepth 20000

def idsG (D : List Pkt) : Bool := (List.range D.length).all fun i => (List.range i).all fun k => decide ((atP D i).id ≠ (atP D k).id)
theorem ids_no {D : List Pkt} {i k : Nat} (hi : i < D.length) (hk : k < i) (h : (atP D i).id = (atP D k).id) : idsG D = false := by
  cases ha : idsG D with
  | false => rfl
  | true =>
    rw [idsG, List.all_eq_true] at ha
    have h1 := ha i (List.mem_range.2 hi)
    rw [List.all_eq_true] at h1
    exact absurd h (of_decide_eq_true (h1 k (List.mem_range.2 hk)))
theorem ids_yes {D : List Pkt} (h : ∀ i, i < D.length → ∀ k, k < i → (atP D i).id ≠ (atP D k).id) : idsG D = true := by
  rw [idsG, List.all_eq_true]
  intro i hi
  rw [List.all_eq_true]
  intro k hk
  exact decide_eq_true (h i (List.mem_range.1 hi) k (List.mem_range.1 hk))
set_option maxHeartbeats 1600000 in
theorem specIdsDistinct (A : Option Addr) (n cap : Nat) (D : List Pkt) (w : World) (h : RecAt 5 pktC w w.heap.size A n D) (hn : n ≤ 1000000000) :
    Calls Try.prog 30 #[.slice A n cap] w (RetB (idsG D) w) := by
  have HI := Lib.hid h
  have hl := h.1
  have HNO := Lib.hid (fun i k hi hk h => ids_no (D := D) (i := i) (k := k) hi hk h)
  have HYES := Lib.hid (ids_yes (D := D))
  obtain ⟨r, hr⟩ : ∃ r, idsG D = r := ⟨_, rfl⟩
  rw [hr] at HNO HYES
  rw [hr]
  clear h hr
  go_enter Try.func30, Try.ntmps30
  go_wp2_with fail
  go_loopw [3] (fun i wr => ∃ a : Nat, i = .int .i64 (a : Int) ∧ a ≤ n ∧ (∀ i, i < a → ∀ k, k < i → (atP D i).id ≠ (atP D k).id) ∧ w.grownBy wr none) (fun i _ => n - (intOf i).toNat)
  case atStart => exact ⟨0, rfl, Nat.zero_le _, fun i hi => by omega, gb_refl _ _⟩
  case round =>
    obtain ⟨a, rfl, ha, hall, hg⟩ := hrel
    have HALL := Lib.hid hall
    have HG := Lib.hid hg
    clear hall hg
    by_cases hlt : a < n
    · have l1 : (a : Int) < (n : Int) := by omega
      go_wp2_with fail
      go_loopw [4] (fun i wr => ∃ b : Nat, i = .int .i64 (b : Int) ∧ b ≤ a ∧ (∀ k, k < b → (atP D a).id ≠ (atP D k).id) ∧ w.grownBy wr none) (fun i _ => a - (intOf i).toNat)
      case atStart => exact ⟨0, rfl, Nat.zero_le _, fun k hk => by omega, HG.out⟩
      case round =>
        obtain ⟨b, rfl, hb, hall, hg⟩ := hrel
        have HAB := Lib.hid hall
        have HG2 := Lib.hid hg
        by_cases hlb : b < a
        · have l2 : (b : Int) < (a : Int) := by omega
          obtain ⟨g, o, x, rfl, _, hx, hxc⟩ := (HI.out.none (Nat.le_refl _) hg).at a hlt
          obtain ⟨g', o', y, hA, _, hy, hyc⟩ := (HI.out.none (Nat.le_refl _) hg).at b (by omega)
          simp at hA
          obtain ⟨rfl, rfl⟩ := hA
          obtain ⟨c0, _, _, _, _⟩ := pkt_five hxc
          obtain ⟨d0, _, _, _, _⟩ := pkt_five hyc
          have HXA := Lib.hid (atP_of hx)
          have HYB := Lib.hid (atP_of hy)
          have k0 : (0 : Int) ≤ (a : Int) := by omega
          have k1 : (a : Int) < (n : Int) := by omega
          have k2 : (0 : Int) ≤ (b : Int) := by omega
          have k3 : (b : Int) < (n : Int) := by omega
          obtain ⟨u, hu⟩ : ∃ u, x.id = u := ⟨_, rfl⟩
          obtain ⟨v, hv⟩ : ∃ v, y.id = v := ⟨_, rfl⟩
          rw [hu] at c0
          rw [hv] at d0
          have HU := Lib.hid hu
          have HV := Lib.hid hv
          clear hall hg hx hy hxc hyc hu hv
          by_cases huv : u = v
          · have HR := Lib.hid (HNO.out a b (by omega) hlb (by rw [HXA.out, HYB.out, HU.out, HV.out]; exact huv))
            subst huv
            go_wp2_with fail
            go_region_law (first | fail)
            all_goals
              go_wp2_with fail
              go_ret
              exact ⟨ret_bool HR.out.symm, gb_drew HG2.out⟩
          · have HUV := Lib.hid huv
            have e1 : (u == v) = false := beq_eq_false_iff_ne.2 huv
            go_wp2_with fail
            go_region_law (first | fail)
            all_goals
              go_wp2_with fail
              go_roundw
              case rel => exact ⟨b + 1, by go_num, by omega, fun k hk => by
                rcases Nat.lt_or_ge k b with h1 | h1
                · exact HAB.out k h1
                · obtain rfl : k = b := by omega
                  rw [HXA.out, HYB.out, HU.out, HV.out]
                  exact HUV.out, gb_drew HG2.out⟩
              case measure => simp [intOf]; omega
        · obtain rfl : b = a := by omega
          have l2 : ¬ (b : Int) < (b : Int) := by omega
          clear hall hg
          go_wp2_with fail
          go_roundw
          case rel => exact ⟨b + 1, by go_num, by omega, fun i hi k hk => by
            rcases Nat.lt_or_ge i b with h1 | h1
            · exact HALL.out i h1 k hk
            · obtain rfl : i = b := by omega
              exact HAB.out k hk, HG2.out⟩
          case measure => simp [intOf]; omega
    · obtain rfl : a = n := by omega
      have l1 : ¬ (a : Int) < (a : Int) := by omega
      have HR := Lib.hid (HYES.out (fun i hi => HALL.out i (by omega)))
      go_wp2_with fail
      go_ret
      exact ⟨ret_bool HR.out.symm, HG.out⟩
end Go.Proofs.Ytfloekbmgjmhbaa
