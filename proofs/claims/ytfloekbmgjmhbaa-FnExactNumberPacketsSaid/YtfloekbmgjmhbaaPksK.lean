/- What is proved here: the laws' marks in lists of packets: set, and looked for; only the marked row is written. -/
import Derived.Test.YtfloekbmgjmhbaaPksL
namespace Go.Proofs.Ytfloekbmgjmhbaa
open Go.ChangeShapes Go.WideShapes Go.ChangeAt Go.RowKit
set_option linter.unusedVariables false
set_option maxRecDepth 20000

/-- The marks of one flit. -/
def mkP (y : Nat) : Pkt := ⟨(y : Int), ((y + 1 : Nat) : Int), ((y + 2 : Nat) : Int), ((y + 3 : Nat) : Int), ((y + 4 : Nat) : Int)⟩
def markP (k0 n j : Nat) (l : List Pkt) : List Pkt := (List.range n).map fun t => if t < j then mkP (k0 + t * 5) else atP l t
theorem markP_zero (k0 n : Nat) (l : List Pkt) (h : l.length = n) : markP k0 n 0 l = l := by
  refine List.ext_getElem (by simp [markP, h]) fun i h1 h2 => ?_
  simp only [markP, List.getElem_map, List.getElem_range, Nat.not_lt_zero, if_false]
  have := atP_get h2
  rw [List.getElem?_eq_getElem h2] at this
  exact (Option.some.inj this).symm
theorem markP_succ (k0 n j : Nat) (l : List Pkt) : (markP k0 n j l).set j (mkP (k0 + j * 5)) = markP k0 n (j + 1) l := by
  refine List.ext_getElem (by simp [markP]) fun i h1 h2 => ?_
  rw [List.getElem_set]
  by_cases e : j = i
  · subst e; simp [markP]
  · simp only [e, if_false, markP, List.getElem_map, List.getElem_range]
    by_cases hi : i < j
    · rw [if_pos hi, if_pos (by omega)]
    · rw [if_neg hi, if_neg (by omega)]
theorem markP_length (k0 n j : Nat) (l : List Pkt) : (markP k0 n j l).length = n := by simp [markP]
def marksP (k0 n : Nat) : List Pkt := markP k0 n n []
theorem markP_all (k0 n : Nat) (l : List Pkt) : markP k0 n n l = marksP k0 n := by
  refine List.ext_getElem (by simp [markP, marksP]) fun i h1 h2 => ?_
  have : i < n := by simpa [markP] using h1
  simp [markP, marksP, this]
theorem marksP_length (k0 n : Nat) : (marksP k0 n).length = n := markP_length k0 n n []
theorem marksP_get (k0 n j : Nat) (h : j < n) : (marksP k0 n)[j]? = some (mkP (k0 + j * 5)) := by
  simp [marksP, markP, h]

set_option maxHeartbeats 1600000 in
theorem lawsMarkP (v : Value) (base n k0 : Nat) (l : List Pkt) (w : World) (h : w.ownsRow base 44 5 v n (recV pktC l)) (hk : k0 + n * 5 ≤ 1000000000) :
    Calls Try.prog 28 #[v, .int .i64 (k0 : Int)] w fun e w' => e = .returned (.int .i64 ((k0 + n * 5 : Nat) : Int)) ∧ w'.ownsRow base 44 5 v n (recV pktC (marksP k0 n)) ∧ w.grownBy w' v.ownBlock := by
  have hxl := own_rec_length pktL (by decide) h
  obtain ⟨A, cap, rfl, ha⟩ := own_form h
  have h' := h
  rw [← markP_zero k0 n l hxl] at h'
  clear h hxl
  have H0 := Lib.hid h'
  clear h'
  go_enter Try.func28, Try.ntmps28
  go_wp2_with fail
  go_loopw [1, 5] (fun q i wr => ∃ j : Nat, j ≤ n ∧ q = .int .i64 ((k0 + j * 5 : Nat) : Int) ∧ i = .int .i64 (j : Int) ∧ wr.ownsRow base 44 5 (.slice A n cap) n (recV pktC (markP k0 n j l)) ∧ w.grownBy wr (Value.slice A n cap).ownBlock) (fun _ i _ => n - (intOf i).toNat)
  case atStart => exact ⟨0, Nat.zero_le _, rfl, rfl, H0.out, gb_refl _ _⟩
  case round =>
    obtain ⟨j, hj, rfl, rfl, hown, hgr⟩ := hrel
    have HG := Lib.hid hgr
    clear hgr
    by_cases hlt : j < n
    · obtain ⟨g, rfl⟩ := ha (by omega)
      clear ha
      obtain ⟨y, hy⟩ : ∃ y : Nat, k0 + j * 5 = y := ⟨_, rfl⟩
      have hy9 : y + 5 ≤ 1000000005 := by omega
      have hLV : (recV pktC (markP k0 n j l)).length = n * 5 := by rw [recV_length pktL, markP_length]
      obtain ⟨y1, e1⟩ : ∃ z, y + 1 = z := ⟨_, rfl⟩
      obtain ⟨y2, e2⟩ : ∃ z, y + 2 = z := ⟨_, rfl⟩
      obtain ⟨y3, e3⟩ : ∃ z, y + 3 = z := ⟨_, rfl⟩
      obtain ⟨y4, e4⟩ : ∃ z, y + 4 = z := ⟨_, rfl⟩
      obtain ⟨y5, e5⟩ : ∃ z, y + 5 = z := ⟨_, rfl⟩
      have hc0 := hown.cellAt (j * 5) (by omega)
      have hi0 : j * 5 < (recV pktC (markP k0 n j l)).length := by rw [hLV]; omega
      obtain ⟨w0, hw0⟩ : ∃ u, (recV pktC (markP k0 n j l))[j * 5]? = some u := ⟨_, List.getElem?_eq_getElem hi0⟩
      rw [hw0] at hc0
      clear hw0 hi0
      have hf0 := hown.frozenAt (j * 5)
      obtain ⟨hown1, hg1⟩ := hown.stored (j * 5) (.int .i64 (y : Int))
      have hc1 := hown1.cellAt (j * 5 + 1) (by omega)
      have hi1 : j * 5 + 1 < ((recV pktC (markP k0 n j l)).set (j * 5) (.int .i64 (y : Int))).length := by simp only [List.length_set]; rw [hLV]; omega
      obtain ⟨w1, hw1⟩ : ∃ u, ((recV pktC (markP k0 n j l)).set (j * 5) (.int .i64 (y : Int)))[j * 5 + 1]? = some u := ⟨_, List.getElem?_eq_getElem hi1⟩
      rw [hw1] at hc1
      clear hw1 hi1
      have hf1 := hown1.frozenAt (j * 5 + 1)
      obtain ⟨hown2, hg2⟩ := hown1.stored (j * 5 + 1) (.int .i64 (y1 : Int))
      have hc2 := hown2.cellAt (j * 5 + 2) (by omega)
      have hi2 : j * 5 + 2 < (((recV pktC (markP k0 n j l)).set (j * 5) (.int .i64 (y : Int))).set (j * 5 + 1) (.int .i64 (y1 : Int))).length := by simp only [List.length_set]; rw [hLV]; omega
      obtain ⟨w2, hw2⟩ : ∃ u, (((recV pktC (markP k0 n j l)).set (j * 5) (.int .i64 (y : Int))).set (j * 5 + 1) (.int .i64 (y1 : Int)))[j * 5 + 2]? = some u := ⟨_, List.getElem?_eq_getElem hi2⟩
      rw [hw2] at hc2
      clear hw2 hi2
      have hf2 := hown2.frozenAt (j * 5 + 2)
      obtain ⟨hown3, hg3⟩ := hown2.stored (j * 5 + 2) (.int .i64 (y2 : Int))
      have hc3 := hown3.cellAt (j * 5 + 3) (by omega)
      have hi3 : j * 5 + 3 < ((((recV pktC (markP k0 n j l)).set (j * 5) (.int .i64 (y : Int))).set (j * 5 + 1) (.int .i64 (y1 : Int))).set (j * 5 + 2) (.int .i64 (y2 : Int))).length := by simp only [List.length_set]; rw [hLV]; omega
      obtain ⟨w3, hw3⟩ : ∃ u, ((((recV pktC (markP k0 n j l)).set (j * 5) (.int .i64 (y : Int))).set (j * 5 + 1) (.int .i64 (y1 : Int))).set (j * 5 + 2) (.int .i64 (y2 : Int)))[j * 5 + 3]? = some u := ⟨_, List.getElem?_eq_getElem hi3⟩
      rw [hw3] at hc3
      clear hw3 hi3
      have hf3 := hown3.frozenAt (j * 5 + 3)
      obtain ⟨hown4, hg4⟩ := hown3.stored (j * 5 + 3) (.int .i64 (y3 : Int))
      have hc4 := hown4.cellAt (j * 5 + 4) (by omega)
      have hi4 : j * 5 + 4 < (((((recV pktC (markP k0 n j l)).set (j * 5) (.int .i64 (y : Int))).set (j * 5 + 1) (.int .i64 (y1 : Int))).set (j * 5 + 2) (.int .i64 (y2 : Int))).set (j * 5 + 3) (.int .i64 (y3 : Int))).length := by simp only [List.length_set]; rw [hLV]; omega
      obtain ⟨w4, hw4⟩ : ∃ u, (((((recV pktC (markP k0 n j l)).set (j * 5) (.int .i64 (y : Int))).set (j * 5 + 1) (.int .i64 (y1 : Int))).set (j * 5 + 2) (.int .i64 (y2 : Int))).set (j * 5 + 3) (.int .i64 (y3 : Int)))[j * 5 + 4]? = some u := ⟨_, List.getElem?_eq_getElem hi4⟩
      rw [hw4] at hc4
      clear hw4 hi4
      have hf4 := hown4.frozenAt (j * 5 + 4)
      obtain ⟨hown5, hg5⟩ := hown4.stored (j * 5 + 4) (.int .i64 (y4 : Int))
      have hms := markP_succ k0 n j l
      rw [hy] at hms
      have hset := pktV_set5 (markP k0 n j l) j (mkP y)
      simp only [mkP, e1, e2, e3, e4] at hset
      have hms2 : (markP k0 n j l).set j ⟨(y : Int), (y1 : Int), (y2 : Int), (y3 : Int), (y4 : Int)⟩ = markP k0 n (j + 1) l := by
        rw [← hms]; simp only [mkP, e1, e2, e3, e4]
      rw [hset, hms2] at hown5
      have HOWN := Lib.hid hown5
      have HGG := Lib.hid (gb_trans HG.out (gb_trans hg1 (gb_trans hg2 (gb_trans hg3 (gb_trans hg4 hg5)))))
      have HY := Lib.hid hy
      have j0 : (0 : Int) ≤ (j : Int) := by omega
      have j1 : (j : Int) < (n : Int) := by omega
      have v1 : IntKind.i64.wrap ((y : Int) + 1) = (y1 : Int) := by rw [IntWalk.i64_in _ (by omega)]; omega
      have v2 : IntKind.i64.wrap ((y1 : Int) + 1) = (y2 : Int) := by rw [IntWalk.i64_in _ (by omega)]; omega
      have v3 : IntKind.i64.wrap ((y2 : Int) + 1) = (y3 : Int) := by rw [IntWalk.i64_in _ (by omega)]; omega
      have v4 : IntKind.i64.wrap ((y3 : Int) + 1) = (y4 : Int) := by rw [IntWalk.i64_in _ (by omega)]; omega
      have v5 : IntKind.i64.wrap ((y4 : Int) + 1) = (y5 : Int) := by rw [IntWalk.i64_in _ (by omega)]; omega
      have HY5 := Lib.hid (show y + 5 = y5 from e5)
      rw [hy]
      clear hown hown1 hown2 hown3 hown4 hown5 hg1 hg2 hg3 hg4 hg5 hms hms2 hset hy hLV e1 e2 e3 e4 e5
      go_wp2_with fail
      go_roundw
      case rel => exact ⟨j + 1, by omega, by have h1 := HY.out; have h2 := HY5.out; go_num, by go_num, HOWN.out, HGG.out⟩
      case measure => simp [intOf]; omega
    · obtain rfl : j = n := by omega
      rw [markP_all] at hown
      have HOWN := Lib.hid hown
      clear hown
      go_wp2_with fail
      go_ret
      exact ⟨rfl, HOWN.out, HG.out⟩
end Go.Proofs.Ytfloekbmgjmhbaa
