/- What is proved here: a slice of 16 truths as a set of turns, and what the model's l07Mark returns of it: the numbers of the set, ascending; only new blocks are written. -/
import Derived.Test.YtecaehkckamhkaaTurnM
import Derived.Test.YtecaehkckamhkaaIntAt
import Derived.Test.YtecaehkckamhkaaNewI
namespace Go.Proofs.Ytecaehkckamhkaa
open Go.ChangeShapes Go.WideShapes Go.ChangeAt Go.RowKit
set_option linter.unusedVariables false
set_option maxRecDepth 20000

/-- The truths of a set's numbers below 16, as cells. -/
def cellsF (f : Nat → Bool) : Array Value := ((List.range 16).map fun i => Value.bool (f i)).toArray
theorem cellsF_at (f : Nat → Bool) {i : Nat} (h : i < 16) : (cellsF f)[i]? = some (.bool (f i)) := by
  simp [cellsF, h]
theorem cellsF_set (f : Nat → Bool) (i : Nat) (b : Bool) : (cellsF f).setIfInBounds i (.bool b) = cellsF (fun x => if x = i then b else f x) := by
  unfold cellsF
  rw [List.setIfInBounds_toArray]
  congr 1
  refine List.ext_getElem (by simp) fun j h1 h2 => ?_
  simp only [List.length_set, List.length_map, List.length_range] at h1
  by_cases e : j = i
  · subst e; simp
  · simp [Ne.symm e, e]
theorem cellsF_none : cellsF (fun _ => false) = #[.bool false, .bool false, .bool false, .bool false, .bool false, .bool false, .bool false, .bool false, .bool false, .bool false, .bool false, .bool false, .bool false, .bool false, .bool false, .bool false] := rfl

def MarkAt (b : Nat) (f : Nat → Bool) (w : World) (k : Nat) (v : Value) (wr : World) : Prop :=
  wr.ownsRow w.heap.size 3 1 v (setL f k).length (intsV (setL f k)) ∧ Below w.heap.size w wr

theorem specMark (b : Nat) (f : Nat → Bool) (w : World) (h : ∀ i, i < 16 → w.cell? ⟨b, i, none⟩ = some (.bool (f i))) (hb : b < w.heap.size) :
    Calls Try.prog 93 #[.slice (some ⟨b, 0, none⟩) 16 16] w (NewI (setL f 16) w) := by
  obtain ⟨i0, hi, hz0, hz1, hz2⟩ := info_parts info_int
  have HC := Lib.hid h
  clear h
  have X0 := Lib.hid (show MarkAt b f w 0 (.slice (some ⟨w.heap.size, 0, none⟩) 0 0) (w.alloc (.cells #[] 3)) from
    ⟨World.ownsRow_made w #[] 0 (Nat.le_refl _) (by decide) rfl, (Below.refl _ _).alloc (Nat.le_refl _) _⟩)
  go_enter Try.func93, Try.ntmps93
  go_wp2_with fail
  go_loopw [3, 4] (fun v i wr => ∃ k : Nat, i = .int .i64 (k : Int) ∧ k ≤ 16 ∧ MarkAt b f w k v wr) (fun _ i _ => 16 - (intOf i).toNat)
  case atStart => exact ⟨0, rfl, by omega, X0.out⟩
  case round =>
    obtain ⟨k, rfl, hk, hx⟩ := hrel
    have X := Lib.hid hx
    clear hx
    by_cases hlt : k < 16
    · have hki : (k : Int) < 16 := by omega
      have c1 := (World.cell?_of_block (X.out.2.block b hb)).trans (HC.out k hlt)
      cases hf : f k with
      | false =>
        rw [hf] at c1
        have HE := Lib.hid (setL_no hf)
        clear hf
        go_wp2_with fail
        go_roundw
        case rel => exact ⟨k + 1, by go_num, by omega, by rw [MarkAt, HE.out]; exact X.out⟩
        case measure => simp [intOf]; omega
      | true =>
        rw [hf] at c1
        have HE := Lib.hid (setL_yes hf)
        have hlen := setL_len f k
        have hsz1 : w.heap.size ≤ wr.heap.size := X.out.2.size
        have b3' := Lib.hid (show ∀ u ∈ [Value.int .i64 (k : Int)], u.oneCell' = true by simp [Value.oneCell'])
        have b4' := Lib.hid (show (setL f k).length + 1 ≤ maxLen by unfold maxLen; omega)
        clear hf
        go_wp2_with (at_builtin; refine wpList_append_own _ rfl _ _ 24 rfl w.heap.size 3 i0 (.int .i64 0) 1 8 Try.underlying24 hi hz0 hz1 hz2 rfl (by decide) _ (setL f k).length _ rfl (X.out.1.alloc _) ⟨wr.heap.size, 0, none⟩ 1 1 [.int .i64 (k : Int)] rfl rfl (World.news_of_block (cs := #[.int .i64 (k : Int)]) (t := 3) (fr := (0, 0)) (heap_alloc_new wr _)) b3'.out b4'.out (by omega) (by simp; omega) ?_; intro v' w4 hown4 hgrow4 _)
        have X4 := Lib.hid (show MarkAt b f w (k + 1) v' w4 from by
          refine ⟨by rw [HE.out, List.length_append, intsV_append]; exact hown4, ?_⟩
          exact (X.out.2.alloc X.out.2.size _).grown hgrow4 (by have := X.out.2.size; simp; omega) (fun j hj => (X.out.1.lt j hj).1))
        clear hown4 hgrow4 c1
        go_wp2_with fail
        go_roundw
        case rel => exact ⟨k + 1, by go_num, by omega, X4.out⟩
        case measure => simp [intOf]; omega
    · obtain rfl : k = 16 := by omega
      go_wp2_with fail
      go_ret
      exact ⟨_, rfl, X.out.1, X.out.2⟩
end Go.Proofs.Ytecaehkckamhkaa
