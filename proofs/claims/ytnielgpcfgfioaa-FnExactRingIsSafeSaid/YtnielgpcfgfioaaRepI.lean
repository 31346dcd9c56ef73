/- What is proved here: what the library's Repeat of one number, 128 times, returns: a row of its own of 128 such numbers; only new blocks are written. -/
import Derived.Test.YtnielgpcfgfioaaNewR
import Derived.Laws.CopyOwn
namespace Go.Proofs.Ytnielgpcfgfioaa
open Go.ChangeShapes Go.WideShapes Go.ChangeAt Go.RowKit
set_option linter.unusedVariables false
set_option maxRecDepth 20000

theorem libMul64 (w : World) : Calls Try.prog 65 #[.int .u64 1, .int .u64 128] w fun e w' => e = .returned (.tuple #[.int .u64 0, .int .u64 128]) ∧ w = w' := by
  go_enter Try.func65, Try.ntmps65
  go_wp2_with fail
  go_ret2
  exact ⟨rfl, rfl⟩
theorem libMul (w : World) : Calls Try.prog 62 #[.int .u64 1, .int .u64 128] w fun e w' => e = .returned (.tuple #[.int .u64 0, .int .u64 128]) ∧ w = w' := by
  go_enter Try.func62, Try.ntmps62
  go_wp2_with fail
  refine (libMul64 _).mono ?_
  rintro e w1 ⟨rfl, rfl⟩
  go_wp2_with fail
  go_ret2
  exact ⟨rfl, rfl⟩

theorem splice_at {L : List Value} {x : Value} {k m : Nat} (hk : k ≤ L.length) (h : ∀ j, j < k → L[j]? = some x) : ∀ j, j < k + m → (splice L k (List.replicate m x))[j]? = some x := by
  intro j hj
  unfold splice
  by_cases h1 : j < k
  · rw [List.getElem?_append_left (by rw [List.length_take]; omega), List.getElem?_take_of_lt h1]
    exact h j h1
  · have hl : (L.take k).length = k := by rw [List.length_take]; omega
    rw [List.getElem?_append_right (by omega), hl, List.getElem?_append_left (by simp; omega), List.getElem?_replicate, if_pos (by omega)]
theorem splice_len {L : List Value} {x : Value} {k m : Nat} (hk : k + m ≤ L.length) : (splice L k (List.replicate m x)).length = L.length := length_splice _ _ _ (by simpa using hk)
/-- The new row, whose first k cells are -1. -/
def RepAt (w : World) (L : List Value) (k : Nat) (wr : World) : Prop :=
  wr.heap[w.heap.size]? = some (.cells L.toArray 3 (0, 0)) ∧ L.length = 128 ∧ (∀ j, j < k → L[j]? = some (.int .i64 (-1))) ∧ Below w.heap.size w wr
theorem rep_cell {w wr : World} {L : List Value} {k : Nat} (h : RepAt w L k wr) {j : Nat} (hj : j < k) : wr.cell? ⟨w.heap.size, j, none⟩ = some (.int .i64 (-1)) := by
  have h1 := h.1
  have h2 := h.2.2.1 j hj
  simp [World.cell?, h1, h2]
theorem rep_add {w wr : World} {L : List Value} {k : Nat} (h : RepAt w L k wr) {j : Nat} (hj : j < k) : wr.cell? ((⟨w.heap.size, 0, none⟩ : Addr).add j) = some (.int .i64 (-1)) := by
  rw [Addr.add_lit, Nat.zero_add]
  exact rep_cell h hj
theorem ints_rep (n : Nat) (x : Int) : intsV (List.replicate n x) = List.replicate n (.int .i64 x) := by unfold intsV; rw [List.map_replicate]
theorem rep_own {w wr : World} {L : List Value} (h : RepAt w L 128 wr) : wr.ownsRow w.heap.size 3 1 (.slice (some ⟨w.heap.size, 0, none⟩) 128 128) 128 (intsV (List.replicate 128 (-1))) := by
  rw [ints_rep]
  refine ⟨by rw [List.length_replicate], .inr ⟨w.heap.size, 128, L.toArray, rfl, Nat.le_refl _, h.1, Nat.le_refl _, by decide, by simp [h.2.1], ?_⟩⟩
  apply List.ext_getElem?
  intro j
  rw [List.getElem?_replicate]
  by_cases hj : j < 128
  · rw [List.getElem?_take_of_lt (by omega), if_pos hj]
    exact h.2.2.1 j hj
  · rw [List.getElem?_eq_none (by simp; omega), if_neg hj]

theorem libRepeat (b o : Nat) (w : World) (hx : w.cell? ⟨b, o, none⟩ = some (.int .i64 (-1))) :
    Calls Try.prog 58 #[.slice (some ⟨b, o, none⟩) 1 1, .int .i64 128] w fun e w' => ∃ v, e = .returned v ∧ w'.ownsRow w.heap.size 3 1 v 128 (intsV (List.replicate 128 (-1))) ∧ Below w.heap.size w w' := by
  obtain ⟨i0, hi, hz0, hz1, hz2⟩ := info_parts info_int
  have hsz : (Try.prog.info? 3).map (·.size) = some 1 := by rw [hi]; simp [hz1]
  obtain ⟨Z, hZl, hmk⟩ : ∃ Z : List Value, Z.length = 128 ∧ ∀ w, (Instr.makeSlice 24 (.int .i64 128) (.int .i64 128)).run Try.prog w = .ok (.slice (some ⟨w.heap.size, 0, none⟩) 128 128) (w.alloc (.cells Z.toArray 3)) := by
    refine ⟨(madeCells #[Value.int .i64 0] 128).toList, by simp [madeCells], fun w => ?_⟩
    have := run_make (P := Try.prog) w 24 3 i0 (.int .i64 0) Try.underlying24 hi hz0 .i64 .i64 128 128 (by decide) (by decide) (by rw [hz2]; decide) (by decide)
    rw [hz1] at this
    simpa [Value.cells] using this
  have HM := Lib.hid (fun w => libMul w)
  have HX := Lib.hid hx
  have HZ := Lib.hid hZl
  have HL0 := Lib.hid (fun w => (Below.refl w.heap.size w).alloc (Nat.le_refl _) (.cells Z.toArray 3))
  have HN := Lib.hid (fun w : World => heap_alloc_new w (.cells Z.toArray 3))
  have b3 := Lib.hid (show ∀ u ∈ [Value.int .i64 (-1)], u.oneCell' = true by simp [Value.oneCell'])
  have HXA := Lib.hid ((gb_alloc (gb_refl w none) (.cells Z.toArray 3)).cell hx (by simp))
  clear hx hZl
  go_enter Try.func58, Try.ntmps58
  go_wp2_with fail
  refine (HM.out _).mono ?_
  rintro e w1 ⟨rfl, rfl⟩
  go_wp2_with (refine wpList_copy_splice rfl (.tmp 31) (.tmp 32) 24 24 rfl 3 Try.underlying24 hsz _ _ _ _ _ _ rfl rfl w.heap.size 0 Z 3 (HN.out w) [.int .i64 (-1)] rfl (fun _ => ⟨rfl, _, rfl, fun j v hj => by cases j with | zero => (cases hj; exact HXA.out) | succ j => simp at hj⟩) (by rw [HZ.out]; decide) b3.out w.heap.size w (HL0.out w) (Nat.le_refl _) ?_; intro w2 hg2 hb2)
  have X2 := Lib.hid (show RepAt w (splice Z 0 (List.replicate 1 (.int .i64 (-1)))) 1 w2 from ⟨hg2, by rw [splice_len (by rw [HZ.out]; decide)]; exact HZ.out, fun j hj => splice_at (m := 1) (Nat.zero_le _) (fun j h => by omega) j (by omega), hb2⟩)
  clear hg2 hb2
  go_wp2_with fail
  go_loopw [8] (fun i wr => ∃ (k : Nat) (L : List Value), i = .int .i64 (k : Int) ∧ 1 ≤ k ∧ k ≤ 128 ∧ RepAt w L k wr) (fun i _ => 128 - (intOf i).toNat)
  case atStart => exact ⟨1, _, rfl, Nat.le_refl _, by decide, X2.out⟩
  case round =>
    obtain ⟨k, L, rfl, h1, hk, hx⟩ := hrel
    have X3 := Lib.hid hx
    clear hx
    by_cases hlt : k < 128
    · obtain ⟨m, hm⟩ : ∃ m, Nat.min k (128 - k) = m := ⟨_, rfl⟩
      have hm1 : 1 ≤ m := by rw [← hm]; exact Nat.le_min.2 ⟨h1, by omega⟩
      have hm2 : m ≤ k ∧ m ≤ 128 - k := by rw [← hm]; exact ⟨Nat.min_le_left _ _, Nat.min_le_right _ _⟩
      have k0 : (0 : Int) ≤ (k : Int) := by omega
      have k1 : (k : Int) < 128 := by omega
      have k2 : (k : Int) ≤ 128 := by omega
      have k3 : ¬ 128 = k := by omega
      have HB3 := Lib.hid (fun q => show Below w.heap.size w (wr.drewN q) from ⟨X3.out.2.2.2.os, X3.out.2.2.2.tape, X3.out.2.2.2.output, X3.out.2.2.2.size, X3.out.2.2.2.block⟩)
      have HH := Lib.hid X3.out.1
      have HC := Lib.hid (fun j (hj : j < k) => rep_add X3.out hj)
      have hml := Lib.hid (show (List.replicate m (Value.int .i64 (-1))).length = k.min (128 - k) by rw [List.length_replicate, hm])
      have hmf := Lib.hid (show k + (List.replicate m (Value.int .i64 (-1))).length ≤ L.length by rw [List.length_replicate, X3.out.2.1]; omega)
      have b4 := Lib.hid (show ∀ u ∈ List.replicate m (Value.int .i64 (-1)), u.oneCell' = true from fun u hu => by rw [List.eq_of_mem_replicate hu]; rfl)
      have HS := Lib.hid (fun j v (hj : (List.replicate m (Value.int .i64 (-1)))[j]? = some v) => show j < k ∧ v = .int .i64 (-1) by
        rw [List.getElem?_replicate] at hj
        split at hj
        · cases hj; exact ⟨by omega, rfl⟩
        · cases hj)
      obtain ⟨cs, hcs⟩ : ∃ cs, cs = List.replicate m (Value.int .i64 (-1)) := ⟨_, rfl⟩
      have HCS := Lib.hid hcs
      have hadd : IntKind.i64.wrap ((k : Int) + (cs.length : Int)) = ((k + m : Nat) : Int) := by rw [hcs, List.length_replicate, IntWalk.i64_in _ (by omega)]; omega
      rw [← hcs] at hml hmf b4 HS
      clear hcs hm
      go_wp2_with fail
      go_region_law (refine step_copy_splice rfl (.tmp 41) (.tmp 44) 24 24 rfl 3 Try.underlying24 hsz (some ⟨w.heap.size, k, none⟩) (some ⟨w.heap.size, 0, none⟩) (128 - k) (128 - k) k 128 (by simp [Act.eval, Act.put]) (by simp [Act.eval, Act.put]) w.heap.size k L 3 HH.out cs hml.out (fun _ => ⟨rfl, _, rfl, fun j v hj => by obtain ⟨h1, rfl⟩ := HS.out j v hj; exact HC.out j h1⟩) hmf.out b4.out w.heap.size w (HB3.out _) (Nat.le_refl _) ?_; intro w4 hg4 hb4)
      have X5 := Lib.hid (show RepAt w (splice L k (List.replicate m (.int .i64 (-1)))) (k + m) w4 from by
        rw [HCS.out] at hg4
        exact ⟨hg4, by rw [splice_len (by rw [X3.out.2.1]; omega)]; exact X3.out.2.1, splice_at (by rw [X3.out.2.1]; omega) X3.out.2.2.1, hb4⟩)
      clear hg4 hb4
      simp [Act.put]
      go_roundw
      case rel =>
        refine ⟨_, _, _, _, _, _, _, _, _, _, _, _, _, _, ?_, rfl⟩
        exact ⟨k + m, _, by go_num, by omega, by omega, X5.out⟩
      case measure => simp [intOf]; omega
    · obtain rfl : k = 128 := by omega
      go_wp2_with fail
      go_ret
      exact ⟨_, rfl, rep_own X3.out, X3.out.2.2.2⟩
end Go.Proofs.Ytnielgpcfgfioaa
