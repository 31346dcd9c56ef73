/- What is proved here: what the program's SuccessorsOf and ShiftDepends return; only new blocks are written. -/
import Derived.Test.YtnielgpcfgfioaaDokI
import Derived.Test.YtnielgpcfgfioaaNewR
namespace Go.Proofs.Ytnielgpcfgfioaa
open Go.ChangeShapes Go.WideShapes Go.ChangeAt Go.RowKit
set_option linter.unusedVariables false
set_option maxRecDepth 20000

theorem boxD_size (d : Dep) (w : World) : (boxD d w).heap.size = w.heap.size + 1 := alloc_size _ _
theorem boxD_below {w wr : World} (h : Below w.heap.size w wr) (d : Dep) : Below w.heap.size w (boxD d wr) := h.alloc h.size _
theorem new_at1 (w : World) (o o2 : Obj) : ((w.alloc o).alloc o2).heap[w.heap.size + 1]? = some o2 := by
  have h := heap_alloc_new (w.alloc o) o2
  rw [alloc_size] at h
  exact h
theorem own_eqI {w : World} {base : Nat} {v : Value} {L L' : List Int} (h : L = L') (ho : w.ownsRow base 3 1 v L.length (intsV L)) : w.ownsRow base 3 1 v L'.length (intsV L') := by subst h; exact ho
theorem implSuccessors (A : Option Addr) (n cap : Nat) (D : List Dep) (c : Int) (w : World) (h : DepAt w w.heap.size A n D) (hn : n ≤ 4000000000) :
    Calls Try.prog 60 #[.slice A n cap, .int .i64 c] w (NewI (succD D c) w) := by
  obtain ⟨i0, hi, hz0, hz1, hz2⟩ := info_parts info_int
  have HI := Lib.hid h
  have hl := h.1
  have HALL := Lib.hid (show succD (D.take n) c = succD D c by rw [← hl]; exact succ_all D c)
  clear h
  go_enter Try.func60, Try.ntmps60
  go_wp2_with fail
  go_loopw [5, 10] (fun v i wr => ∃ k : Nat, i = .int .i64 (k : Int) ∧ k ≤ n ∧ wr.ownsRow w.heap.size 3 1 v (succD (D.take k) c).length (intsV (succD (D.take k) c)) ∧ Below w.heap.size w wr) (fun _ i _ => n - (intOf i).toNat)
  case atStart => exact ⟨0, rfl, Nat.zero_le _, World.ownsRow_nil _ _ _ _, Below.refl _ _⟩
  case round =>
    obtain ⟨k, rfl, hk, ho, hb⟩ := hrel
    have HB := Lib.hid hb
    have HO := Lib.hid ho
    have hai := HI.out.below hb
    obtain ⟨Ao, co, rfl, _⟩ := own_form ho
    clear ho hb
    by_cases hlt : k < n
    · obtain ⟨b1, off, rfl, hb1, c0, c1⟩ := hai.at k hlt
      obtain ⟨x, hx⟩ : ∃ x, atD D k = x := ⟨_, rfl⟩
      rw [hx] at c0 c1
      have k0 : (0 : Int) ≤ (k : Int) := by omega
      have k1 : (k : Int) < (n : Int) := by omega
      have hkl : k < D.length := by omega
      have hlen : (succD (D.take k) c).length ≤ k := Nat.le_trans (succ_length _ _) (by simp; omega)
      clear hai
      by_cases hc : x.1 = c
      · have HE := Lib.hid (succ_yes (c := c) hkl (by rw [hx]; exact hc))
        rw [hx] at HE
        subst hc
        have hsz1 : w.heap.size ≤ wr.heap.size := HB.out.size
        have b3' := Lib.hid (show ∀ u ∈ [Value.int .i64 x.2], u.oneCell' = true by simp [Value.oneCell'])
        have b4' := Lib.hid (show (succD (D.take k) x.1).length + 1 ≤ maxLen by unfold maxLen; omega)
        go_wp2_with (at_builtin; refine wpList_append_own _ rfl _ _ 24 rfl w.heap.size 3 i0 (.int .i64 0) 1 8 Try.underlying24 hi hz0 hz1 hz2 rfl (by decide) _ (succD (D.take k) x.1).length _ rfl ((HO.out.alloc _).alloc _) ⟨wr.heap.size + 1, 0, none⟩ 1 1 [.int .i64 x.2] rfl rfl (World.news_of_block (cs := #[.int .i64 x.2]) (t := 3) (fr := (0, 0)) (new_at1 wr _ _)) b3'.out b4'.out (by omega) (by simp; omega) ?_; intro v' w4 hown4 hgrow4 _)
        have X4 := Lib.hid (show w4.ownsRow w.heap.size 3 1 v' (succD (D.take (k + 1)) x.1).length (intsV (succD (D.take (k + 1)) x.1)) ∧ Below w.heap.size w w4 from by
          refine ⟨by rw [HE.out, List.length_append, intsV_append]; exact hown4, ?_⟩
          exact ((boxD_below HB.out x).alloc (by have := HB.out.size; rw [boxD_size]; omega) _).grown hgrow4 (by have := HB.out.size; have := boxD_size x wr; simp; omega) (fun j hj => (HO.out.lt j hj).1))
        clear hown4 hgrow4 c0 c1 hx
        go_wp2_with fail
        go_roundw
        case rel => exact ⟨k + 1, by go_num, by omega, X4.out.1, X4.out.2⟩
        case measure => simp [intOf]; omega
      · have HE := Lib.hid (succ_no (c := c) hkl (by rw [hx]; exact hc))
        clear hx
        go_wp2_with fail
        go_roundw
        case rel => exact ⟨k + 1, by go_num, by omega, by rw [HE.out]; exact HO.out.alloc _, boxD_below HB.out x⟩
        case measure => simp [intOf]; omega
    · obtain rfl : k = n := by omega
      clear hai
      go_wp2_with fail
      go_ret
      exact ⟨_, rfl, own_eqI HALL.out HO.out, HB.out⟩

end Go.Proofs.Ytnielgpcfgfioaa
