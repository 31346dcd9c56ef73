/- What is proved here: what the program's IsLoopFree returns for numbers of 64 bits; only new blocks are written. -/
import Derived.Test.YtakigpgkcneboaaRouteI
namespace Go.Proofs.Ytakigpgkcneboaa
open Go.ChangeShapes Go.WideShapes Go.ChangeAt Go.RowKit
set_option linter.unusedVariables false

theorem implIsLoopFree (W H : Int) (A A2 : Option Addr) (n cap n2 c2 : Nat) (L R : List Int) (b : Bool) (hb : freeG (nodesG W H L R) = b) (hL : WfL L) (hR : WfL R) (w : World) (h : IntAt w w.heap.size A n L) (h2 : IntAt w w.heap.size A2 n2 R) (hn : n ≤ 1000000000) (hn2 : n2 ≤ 100000000) :
    Calls Try.prog 18 #[.agg #[.int .i64 W, .int .i64 H, .slice A n cap], .slice A2 n2 c2] w (RetB b w) := by
  have S0 := Lib.hid (OneAt.start (W := W) (H := H) (A := A) (n := n) (cap := cap) (gb_refl (w.alloc (.cells (meshC W H A n cap) 28)) none))
  have H0 := Lib.hid (S0.out.row h)
  have H2 := Lib.hid (S0.out.row h2)
  have HB := Lib.hid S0.out.old
  have hle := nodes_le (W := W) (H := H) (L := L) (r := R)
  rw [h2.1] at hle
  obtain ⟨N, hN⟩ : ∃ N, nodesG W H L R = N := ⟨_, rfl⟩
  rw [hN] at hle hb
  have HC := Lib.hid (fun w h h2 => show Calls Try.prog 15 #[.agg #[.int .i64 W, .int .i64 H, .slice A n cap], .slice A2 n2 c2] w (NewI N w) from hN ▸ implRouteNodes W H A A2 n cap n2 c2 L R hL hR w h h2 hn (by omega))
  have HY := Lib.hid (fun (h : freeTo N N.length) => show decide (0 < N.length) = b by rw [← hb, free_yes h])
  have HNo := Lib.hid (fun (i : Nat) (hi : i < N.length) (h : freeAt N i = false) => show false = b by rw [← hb, free_no hi h])
  clear hN hL hR hb h h2
  go_enter Try.func18, Try.ntmps18
  go_wp2_with fail
  refine (HC.out _ H0.out H2.out).mono ?_
  rintro e w1 ⟨v, rfl, ho, hbl⟩
  obtain ⟨A', c', rfl, _⟩ := own_form ho
  have HG := Lib.hid (gb_of_below (HB.out.trans (hbl.mono HB.out.size)) none)
  have HI := Lib.hid (intAt_own ho rfl (Nat.le_refl _))
  have hcap := (own_cap ho).1
  clear ho hbl
  go_wp2_with fail
  go_loopw [13] (fun i wr => ∃ k : Nat, i = .int .i64 (k : Int) ∧ k ≤ N.length ∧ freeTo N k ∧ w1 = wr) (fun i _ => N.length - (intOf i).toNat)
  case atStart => exact ⟨0, rfl, Nat.zero_le _, free_zero N, rfl⟩
  case round =>
    obtain ⟨k, rfl, hk, hfr, rfl⟩ := hrel
    have HF := Lib.hid hfr
    clear hfr
    by_cases hlt : k < N.length
    · obtain ⟨b', off, rfl, hb', hc⟩ := HI.out.at k hlt
      obtain ⟨x, hx⟩ : ∃ x, N.getD k 0 = x := ⟨_, rfl⟩
      rw [hx] at hc
      have k0 : (0 : Int) ≤ (k : Int) := by omega
      have k1 : (k : Int) ≤ (k : Int) := Int.le_refl _
      have k2 : (k : Int) ≤ (c' : Int) := by omega
      have ht := HI.out.take (Nat.le_of_lt hlt)
      obtain ⟨q, hq⟩ : ∃ q, inG (N.take k) x = q := ⟨_, rfl⟩
      have HCo := Lib.hid (fun w h => implContains (some ⟨b', off, none⟩) k k w1.heap.size (N.take k) x q hq w h (by omega))
      have HAt := Lib.hid (free_at hx hq)
      have HT := Lib.hid ht
      clear hx hq ht
      go_wp2_with fail
      refine (HCo.out _ HT.out).mono ?_
      rintro e w2 ⟨rfl, rfl⟩
      cases q with
      | true =>
        have HN0 := Lib.hid (HNo.out k hlt HAt.out)
        clear hc
        go_wp2_with fail
        go_ret
        exact ⟨ret_bool HN0.out, HG.out⟩
      | false =>
        have HN1 := Lib.hid (free_succ HF.out HAt.out)
        clear hc
        go_wp2_with fail
        go_roundw
        case rel => exact ⟨k + 1, by go_num, by omega, HN1.out, by trivial⟩
        case measure => simp [intOf]; omega
    · obtain rfl : k = N.length := by omega
      have HF2 := Lib.hid (HY.out HF.out)
      go_wp2_with fail
      go_ret
      exact ⟨ret_bool HF2.out, HG.out⟩
end Go.Proofs.Ytakigpgkcneboaa
