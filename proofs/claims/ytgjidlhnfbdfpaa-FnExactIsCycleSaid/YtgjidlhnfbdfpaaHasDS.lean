/- What is proved here: what the model's search of an element in a list of dependencies returns, for all arguments; nothing is written. -/
import Derived.Test.YtgjidlhnfbdfpaaPathM
import Derived.Test.YtgjidlhnfbdfpaaDokS
namespace Go.Proofs.Ytgjidlhnfbdfpaa
open Go.ChangeShapes Go.WideShapes Go.ChangeAt Go.RowKit
set_option linter.unusedVariables false
set_option maxRecDepth 20000

theorem specHasD (A : Option Addr) (n cap B : Nat) (D : List Dep) (x y : Int) (b : Bool) (hb : hasD D x y = b) (w : World) (h : DepAt w B A n D) (hn : n ≤ 1000000000) :
    Calls Try.prog 44 #[.slice A n cap, .int .i64 x, .int .i64 y] w fun e w' => e = .returned (.bool b) ∧ w = w' := by
  have hl := h.1
  have HI := Lib.hid h
  have HYES := Lib.hid (fun i hi h1 h2 => hb.symm.trans (has_yes (D := D) (x := x) (y := y) (i := i) hi h1 h2))
  have HNO := Lib.hid (fun h => hb.symm.trans (has_no (D := D) (x := x) (y := y) h))
  clear h hb
  go_enter Try.func44, Try.ntmps44
  go_wp2_with fail
  go_loop [7] (fun i => ∃ k : Nat, i = .int .i64 (k : Int) ∧ k ≤ n ∧ ∀ j, j < k → ¬ ((atD D j).1 = x ∧ (atD D j).2 = y)) (fun i => n - (intOf i).toNat)
  case atStart => exact ⟨0, rfl, Nat.zero_le _, fun j h => by omega⟩
  case round =>
    obtain ⟨k, rfl, hk, hne⟩ := hrel
    have HNE := Lib.hid hne
    clear hne
    by_cases hlt : k < n
    · obtain ⟨b1, off, rfl, hb1, c0, c1⟩ := HI.out.at k hlt
      obtain ⟨d, hd⟩ : ∃ d, atD D k = d := ⟨_, rfl⟩
      rw [hd] at c0 c1
      obtain ⟨p, q⟩ := d
      have k0 : (0 : Int) ≤ (k : Int) := by omega
      have k1 : (k : Int) < (n : Int) := by omega
      by_cases hp : p = x
      · by_cases hq : q = y
        · have HB := Lib.hid (HYES.out k (by omega) (by rw [hd]; exact hp) (by rw [hd]; exact hq))
          clear hd
          subst hp
          subst hq
          go_wp2_with fail
          go_ret
          exact ⟨ret_bool HB.out.symm, rfl⟩
        · have HB := Lib.hid (show ¬ ((atD D k).1 = x ∧ (atD D k).2 = y) by rw [hd]; exact fun e => hq e.2)
          have hqb : (q == y) = false := by simpa using hq
          clear hd
          subst hp
          go_wp2_with fail
          go_round
          case rel => exact ⟨k + 1, by go_num, by omega, fun j hj => by rcases Nat.lt_succ_iff_lt_or_eq.1 hj with h | h; exact HNE.out j h; rw [h]; exact HB.out⟩
          case measure => simp [intOf]; omega
      · have HB := Lib.hid (show ¬ ((atD D k).1 = x ∧ (atD D k).2 = y) by rw [hd]; exact fun e => hp e.1)
        have hpb : (p == x) = false := by simpa using hp
        clear hd
        go_wp2_with fail
        go_round
        case rel => exact ⟨k + 1, by go_num, by omega, fun j hj => by rcases Nat.lt_succ_iff_lt_or_eq.1 hj with h | h; exact HNE.out j h; rw [h]; exact HB.out⟩
        case measure => simp [intOf]; omega
    · obtain rfl : k = n := by omega
      have HB := Lib.hid (HNO.out (fun j hj => HNE.out j (by omega)))
      go_wp2_with fail
      go_ret
      exact ⟨ret_bool HB.out.symm, rfl⟩
end Go.Proofs.Ytgjidlhnfbdfpaa
