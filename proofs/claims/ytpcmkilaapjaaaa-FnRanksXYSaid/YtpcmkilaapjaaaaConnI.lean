/- What is proved here: what the program's search in a list and its test of a channel of a mesh return for numbers of 64 bits; only new blocks are written. -/
import Derived.Test.YtpcmkilaapjaaaaNextI
import Derived.Test.YtpcmkilaapjaaaaNewI
import Derived.Test.YtpcmkilaapjaaaaWfL
namespace Go.Proofs.Ytpcmkilaapjaaaa
open Go.ChangeShapes Go.WideShapes Go.ChangeAt Go.RowKit
set_option linter.unusedVariables false

/-- An index, or -1. -/
def Idx (L : List Int) (c : Int) (w : World) (e : Ending) (w' : World) : Prop := ∃ k : Int, e = .returned (.int .i64 k) ∧ decide (0 ≤ k) = inG L c ∧ w = w'
theorem implIndex (A : Option Addr) (n cap B : Nat) (L : List Int) (c : Int) (w : World) (h : IntAt w B A n L) (hn : n ≤ 1000000000) :
    Calls Try.prog 60 #[.slice A n cap, .int .i64 c] w (Idx L c w) := by
  have hl := h.1
  have HI := Lib.hid h
  clear h
  go_enter Try.func60, Try.ntmps60
  go_wp2_with fail
  go_loop [8] (fun i => ∃ k : Nat, i = .int .i64 (k : Int) ∧ k ≤ n ∧ ∀ j, j < k → L.getD j 0 ≠ c) (fun i => n - (intOf i).toNat)
  case atStart => exact ⟨0, rfl, Nat.zero_le _, fun j h => by omega⟩
  case round =>
    obtain ⟨k, rfl, hk, hne⟩ := hrel
    have HNE := Lib.hid hne
    clear hne
    by_cases hlt : k < n
    · obtain ⟨b, off, rfl, hb, hc⟩ := HI.out.at k hlt
      obtain ⟨x, hx⟩ : ∃ x, L.getD k 0 = x := ⟨_, rfl⟩
      rw [hx] at hc
      have HX := Lib.hid hx
      clear hx
      by_cases hxc : x = c
      · subst hxc
        go_wp2_with fail
        go_ret
        exact ⟨_, rfl, by rw [inG_yes (by omega) HX.out]; exact decide_eq_true (by omega), rfl⟩
      · have hxb : (c == x) = false := by simpa using fun e => hxc e.symm
        have HXC := Lib.hid hxc
        clear hxc
        go_wp2_with fail
        go_round
        case rel => exact ⟨k + 1, by go_num, by omega, fun j hj => by
          rcases Nat.lt_succ_iff_lt_or_eq.1 hj with h1 | rfl
          · exact HNE.out j h1
          · rw [HX.out]; exact HXC.out⟩
        case measure => simp [intOf]; omega
    · obtain rfl : k = n := by omega
      go_wp2_with fail
      go_ret
      exact ⟨-1, rfl, by rw [inG_no (fun j hj => HNE.out j (by omega))]; rfl, rfl⟩

theorem implContains (A : Option Addr) (n cap B : Nat) (L : List Int) (c : Int) (b : Bool) (hb : inG L c = b) (w : World) (h : IntAt w B A n L) (hn : n ≤ 1000000000) :
    Calls Try.prog 39 #[.slice A n cap, .int .i64 c] w fun e w' => e = .returned (.bool b) ∧ w = w' := by
  have HC := Lib.hid (fun w h => implIndex A n cap B L c w h hn)
  have HI := Lib.hid h
  clear h
  go_enter Try.func39, Try.ntmps39
  go_wp2_with fail
  refine (HC.out _ HI.out).mono ?_
  rintro e w1 ⟨k, rfl, hk, rfl⟩
  rw [hb] at hk
  have HK := Lib.hid hk
  clear hk hb
  go_wp2_with fail
  go_ret
  exact ⟨ret_bool (by rw [← HK.out]), rfl⟩

theorem implConnects (W H : Int) (A : Option Addr) (n cap : Nat) (L : List Int) (c : Int) (b : Bool) (hcw : (Lit.int .i64 c).wf = true) (hb : hasChG W H L c = b) (w : World) (h : IntAt w w.heap.size A n L) (hn : n ≤ 1000000000) :
    Calls Try.prog 65 #[.agg #[.int .i64 W, .int .i64 H, .slice A n cap], .int .i64 c] w (RetB b w) := by
  obtain ⟨r, hr⟩ : ∃ r, endG W H c = r := ⟨_, rfl⟩
  have HE := Lib.hid (fun w => implEnd W H c r hcw hr w)
  have HI := Lib.hid h
  have hld := leads_end W H c
  rw [hr] at hld
  clear h hcw hr
  by_cases h0 : 0 ≤ r
  · obtain ⟨q, hq⟩ : ∃ q, inG L c = q := ⟨_, rfl⟩
    have hv : b = !q := by rw [← hb, hasChG, hld, decide_eq_true h0, hq]; rfl
    have HV := Lib.hid hv
    have hd : decide (r ≥ 0) = true := decide_eq_true h0
    have HF := Lib.hid (fun w h => implContains A n cap (w.heap.size) L c q hq w h hn)
    clear hv hld hb hq
    go_enter Try.func65, Try.ntmps65
    go_wp2_with fail
    refine (HE.out _).mono ?_
    rintro e w1 ⟨rfl, hg⟩
    have hbk := boxi_blk hg
    have a2 : w1.cell? ⟨w.heap.size, 2, none⟩ = some (.slice A n cap) := hbk.cell 2
    have hi := (HI.out.none (Nat.le_refl _) (boxi_gb hg)).more (B' := w1.heap.size) (boxi_gb hg).size
    have Hg := Lib.hid (boxi_gb hg)
    clear hg hbk
    go_wp2_with fail
    refine (HF.out _ hi).mono ?_
    rintro e w2 ⟨rfl, rfl⟩
    clear hi
    go_wp2_with fail
    go_ret
    exact ⟨ret_bool (by rw [HV.out]), Hg.out⟩
  · have hv : b = false := by rw [← hb, hasChG, hld, decide_eq_false h0]; rfl
    have hd : decide (r ≥ 0) = false := decide_eq_false h0
    have HV := Lib.hid hv
    clear hv hld hb
    go_enter Try.func65, Try.ntmps65
    go_wp2_with fail
    refine (HE.out _).mono ?_
    rintro e w1 ⟨rfl, hg⟩
    have Hg := Lib.hid (boxi_gb hg)
    clear hg
    go_wp2_with fail
    go_ret
    exact ⟨ret_bool (by rw [HV.out]), Hg.out⟩
end Go.Proofs.Ytpcmkilaapjaaaa
