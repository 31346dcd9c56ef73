/- What is proved here: what the model's TurnsOfRule returns, for all arguments; only new blocks are written. -/
import Derived.Test.YtgdngjfjbcnbmaaMarkS
namespace Go.Proofs.Ytgdngjfjbcnbmaa
open Go.ChangeShapes Go.WideShapes Go.ChangeAt Go.RowKit
set_option linter.unusedVariables false
set_option maxRecDepth 20000

/-- The truths of the numbers below k of a set. -/
def toF (f : Nat → Bool) (k x : Nat) : Bool := decide (x < k) && f x
theorem toF_zero (f : Nat → Bool) : toF f 0 = fun _ => false := by funext x; simp [toF]
theorem toF_all (f : Nat → Bool) : setL (toF f 16) 16 = setL f 16 := setL_congr fun x h => by simp [toF, h]
theorem toF_set (f : Nat → Bool) (k : Nat) : (fun x => if x = k then f k else toF f k x) = toF f (k + 1) := by
  funext x
  by_cases h : x = k
  · subst h; simp [toF]
  · simp only [toF, h, if_false]
    by_cases h2 : x < k
    · simp [h2, show x < k + 1 by omega]
    · simp [h2, show ¬ x < k + 1 by omega]
theorem toF_skip (f : Nat → Bool) (k : Nat) (h : f k = false) : toF f k = toF f (k + 1) := by
  rw [← toF_set, h]
  funext x
  by_cases h2 : x = k
  · subst h2; simp [toF]
  · simp [h2]
/-- The slice of truths. -/
def BoolsAt (w : World) (f : Nat → Bool) (wr : World) : Prop := Blk wr w.heap.size 4 (cellsF f) ∧ Below w.heap.size w wr
theorem BoolsAt.new (w : World) : BoolsAt w (fun _ => false) (w.alloc (.cells #[.bool false, .bool false, .bool false, .bool false, .bool false, .bool false, .bool false, .bool false, .bool false, .bool false, .bool false, .bool false, .bool false, .bool false, .bool false, .bool false] 4)) :=
  ⟨by rw [cellsF_none]; exact Blk.new _ _ _, (Below.refl _ _).alloc (Nat.le_refl _) _⟩
theorem BoolsAt.put {w wr : World} {f : Nat → Bool} {k : Nat} {b : Bool} (h : BoolsAt w (toF f k) wr) (hb : f k = b) : BoolsAt w (toF f (k + 1)) (wr.setCell ⟨w.heap.size, k, none⟩ (.bool b)) := by
  refine ⟨?_, gb_below_none (gb_setCell (gb_of_below h.2 none) (.inr (Nat.le_refl _)) _) (Nat.le_refl _)⟩
  have h1 := h.1.set_ k (.bool b)
  subst hb
  rw [cellsF_set, toF_set] at h1
  exact h1
theorem BoolsAt.mark {w wr : World} {f : Nat → Bool} (h : BoolsAt w f wr) : Calls Try.prog 55 #[.slice (some ⟨w.heap.size, 0, none⟩) 16 16] wr (NewI (setL f 16) w) :=
  (specMark w.heap.size f wr (fun i hi => (h.1.cell i).trans (cellsF_at f hi)) h.1.lt).mono fun e w' ⟨v, he, ho, hb⟩ => ⟨v, he, own_less ho (by have := h.1.lt; omega), h.2.trans (hb.mono (by have := h.1.lt; omega))⟩

set_option maxHeartbeats 4000000 in
theorem specTurnsOfRule (r : Int) (w : World) : Calls Try.prog 35 #[.int .i64 r] w (NewI (ruleL r) w) := by
  have X0 := Lib.hid (show BoolsAt w (toF (ruleF r) (4 * 0 + 0)) _ by rw [toF_zero]; exact BoolsAt.new w)
  have hmk : ∀ w, (Instr.makeSlice 80 (.int .i64 16) (.int .i64 16)).run Try.prog w = .ok (.slice (some ⟨w.heap.size, 0, none⟩) 16 16) (w.alloc (.cells #[.bool false, .bool false, .bool false, .bool false, .bool false, .bool false, .bool false, .bool false, .bool false, .bool false, .bool false, .bool false, .bool false, .bool false, .bool false, .bool false] 4)) := fun _ => by kernel_rfl
  by_cases h1 : r = 1
  · subst h1
    go_enter Try.func35, Try.ntmps35
    go_wp2_with fail
    go_loopw [4] (fun i wr => ∃ p : Nat, i = .int .i64 (p : Int) ∧ p ≤ 4 ∧ BoolsAt w (toF (ruleF 1) (4 * p + 0)) wr) (fun i _ => 4 - (intOf i).toNat)
    case atStart => exact ⟨0, rfl, by omega, X0.out⟩
    case round =>
      obtain ⟨p, rfl, hpk, hx⟩ := hrel
      have X4 := Lib.hid hx
      clear hx
      by_cases hlt : p < 4
      · have HPP := Lib.hid hlt
        have hpi : (p : Int) < 4 := by omega
        go_wp2_with fail
        go_loopw [5] (fun i wr => ∃ q : Nat, i = .int .i64 (q : Int) ∧ q ≤ 4 ∧ BoolsAt w (toF (ruleF 1) (4 * p + q)) wr) (fun i _ => 4 - (intOf i).toNat)
        case atStart => exact ⟨0, rfl, by omega, X4.out⟩
        case round =>
          obtain ⟨q, rfl, hqk, hx⟩ := hrel
          have X5 := Lib.hid hx
          clear hx
          by_cases hlt2 : q < 4
          · have hqi : (q : Int) < 4 := by omega
            obtain ⟨k, hk⟩ : ∃ k, 4 * p + q = k := ⟨_, rfl⟩
            rw [hk] at X5
            obtain ⟨q2, hq2⟩ : ∃ z, q + 1 = z := ⟨_, rfl⟩
            have HQ := Lib.hid hq2
            have hk16 : k < 16 := by omega
            obtain ⟨o, ho⟩ : ∃ o, toF (ruleF 1) k k = o := ⟨_, rfl⟩
            have c1 : wr.cell? ⟨w.heap.size, k, none⟩ = some (.bool o) := ho ▸ (X5.out.1.cell k).trans (cellsF_at _ hk16)
            have f1 := X5.out.1.frozen k
            clear ho hk16
            have hp : p = 0 ∨ p = 1 ∨ p = 2 ∨ p = 3 := by have := HPP.out; omega
            have hq : q = 0 ∨ q = 1 ∨ q = 2 ∨ q = 3 := by omega
            clear HPP hlt2 hqk hq2
            rcases hp with rfl | rfl | rfl | rfl <;> rcases hq with rfl | rfl | rfl | rfl
            all_goals
              simp only [Nat.reduceMul, Nat.reduceAdd] at hk
              subst hk
              go_wp2_with fail
              go_roundw
              case rel => exact ⟨q2, by rw [← HQ.out]; rfl, by have := HQ.out; omega, by rw [← HQ.out]; exact X5.out.put (by decide)⟩
              case measure => simp [intOf]
          · obtain rfl : q = 4 := by omega
            go_wp2_with fail
            go_roundw
            case rel => exact ⟨p + 1, by go_num, by have := HPP.out; omega, X5.out⟩
            case measure => have := HPP.out; simp [intOf]; omega
      · obtain rfl : p = 4 := by omega
        go_wp2_with fail
        refine X4.out.mark.mono ?_
        rintro e w2 hn
        have HN := Lib.hid hn
        clear hn
        obtain ⟨v, rfl, _⟩ := HN.out
        go_wp2_with fail
        go_ret
        have h := HN.out
        rw [toF_all, rule_set] at h
        exact h
  by_cases h2 : r = 2
  · subst h2
    go_enter Try.func35, Try.ntmps35
    go_wp2_with fail
    go_loopw [4] (fun i wr => ∃ p : Nat, i = .int .i64 (p : Int) ∧ p ≤ 4 ∧ BoolsAt w (toF (ruleF 2) (4 * p + 0)) wr) (fun i _ => 4 - (intOf i).toNat)
    case atStart => exact ⟨0, rfl, by omega, X0.out⟩
    case round =>
      obtain ⟨p, rfl, hpk, hx⟩ := hrel
      have X4 := Lib.hid hx
      clear hx
      by_cases hlt : p < 4
      · have HPP := Lib.hid hlt
        have hpi : (p : Int) < 4 := by omega
        go_wp2_with fail
        go_loopw [5] (fun i wr => ∃ q : Nat, i = .int .i64 (q : Int) ∧ q ≤ 4 ∧ BoolsAt w (toF (ruleF 2) (4 * p + q)) wr) (fun i _ => 4 - (intOf i).toNat)
        case atStart => exact ⟨0, rfl, by omega, X4.out⟩
        case round =>
          obtain ⟨q, rfl, hqk, hx⟩ := hrel
          have X5 := Lib.hid hx
          clear hx
          by_cases hlt2 : q < 4
          · have hqi : (q : Int) < 4 := by omega
            obtain ⟨k, hk⟩ : ∃ k, 4 * p + q = k := ⟨_, rfl⟩
            rw [hk] at X5
            obtain ⟨q2, hq2⟩ : ∃ z, q + 1 = z := ⟨_, rfl⟩
            have HQ := Lib.hid hq2
            have hk16 : k < 16 := by omega
            obtain ⟨o, ho⟩ : ∃ o, toF (ruleF 2) k k = o := ⟨_, rfl⟩
            have c1 : wr.cell? ⟨w.heap.size, k, none⟩ = some (.bool o) := ho ▸ (X5.out.1.cell k).trans (cellsF_at _ hk16)
            have f1 := X5.out.1.frozen k
            clear ho hk16
            have hp : p = 0 ∨ p = 1 ∨ p = 2 ∨ p = 3 := by have := HPP.out; omega
            have hq : q = 0 ∨ q = 1 ∨ q = 2 ∨ q = 3 := by omega
            clear HPP hlt2 hqk hq2
            rcases hp with rfl | rfl | rfl | rfl <;> rcases hq with rfl | rfl | rfl | rfl
            all_goals
              simp only [Nat.reduceMul, Nat.reduceAdd] at hk
              subst hk
              go_wp2_with fail
              go_roundw
              case rel => exact ⟨q2, by rw [← HQ.out]; rfl, by have := HQ.out; omega, by rw [← HQ.out]; exact X5.out.put (by decide)⟩
              case measure => simp [intOf]
          · obtain rfl : q = 4 := by omega
            go_wp2_with fail
            go_roundw
            case rel => exact ⟨p + 1, by go_num, by have := HPP.out; omega, X5.out⟩
            case measure => have := HPP.out; simp [intOf]; omega
      · obtain rfl : p = 4 := by omega
        go_wp2_with fail
        refine X4.out.mark.mono ?_
        rintro e w2 hn
        have HN := Lib.hid hn
        clear hn
        obtain ⟨v, rfl, _⟩ := HN.out
        go_wp2_with fail
        go_ret
        have h := HN.out
        rw [toF_all, rule_set] at h
        exact h
  by_cases h3 : r = 3
  · subst h3
    go_enter Try.func35, Try.ntmps35
    go_wp2_with fail
    go_loopw [4] (fun i wr => ∃ p : Nat, i = .int .i64 (p : Int) ∧ p ≤ 4 ∧ BoolsAt w (toF (ruleF 3) (4 * p + 0)) wr) (fun i _ => 4 - (intOf i).toNat)
    case atStart => exact ⟨0, rfl, by omega, X0.out⟩
    case round =>
      obtain ⟨p, rfl, hpk, hx⟩ := hrel
      have X4 := Lib.hid hx
      clear hx
      by_cases hlt : p < 4
      · have HPP := Lib.hid hlt
        have hpi : (p : Int) < 4 := by omega
        go_wp2_with fail
        go_loopw [5] (fun i wr => ∃ q : Nat, i = .int .i64 (q : Int) ∧ q ≤ 4 ∧ BoolsAt w (toF (ruleF 3) (4 * p + q)) wr) (fun i _ => 4 - (intOf i).toNat)
        case atStart => exact ⟨0, rfl, by omega, X4.out⟩
        case round =>
          obtain ⟨q, rfl, hqk, hx⟩ := hrel
          have X5 := Lib.hid hx
          clear hx
          by_cases hlt2 : q < 4
          · have hqi : (q : Int) < 4 := by omega
            obtain ⟨k, hk⟩ : ∃ k, 4 * p + q = k := ⟨_, rfl⟩
            rw [hk] at X5
            obtain ⟨q2, hq2⟩ : ∃ z, q + 1 = z := ⟨_, rfl⟩
            have HQ := Lib.hid hq2
            have hk16 : k < 16 := by omega
            obtain ⟨o, ho⟩ : ∃ o, toF (ruleF 3) k k = o := ⟨_, rfl⟩
            have c1 : wr.cell? ⟨w.heap.size, k, none⟩ = some (.bool o) := ho ▸ (X5.out.1.cell k).trans (cellsF_at _ hk16)
            have f1 := X5.out.1.frozen k
            clear ho hk16
            have hp : p = 0 ∨ p = 1 ∨ p = 2 ∨ p = 3 := by have := HPP.out; omega
            have hq : q = 0 ∨ q = 1 ∨ q = 2 ∨ q = 3 := by omega
            clear HPP hlt2 hqk hq2
            rcases hp with rfl | rfl | rfl | rfl <;> rcases hq with rfl | rfl | rfl | rfl
            all_goals
              simp only [Nat.reduceMul, Nat.reduceAdd] at hk
              subst hk
              go_wp2_with fail
              go_roundw
              case rel => exact ⟨q2, by rw [← HQ.out]; rfl, by have := HQ.out; omega, by rw [← HQ.out]; exact X5.out.put (by decide)⟩
              case measure => simp [intOf]
          · obtain rfl : q = 4 := by omega
            go_wp2_with fail
            go_roundw
            case rel => exact ⟨p + 1, by go_num, by have := HPP.out; omega, X5.out⟩
            case measure => have := HPP.out; simp [intOf]; omega
      · obtain rfl : p = 4 := by omega
        go_wp2_with fail
        refine X4.out.mark.mono ?_
        rintro e w2 hn
        have HN := Lib.hid hn
        clear hn
        obtain ⟨v, rfl, _⟩ := HN.out
        go_wp2_with fail
        go_ret
        have h := HN.out
        rw [toF_all, rule_set] at h
        exact h
  by_cases h4 : r = 4
  · subst h4
    go_enter Try.func35, Try.ntmps35
    go_wp2_with fail
    go_loopw [4] (fun i wr => ∃ p : Nat, i = .int .i64 (p : Int) ∧ p ≤ 4 ∧ BoolsAt w (toF (ruleF 4) (4 * p + 0)) wr) (fun i _ => 4 - (intOf i).toNat)
    case atStart => exact ⟨0, rfl, by omega, X0.out⟩
    case round =>
      obtain ⟨p, rfl, hpk, hx⟩ := hrel
      have X4 := Lib.hid hx
      clear hx
      by_cases hlt : p < 4
      · have HPP := Lib.hid hlt
        have hpi : (p : Int) < 4 := by omega
        go_wp2_with fail
        go_loopw [5] (fun i wr => ∃ q : Nat, i = .int .i64 (q : Int) ∧ q ≤ 4 ∧ BoolsAt w (toF (ruleF 4) (4 * p + q)) wr) (fun i _ => 4 - (intOf i).toNat)
        case atStart => exact ⟨0, rfl, by omega, X4.out⟩
        case round =>
          obtain ⟨q, rfl, hqk, hx⟩ := hrel
          have X5 := Lib.hid hx
          clear hx
          by_cases hlt2 : q < 4
          · have hqi : (q : Int) < 4 := by omega
            obtain ⟨k, hk⟩ : ∃ k, 4 * p + q = k := ⟨_, rfl⟩
            rw [hk] at X5
            obtain ⟨q2, hq2⟩ : ∃ z, q + 1 = z := ⟨_, rfl⟩
            have HQ := Lib.hid hq2
            have hk16 : k < 16 := by omega
            obtain ⟨o, ho⟩ : ∃ o, toF (ruleF 4) k k = o := ⟨_, rfl⟩
            have c1 : wr.cell? ⟨w.heap.size, k, none⟩ = some (.bool o) := ho ▸ (X5.out.1.cell k).trans (cellsF_at _ hk16)
            have f1 := X5.out.1.frozen k
            clear ho hk16
            have hp : p = 0 ∨ p = 1 ∨ p = 2 ∨ p = 3 := by have := HPP.out; omega
            have hq : q = 0 ∨ q = 1 ∨ q = 2 ∨ q = 3 := by omega
            clear HPP hlt2 hqk hq2
            rcases hp with rfl | rfl | rfl | rfl <;> rcases hq with rfl | rfl | rfl | rfl
            all_goals
              simp only [Nat.reduceMul, Nat.reduceAdd] at hk
              subst hk
              go_wp2_with fail
              go_roundw
              case rel => exact ⟨q2, by rw [← HQ.out]; rfl, by have := HQ.out; omega, by rw [← HQ.out]; exact X5.out.put (by decide)⟩
              case measure => simp [intOf]
          · obtain rfl : q = 4 := by omega
            go_wp2_with fail
            go_roundw
            case rel => exact ⟨p + 1, by go_num, by have := HPP.out; omega, X5.out⟩
            case measure => have := HPP.out; simp [intOf]; omega
      · obtain rfl : p = 4 := by omega
        go_wp2_with fail
        refine X4.out.mark.mono ?_
        rintro e w2 hn
        have HN := Lib.hid hn
        clear hn
        obtain ⟨v, rfl, _⟩ := HN.out
        go_wp2_with fail
        go_ret
        have h := HN.out
        rw [toF_all, rule_set] at h
        exact h
  have HR0 := Lib.hid (fun x => show ruleF r x = false by simp [ruleF, h1, h2, h3, h4])
  have q1 : (r == 1) = false := by simpa using h1
  have q2 : (r == 2) = false := by simpa using h2
  have q3 : (r == 3) = false := by simpa using h3
  have q4 : (r == 4) = false := by simpa using h4
  clear h1 h2 h3 h4
  go_enter Try.func35, Try.ntmps35
  go_wp2_with fail
  go_loopw [4] (fun i wr => ∃ p : Nat, i = .int .i64 (p : Int) ∧ p ≤ 4 ∧ BoolsAt w (toF (ruleF r) (4 * p + 0)) wr) (fun i _ => 4 - (intOf i).toNat)
  case atStart => exact ⟨0, rfl, by omega, X0.out⟩
  case round =>
    obtain ⟨p, rfl, hpk, hx⟩ := hrel
    have X4 := Lib.hid hx
    clear hx
    by_cases hlt : p < 4
    · have HPP := Lib.hid hlt
      have hpi : (p : Int) < 4 := by omega
      go_wp2_with fail
      go_loopw [5] (fun i wr => ∃ q : Nat, i = .int .i64 (q : Int) ∧ q ≤ 4 ∧ BoolsAt w (toF (ruleF r) (4 * p + q)) wr) (fun i _ => 4 - (intOf i).toNat)
      case atStart => exact ⟨0, rfl, by omega, X4.out⟩
      case round =>
        obtain ⟨q, rfl, hqk, hx⟩ := hrel
        have X5 := Lib.hid hx
        clear hx
        by_cases hlt2 : q < 4
        · have hqi : (q : Int) < 4 := by omega
          have X6 := Lib.hid (show BoolsAt w (toF (ruleF r) (4 * p + (q + 1))) wr from toF_skip (ruleF r) (4 * p + q) (HR0.out _) ▸ X5.out)
          clear X5
          go_wp2_with fail
          go_roundw
          case rel => exact ⟨q + 1, by go_num, by omega, X6.out⟩
          case measure => simp [intOf]; omega
        · obtain rfl : q = 4 := by omega
          go_wp2_with fail
          go_roundw
          case rel => exact ⟨p + 1, by go_num, by have := HPP.out; omega, X5.out⟩
          case measure => have := HPP.out; simp [intOf]; omega
    · obtain rfl : p = 4 := by omega
      go_wp2_with fail
      refine X4.out.mark.mono ?_
      rintro e w2 hn
      have HN := Lib.hid hn
      clear hn
      obtain ⟨v, rfl, _⟩ := HN.out
      go_wp2_with fail
      go_ret
      have h := HN.out
      rw [toF_all, rule_set] at h
      exact h
end Go.Proofs.Ytgdngjfjbcnbmaa
