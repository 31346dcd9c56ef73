/- What is proved here: the helpers of the exact laws for slices of strings (compare, mark, look for the marks), for rows of the call's own; only the marked row and new blocks are written. -/
import Derived.Test.YtlbjopmiaophkaaBase
import Derived.Laws.OwnMore
namespace Go.Proofs.Ytlbjopmiaophkaa
open Go.ChangeShapes Go.WideShapes Go.ChangeAt Go.RowKit
set_option linter.unusedVariables false

theorem own_form {w : World} {base : Nat} {e : TypeId} {size n : Nat} {v : Value} {xs : List Value} (h : w.ownsRow base e size v n xs) :
    ∃ A cap, v = .slice A n cap ∧ (0 < n → ∃ g, A = some ⟨g, 0, none⟩) := by
  rcases h.2 with ⟨rfl, rfl⟩ | ⟨g, cap, cur, rfl, _⟩
  · exact ⟨none, 0, rfl, fun h => absurd h (by omega)⟩
  · exact ⟨_, cap, rfl, fun _ => ⟨g, rfl⟩⟩
theorem own_le {w : World} {base : Nat} {e : TypeId} {size n : Nat} {v : Value} {xs : List Value} (h : w.ownsRow base e size v n xs) : n ≤ maxLen := by
  rcases h.2 with ⟨rfl, rfl⟩ | ⟨g, cap, cur, rfl, _, _, h1, h2, _⟩
  · exact Nat.zero_le _
  · exact Nat.le_trans h1 h2
theorem own_drewN {w : World} {base : Nat} {e : TypeId} {size n : Nat} {v : Value} {xs : List Value} (h : w.ownsRow base e size v n xs) (m : Nat) : (w.drewN m).ownsRow base e size v n xs := h

def strsV (l : List ByteArray) : List Value := l.map Value.string
def dgt (k : Nat) : UInt8 := UInt8.ofNat (48 + k % 10)
def digs (k : Nat) (out : ByteArray) : ByteArray := if h : k = 0 then out else digs (k / 10) (⟨#[dgt k]⟩ ++ out)
termination_by k
decreasing_by omega
theorem digs_zero (out : ByteArray) : digs 0 out = out := by rw [digs]; simp
theorem digs_pos (k : Nat) (out : ByteArray) (h : 0 < k) : digs k out = digs (k / 10) (⟨#[dgt k]⟩ ++ out) := by rw [digs, dif_neg (by omega)]
def markB (k : Nat) : ByteArray := if k = 0 then ⟨#[109, 48]⟩ else ⟨#[109]⟩ ++ digs k ⟨#[]⟩

/-- 'string([]byte{x})'. -/
theorem conv_one (W : World) (c : Nat) (z : Int) (hz : z = (c : Int)) (hc : c < 256) :
    (convert 22 9 (.slice (some ⟨W.heap.size, 0, none⟩) 1 1)).run Try.prog (W.alloc (.cells #[.int .u8 z] 5)) = .ok (.string ⟨#[UInt8.ofNat c]⟩) (W.alloc (.cells #[.int .u8 z] 5)) := by
  have h := run_convert_bytes_back (P := Try.prog) (W.alloc (.cells #[.int .u8 z] 5)) 22 9 5 ⟨W.heap.size, 0, none⟩ 1 [UInt8.ofNat c] Try.underlying22 Try.underlying5 Try.underlying9 (fun j hj => by
    obtain rfl : j = 0 := by simp at hj; omega
    simp [Addr.add, hz, Nat.mod_eq_of_lt hc])
  exact h

theorem conv_digit (W : World) (j : Nat) : (convert 22 9 (.slice (some ⟨W.heap.size, 0, none⟩) 1 1)).run Try.prog (W.alloc (.cells #[.int .u8 (48 + (j : Int) % 10)] 5)) = .ok (.string ⟨#[dgt j]⟩) (W.alloc (.cells #[.int .u8 (48 + (j : Int) % 10)] 5)) :=
  conv_one W (48 + j % 10) (48 + (j : Int) % 10) (by omega) (by omega)

def RetS (s : ByteArray) (w : World) (e : Ending) (w' : World) : Prop := e = .returned (.string s) ∧ w.grownBy w' none

theorem lawsMarkText (k : Nat) (hk : k ≤ 1000000000) (w : World) :
    Calls Try.prog 29 #[.int .i64 (k : Int)] w (RetS (markB k) w) := by
  by_cases h0 : k = 0
  · subst h0
    go_enter Try.func29, Try.ntmps29
    go_wp2_with fail
    go_ret
    exact ⟨rfl, gb_refl _ _⟩
  · have hp : 0 < k := by omega
    have hd0 : decide (k = 0) = false := decide_eq_false h0
    clear h0
    go_enter Try.func29, Try.ntmps29
    go_wp2_with fail
    go_loopw [0, 3] (fun z o wr => ∃ (j : Nat) (out : ByteArray), z = .int .i64 (j : Int) ∧ o = .string out ∧ out.size + j ≤ k ∧ digs j out = digs k ⟨#[]⟩ ∧ w.grownBy wr none) (fun z _ _ => (intOf z).toNat)
    case atStart => exact ⟨k, ⟨#[]⟩, rfl, rfl, by show 0 + k ≤ k; omega, rfl, gb_refl _ _⟩
    case round =>
      obtain ⟨j, out, rfl, rfl, hj, hd, hg⟩ := hrel
      by_cases hj0 : 0 < j
      · have hd' := digs_pos j out hj0
        have HD := Lib.hid (hd'.symm.trans hd)
        have HG := Lib.hid hg
        clear hd hd' hg
        have hcv := conv_digit wr j
        go_wp2_with fail
        go_roundw
        case rel => exact ⟨j / 10, _, by go_num, rfl, by rw [ByteArray.size_append]; show 1 + out.size + j / 10 ≤ k; omega, HD.out, gb_alloc HG.out _⟩
        case measure => simp [intOf]; omega
      · obtain rfl : j = 0 := by omega
        have HD := Lib.hid ((digs_zero out).symm.trans hd)
        have HG := Lib.hid hg
        clear hd hg
        go_wp2_with fail
        go_ret
        refine ⟨?_, HG.out⟩
        unfold markB
        rw [if_neg (by omega), ← HD.out]
        rfl

def RetB (b : Bool) (w : World) (e : Ending) (w' : World) : Prop := e = .returned (.bool b) ∧ w.grownBy w' none
def RetI (k : Int) (row : Option Nat) (w : World) (e : Ending) (w' : World) : Prop := e = .returned (.int .i64 k) ∧ w.grownBy w' row

theorem gb_of_none {a b : World} (h : a.grownBy b none) (row : Option Nat) : a.grownBy b row := ⟨h.os, h.tape, h.output, h.size, fun i hi _ => h.block i hi (by simp)⟩
theorem strs_cell {w : World} {base : Nat} {n g cap : Nat} {l : List ByteArray} (h : w.ownsRow base 9 1 (.slice (some ⟨g, 0, none⟩) n cap) n (strsV l)) (k : Nat) (hk : k < n) (hl : l.length = n) :
    w.cell? ⟨g, k, none⟩ = some (.string l[k]) := by
  rw [h.cellAt k (by omega)]
  simp [strsV]

/-- eqStringS of two rows that hold the same texts. -/
theorem lawsEqS (v1 v2 : Value) (b1 b2 : Nat) (l : List ByteArray) (w : World) (h1 : w.ownsRow b1 9 1 v1 l.length (strsV l)) (h2 : w.ownsRow b2 9 1 v2 l.length (strsV l)) :
    Calls Try.prog 17 #[v1, v2] w (RetB true w) := by
  obtain ⟨n, hn⟩ : ∃ n, l.length = n := ⟨_, rfl⟩
  rw [hn] at h1 h2
  have hmax := own_le h1
  unfold maxLen at hmax
  obtain ⟨A1, cap1, rfl, ha1⟩ := own_form h1
  obtain ⟨A2, cap2, rfl, ha2⟩ := own_form h2
  have HN := Lib.hid hn
  clear hn
  go_enter Try.func17, Try.ntmps17
  go_wp2_with fail
  go_loopw [5] (fun i wr => ∃ k m : Nat, i = .int .i64 k ∧ k ≤ n ∧ wr = w.drewN m) (fun i _ => n - (intOf i).toNat)
  case atStart => exact ⟨0, 0, rfl, Nat.zero_le _, rfl⟩
  case round =>
    obtain ⟨k, m, rfl, hk, rfl⟩ := hrel
    by_cases hlt : k < n
    · obtain ⟨g1, rfl⟩ := ha1 (by omega)
      obtain ⟨g2, rfl⟩ := ha2 (by omega)
      have c1 := strs_cell h1 k hlt HN.out
      have c2 := strs_cell h2 k hlt HN.out
      clear h1 h2 ha1 ha2
      go_wp2_with fail
      go_quiet (fail)
      go_wp2_with fail
      go_roundw
      case rel => exact ⟨k + 1, _, by go_num, by omega, rfl⟩
      case measure => simp [intOf]; omega
    · go_wp2_with fail
      go_ret
      exact ⟨rfl, gb_drewN (gb_refl _ _) _⟩

/-- The cells of a row whose first j texts are marked. -/
def markedV (k0 n j : Nat) (xs : List Value) : List Value := (List.range n).map fun t => if t < j then Value.string (markB (k0 + t)) else xs.getD t undef
def marksL (k0 n : Nat) : List ByteArray := (List.range n).map fun t => markB (k0 + t)
theorem marksL_length (k0 n : Nat) : (marksL k0 n).length = n := by simp [marksL]
theorem markedV_zero (k0 n : Nat) (xs : List Value) (h : xs.length = n) : markedV k0 n 0 xs = xs := by
  refine List.ext_getElem (by simp [markedV, h]) fun i h1 h2 => ?_
  simp [markedV, List.getD_eq_getElem?_getD, List.getElem?_eq_getElem h2]
theorem markedV_succ (k0 n j : Nat) (xs : List Value) : (markedV k0 n j xs).set j (.string (markB (k0 + j))) = markedV k0 n (j + 1) xs := by
  refine List.ext_getElem (by simp [markedV]) fun i h1 h2 => ?_
  rw [List.getElem_set]
  by_cases e : j = i
  · subst e; simp [markedV]
  · simp only [e, if_false, markedV, List.getElem_map, List.getElem_range]
    by_cases hi : i < j
    · rw [if_pos hi, if_pos (by omega)]
    · rw [if_neg hi, if_neg (by omega)]
theorem markedV_all (k0 n : Nat) (xs : List Value) : markedV k0 n n xs = strsV (marksL k0 n) := by
  refine List.ext_getElem (by simp [markedV, strsV, marksL]) fun i h1 h2 => ?_
  have : i < n := by simpa [markedV] using h1
  simp [markedV, strsV, marksL, this]

theorem lawsMarkS (v : Value) (base n k0 : Nat) (xs : List Value) (w : World) (h : w.ownsRow base 9 1 v n xs) (hk : k0 + n ≤ 1000000000) :
    Calls Try.prog 18 #[v, .int .i64 (k0 : Int)] w fun e w' => e = .returned (.int .i64 ((k0 + n : Nat) : Int)) ∧ w'.ownsRow base 9 1 v n (strsV (marksL k0 n)) ∧ w.grownBy w' v.ownBlock := by
  have hxl : xs.length = n := by have := h.1; omega
  obtain ⟨A, cap, rfl, ha⟩ := own_form h
  have h' := h
  rw [← markedV_zero k0 n xs hxl] at h'
  clear h hxl
  have H0 := Lib.hid h'
  clear h'
  go_enter Try.func18, Try.ntmps18
  go_wp2_with fail
  go_loopw [1, 5] (fun q i wr => ∃ j : Nat, j ≤ n ∧ q = .int .i64 ((k0 + j : Nat) : Int) ∧ i = .int .i64 (j : Int) ∧ wr.ownsRow base 9 1 (.slice A n cap) n (markedV k0 n j xs) ∧ w.grownBy wr (Value.slice A n cap).ownBlock) (fun _ i _ => n - (intOf i).toNat)
  case atStart => exact ⟨0, Nat.zero_le _, rfl, rfl, H0.out, gb_refl _ _⟩
  case round =>
    obtain ⟨j, hj, rfl, rfl, hown, hgr⟩ := hrel
    have HG := Lib.hid hgr
    clear hgr
    by_cases hlt : j < n
    · obtain ⟨g, rfl⟩ := ha (by omega)
      clear ha
      go_wp2_with fail
      refine (lawsMarkText (k0 + j) (by omega) _).mono ?_
      rintro e w1 ⟨rfl, hg1⟩
      have hown1 := hown.kept hg1 (.inr (by simp [Value.ownBlock]))
      have hc := hown1.cellAt j (by omega)
      rw [List.getElem?_eq_getElem (by simp [markedV]; omega)] at hc
      have hf := hown1.frozenAt j
      obtain ⟨hown2, hg2⟩ := hown1.stored j (.string (markB (k0 + j)))
      rw [markedV_succ] at hown2
      have HOWN := Lib.hid hown2
      have HGG := Lib.hid (gb_trans HG.out (gb_trans (gb_of_none hg1 _) hg2))
      clear hown hown1 hown2 hg1 hg2
      go_wp2_with fail
      go_roundw
      case rel => exact ⟨j + 1, by omega, by go_num, by go_num, HOWN.out, HGG.out⟩
      case measure => simp [intOf]; omega
    · obtain rfl : j = n := by omega
      rw [markedV_all] at hown
      have HOWN := Lib.hid hown
      clear hown
      go_wp2_with fail
      go_ret
      exact ⟨rfl, HOWN.out, HG.out⟩

theorem lawsHeldS (v : Value) (base n k0 : Nat) (w : World) (h : w.ownsRow base 9 1 v n (strsV (marksL k0 n))) (hk : k0 + n ≤ 1000000000) :
    Calls Try.prog 19 #[v, .int .i64 (k0 : Int)] w fun e w' => e = .returned (.int .i64 ((k0 + n : Nat) : Int)) ∧ w.grownBy w' none := by
  obtain ⟨A, cap, rfl, ha⟩ := own_form h
  have H0 := Lib.hid h
  clear h
  go_enter Try.func19, Try.ntmps19
  go_wp2_with fail
  go_loopw [1, 5] (fun q i wr => ∃ j : Nat, j ≤ n ∧ q = .int .i64 ((k0 + j : Nat) : Int) ∧ i = .int .i64 (j : Int) ∧ w.grownBy wr none) (fun _ i _ => n - (intOf i).toNat)
  case atStart => exact ⟨0, Nat.zero_le _, rfl, rfl, gb_refl _ _⟩
  case round =>
    obtain ⟨j, hj, rfl, rfl, hgr⟩ := hrel
    have HG := Lib.hid hgr
    by_cases hlt : j < n
    · obtain ⟨g, rfl⟩ := ha (by omega)
      clear ha
      have hc := strs_cell (H0.out.kept hgr (.inr (by simp [Value.ownBlock]))) j hlt (marksL_length k0 n)
      have hm : (marksL k0 n)[j]'(by rw [marksL_length]; exact hlt) = markB (k0 + j) := by simp [marksL]
      rw [hm] at hc
      clear hgr hm
      have hj0 : (0 : Int) ≤ (j : Int) := by omega
      have hj1 : (j : Int) < (n : Int) := by omega
      go_wp2_with fail
      go_region_held3 (fun w' => w'.cell? ⟨g, j, none⟩ = some (.string (markB (k0 + j)))) (first | go_keep | exact hg1.cell (by assumption) (by simp))
        (first
          | (go_at_call 29; refine (lawsMarkText (k0 + j) (by omega) _).mono ?_; rintro e w1 ⟨rfl, hg1⟩)
          | fail)
      all_goals
        have HGG := Lib.hid (gb_trans (gb_drew HG.out) hg1)
        clear hg1
        go_wp2_with fail
        go_roundw
        case rel => exact ⟨j + 1, by omega, by go_num, by go_num, HGG.out⟩
        case measure => simp [intOf]; omega
    · obtain rfl : j = n := by omega
      go_wp2_with fail
      go_ret
      exact ⟨rfl, HG.out⟩
end Go.Proofs.Ytlbjopmiaophkaa
