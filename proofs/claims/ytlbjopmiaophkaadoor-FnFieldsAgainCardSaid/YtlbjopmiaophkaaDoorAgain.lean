/- What is proved here: the law on the fields of joined fields answers true, for every draw, where the library's table of powers holds what its text lays; only new blocks are written. -/
import Derived.Test.YtlbjopmiaophkaaDoorAgainM
import Derived.Test.YtlbjopmiaophkaaDoorSplitS
import Derived.Test.YtlbjopmiaophkaaDoorSplitI
import Derived.Test.YtlbjopmiaophkaaDoorDrawFields
import Derived.Test.YtlbjopmiaophkaaDoorFmtI
import Derived.Test.YtlbjopmiaophkaaDoorBig
namespace Go.Proofs.YtlbjopmiaophkaaDoor
open Go.ChangeShapes Go.WideShapes Go.ChangeAt Go.RowKit
set_option linter.unusedVariables false

/-- sameTexts of two rows that hold the same texts. -/
theorem lawsSameTexts (v1 v2 : Value) (b1 b2 : Nat) (l : List ByteArray) (w : World) (h1 : w.ownsRow b1 9 1 v1 l.length (strsV l)) (h2 : w.ownsRow b2 9 1 v2 l.length (strsV l)) :
    Calls Tryd.prog 18 #[v1, v2] w (RetB true w) := by
  obtain ⟨n, hn⟩ : ∃ n, l.length = n := ⟨_, rfl⟩
  rw [hn] at h1 h2
  have hmax := own_le h1
  unfold maxLen at hmax
  obtain ⟨A1, cap1, rfl, ha1⟩ := own_form h1
  obtain ⟨A2, cap2, rfl, ha2⟩ := own_form h2
  have HN := Lib.hid hn
  clear hn
  go_enter Tryd.func18, Tryd.ntmps18
  go_wp2_with fail
  go_loopw [5] (fun i wr => ∃ k m : Nat, i = .int .i64 k ∧ k ≤ n ∧ wr = w.drewN m) (fun i _ => n - (intOf i).toNat)
  case atStart => exact ⟨0, 0, rfl, Nat.zero_le _, rfl⟩
  case round =>
    obtain ⟨k, m, rfl, hk, rfl⟩ := hrel
    by_cases hlt : k < n
    · obtain ⟨g1, rfl⟩ := ha1 (by omega)
      obtain ⟨g2, rfl⟩ := ha2 (by omega)
      have c1 := strs_cell h1 k hlt HN.out
      have c2 := strs_cell h2 k hlt HN.out
      clear h1 h2 ha1 ha2
      go_wp2_with fail
      go_quiet (fail)
      go_wp2_with fail
      go_roundw
      case rel => exact ⟨k + 1, _, by go_num, by omega, rfl⟩
      case measure => simp [intOf]; omega
    · go_wp2_with fail
      go_ret
      exact ⟨rfl, gb_drewN (gb_refl _ _) _⟩


theorem itoaM3 : itoaI (-3) = ⟨#[45, 51]⟩ := by
  unfold itoaI
  have e : Lib.itoa (-3) = [45, 51] := by
    have h := itoa_neg 3 (by omega)
    rw [dec_small 3 (by omega)] at h
    exact h
  rw [e]
theorem join_step (L : List ByteArray) (k : Nat) (h : k < L.length) : joinB (L.take k) ++ L[k] ++ ⟨#[32]⟩ = joinB (L.take (k + 1)) := by
  rw [List.take_succ_eq_append_getElem h]
  apply ByteArray.ext
  apply Array.toList_inj.1
  rw [joinB_list, joinL_snoc]
  simp [joinB]

set_option maxRecDepth 100000 in
theorem walk_FnFieldsAgain (A : Option Addr) (n cap : Nat) (w : World) (hr : ByteRow w w.heap.size A n) (ht : Tab w) :
    Calls Tryd.prog 5 #[.slice A n cap] w fun e w' => e = .returned (.bool true) ∧ Below w.heap.size w w' := by
  have HT := Lib.hid ht
  clear ht
  by_cases hn : 1048576 < n
  · have hd : decide (1048576 < n) = true := by simpa using hn
    clear hr
    go_enter Tryd.func5, Tryd.ntmps5
    go_wp2_with fail
    refine (lawsBig _ _ _ _).mono ?_
    rintro e w' ⟨rfl, rfl⟩
    go_wp2_with fail
    go_ret
    exact ⟨rfl, Below.refl _ _⟩
  · have hd : decide (1048576 < n) = false := by simpa using hn
    have Hr := Lib.hid hr
    have Hn := Lib.hid hn
    clear hr hn
    go_enter Tryd.func5, Tryd.ntmps5
    go_wp2_with fail
    refine (lawsBig _ _ _ _).mono ?_
    rintro e w' ⟨rfl, rfl⟩
    go_wp2_with fail
    refine (drawSplitFields _ _ _ _ Hr.out (by have := Hn.out; omega)).mono ?_
    rintro e w1 ⟨s, rfl, hs, hb1⟩
    have B1 := Lib.hid hb1
    clear hb1
    have c1 := fun W => specSplit s W (by unfold maxLen; omega)
    have c2 := fun W => implSplit s W (by unfold maxLen; omega)
    unfold FieldsPost at c1 c2
    by_cases hok : fOk s
    · have e1 : fBool s = true := decide_eq_true hok
      have e2 : fRes s = fieldsOf s := if_pos hok
      have hf := fieldsOf_ok s hok
      have hlen : (fieldsOf s).length ≤ 24 := hok.2.2
      rw [e1, e2] at c1 c2
      obtain ⟨L, hL⟩ : ∃ L, fieldsOf s = L := ⟨_, rfl⟩
      rw [hL] at c1 c2 hf hlen
      have C1 := Lib.hid c1
      have C2 := Lib.hid c2
      have HF := Lib.hid hf
      clear c1 c2 hL e1 e2 hok hf
      go_wp2_with fail
      refine (C2.out _).mono ?_
      rintro e w2 ⟨p, rfl, op, hb2⟩
      have B2 := Lib.hid (B1.out.trans (hb2.mono B1.out.size))
      obtain ⟨Ap, capp, rfl, hap⟩ := own_form op
      have OP := Lib.hid op
      clear hb2 op
      go_wp2_with fail
      refine (C1.out _).mono ?_
      rintro e w3 ⟨p', rfl, op', hb3⟩
      have B3 := Lib.hid (B2.out.trans (hb3.mono B2.out.size))
      have OP3 := Lib.hid (own_below OP.out hb3)
      clear hb3 op'
      obtain ⟨m, hm⟩ : ∃ m, L.length = m := ⟨_, rfl⟩
      rw [hm] at OP3 hlen hap ⊢
      have HM := Lib.hid hm
      clear hm
      go_wp2_with fail
      go_loop [8, 9] (fun v i => ∃ k : Nat, k ≤ m ∧ i = .int .i64 (k : Int) ∧ v = .string (joinB (L.take k))) (fun _ i => m - (intOf i).toNat)
      case atStart => exact ⟨0, Nat.zero_le _, rfl, rfl⟩
      case round =>
        obtain ⟨k, hk, rfl, rfl⟩ := hrel
        have hjs := joinL_le (L.take k) (fun f hf => HF.out f (List.mem_of_mem_take hf))
        rw [← joinB_size] at hjs
        have hjl : (L.take k).length ≤ 24 := by have := HM.out; simp; omega
        by_cases hlt : k < m
        · obtain ⟨g, rfl⟩ := hap (by omega)
          have hlt' : k < L.length := by have := HM.out; omega
          have hc := strs_cell OP3.out k hlt HM.out
          have hfs := (HF.out L[k] (List.getElem_mem hlt')).2.1
          have hst := join_step L k hlt'
          obtain ⟨x, hx⟩ : ∃ x, joinB (L.take k) = x := ⟨_, rfl⟩
          obtain ⟨y, hy⟩ : ∃ y, L[k] = y := ⟨_, rfl⟩
          rw [hx] at hjs hst ⊢
          rw [hy] at hc hfs hst
          have HST := Lib.hid hst
          clear hx hy hst
          go_wp2_with fail
          go_round
          case rel => exact ⟨k + 1, by omega, by go_num, congrArg Value.string HST.out⟩
          case measure => simp [intOf] <;> omega
        · obtain rfl : k = m := by omega
          have e3 : L.take k = L := List.take_of_length_le (by have := HM.out; omega)
          rw [e3] at hjs ⊢
          have hm24 : L.length ≤ 24 := by have := HM.out; omega
          have c4 := fun W => implSplit (joinB L) W (by unfold maxLen; omega)
          unfold FieldsPost at c4
          by_cases h600 : 600 < (joinB L).size
          · have hno : ¬ fOk (joinB L) := fun h => by have := h.1; omega
            have e4 : fBool (joinB L) = false := decide_eq_false hno
            rw [e4] at c4
            have C4 := Lib.hid c4
            clear c4 hno e4 e3
            go_wp2_with fail
            refine (C4.out _).mono ?_
            rintro e w4 ⟨q, rfl, oq, hb4⟩
            have B4 := Lib.hid (B3.out.trans (hb4.mono B3.out.size))
            clear hb4 oq
            go_wp2_with fail
            go_ret
            exact ⟨rfl, B4.out⟩
          · have hyes := fOk_again L HF.out hm24 (by omega)
            have e4 : fBool (joinB L) = true := decide_eq_true hyes
            have e5 : fRes (joinB L) = L := by unfold fRes; rw [if_pos hyes]; exact fields_again L HF.out
            rw [e4, e5] at c4
            have C4 := Lib.hid c4
            clear c4 hyes e4 e5 e3
            go_wp2_with fail
            refine (C4.out _).mono ?_
            rintro e w4 ⟨q, rfl, oq, hb4⟩
            have B4 := Lib.hid (B3.out.trans (hb4.mono B3.out.size))
            have OP4 := Lib.hid (own_below OP3.out hb4)
            have OQ := Lib.hid oq
            clear hb4 oq
            go_wp2_with fail
            refine (lawsSameTexts _ q _ _ L _ (by rw [HM.out]; exact OP4.out) OQ.out).mono ?_
            rintro e w5 ⟨rfl, hg5⟩
            have B5 := Lib.hid (B4.out.grown hg5 B4.out.size (fun k e => by cases e))
            clear hg5
            go_wp2_with fail
            go_ret
            exact ⟨rfl, B5.out⟩
    · have e1 : fBool s = false := decide_eq_false hok
      have e2 : fRes s = [] := if_neg hok
      rw [e1, e2] at c1 c2
      have C1 := Lib.hid c1
      have C2 := Lib.hid c2
      have c3 := implFmt (-3) (by omega) (by omega)
      rw [itoaM3] at c3
      have C3 := Lib.hid c3
      clear c1 c2 c3 e1 e2 hok
      go_wp2_with fail
      refine (C2.out _).mono ?_
      rintro e w2 ⟨p, rfl, op, hb2⟩
      have B2 := Lib.hid (B1.out.trans (hb2.mono B1.out.size))
      obtain ⟨Ap, capp, rfl, hap⟩ := own_form op
      clear hb2 op
      go_wp2_with fail
      refine (C1.out _).mono ?_
      rintro e w3 ⟨p', rfl, op', hb3⟩
      have B3 := Lib.hid (B2.out.trans (hb3.mono B2.out.size))
      clear hb3 op' hap
      go_wp2_with fail
      refine (C3.out _ (HT.out.below B3.out)).mono ?_
      rintro e w4 ⟨rfl, hg4⟩
      have B4 := Lib.hid (B3.out.grown hg4 B3.out.size (fun k e => by cases e))
      clear hg4
      go_wp2_with fail
      go_ret
      exact ⟨rfl, B4.out⟩
end Go.Proofs.YtlbjopmiaophkaaDoor
