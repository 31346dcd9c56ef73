/- What is proved here: the program's SplitFields returns the fields of a line, for every line; only new blocks are written. -/
import Derived.Test.YtlbjopmiaophkaaDoorSplitM
import Derived.Test.YtlbjopmiaophkaaDoorShelf
namespace Go.Proofs.YtlbjopmiaophkaaDoor
open Go.ChangeShapes Go.WideShapes Go.ChangeAt Go.RowKit
set_option linter.unusedVariables false

theorem stringsClone (t : ByteArray) (w : World) (ht : t.size ≤ 1000000) :
    Calls Tryd.prog 39 #[.string t] w (RetS t w) := by
  go_enter Tryd.func39, Tryd.ntmps39
  go_wp2_with fail
  refine (Tryd.stringslite_Clone _ _ (by omega)).mono ?_
  rintro e w1 ⟨rfl, hb⟩
  have HB := Lib.hid hb
  clear hb
  go_wp2_with fail
  go_ret
  exact ⟨rfl, gb_of_below HB.out _⟩
def Appended (base : Nat) (w : World) (v : Value) (l : List ByteArray) (e : Ending) (w' : World) : Prop :=
  ∃ v', e = .returned v' ∧ w'.ownsRow base 9 1 v' l.length (strsV l) ∧ w.grownBy w' v.ownBlock

theorem appendNone (v : Value) (w : World) :
    Calls Tryd.prog 31 #[v, .string ⟨#[]⟩] w fun e w' => e = .returned v ∧ w = w' := by
  go_enter Tryd.func31, Tryd.ntmps31
  go_wp2_with fail
  go_ret
  exact ⟨rfl, rfl⟩

theorem appendSome (v : Value) (t : ByteArray) (base : Nat) (l : List ByteArray) (w : World) (h : w.ownsRow base 9 1 v l.length (strsV l)) (hb : base ≤ w.heap.size) (hl : l.length ≤ 1000) (ht0 : t.data.toList ≠ []) (ht : t.size ≤ 1000000) :
    Calls Tryd.prog 31 #[v, .string t] w (Appended base w v (l ++ [t])) := by
  obtain ⟨i0, hi, hz0, hz1, hz2⟩ := info_parts info_str
  have e1 : t.toList.isEmpty = false := by rw [ByteArray.toList_eq]; simpa using ht0
  have b2 := Lib.hid (show ∀ u ∈ [Value.string t], u.oneCell' = true by simp [Value.oneCell'])
  have b3 := Lib.hid (show l.length + 1 ≤ maxLen by unfold maxLen; omega)
  have HT := Lib.hid ht0
  clear ht0
  go_enter Tryd.func31, Tryd.ntmps31
  go_wp2_with fail
  refine (stringsClone t _ ht).mono ?_
  rintro e w1 ⟨rfl, hg⟩
  have h1 := h.kept hg (by cases hv : v.ownBlock <;> simp)
  have hs := hg.size
  have HG := Lib.hid hg
  clear hg h
  go_wp2_with (at_builtin; refine wpList_append_own _ rfl _ _ 31 rfl base 9 i0 (.string ⟨#[]⟩) 1 16 Tryd.underlying31 hi hz0 hz1 hz2 rfl (by decide) _ l.length _ rfl (h1.alloc _) ⟨w1.heap.size, 0, none⟩ 1 1 [.string t] rfl rfl (World.news_of_block (cs := #[.string t]) (t := 9) (fr := (0, 0)) (heap_alloc_new w1 _)) b2.out b3.out (by omega) (by simp; omega) ?_; intro v' w2 hown2 hgrow2 _)
  have X : w2.ownsRow base 9 1 v' (l ++ [t]).length (strsV (l ++ [t])) ∧ w.grownBy w2 v.ownBlock :=
    ⟨by rw [strsV_append, List.length_append]; exact hown2, gb_trans (gb_of_none (gb_alloc HG.out _) _) hgrow2⟩
  have HX := Lib.hid X
  clear X hown2 hgrow2 h1
  go_wp2_with fail
  go_ret
  exact ⟨v', rfl, HX.out.1, HX.out.2⟩

theorem extract_self (s : ByteArray) (b k : Nat) (h : ¬ b < k) : s.extract b k = ⟨#[]⟩ := by
  apply ByteArray.ext
  rw [ByteArray.data_extract, Array.extract_empty_of_stop_le_start (by omega)]
theorem extract_ne (s : ByteArray) (b k : Nat) (h : b < k) (hk : k ≤ s.size) : (s.extract b k).data.toList ≠ [] ∧ (s.extract b k).size ≤ s.size := by
  have e : (s.extract b k).size = k - b := by rw [ByteArray.size_extract]; omega
  refine ⟨fun h0 => ?_, by omega⟩
  have : (s.extract b k).size = 0 := by
    show (s.extract b k).data.size = 0
    rw [← Array.length_toList, h0]; rfl
  omega

/-- appendField puts a part of the line behind the fields. -/
theorem appendPush (v : Value) (s : ByteArray) (b k base : Nat) (l : List ByteArray) (w : World) (h : w.ownsRow base 9 1 v l.length (strsV l)) (hb : base ≤ w.heap.size) (hl : l.length ≤ 1000) (hk : k ≤ s.size) (hs : s.size ≤ 1000) :
    Calls Tryd.prog 31 #[v, .string (s.extract b k)] w (Appended base w v (pushF s l b k)) := by
  by_cases hbk : b < k
  · rw [pushF_yes s l hbk]
    have he := extract_ne s b k hbk hk
    exact appendSome v _ base l w h hb hl he.1 (by omega)
  · rw [pushF_no s l hbk, extract_self s b k hbk]
    refine (appendNone v w).mono ?_
    rintro e w' ⟨rfl, rfl⟩
    exact ⟨v, rfl, h, gb_refl _ _⟩

set_option maxRecDepth 100000 in
theorem implSplit (s : ByteArray) (w : World) (hm : s.size ≤ maxLen) :
    Calls Tryd.prog 16 #[.string s] w (FieldsPost s w) := by
  unfold maxLen at hm
  by_cases hs : 600 < s.size
  · have hno := Lib.hid (show ¬ fOk s from fun h => by have := h.1; omega)
    go_enter Tryd.func16, Tryd.ntmps16
    go_wp2_with fail
    go_step3
    go_wp2_with fail
    try rw [Exit.noGoto_ret]
    go_ret2
    exact FieldsPost.no hno.out (World.ownsRow_nil _ _ _ _) (Below.refl _ _)
  · obtain ⟨i0, hi, hz0, hz1, hz2⟩ := info_parts info_str
    go_enter Tryd.func16, Tryd.ntmps16
    go_wp2_with fail
    go_step3
    go_wp2_with fail
    go_step3
    go_wp2_with fail
    have hs' : s.size ≤ 600 := by omega
    clear hs hm
    go_loopw [4, 5, 6] (fun v bb i wr => ∃ (k b : Nat) (out : List ByteArray), k ≤ s.size ∧ i = .int .i64 (k : Int) ∧ bb = .int .i64 (b : Int) ∧ AtK s k out b ∧ wr.ownsRow w.heap.size 9 1 v out.length (strsV out) ∧ Below w.heap.size w wr) (fun _ _ i _ => s.size - (intOf i).toNat)
    case atStart => exact ⟨0, 0, [], Nat.zero_le _, rfl, rfl, AtK.zero s, World.ownsRow_nil _ _ _ _, Below.refl _ _⟩
    case round =>
      obtain ⟨k, b, out, hk, rfl, rfl, hat, hown, hbel⟩ := hrel
      have hbk := hat.2.2.2.1
      have hol := hat.2.2.2.2
      have HAT := Lib.hid hat
      clear hat
      by_cases hlt : k < s.size
      · obtain ⟨c, hc⟩ : ∃ c, byteOf s k = c := ⟨_, rfl⟩
        have hget := byteOf_get s k hlt
        rw [hc] at hget
        have HC := Lib.hid hc
        clear hc
        by_cases h32 : c < 32
        · have hno := Lib.hid (show ¬ fOk s from fun h => by have := (h.2.1 k hlt).1; rw [HC.out] at this; omega)
          have HB := Lib.hid hbel
          clear hown hbel
          go_wp2_with fail
          try rw [Exit.noGoto_ret]
          go_ret2
          exact FieldsPost.no hno.out (World.ownsRow_nil _ _ _ _) HB.out
        · by_cases h126 : 126 < c
          · have hno := Lib.hid (show ¬ fOk s from fun h => by have := (h.2.1 k hlt).2; rw [HC.out] at this; omega)
            have HB := Lib.hid hbel
            clear hown hbel
            go_wp2_with fail
            try rw [Exit.noGoto_ret]
            go_ret2
            exact FieldsPost.no hno.out (World.ownsRow_nil _ _ _ _) HB.out
          · have hgood := Lib.hid (show fGood s k from ⟨by rw [HC.out]; omega, by rw [HC.out]; omega⟩)
            by_cases hsp : c = 32
            · subst hsp
              have HX := Lib.hid (HAT.out.space hlt hgood.out HC.out)
              have hap := appendPush u4 s b k w.heap.size out wr hown hbel.size (by omega) hk (by omega)
              have HAP := Lib.hid hap
              have HL := Lib.hid (fun j (hj : u4.ownBlock = some j) => (hown.lt j hj).1)
              have HB := Lib.hid hbel
              clear hap hown hbel
              go_wp2_with fail
              refine HAP.out.mono ?_
              rintro e w1 ⟨v', rfl, hown1, hg1⟩
              have HOWN := Lib.hid hown1
              have HB1 := Lib.hid (HB.out.grown hg1 HB.out.size HL.out)
              clear hown1 hg1
              go_wp2_with fail
              go_roundw
              case rel => exact ⟨k + 1, k + 1, _, by omega, by go_num, by go_num, HX.out, HOWN.out, HB1.out⟩
              case measure => simp [intOf]; omega
            · have HX := Lib.hid (HAT.out.other hlt hgood.out (by rw [HC.out]; exact hsp))
              have HOWN := Lib.hid hown
              have HB := Lib.hid hbel
              have hspI : ((c : Int) == 32) = false := by simp; omega
              clear hown hbel hsp
              go_wp2_with fail
              go_roundw
              case rel => exact ⟨k + 1, b, out, by omega, by go_num, rfl, HX.out, HOWN.out, HB.out⟩
              case measure => simp [intOf]; omega
      · obtain rfl : k = s.size := by omega
        obtain ⟨hf, hgood⟩ := (HAT.out.last rfl).fields rfl
        have hap := appendPush u4 s b s.size w.heap.size out wr hown hbel.size (by omega) hk (by omega)
        rw [hf] at hap
        have HAP := Lib.hid hap
        have HL := Lib.hid (fun j (hj : u4.ownBlock = some j) => (hown.lt j hj).1)
        have HB := Lib.hid hbel
        have HGOOD := Lib.hid hgood
        have hfl := fieldsOf_le s
        clear hap hown hbel hgood hf
        go_wp2_with fail
        refine HAP.out.mono ?_
        rintro e w1 ⟨v', rfl, hown1, hg1⟩
        have HOWN := Lib.hid hown1
        have HB1 := Lib.hid (HB.out.grown hg1 HB.out.size HL.out)
        obtain ⟨A, cap, rfl, _⟩ := own_form hown1
        clear hown1 hg1
        by_cases h24 : 24 < (fieldsOf s).length
        · have hno := Lib.hid (show ¬ fOk s from fun h => by have := h.2.2; omega)
          go_wp2_with fail
          try rw [Exit.noGoto_ret]
          go_ret2
          exact FieldsPost.no hno.out (World.ownsRow_nil _ _ _ _) HB1.out
        · have hyes := Lib.hid (show fOk s from ⟨hs', HGOOD.out, by omega⟩)
          go_wp2_with fail
          try rw [Exit.noGoto_ret]
          go_ret2
          exact FieldsPost.yes hyes.out HOWN.out HB1.out
end Go.Proofs.YtlbjopmiaophkaaDoor
