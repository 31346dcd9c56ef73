/- What is proved here: the model's SplitFields returns the fields of a line, for every line; only new blocks are written. -/
import Derived.Test.YtlbjopmiaophkaaDoorSplitM
namespace Go.Proofs.YtlbjopmiaophkaaDoor
open Go.ChangeShapes Go.WideShapes Go.ChangeAt Go.RowKit
set_option linter.unusedVariables false

set_option maxRecDepth 100000 in
theorem specSplit (s : ByteArray) (w : World) (hm : s.size ≤ maxLen) :
    Calls Tryd.prog 17 #[.string s] w (FieldsPost s w) := by
  unfold maxLen at hm
  by_cases hs : 600 < s.size
  · have hno := Lib.hid (show ¬ fOk s from fun h => by have := h.1; omega)
    go_enter Tryd.func17, Tryd.ntmps17
    go_wp2_with fail
    go_ret2
    exact FieldsPost.no hno.out (World.ownsRow_made _ _ _ (Nat.le_refl _) (by decide) rfl) ((Below.refl _ _).alloc (Nat.le_refl _) _)
  · obtain ⟨i0, hi, hz0, hz1, hz2⟩ := info_parts info_str
    go_enter Tryd.func17, Tryd.ntmps17
    go_wp2_with fail
    have hs' : s.size ≤ 600 := by omega
    clear hs hm
    go_loopw [4, 5, 6] (fun v bb i wr => ∃ (k b : Nat) (out : List ByteArray), k ≤ s.size + 1 ∧ i = .int .i64 (k : Int) ∧ bb = .int .i64 (b : Int) ∧ AtK s k out b ∧ wr.ownsRow w.heap.size 9 1 v out.length (strsV out) ∧ Below w.heap.size w wr) (fun _ _ i _ => s.size + 1 - (intOf i).toNat)
    case atStart => exact ⟨0, 0, [], Nat.zero_le _, rfl, rfl, AtK.zero s, World.ownsRow_made _ _ _ (Nat.le_refl _) (by decide) rfl, (Below.refl _ _).alloc (Nat.le_refl _) _⟩
    case round =>
      obtain ⟨k, b, out, hk, rfl, rfl, hat, hown, hbel⟩ := hrel
      have hbk := hat.2.2.2.1
      have hol := hat.2.2.2.2
      have HAT := Lib.hid hat
      clear hat
      by_cases hlt : k < s.size
      · obtain ⟨c, hc⟩ : ∃ c, byteOf s k = c := ⟨_, rfl⟩
        have hget := byteOf_get s k hlt
        rw [hc] at hget
        have HC := Lib.hid hc
        clear hc
        by_cases h32 : c < 32
        · have hno := Lib.hid (show ¬ fOk s from fun h => by have := (h.2.1 k hlt).1; rw [HC.out] at this; omega)
          have HOWN := Lib.hid hown
          have HB := Lib.hid hbel
          clear hown hbel
          go_wp2_with fail
          go_ret2
          exact FieldsPost.no hno.out (World.ownsRow_made _ _ _ HB.out.size (by decide) rfl) (HB.out.alloc HB.out.size _)
        · by_cases h126 : 126 < c
          · have hno := Lib.hid (show ¬ fOk s from fun h => by have := (h.2.1 k hlt).2; rw [HC.out] at this; omega)
            have HB := Lib.hid hbel
            clear hown hbel
            go_wp2_with fail
            go_ret2
            exact FieldsPost.no hno.out (World.ownsRow_made _ _ _ HB.out.size (by decide) rfl) (HB.out.alloc HB.out.size _)
          · have hgood := Lib.hid (show fGood s k from ⟨by rw [HC.out]; omega, by rw [HC.out]; omega⟩)
            by_cases hsp : c = 32
            · subst hsp
              have HX := Lib.hid (HAT.out.space hlt hgood.out HC.out)
              by_cases hbk' : b < k
              · have b2 : ∀ u ∈ [Value.string (s.extract b k)], u.oneCell' = true := by simp [Value.oneCell']
                have b3 : out.length + 1 ≤ maxLen := by unfold maxLen; omega
                have hsz := hbel.size
                have B2 := Lib.hid b2
                have B3 := Lib.hid b3
                clear b2 b3
                go_wp2_with (at_builtin; refine wpList_append_own _ rfl _ _ 31 rfl w.heap.size 9 i0 (.string ⟨#[]⟩) 1 16 Tryd.underlying31 hi hz0 hz1 hz2 rfl (by decide) _ out.length _ rfl (hown.alloc _) ⟨wr.heap.size, 0, none⟩ 1 1 [.string (s.extract b k)] rfl rfl (World.news_of_block (cs := #[.string (s.extract b k)]) (t := 9) (fr := (0, 0)) (heap_alloc_new wr _)) B2.out B3.out (by omega) (by simp; omega) ?_; intro v' w1 hown1 hgrow _)
                have X : w1.ownsRow w.heap.size 9 1 v' (pushF s out b k).length (strsV (pushF s out b k)) ∧ Below w.heap.size w w1 :=
                  ⟨by rw [pushF_yes s out hbk', strsV_append, List.length_append]; exact hown1, (hbel.alloc hbel.size _).grown hgrow (by simp; omega) (fun j hj => (hown.lt j hj).1)⟩
                have HXX := Lib.hid X
                clear X hown1 hgrow hown hbel
                go_wp2_with fail
                go_roundw
                case rel => exact ⟨k + 1, k + 1, _, by omega, by go_num, by go_num, HX.out, HXX.out.1, HXX.out.2⟩
                case measure => simp [intOf]; omega
              · have X : wr.ownsRow w.heap.size 9 1 u4 (pushF s out b k).length (strsV (pushF s out b k)) ∧ Below w.heap.size w wr :=
                  ⟨by rw [pushF_no s out hbk']; exact hown, hbel⟩
                have HXX := Lib.hid X
                clear X hown hbel
                go_wp2_with fail
                go_roundw
                case rel => exact ⟨k + 1, k + 1, _, by omega, by go_num, by go_num, HX.out, HXX.out.1, HXX.out.2⟩
                case measure => simp [intOf]; omega
            · have HX := Lib.hid (HAT.out.other hlt hgood.out (by rw [HC.out]; exact hsp))
              have HOWN := Lib.hid hown
              have HB := Lib.hid hbel
              have hspI : ((c : Int) == 32) = false := by simp; omega
              have hspJ : ((c : Int) != 32) = true := by simp; omega
              clear hown hbel hsp
              go_wp2_with fail
              go_roundw
              case rel => exact ⟨k + 1, b, out, by omega, by go_num, rfl, HX.out, HOWN.out, HB.out⟩
              case measure => simp [intOf]; omega
      · by_cases heq : k = s.size
        · have HX := Lib.hid (HAT.out.last heq)
          have HEQ := Lib.hid heq
          have hge : s.size ≤ k := by omega
          have hle : k ≤ s.size := by omega
          clear heq
          by_cases hbk' : b < k
          · have b2 : ∀ u ∈ [Value.string (s.extract b k)], u.oneCell' = true := by simp [Value.oneCell']
            have b3 : out.length + 1 ≤ maxLen := by unfold maxLen; omega
            have hsz := hbel.size
            have B2 := Lib.hid b2
            have B3 := Lib.hid b3
            clear b2 b3
            go_wp2_with (at_builtin; refine wpList_append_own _ rfl _ _ 31 rfl w.heap.size 9 i0 (.string ⟨#[]⟩) 1 16 Tryd.underlying31 hi hz0 hz1 hz2 rfl (by decide) _ out.length _ rfl (hown.alloc _) ⟨wr.heap.size, 0, none⟩ 1 1 [.string (s.extract b k)] rfl rfl (World.news_of_block (cs := #[.string (s.extract b k)]) (t := 9) (fr := (0, 0)) (heap_alloc_new wr _)) B2.out B3.out (by omega) (by simp; omega) ?_; intro v' w1 hown1 hgrow _)
            have X : w1.ownsRow w.heap.size 9 1 v' (pushF s out b k).length (strsV (pushF s out b k)) ∧ Below w.heap.size w w1 :=
              ⟨by rw [pushF_yes s out hbk', strsV_append, List.length_append]; exact hown1, (hbel.alloc hbel.size _).grown hgrow (by simp; omega) (fun j hj => (hown.lt j hj).1)⟩
            have HXX := Lib.hid X
            clear X hown1 hgrow hown hbel
            go_wp2_with fail
            go_roundw
            case rel => exact ⟨k + 1, k + 1, _, by omega, by go_num, by go_num, HX.out, HXX.out.1, HXX.out.2⟩
            case measure => simp [intOf]; omega
          · have X : wr.ownsRow w.heap.size 9 1 u4 (pushF s out b k).length (strsV (pushF s out b k)) ∧ Below w.heap.size w wr :=
              ⟨by rw [pushF_no s out hbk']; exact hown, hbel⟩
            have HXX := Lib.hid X
            clear X hown hbel
            go_wp2_with fail
            go_roundw
            case rel => exact ⟨k + 1, k + 1, _, by omega, by go_num, by go_num, HX.out, HXX.out.1, HXX.out.2⟩
            case measure => simp [intOf]; omega
        · obtain ⟨hf, hgood⟩ := HAT.out.fields (by omega)
          subst hf
          have hfl := fieldsOf_le s
          have HGOOD := Lib.hid hgood
          have HOWN := Lib.hid hown
          have HB := Lib.hid hbel
          obtain ⟨A, cap, rfl, _⟩ := own_form hown
          clear hgood hown hbel
          by_cases h24 : 24 < (fieldsOf s).length
          · have hno := Lib.hid (show ¬ fOk s from fun h => by have := h.2.2; omega)
            go_wp2_with fail
            go_ret2
            exact FieldsPost.no hno.out (World.ownsRow_made _ _ _ HB.out.size (by decide) rfl) (HB.out.alloc HB.out.size _)
          · have hyes := Lib.hid (show fOk s from ⟨hs', HGOOD.out, by omega⟩)
            go_wp2_with fail
            go_ret2
            exact FieldsPost.yes hyes.out HOWN.out HB.out
end Go.Proofs.YtlbjopmiaophkaaDoor
