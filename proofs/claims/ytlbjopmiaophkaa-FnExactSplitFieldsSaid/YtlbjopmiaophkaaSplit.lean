/- What is proved here: both SplitFields functions return the fields of a line, for every line; only new blocks are written. -/
import Derived.Test.YtlbjopmiaophkaaStrS
import Derived.Test.YtlbjopmiaophkaaShelf
namespace Go.Proofs.Ytlbjopmiaophkaa
open Go.ChangeShapes Go.WideShapes Go.ChangeAt Go.RowKit
set_option linter.unusedVariables false

def byteOf (s : ByteArray) (i : Nat) : Nat := (s.data.toList.getD i 0).toNat
theorem byteOf_lt (s : ByteArray) (i : Nat) : byteOf s i < 256 := (s.data.toList.getD i 0).toNat_lt
theorem byteOf_get (s : ByteArray) (i : Nat) (h : i < s.size) : s[i].toNat = byteOf s i := by
  unfold byteOf
  rw [List.getD_eq_getElem?_getD, List.getElem?_eq_getElem (by simpa using h)]; rfl
def pushF (s : ByteArray) (out : List ByteArray) (b i : Nat) : List ByteArray := if b < i then out ++ [s.extract b i] else out
def fstate (s : ByteArray) : Nat → List ByteArray × Nat
  | 0 => ([], 0)
  | i + 1 => if byteOf s i = 32 then (pushF s (fstate s i).1 (fstate s i).2 i, i + 1) else fstate s i
theorem fstate_le (s : ByteArray) : ∀ i, (fstate s i).2 ≤ i ∧ (fstate s i).1.length ≤ (fstate s i).2 := by
  intro i
  induction i with
  | zero => exact ⟨Nat.le_refl _, Nat.le_refl _⟩
  | succ i ih =>
    unfold fstate pushF
    (repeat' split) <;> (try simp) <;> omega
theorem fstate_space (s : ByteArray) (i : Nat) (h : byteOf s i = 32) : fstate s (i + 1) = (pushF s (fstate s i).1 (fstate s i).2 i, i + 1) := by rw [fstate, if_pos h]
theorem fstate_other (s : ByteArray) (i : Nat) (h : byteOf s i ≠ 32) : fstate s (i + 1) = fstate s i := by rw [fstate, if_neg h]
def fieldsOf (s : ByteArray) : List ByteArray := pushF s (fstate s s.size).1 (fstate s s.size).2 s.size
def fGood (s : ByteArray) (i : Nat) : Prop := 32 ≤ byteOf s i ∧ byteOf s i ≤ 126
def fOk (s : ByteArray) : Prop := s.size ≤ 600 ∧ (∀ i, i < s.size → fGood s i) ∧ (fieldsOf s).length ≤ 24
instance (s : ByteArray) (i : Nat) : Decidable (fGood s i) := inferInstanceAs (Decidable (_ ∧ _))
instance (s : ByteArray) : Decidable (fOk s) := inferInstanceAs (Decidable (_ ∧ _ ∧ _))
def fRes (s : ByteArray) : List ByteArray := if fOk s then fieldsOf s else []
def fBool (s : ByteArray) : Bool := decide (fOk s)
theorem fieldsOf_le (s : ByteArray) : (fieldsOf s).length ≤ s.size + 1 := by
  have := fstate_le s s.size
  unfold fieldsOf pushF
  split <;> (try simp) <;> omega
/-- What the loop knows at its head: k bytes are read. -/
def AtK (s : ByteArray) (k : Nat) (out : List ByteArray) (b : Nat) : Prop :=
  (k ≤ s.size → (out, b) = fstate s k) ∧ (k = s.size + 1 → out = fieldsOf s) ∧ (∀ j, j < k → j < s.size → fGood s j) ∧ b ≤ k ∧ out.length ≤ k
theorem AtK.zero (s : ByteArray) : AtK s 0 [] 0 := ⟨fun _ => rfl, fun h => by omega, fun j h => by omega, Nat.le_refl _, Nat.le_refl _⟩
theorem AtK.other {s : ByteArray} {k b : Nat} {out : List ByteArray} (h : AtK s k out b) (hk : k < s.size) (hg : fGood s k) (hc : byteOf s k ≠ 32) : AtK s (k + 1) out b := by
  obtain ⟨h1, h2, h3, h4, h5⟩ := h
  refine ⟨fun _ => ?_, fun e => by omega, fun j hj hs => ?_, by omega, by omega⟩
  · rw [fstate_other s k hc]; exact h1 (by omega)
  · by_cases e : j = k
    · subst e; exact hg
    · exact h3 j (by omega) hs
theorem AtK.space {s : ByteArray} {k b : Nat} {out : List ByteArray} (h : AtK s k out b) (hk : k < s.size) (hg : fGood s k) (hc : byteOf s k = 32) : AtK s (k + 1) (pushF s out b k) (k + 1) := by
  obtain ⟨h1, h2, h3, h4, h5⟩ := h
  have h1' := h1 (by omega)
  have hl := fstate_le s k
  rw [← h1'] at hl
  refine ⟨fun _ => ?_, fun e => by omega, fun j hj hs => ?_, by omega, ?_⟩
  · rw [fstate_space s k hc, ← h1']
  · by_cases e : j = k
    · subst e; exact hg
    · exact h3 j (by omega) hs
  · unfold pushF; split <;> (try simp) <;> omega
theorem AtK.last {s : ByteArray} {k b : Nat} {out : List ByteArray} (h : AtK s k out b) (hk : k = s.size) : AtK s (k + 1) (pushF s out b k) (k + 1) := by
  subst hk
  obtain ⟨h1, h2, h3, h4, h5⟩ := h
  have h1' := h1 (Nat.le_refl _)
  have hl := fstate_le s s.size
  rw [← h1'] at hl
  refine ⟨fun e => by omega, fun _ => ?_, fun j hj hs => h3 j hs hs, Nat.le_refl _, ?_⟩
  · unfold fieldsOf; rw [← h1']
  · unfold pushF; split <;> (try simp) <;> omega
theorem AtK.fields {s : ByteArray} {k b : Nat} {out : List ByteArray} (h : AtK s k out b) (hk : k = s.size + 1) : out = fieldsOf s ∧ ∀ i, i < s.size → fGood s i := ⟨h.2.1 hk, fun i hi => h.2.2.1 i (by omega) hi⟩
theorem pushF_yes (s : ByteArray) (out : List ByteArray) {b i : Nat} (h : b < i) : pushF s out b i = out ++ [s.extract b i] := if_pos h
theorem pushF_no (s : ByteArray) (out : List ByteArray) {b i : Nat} (h : ¬ b < i) : pushF s out b i = out := if_neg h
theorem strsV_append (a b : List ByteArray) : strsV (a ++ b) = strsV a ++ strsV b := by simp [strsV]

def FieldsPost (s : ByteArray) (w : World) (e : Ending) (w' : World) : Prop :=
  ∃ v, e = .returned (.tuple #[v, .bool (fBool s)]) ∧ w'.ownsRow w.heap.size 9 1 v (fRes s).length (strsV (fRes s)) ∧ Below w.heap.size w w'
theorem FieldsPost.no {s : ByteArray} {w w' : World} {v : Value} (h : ¬ fOk s) (hown : w'.ownsRow w.heap.size 9 1 v 0 []) (hb : Below w.heap.size w w') : FieldsPost s w (.returned (.tuple #[v, .bool false])) w' := by
  have e1 : fBool s = false := by unfold fBool; exact decide_eq_false h
  have e2 : fRes s = [] := by unfold fRes; rw [if_neg h]
  refine ⟨v, by rw [e1], ?_, hb⟩
  rw [e2]; exact hown
theorem FieldsPost.yes {s : ByteArray} {w w' : World} {v : Value} (h : fOk s) (hown : w'.ownsRow w.heap.size 9 1 v (fieldsOf s).length (strsV (fieldsOf s))) (hb : Below w.heap.size w w') : FieldsPost s w (.returned (.tuple #[v, .bool true])) w' := by
  have e1 : fBool s = true := by unfold fBool; exact decide_eq_true h
  have e2 : fRes s = fieldsOf s := by unfold fRes; rw [if_pos h]
  refine ⟨v, by rw [e1], ?_, hb⟩
  rw [e2]; exact hown

theorem info_str : (Try.prog.info? 9).map (fun i => (i.zero, i.size, i.bytes)) = some (some (.string ⟨#[]⟩), 1, 16) := by kernel_rfl

set_option maxRecDepth 100000 in
theorem specSplit (s : ByteArray) (w : World) (hm : s.size ≤ maxLen) :
    Calls Try.prog 15 #[.string s] w (FieldsPost s w) := by
  unfold maxLen at hm
  by_cases hs : 600 < s.size
  · have hno := Lib.hid (show ¬ fOk s from fun h => by have := h.1; omega)
    go_enter Try.func15, Try.ntmps15
    go_wp2_with fail
    go_ret2
    exact FieldsPost.no hno.out (World.ownsRow_made _ _ _ (Nat.le_refl _) (by decide) rfl) ((Below.refl _ _).alloc (Nat.le_refl _) _)
  · obtain ⟨i0, hi, hz0, hz1, hz2⟩ := info_parts info_str
    go_enter Try.func15, Try.ntmps15
    go_wp2_with fail
    have hs' : s.size ≤ 600 := by omega
    clear hs hm
    go_loopw [4, 5, 6] (fun v bb i wr => ∃ (k b : Nat) (out : List ByteArray), k ≤ s.size + 1 ∧ i = .int .i64 (k : Int) ∧ bb = .int .i64 (b : Int) ∧ AtK s k out b ∧ wr.ownsRow w.heap.size 9 1 v out.length (strsV out) ∧ Below w.heap.size w wr) (fun _ _ i _ => s.size + 1 - (intOf i).toNat)
    case atStart => exact ⟨0, 0, [], Nat.zero_le _, rfl, rfl, AtK.zero s, World.ownsRow_made _ _ _ (Nat.le_refl _) (by decide) rfl, (Below.refl _ _).alloc (Nat.le_refl _) _⟩
    case round =>
      obtain ⟨k, b, out, hk, rfl, rfl, hat, hown, hbel⟩ := hrel
      have hbk := hat.2.2.2.1
      have hol := hat.2.2.2.2
      have HAT := Lib.hid hat
      clear hat
      by_cases hlt : k < s.size
      · obtain ⟨c, hc⟩ : ∃ c, byteOf s k = c := ⟨_, rfl⟩
        have hget := byteOf_get s k hlt
        rw [hc] at hget
        have HC := Lib.hid hc
        clear hc
        by_cases h32 : c < 32
        · have hno := Lib.hid (show ¬ fOk s from fun h => by have := (h.2.1 k hlt).1; rw [HC.out] at this; omega)
          have HOWN := Lib.hid hown
          have HB := Lib.hid hbel
          clear hown hbel
          go_wp2_with fail
          go_ret2
          exact FieldsPost.no hno.out (World.ownsRow_made _ _ _ HB.out.size (by decide) rfl) (HB.out.alloc HB.out.size _)
        · by_cases h126 : 126 < c
          · have hno := Lib.hid (show ¬ fOk s from fun h => by have := (h.2.1 k hlt).2; rw [HC.out] at this; omega)
            have HB := Lib.hid hbel
            clear hown hbel
            go_wp2_with fail
            go_ret2
            exact FieldsPost.no hno.out (World.ownsRow_made _ _ _ HB.out.size (by decide) rfl) (HB.out.alloc HB.out.size _)
          · have hgood := Lib.hid (show fGood s k from ⟨by rw [HC.out]; omega, by rw [HC.out]; omega⟩)
            by_cases hsp : c = 32
            · subst hsp
              have HX := Lib.hid (HAT.out.space hlt hgood.out HC.out)
              by_cases hbk' : b < k
              · have b2 : ∀ u ∈ [Value.string (s.extract b k)], u.oneCell' = true := by simp [Value.oneCell']
                have b3 : out.length + 1 ≤ maxLen := by unfold maxLen; omega
                have hsz := hbel.size
                have B2 := Lib.hid b2
                have B3 := Lib.hid b3
                clear b2 b3
                go_wp2_with (at_builtin; refine wpList_append_own _ rfl _ _ 30 rfl w.heap.size 9 i0 (.string ⟨#[]⟩) 1 16 Try.underlying30 hi hz0 hz1 hz2 rfl (by decide) _ out.length _ rfl (hown.alloc _) ⟨wr.heap.size, 0, none⟩ 1 1 [.string (s.extract b k)] rfl rfl (World.news_of_block (cs := #[.string (s.extract b k)]) (t := 9) (fr := (0, 0)) (heap_alloc_new wr _)) B2.out B3.out (by omega) (by simp; omega) ?_; intro v' w1 hown1 hgrow _)
                have X : w1.ownsRow w.heap.size 9 1 v' (pushF s out b k).length (strsV (pushF s out b k)) ∧ Below w.heap.size w w1 :=
                  ⟨by rw [pushF_yes s out hbk', strsV_append, List.length_append]; exact hown1, (hbel.alloc hbel.size _).grown hgrow (by simp; omega) (fun j hj => (hown.lt j hj).1)⟩
                have HXX := Lib.hid X
                clear X hown1 hgrow hown hbel
                go_wp2_with fail
                go_roundw
                case rel => exact ⟨k + 1, k + 1, _, by omega, by go_num, by go_num, HX.out, HXX.out.1, HXX.out.2⟩
                case measure => simp [intOf]; omega
              · have X : wr.ownsRow w.heap.size 9 1 u4 (pushF s out b k).length (strsV (pushF s out b k)) ∧ Below w.heap.size w wr :=
                  ⟨by rw [pushF_no s out hbk']; exact hown, hbel⟩
                have HXX := Lib.hid X
                clear X hown hbel
                go_wp2_with fail
                go_roundw
                case rel => exact ⟨k + 1, k + 1, _, by omega, by go_num, by go_num, HX.out, HXX.out.1, HXX.out.2⟩
                case measure => simp [intOf]; omega
            · have HX := Lib.hid (HAT.out.other hlt hgood.out (by rw [HC.out]; exact hsp))
              have HOWN := Lib.hid hown
              have HB := Lib.hid hbel
              have hspI : ((c : Int) == 32) = false := by simp; omega
              have hspJ : ((c : Int) != 32) = true := by simp; omega
              clear hown hbel hsp
              go_wp2_with fail
              go_roundw
              case rel => exact ⟨k + 1, b, out, by omega, by go_num, rfl, HX.out, HOWN.out, HB.out⟩
              case measure => simp [intOf]; omega
      · by_cases heq : k = s.size
        · have HX := Lib.hid (HAT.out.last heq)
          have HEQ := Lib.hid heq
          have hge : s.size ≤ k := by omega
          have hle : k ≤ s.size := by omega
          clear heq
          by_cases hbk' : b < k
          · have b2 : ∀ u ∈ [Value.string (s.extract b k)], u.oneCell' = true := by simp [Value.oneCell']
            have b3 : out.length + 1 ≤ maxLen := by unfold maxLen; omega
            have hsz := hbel.size
            have B2 := Lib.hid b2
            have B3 := Lib.hid b3
            clear b2 b3
            go_wp2_with (at_builtin; refine wpList_append_own _ rfl _ _ 30 rfl w.heap.size 9 i0 (.string ⟨#[]⟩) 1 16 Try.underlying30 hi hz0 hz1 hz2 rfl (by decide) _ out.length _ rfl (hown.alloc _) ⟨wr.heap.size, 0, none⟩ 1 1 [.string (s.extract b k)] rfl rfl (World.news_of_block (cs := #[.string (s.extract b k)]) (t := 9) (fr := (0, 0)) (heap_alloc_new wr _)) B2.out B3.out (by omega) (by simp; omega) ?_; intro v' w1 hown1 hgrow _)
            have X : w1.ownsRow w.heap.size 9 1 v' (pushF s out b k).length (strsV (pushF s out b k)) ∧ Below w.heap.size w w1 :=
              ⟨by rw [pushF_yes s out hbk', strsV_append, List.length_append]; exact hown1, (hbel.alloc hbel.size _).grown hgrow (by simp; omega) (fun j hj => (hown.lt j hj).1)⟩
            have HXX := Lib.hid X
            clear X hown1 hgrow hown hbel
            go_wp2_with fail
            go_roundw
            case rel => exact ⟨k + 1, k + 1, _, by omega, by go_num, by go_num, HX.out, HXX.out.1, HXX.out.2⟩
            case measure => simp [intOf]; omega
          · have X : wr.ownsRow w.heap.size 9 1 u4 (pushF s out b k).length (strsV (pushF s out b k)) ∧ Below w.heap.size w wr :=
              ⟨by rw [pushF_no s out hbk']; exact hown, hbel⟩
            have HXX := Lib.hid X
            clear X hown hbel
            go_wp2_with fail
            go_roundw
            case rel => exact ⟨k + 1, k + 1, _, by omega, by go_num, by go_num, HX.out, HXX.out.1, HXX.out.2⟩
            case measure => simp [intOf]; omega
        · obtain ⟨hf, hgood⟩ := HAT.out.fields (by omega)
          subst hf
          have hfl := fieldsOf_le s
          have HGOOD := Lib.hid hgood
          have HOWN := Lib.hid hown
          have HB := Lib.hid hbel
          obtain ⟨A, cap, rfl, _⟩ := own_form hown
          clear hgood hown hbel
          by_cases h24 : 24 < (fieldsOf s).length
          · have hno := Lib.hid (show ¬ fOk s from fun h => by have := h.2.2; omega)
            go_wp2_with fail
            go_ret2
            exact FieldsPost.no hno.out (World.ownsRow_made _ _ _ HB.out.size (by decide) rfl) (HB.out.alloc HB.out.size _)
          · have hyes := Lib.hid (show fOk s from ⟨hs', HGOOD.out, by omega⟩)
            go_wp2_with fail
            go_ret2
            exact FieldsPost.yes hyes.out HOWN.out HB.out
end Go.Proofs.Ytlbjopmiaophkaa
