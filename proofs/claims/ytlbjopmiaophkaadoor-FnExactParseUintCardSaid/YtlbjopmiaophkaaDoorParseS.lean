/- What is proved here: the model's ParseUint answers the number whose decimal text the string is, or none, for every string; only new blocks are written. -/
import Derived.Test.YtlbjopmiaophkaaDoorParseM
import Derived.Test.YtlbjopmiaophkaaDoorFmtS
namespace Go.Proofs.YtlbjopmiaophkaaDoor
open Go.ChangeShapes Go.WideShapes Go.ChangeAt Go.RowKit
set_option linter.unusedVariables false

theorem texts_ne {t s : ByteArray} (h : ¬ t = s) : (t.toList == s.toList) = false := by
  rw [ByteArray.toList_eq, ByteArray.toList_eq]
  refine beq_eq_false_iff_ne.2 (fun e => h ?_)
  apply ByteArray.ext
  exact Array.toList_inj.1 e
def digAt (s : ByteArray) (k : Nat) : Prop := 48 ≤ byteOf s k ∧ byteOf s k ≤ 57
theorem dig_of_text {s : ByteArray} {m : Int} (h0 : 0 ≤ m) (h1 : m ≤ 1000000000) (he : (⟨(Lib.itoa m).toArray⟩ : ByteArray) = s) : s.size ≤ 10 ∧ (∀ k, k < s.size → digAt s k) ∧ (valL s.data.toList : Int) = m := by
  obtain ⟨n, rfl⟩ : ∃ n : Nat, m = n := ⟨m.toNat, by omega⟩
  rw [itoa_nat] at he
  have hl : s.data.toList = Lib.decDigits n := by rw [← he]
  have hlen := dec_length 9 n (by omega)
  have hsz : s.size = s.data.toList.length := by simp
  refine ⟨by rw [hsz, hl]; exact hlen, fun k hk => ?_, by rw [hl, valL_dec n n (Nat.le_refl _)]⟩
  unfold digAt byteOf
  rw [List.getD_eq_getElem?_getD, List.getElem?_eq_getElem (by simpa using hk), Option.getD_some]
  exact dec_digit n n (Nat.le_refl _) _ (by rw [← hl]; exact List.getElem_mem _)
theorem val_step (s : ByteArray) (k : Nat) (h : k < s.size) : valL (s.data.toList.take (k + 1)) = 10 * valL (s.data.toList.take k) + (byteOf s k - 48) := by
  rw [take_snoc s k h, valL_snoc, byteOf_get s k h]
theorem val_bound (s : ByteArray) (k : Nat) (hk : k ≤ s.size) (hs : s.size ≤ 10) (hd : ∀ j, j < k → digAt s j) : valL (s.data.toList.take k) < 10000000000 := by
  have h := valL_lt (s.data.toList.take k) (fun c hc => by
    obtain ⟨j, hj, e⟩ := List.getElem_of_mem hc
    have hj' : j < k := by simp at hj; omega
    have h2 := hd j hj'
    have h3 := byteOf_get s j (by omega)
    unfold digAt at h2
    rw [← h3] at h2
    have e2 : s[j] = c := by rw [← e, List.getElem_take]; rfl
    rwa [e2] at h2)
  have hl : (s.data.toList.take k).length ≤ 10 := by simp; omega
  exact Nat.lt_of_lt_of_le h (Nat.pow_le_pow_right (by omega) hl)

set_option maxRecDepth 100000 in
theorem specParse (s : ByteArray) (w : World) (hm : s.size ≤ maxLen) :
    Calls Tryd.prog 20 #[.string s] w (PUPost s w) := by
  unfold maxLen at hm
  by_cases hs : 10 < s.size
  · have HNO : Hid (∀ m : Int, 0 ≤ m → m ≤ 1000000000 → (⟨(Lib.itoa m).toArray⟩ : ByteArray) ≠ s) := fun m h0 h1 he => by have := (dig_of_text h0 h1 he).1; omega
    go_enter Tryd.func20, Tryd.ntmps20
    go_wp2_with fail
    go_ret2
    exact ⟨0, false, rfl, (fun h => by cases h), fun _ => ⟨rfl, HNO.out⟩, Below.refl _ _⟩
  · have hs' : s.size ≤ 10 := by omega
    clear hs hm
    go_enter Tryd.func20, Tryd.ntmps20
    go_wp2_with fail
    go_loop [4, 5] (fun q i => ∃ k n : Nat, k ≤ s.size ∧ q = .int .i64 (n : Int) ∧ i = .int .i64 (k : Int) ∧ valL (s.data.toList.take k) = n ∧ ∀ j, j < k → digAt s j) (fun _ i => s.size - (intOf i).toNat)
    case atStart => exact ⟨0, 0, Nat.zero_le _, rfl, rfl, rfl, fun j h => by omega⟩
    case round =>
      obtain ⟨k, n, hk, rfl, rfl, hval, hdig⟩ := hrel
      have hb := val_bound s k hk hs' hdig
      rw [hval] at hb
      have HV := Lib.hid hval
      have HD := Lib.hid hdig
      clear hval hdig
      by_cases hlt : k < s.size
      · obtain ⟨c, hc⟩ : ∃ c, byteOf s k = c := ⟨_, rfl⟩
        have hget := byteOf_get s k hlt
        rw [hc] at hget
        have HC := Lib.hid hc
        clear hc
        by_cases hdg : 48 ≤ c ∧ c ≤ 57
        · obtain ⟨h48, h57⟩ := hdg
          have HX : Hid (valL (s.data.toList.take (k + 1)) = 10 * n + (c - 48) ∧ ∀ j, j < k + 1 → digAt s j) := ⟨by rw [val_step s k hlt, HV.out, HC.out], fun j hj => by
            by_cases e : j = k
            · subst e; exact ⟨by rw [HC.out]; exact h48, by rw [HC.out]; exact h57⟩
            · exact HD.out j (by omega)⟩
          go_wp2_with fail
          go_round
          case rel => exact ⟨k + 1, 10 * n + (c - 48), by omega, congrArg (Value.int .i64) (by omega), by go_num, HX.out.1, HX.out.2⟩
          case measure => simp [intOf]; omega
        · have HNO : Hid (∀ m : Int, 0 ≤ m → m ≤ 1000000000 → (⟨(Lib.itoa m).toArray⟩ : ByteArray) ≠ s) := fun m h0 h1 he => by
            have := (dig_of_text h0 h1 he).2.1 k hlt
            unfold digAt at this
            rw [HC.out] at this
            exact hdg this
          by_cases h48 : c < 48
          · clear hdg
            go_wp2_with fail
            go_ret2
            exact ⟨0, false, rfl, (fun h => by cases h), fun _ => ⟨rfl, HNO.out⟩, Below.refl _ _⟩
          · have h57 : 57 < c := by omega
            clear hdg
            go_wp2_with fail
            go_ret2
            exact ⟨0, false, rfl, (fun h => by cases h), fun _ => ⟨rfl, HNO.out⟩, Below.refl _ _⟩
      · obtain rfl : k = s.size := by omega
        have hv2 : valL s.data.toList = n := by have := HV.out; rwa [List.take_of_length_le (by simp)] at this
        by_cases hbig : 1000000000 < n
        · have HNO : Hid (∀ m : Int, 0 ≤ m → m ≤ 1000000000 → (⟨(Lib.itoa m).toArray⟩ : ByteArray) ≠ s) := fun m h0 h1 he => by
            have := (dig_of_text h0 h1 he).2.2
            omega
          clear hv2
          go_wp2_with fail
          go_ret2
          exact ⟨0, false, rfl, (fun h => by cases h), fun _ => ⟨rfl, HNO.out⟩, Below.refl _ _⟩
        · have c2 := specFmt (n : Int) (by omega) (by omega)
          by_cases heq : (⟨(Lib.itoa (n : Int)).toArray⟩ : ByteArray) = s
          · unfold itoaB at c2
            rw [heq] at c2
            have C2 := Lib.hid c2
            have HEQ := Lib.hid heq
            clear c2 heq hv2
            go_wp2_with fail
            refine (C2.out _).mono ?_
            rintro e w2 ⟨rfl, hg2⟩
            have HG2 := Lib.hid hg2
            clear hg2
            go_wp2_with fail
            go_ret2
            exact ⟨n, true, rfl, (fun _ => ⟨by omega, by omega, HEQ.out⟩), (fun h => by cases h), gb_below_none HG2.out (Nat.le_refl _)⟩
          · have HNO : Hid (∀ m : Int, 0 ≤ m → m ≤ 1000000000 → (⟨(Lib.itoa m).toArray⟩ : ByteArray) ≠ s) := fun m h0 h1 he => by
              have h3 := (dig_of_text h0 h1 he).2.2
              rw [hv2] at h3
              exact heq (by rw [h3]; exact he)
            obtain ⟨t, htt⟩ : ∃ t, itoaB (n : Int) = t := ⟨_, rfl⟩
            have hne := texts_ne (t := t) (s := s) (by rw [← htt]; exact heq)
            rw [htt] at c2
            have C2 := Lib.hid c2
            clear c2 heq htt hv2
            go_wp2_with fail
            refine (C2.out _).mono ?_
            rintro e w2 ⟨rfl, hg2⟩
            have HG2 := Lib.hid hg2
            clear hg2
            go_wp2_with fail
            go_ret2
            exact ⟨0, false, rfl, (fun h => by cases h), fun _ => ⟨rfl, HNO.out⟩, gb_below_none HG2.out (Nat.le_refl _)⟩
end Go.Proofs.YtlbjopmiaophkaaDoor
