/- What is proved here: the law on hexadecimal texts answers true, for every draw, where the library's table of powers holds what its text lays; only new blocks are written. -/
import Derived.Test.YtlbjopmiaophkaaDoorText
import Derived.Test.YtlbjopmiaophkaaDoorHexI
import Derived.Test.YtlbjopmiaophkaaDoorDecI
import Derived.Test.YtlbjopmiaophkaaDoorFmtI
import Derived.Test.YtlbjopmiaophkaaDoorBig
namespace Go.Proofs.YtlbjopmiaophkaaDoor
open Go.ChangeShapes Go.WideShapes Go.ChangeAt Go.RowKit
set_option linter.unusedVariables false

theorem hexL_at : ∀ (l : List UInt8) (j : Nat), j < l.length → (hexL l).getD (2 * j) 0 = UInt8.ofNat (fig ((l.getD j 0).toNat / 16)) ∧ (hexL l).getD (2 * j + 1) 0 = UInt8.ofNat (fig ((l.getD j 0).toNat % 16)) := by
  intro l
  induction l with
  | nil => intro j h; simp at h
  | cons c l ih =>
    intro j h
    have e : hexL (c :: l) = UInt8.ofNat (fig (c.toNat / 16)) :: UInt8.ofNat (fig (c.toNat % 16)) :: hexL l := by simp [hexL, hexOf]
    rw [e]
    cases j with
    | zero => simp
    | succ j =>
      have := ih j (by simpa using h)
      rw [show 2 * (j + 1) = 2 * j + 1 + 1 by omega]
      simpa using this
theorem fig_lt {x : Nat} (h : x < 16) : fig x < 256 := by unfold fig; split <;> omega
theorem hv_fig {x : Nat} (h : x < 16) : hv (UInt8.ofNat (fig x)).toNat = (x : Int) := by
  have e : (UInt8.ofNat (fig x)).toNat = fig x := by simp; exact fig_lt h
  rw [e]
  unfold hv fig
  (repeat' split) <;> omega
def hexB (s : ByteArray) : ByteArray := ⟨(hexL s.data.toList).toArray⟩
theorem hexB_size (s : ByteArray) : (hexB s).size = 2 * s.size := by
  show (hexL s.data.toList).toArray.size = _
  simp [hexL_length]
theorem hexB_at (s : ByteArray) (j : Nat) (h : j < s.size) : hv (byteAt (hexB s) (2 * j)) = ((byteAt s j / 16 : Nat) : Int) ∧ hv (byteAt (hexB s) (2 * j + 1)) = ((byteAt s j % 16 : Nat) : Int) := by
  have hl : j < s.data.toList.length := by simpa using h
  have h2 := hexL_at s.data.toList j hl
  have hb := byteAt_lt s j
  unfold byteAt at hb ⊢
  unfold hexB
  simp only []
  rw [h2.1, h2.2]
  exact ⟨hv_fig (by omega), hv_fig (by omega)⟩
theorem hexB_ok (s : ByteArray) (j : Nat) (h : j < s.size) : okAt (hexB s) j := by
  have := hexB_at s j h
  exact ⟨by rw [this.1]; omega, by rw [this.2]; omega⟩
theorem decB_hex (s : ByteArray) (h : s.size ≤ 20000) : decB (hexB s) = true := by
  refine decide_eq_true ⟨?_, ?_, fun j hj => hexB_ok s j ?_⟩ <;> (try rw [hexB_size] at *) <;> omega
theorem decS_hex (s : ByteArray) (h : s.size ≤ 20000) : decS (hexB s) = s := by
  unfold decS
  rw [decB_hex s h]
  have e : decL (hexB s) ((hexB s).size / 2) = s.data.toList := by
    refine List.ext_getElem (by rw [decL_length, hexB_size]; simp) fun i h1 h2 => ?_
    have hi : i < s.size := by simpa using h2
    have ha := hexB_at s i hi
    simp only [decL, List.getElem_map, List.getElem_range]
    apply UInt8.toNat.inj
    have h3 := decAt_toNat (hexB s) i (hexB_ok s i hi)
    rw [ha.1, ha.2] at h3
    have h4 := byteAt_get s i hi
    have h5 : s.data.toList[i].toNat = byteAt s i := h4
    omega
  rw [if_pos rfl, e]
theorem itoa10 : itoaI 10 = ⟨#[49, 48]⟩ := by
  unfold itoaI
  have e : Lib.itoa 10 = [49, 48] := by
    have h := itoa_pos 10 (by omega)
    rw [dec_step 10 (by omega), dec_small 1 (by omega)] at h
    exact h
  rw [e]

def DrawnText (k : Nat) (w : World) (e : Ending) (w' : World) : Prop := ∃ s : ByteArray, e = .returned (.string s) ∧ s.size ≤ k ∧ Below w.heap.size w w'

theorem drawEncodeHex (A : Option Addr) (n cap : Nat) (w : World) (hr : ByteRow w w.heap.size A n) (hn : n ≤ 1048576) :
    Calls Tryd.prog 9 #[.slice A n cap] w (DrawnText 30000 w) := by
  go_enter Tryd.func9, Tryd.ntmps9
  go_wp2_with fail
  refine (l01New _ _ _ _ hr hn).mono ?_
  rintro e w1 ⟨g, rfl, hg, hc1, hb1⟩
  clear hr hn
  have HB1 := Lib.hid hb1
  have HG : Hid (w.heap.size ≤ g) := hg
  clear hb1 hg
  go_wp2_with fail
  refine (l01Once _ _ _ hc1).mono ?_
  rintro e w2 ⟨b, rfl, hc2, hg2⟩
  cases b
  · go_wp2_with fail
    refine (l01Below 30 _ _ hc2).mono ?_
    rintro e w3 ⟨r, rfl, hr0, hr1, hr2, hc3, hg3⟩
    obtain ⟨k, rfl⟩ : ∃ k : Nat, r = k := ⟨r.toNat, by omega⟩
    go_wp2_with fail
    refine (l01TextOf k _ _ hc3 (by omega)).mono ?_
    rintro e w4 ⟨s, rfl, hs, hc4, hg4⟩
    go_wp2_with fail
    go_ret
    exact ⟨s, rfl, by omega, HB1.out.trans (gb_below (gb_trans hg2 (gb_trans hg3 hg4)) HB1.out.size HG.out)⟩
  · go_wp2_with fail
    refine (l01Below 2 _ _ hc2).mono ?_
    rintro e w3 ⟨r, rfl, hr0, hr1, hr2, hc3, hg3⟩
    obtain ⟨k, hk⟩ : ∃ k : Nat, 20000 + r = k := ⟨(20000 + r).toNat, by omega⟩
    have hl := fun W => l01LongOf k 200 W (by omega)
    rw [← hk] at hl
    have HL := Lib.hid hl
    have hk' : k ≤ 20002 := by omega
    clear hk hl
    go_wp2_with fail
    refine (HL.out _).mono ?_
    rintro e w4 ⟨s, rfl, hs, hg4⟩
    go_wp2_with fail
    go_ret
    exact ⟨s, rfl, by omega, HB1.out.trans (gb_below (gb_trans hg2 (gb_trans hg3 (gb_of_none hg4 _))) HB1.out.size HG.out)⟩

theorem walk_FnHexText (A : Option Addr) (n cap : Nat) (w : World) (hr : ByteRow w w.heap.size A n) (ht : Tab w) :
    Calls Tryd.prog 3 #[.slice A n cap] w fun e w' => e = .returned (.bool true) ∧ Below w.heap.size w w' := by
  have HT := Lib.hid ht
  clear ht
  by_cases hn : 1048576 < n
  · have hd : decide (1048576 < n) = true := by simpa using hn
    clear hr
    go_enter Tryd.func3, Tryd.ntmps3
    go_wp2_with fail
    refine (lawsBig _ _ _ _).mono ?_
    rintro e w' ⟨rfl, rfl⟩
    go_wp2_with fail
    go_ret
    exact ⟨rfl, Below.refl _ _⟩
  · have hd : decide (1048576 < n) = false := by simpa using hn
    have Hr := Lib.hid hr
    have Hn := Lib.hid hn
    clear hr hn
    go_enter Tryd.func3, Tryd.ntmps3
    go_wp2_with fail
    refine (lawsBig _ _ _ _).mono ?_
    rintro e w' ⟨rfl, rfl⟩
    go_wp2_with fail
    refine (drawEncodeHex _ _ _ _ Hr.out (by have := Hn.out; omega)).mono ?_
    rintro e w1 ⟨s, rfl, hs, hb1⟩
    have B1 := Lib.hid hb1
    clear hb1
    by_cases hbig : 20000 < s.size
    · have c2 := implEnc s
      unfold EncPost at c2
      rw [if_pos hbig, decide_eq_true hbig] at c2
      have C2 := Lib.hid c2
      clear c2
      go_wp2_with fail
      refine (C2.out _).mono ?_
      rintro e w2 ⟨rfl, hb2⟩
      have B2 := Lib.hid (B1.out.trans (hb2.mono B1.out.size))
      clear hb2
      have c3 := implFmt 10 (by omega) (by omega)
      rw [itoa10] at c3
      have C3 := Lib.hid c3
      clear c3
      go_wp2_with fail
      refine (C3.out _ (HT.out.below B2.out)).mono ?_
      rintro e w3 ⟨rfl, hg3⟩
      have B3 := Lib.hid (B2.out.grown hg3 B2.out.size (fun k e => by cases e))
      clear hg3
      go_wp2_with fail
      go_ret
      exact ⟨rfl, B3.out⟩
    · have c2 := implEnc s
      unfold EncPost at c2
      rw [if_neg hbig, decide_eq_false hbig] at c2
      have C2 := Lib.hid (show ∀ W, _ from c2)
      have c3 := fun W => implDec (hexB s) W (by rw [hexB_size]; unfold maxLen; omega)
      unfold DecPost at c3
      rw [decS_hex s (by omega), decB_hex s (by omega)] at c3
      have C3 := Lib.hid c3
      have hsz := hexB_size s
      unfold hexB at hsz C3
      obtain ⟨h, hh⟩ : ∃ h : ByteArray, (⟨(hexL s.data.toList).toArray⟩ : ByteArray) = h := ⟨_, rfl⟩
      rw [hh] at hsz C2 C3
      have hszI : (h.size : Int) = 2 * (s.size : Int) := by omega
      clear c2 c3 hh hsz
      go_wp2_with fail
      refine (C2.out _).mono ?_
      rintro e w2 ⟨rfl, hb2⟩
      have B2 := Lib.hid (B1.out.trans (hb2.mono B1.out.size))
      clear hb2
      go_wp2_with fail
      refine (C3.out _).mono ?_
      rintro e w3 ⟨rfl, hb3⟩
      have B3 := Lib.hid (B2.out.trans (hb3.mono B2.out.size))
      clear hb3
      go_wp2_with fail
      go_ret
      exact ⟨rfl, B3.out⟩
end Go.Proofs.YtlbjopmiaophkaaDoor
