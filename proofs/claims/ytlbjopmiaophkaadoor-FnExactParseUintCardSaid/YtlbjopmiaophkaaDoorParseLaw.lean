/- What is proved here: the laws on ParseUint and on numbers answer true, for every argument, where the library's listed variables hold what its text lays; only new blocks are written. -/
import Derived.Test.YtlbjopmiaophkaaDoorParseI
import Derived.Test.YtlbjopmiaophkaaDoorParseS
import Derived.Test.YtlbjopmiaophkaaDoorNumber
import Derived.Test.YtlbjopmiaophkaaDoorBig
namespace Go.Proofs.YtlbjopmiaophkaaDoor
open Go.ChangeShapes Go.WideShapes Go.ChangeAt Go.RowKit
set_option linter.unusedVariables false

theorem Sents.below {w w' : World} (h : Sents w) (hb : Below w.heap.size w w') : Sents w' := by
  obtain ⟨⟨t1, p1, h1⟩, t2, p2, h2⟩ := h
  have key : ∀ {nm : String} {cs : Array Value}, w.var? Tryd.prog nm = some cs → w'.var? Tryd.prog nm = some cs := by
    intro nm cs hv
    unfold World.var? at hv ⊢
    cases hg : Tryd.prog.globalNamed nm with
    | none => simp [hg] at hv
    | some g =>
      simp only [hg, Option.bind_some] at hv ⊢
      have hlt : g < w.heap.size := by
        rcases Nat.lt_or_ge g w.heap.size with h' | h'
        · exact h'
        · simp [Array.getElem?_eq_none h'] at hv
      rw [hb.block g hlt]; exact hv
  exact ⟨⟨t1, p1, key h1⟩, t2, p2, key h2⟩

theorem pu_same {s : ByteArray} {n1 n2 : Int} {b1 b2 : Bool} (t1 : b1 = true → 0 ≤ n1 ∧ n1 ≤ 1000000000 ∧ (⟨(Lib.itoa n1).toArray⟩ : ByteArray) = s) (f1 : b1 = false → n1 = 0 ∧ ∀ m : Int, 0 ≤ m → m ≤ 1000000000 → (⟨(Lib.itoa m).toArray⟩ : ByteArray) ≠ s)
    (t2 : b2 = true → 0 ≤ n2 ∧ n2 ≤ 1000000000 ∧ (⟨(Lib.itoa n2).toArray⟩ : ByteArray) = s) (f2 : b2 = false → n2 = 0 ∧ ∀ m : Int, 0 ≤ m → m ≤ 1000000000 → (⟨(Lib.itoa m).toArray⟩ : ByteArray) ≠ s) : n1 = n2 ∧ b1 = b2 := by
  cases b1 <;> cases b2
  · exact ⟨(f1 rfl).1.trans (f2 rfl).1.symm, rfl⟩
  · exact absurd (t2 rfl).2.2 ((f1 rfl).2 _ (t2 rfl).1 (t2 rfl).2.1)
  · exact absurd (t1 rfl).2.2 ((f2 rfl).2 _ (t1 rfl).1 (t1 rfl).2.1)
  · obtain ⟨a0, a1, a2⟩ := t1 rfl
    obtain ⟨c0, c1, c2⟩ := t2 rfl
    exact ⟨itoa_same a0 a1 (by omega) (by omega) ((itoa_text a2).trans (itoa_text c2).symm), rfl⟩

theorem walk_FnExactParseUint (s : ByteArray) (w : World) (hm : s.size ≤ maxLen) (ht : Tab w) (hs : Sents w) :
    Calls Tryd.prog 7 #[.string s] w fun e w' => e = .returned (.bool true) ∧ Below w.heap.size w w' := by
  have c1 := fun W => specParse s W hm
  unfold maxLen at hm
  by_cases hbig : 1048576 < s.size
  · clear c1 ht hs
    go_enter Tryd.func7, Tryd.ntmps7
    go_wp2_with fail
    go_ret
    exact ⟨rfl, Below.refl _ _⟩
  · have c2 := fun W => implParse s W (by omega)
    have C1 := Lib.hid c1
    have C2 := Lib.hid c2
    have HT := Lib.hid ht
    have HS := Lib.hid hs
    clear c1 c2 ht hs
    go_enter Tryd.func7, Tryd.ntmps7
    go_wp2_with fail
    refine (C1.out _).mono ?_
    rintro e w1 ⟨n1, b1, rfl, t1, f1, hb1⟩
    have B1 := Lib.hid hb1
    have T1 := Lib.hid t1
    have F1 := Lib.hid f1
    clear hb1 t1 f1
    go_wp2_with fail
    refine (C2.out _ (HT.out.below B1.out) (HS.out.below B1.out)).mono ?_
    rintro e w2 ⟨n2, b2, rfl, t2, f2, hb2⟩
    obtain ⟨rfl, rfl⟩ := pu_same T1.out F1.out t2 f2
    have B2 := Lib.hid (B1.out.trans (hb2.mono B1.out.size))
    clear hb2 t2 f2
    go_wp2_with fail
    go_ret
    exact ⟨rfl, B2.out⟩

def DrawnInt (w : World) (e : Ending) (w' : World) : Prop := ∃ n : Int, e = .returned (.int .i64 n) ∧ IsI64 n ∧ Below w.heap.size w w'
theorem i64_wrap (n : Int) : IsI64 (wrap64 n) := by
  have h := wf_wrap .i64 n
  rw [IntKind.wrap_i64] at h
  unfold IsI64 wrap64
  exact h

theorem drawFormatInt (A : Option Addr) (n cap : Nat) (w : World) (hr : ByteRow w w.heap.size A n) (hn : n ≤ 1048576) :
    Calls Tryd.prog 13 #[.slice A n cap] w (DrawnInt w) := by
  go_enter Tryd.func13, Tryd.ntmps13
  go_wp2_with fail
  refine (l01New _ _ _ _ hr hn).mono ?_
  rintro e w1 ⟨g, rfl, hg, hc1, hb1⟩
  clear hr hn
  have HB1 := Lib.hid hb1
  have HG : Hid (w.heap.size ≤ g) := hg
  clear hb1 hg
  go_wp2_with fail
  refine (l01Once _ _ _ hc1).mono ?_
  rintro e w2 ⟨b, rfl, hc2, hg2⟩
  cases b
  · go_wp2_with fail
    refine (l01Number _ _ hc2).mono ?_
    rintro e w3 ⟨r, rfl, hr, hc3, hg3⟩
    go_wp2_with fail
    go_ret
    exact ⟨r, rfl, hr, HB1.out.trans (gb_below (gb_trans hg2 hg3) HB1.out.size HG.out)⟩
  · go_wp2_with fail
    refine (l01Below 1000000 _ _ hc2).mono ?_
    rintro e w3 ⟨r, rfl, hr0, hr1, hr2, hc3, hg3⟩
    go_wp2_with fail
    refine (l01Below 2000000 _ _ hc3).mono ?_
    rintro e w4 ⟨q, rfl, hq0, hq1, hq2, hc4, hg4⟩
    have HQ := Lib.hid hq0
    go_wp2_with fail
    go_ret
    exact ⟨_, rfl, i64_wrap _, HB1.out.trans (gb_below (gb_trans hg2 (gb_trans hg3 hg4)) HB1.out.size HG.out)⟩

theorem itoaI_ne (n : Int) : (itoaI n).toList.isEmpty = false := by
  rw [ByteArray.toList_eq]
  have : Lib.itoa n ≠ [] := by
    unfold Lib.itoa
    split
    · simp
    · exact dec_ne _
  simpa [itoaI] using this
theorem itoaI_small (n : Int) (h0 : -9223372036854775808 ≤ n) (h1 : n ≤ 9223372036854775807) : (itoaI n).size ≤ 2000000 := by
  show (Lib.itoa n).toArray.size ≤ _
  have hd : ∀ m : Nat, m ≤ 9223372036854775808 → (Lib.decDigits m).length ≤ 30 := fun m hm => Nat.le_trans (dec_length 19 m (by omega)) (by omega)
  unfold Lib.itoa
  split
  · have := hd n.natAbs (by omega)
    simp; omega
  · have := hd n.toNat (by omega)
    simp; omega

theorem walk_FnNumbers (A : Option Addr) (n cap : Nat) (w : World) (hr : ByteRow w w.heap.size A n) (ht : Tab w) (hs : Sents w) :
    Calls Tryd.prog 4 #[.slice A n cap] w fun e w' => e = .returned (.bool true) ∧ Below w.heap.size w w' := by
  have HT := Lib.hid ht
  have HS := Lib.hid hs
  clear ht hs
  by_cases hn : 1048576 < n
  · have hd : decide (1048576 < n) = true := by simpa using hn
    clear hr
    go_enter Tryd.func4, Tryd.ntmps4
    go_wp2_with fail
    refine (lawsBig _ _ _ _).mono ?_
    rintro e w' ⟨rfl, rfl⟩
    go_wp2_with fail
    go_ret
    exact ⟨rfl, Below.refl _ _⟩
  · have hd : decide (1048576 < n) = false := by simpa using hn
    have Hr := Lib.hid hr
    have Hn := Lib.hid hn
    clear hr hn
    go_enter Tryd.func4, Tryd.ntmps4
    go_wp2_with fail
    refine (lawsBig _ _ _ _).mono ?_
    rintro e w' ⟨rfl, rfl⟩
    go_wp2_with fail
    refine (drawFormatInt _ _ _ _ Hr.out (by have := Hn.out; omega)).mono ?_
    rintro e w1 ⟨x, rfl, hx, hb1⟩
    have hxb := bounds_i64 hx
    have B1 := Lib.hid hb1
    have HXB := Lib.hid hxb
    have c2 := implFmt x hxb.1 hxb.2
    have c3 := fun W => implParse (itoaI x) W (itoaI_small x hxb.1 hxb.2)
    have hne := itoaI_ne x
    obtain ⟨t, htt⟩ : ∃ t, itoaI x = t := ⟨_, rfl⟩
    rw [htt] at c2 c3 hne
    have C2 := Lib.hid c2
    have C3 := Lib.hid c3
    have HTT := Lib.hid htt
    clear hb1 hxb hx c2 c3 htt
    go_wp2_with fail
    refine (C2.out _ (HT.out.below B1.out)).mono ?_
    rintro e w2 ⟨rfl, hg2⟩
    have B2 := Lib.hid (B1.out.grown hg2 B1.out.size (fun k e => by cases e))
    clear hg2
    go_wp2_with fail
    refine (C3.out _ (HT.out.below B2.out) (HS.out.below B2.out)).mono ?_
    rintro e w3 ⟨y, b, rfl, tb, fb, hb3⟩
    have B3 := Lib.hid (B2.out.trans (hb3.mono B2.out.size))
    clear hb3
    cases b
    · have hout : ¬ (0 ≤ x ∧ x ≤ 1000000000) := fun h => (fb rfl).2 x h.1 h.2 HTT.out
      clear tb fb
      by_cases h0 : x < 0
      · clear hout
        go_wp2_with fail
        go_ret
        exact ⟨rfl, B3.out⟩
      · have h1 : 1000000000 < x := by omega
        clear hout
        go_wp2_with fail
        go_ret
        exact ⟨rfl, B3.out⟩
    · obtain ⟨a0, a1, a2⟩ := tb rfl
      have hyx : y = x := itoa_same a0 a1 HXB.out.1 HXB.out.2 ((itoa_text a2).trans (itoa_text HTT.out).symm)
      subst hyx
      clear tb fb a2
      go_wp2_with fail
      go_ret
      exact ⟨rfl, B3.out⟩
end Go.Proofs.YtlbjopmiaophkaaDoor
