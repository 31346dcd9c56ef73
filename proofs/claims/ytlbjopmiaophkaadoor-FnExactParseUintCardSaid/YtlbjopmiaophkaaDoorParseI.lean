/- What is proved here: the program's ParseUint answers the number whose decimal text the string is, or none, where the library's listed variables hold what its text lays; only new blocks are written. -/
import Derived.Test.YtlbjopmiaophkaaDoorParseM
import Derived.Test.YtlbjopmiaophkaaDoorFmtI
import Derived.Stop.LaidErr
import Derived.LaidLaws
namespace Go.Proofs.YtlbjopmiaophkaaDoor
open Go.ChangeShapes Go.WideShapes Go.ChangeAt Go.RowKit
set_option linter.unusedVariables false

/-- The library's two error variables hold errors. -/
def Sents (w : World) : Prop := (∃ tp p, w.var? Tryd.prog "strconv.ErrRange" = some #[.iface tp p]) ∧ ∃ tp p, w.var? Tryd.prog "strconv.ErrSyntax" = some #[.iface tp p]

theorem errStar : "*" ++ "errors.errorString" = "*errors.errorString" := by decide
theorem errRow (u : TypeId) (h : Tryd.prog.typeName? 3 u = some "*errors.errorString") : u = 85 :=
  typeName_ptr_named (nm := "errors.errorString") (by rw [errStar]; kernel_rfl) (by kernel_rfl) (by decide) u (by rw [errStar]; exact h)
theorem sents_of_laid {t1 t2 : List UInt8} {x1 x2 x3 : String × DataW Unit} {W : World}
    (h : laidMet Tryd.prog (x1 :: x2 :: x3 :: ("strconv.ErrRange", .iface "*errors.errorString" (.ptr (.agg [.lit (.string t1)]))) :: ("strconv.ErrSyntax", .iface "*errors.errorString" (.ptr (.agg [.lit (.string t2)]))) :: []) W) : Sents W := by
  obtain ⟨a1, s1, h1, _⟩ := laid_sentinel (g := 2) (ti := 47) (tp := 85) (te := 87) (ts := 9) h.tail.tail.tail (by kernel_rfl) (by kernel_rfl) Tryd.underlying47 errRow Tryd.underlying85 Tryd.underlying87 (by rfl) (by rfl) Tryd.underlying9 (by kernel_rfl) (by kernel_rfl)
  obtain ⟨a2, s2, h2, _⟩ := laid_sentinel (g := 1) (ti := 47) (tp := 85) (te := 87) (ts := 9) h.tail.tail.tail.tail (by kernel_rfl) (by kernel_rfl) Tryd.underlying47 errRow Tryd.underlying85 Tryd.underlying87 (by rfl) (by rfl) Tryd.underlying9 (by kernel_rfl) (by kernel_rfl)
  exact ⟨⟨_, _, h1⟩, ⟨_, _, h2⟩⟩

theorem bytesWorld_grown (w : World) (e : TypeId) (t : ByteArray) : w.grownBy (Lib.bytesWorld w e t) none :=
  ⟨rfl, rfl, rfl, by rw [Lib.bytesWorld_size]; omega, fun i hi _ => Lib.bytesWorld_at_old w e t i hi⟩

theorem text_ne {t s : ByteArray} (h : ¬ t = s) : (t.toList == s.toList) = false := by
  rw [ByteArray.toList_eq, ByteArray.toList_eq]
  refine beq_eq_false_iff_ne.2 (fun e => h ?_)
  apply ByteArray.ext
  exact Array.toList_inj.1 e

theorem implParse (s : ByteArray) (w : World) (hs : s.size ≤ 2000000) (ht : Tab w) (hse : Sents w) :
    Calls Tryd.prog 14 #[.string s] w (PUPost s w) := by
  have HT := Lib.hid ht
  clear ht
  rcases hat : Lib.atoiAll s.data.toList with v | _ | _
  ·
    have hno : ¬ (0 ≤ v ∧ v ≤ 1000000000 ∧ (⟨(Lib.itoa v).toArray⟩ : ByteArray) = s) → ∀ m : Int, 0 ≤ m → m ≤ 1000000000 → (⟨(Lib.itoa m).toArray⟩ : ByteArray) ≠ s := by
      intro hn m h0 h1 he
      have h2 := atoi_itoa m.toNat (by omega)
      rw [show ((m.toNat : Nat) : Int) = m by omega, itoa_text he, hat] at h2
      injection h2 with h2
      subst h2
      exact hn ⟨h0, h1, he⟩
    have HNO := Lib.hid hno
    have HA := Lib.hid hat
    clear hno hat hse
    go_enter Tryd.func14, Tryd.ntmps14
    go_wp2_with fail
    refine (Tryd.strconv_Atoi_ok s (by omega) v HA.out _).mono ?_
    rintro e w1 ⟨rfl, hw1⟩
    have hg : w.grownBy w1 none := by
      rcases hw1 with rfl | ⟨t, rfl⟩
      · exact gb_refl _ _
      · exact bytesWorld_grown _ _ _
    have HG := Lib.hid hg
    clear hg hw1
    by_cases hin : 0 ≤ v ∧ v ≤ 1000000000
    · obtain ⟨h0, h1⟩ := hin
      have c2 := implFmt v (by omega) (by omega)
      by_cases heq : (⟨(Lib.itoa v).toArray⟩ : ByteArray) = s
      · unfold itoaI at c2
        rw [heq] at c2
        have C2 := Lib.hid c2
        have HEQ := Lib.hid heq
        clear c2 heq
        go_wp2_with fail
        refine (C2.out _ (HT.out.none HG.out)).mono ?_
        rintro e w2 ⟨rfl, hg2⟩
        have HG2 := Lib.hid (gb_trans HG.out hg2)
        clear hg2
        go_wp2_with fail
        go_ret2
        exact ⟨v, true, rfl, fun _ => ⟨h0, h1, HEQ.out⟩, (fun h => by cases h), gb_below_none HG2.out (Nat.le_refl _)⟩
      · have HNE := Lib.hid (HNO.out (fun h => heq h.2.2))
        obtain ⟨t, htt⟩ : ∃ t, itoaI v = t := ⟨_, rfl⟩
        have hne := text_ne (t := t) (s := s) (by rw [← htt]; exact heq)
        rw [htt] at c2
        have C2 := Lib.hid c2
        clear c2 heq htt
        go_wp2_with fail
        refine (C2.out _ (HT.out.none HG.out)).mono ?_
        rintro e w2 ⟨rfl, hg2⟩
        have HG2 := Lib.hid (gb_trans HG.out hg2)
        clear hg2
        go_wp2_with fail
        go_ret2
        exact ⟨0, false, rfl, (fun h => by cases h), fun _ => ⟨rfl, HNE.out⟩, gb_below_none HG2.out (Nat.le_refl _)⟩
    · have HNE := Lib.hid (HNO.out (fun h => hin ⟨h.1, h.2.1⟩))
      by_cases h0 : v < 0
      · clear hin
        go_wp2_with fail
        go_ret2
        exact ⟨0, false, rfl, (fun h => by cases h), fun _ => ⟨rfl, HNE.out⟩, gb_below_none HG.out (Nat.le_refl _)⟩
      · have h1 : 1000000000 < v := by omega
        clear hin
        go_wp2_with fail
        go_ret2
        exact ⟨0, false, rfl, (fun h => by cases h), fun _ => ⟨rfl, HNE.out⟩, gb_below_none HG.out (Nat.le_refl _)⟩
  ·
    have HNO : Hid (∀ m : Int, 0 ≤ m → m ≤ 1000000000 → (⟨(Lib.itoa m).toArray⟩ : ByteArray) ≠ s) := by
      intro m h0 h1 he
      have h2 := atoi_itoa m.toNat (by omega)
      rw [show ((m.toNat : Nat) : Int) = m by omega, itoa_text he, hat] at h2
      cases h2
    obtain ⟨_, tp, p, hv⟩ := hse
    have HV := Lib.hid hv
    have HA := Lib.hid hat
    clear hat hv
    go_enter Tryd.func14, Tryd.ntmps14
    go_wp2_with fail
    refine (Tryd.strconv_Atoi_syntax_var s (by omega) HA.out tp p _ HV.out).mono ?_
    rintro e w1 ⟨N, rfl, hN, hcN, hb⟩
    have HB := Lib.hid hb
    clear hb hN hcN
    go_wp2_with fail
    go_ret2
    exact ⟨0, false, rfl, (fun h => by cases h), fun _ => ⟨rfl, HNO.out⟩, HB.out⟩
  ·
    have HNO : Hid (∀ m : Int, 0 ≤ m → m ≤ 1000000000 → (⟨(Lib.itoa m).toArray⟩ : ByteArray) ≠ s) := by
      intro m h0 h1 he
      have h2 := atoi_itoa m.toNat (by omega)
      rw [show ((m.toNat : Nat) : Int) = m by omega, itoa_text he, hat] at h2
      cases h2
    obtain ⟨⟨tp, p, hv⟩, _⟩ := hse
    have HV := Lib.hid hv
    have HA := Lib.hid hat
    clear hat hv
    go_enter Tryd.func14, Tryd.ntmps14
    go_wp2_with fail
    refine (Tryd.strconv_Atoi_range_var s (by omega) HA.out tp p _ HV.out).mono ?_
    rintro e w1 ⟨N, rfl, hN, hcN, hb⟩
    have HB := Lib.hid hb
    clear hb hN hcN
    go_wp2_with fail
    go_ret2
    exact ⟨0, false, rfl, (fun h => by cases h), fun _ => ⟨rfl, HNO.out⟩, HB.out⟩
end Go.Proofs.YtlbjopmiaophkaaDoor
