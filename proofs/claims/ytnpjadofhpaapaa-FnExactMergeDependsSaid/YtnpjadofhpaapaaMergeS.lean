/- What is proved here: what the model's MergeDepends returns; only new blocks are written. -/
import Derived.Test.YtnpjadofhpaapaaDokS
namespace Go.Proofs.Ytnpjadofhpaapaa
open Go.ChangeShapes Go.WideShapes Go.ChangeAt Go.RowKit
set_option linter.unusedVariables false
set_option maxRecDepth 20000

/-- A list that is not nil, in a block of the call's own from B on. -/
def DvAt (B : Nat) (w0 : World) (D : List Dep) (v : Value) (wr : World) : Prop :=
  (∃ g c, v = .slice (some ⟨g, 0, none⟩) D.length c) ∧ wr.ownsRow B 36 2 v D.length (depV D) ∧ B ≤ w0.heap.size ∧ Below B w0 wr
section
variable {B : Nat} {w0 wr w' : World} {D D' : List Dep} {v v' : Value}
theorem DvAt.gb (h : DvAt B w0 D v wr) (hg : wr.grownBy w' none) : DvAt B w0 D v w' := ⟨h.1, own_none h.2.1 hg, h.2.2.1, below_gb h.2.2.2 h.2.2.1 hg⟩
theorem DvAt.put {e : Ending} (h : DvAt B w0 D v wr) (hp : PutN B D' wr e w') : ∃ v', e = .returned v' ∧ DvAt B w0 D' v' w' ∧ wr.grownBy w' none := by
  obtain ⟨g, c, rfl, ho, hg⟩ := hp
  exact ⟨_, rfl, ⟨⟨g, c, rfl⟩, ho, h.2.2.1, below_gb h.2.2.2 h.2.2.1 hg⟩, hg⟩
theorem DvAt.start (w0 : World) (hB : B ≤ w0.heap.size) : DvAt B w0 [] (.slice (some ⟨w0.heap.size, 0, none⟩) 0 0) (w0.alloc (.cells #[] 36)) :=
  ⟨⟨_, _, rfl⟩, own_madeD w0 hB, hB, (Below.refl _ _).alloc hB _⟩
theorem DvAt.le (h : DvAt B w0 D v wr) : B ≤ wr.heap.size := Nat.le_trans h.2.2.1 h.2.2.2.size
end

theorem specMerge (A A2 : Option Addr) (n cap n2 c2 : Nat) (D E : List Dep) (w : World) (h : DepAt w w.heap.size A n D) (h2 : DepAt w w.heap.size A2 n2 E) (hn : n ≤ 900000000) (hn2 : n2 ≤ 900000000) :
    Calls Try.prog 35 #[.slice A n cap, .slice A2 n2 c2] w (NewD (mergeD D E) w) := by
  obtain ⟨i0, hi, hz0, hz1, hz2⟩ := info_parts info_dep
  have hl := h.1
  have hl2 := h2.1
  have HI := Lib.hid h
  have HI2 := Lib.hid h2
  have HB0 := Lib.hid (show Below w.heap.size w (w.alloc (.cells #[] 36)) from (Below.refl _ _).alloc (Nat.le_refl _) _)
  have HOK := Lib.hid (fun (w' : World) (h' : DepAt w' w'.heap.size A n D) => specDependsOk A n cap D w' h' (by omega))
  have HOK2 := Lib.hid (fun (w' : World) (h' : DepAt w' w'.heap.size A2 n2 E) => specDependsOk A2 n2 c2 E w' h' (by omega))
  have HAT := Lib.hid (fun (w' : World) (hb : Below w.heap.size w w') => (h.below hb).more hb.size)
  have HAT2 := Lib.hid (fun (w' : World) (hb : Below w.heap.size w w') => (h2.below hb).more hb.size)
  clear h h2
  cases hok : okD D with
  | false =>
    rw [merge_no1 hok]
    rw [hok] at HOK
    clear hok
    go_enter Try.func35, Try.ntmps35
    go_wp2_with (at_builtin; refine wpList_app_ownN _ rfl (.tmp 7) (.tmp 8) rfl i0 hi hz0 hz1 hz2 w.heap.size 0 n cap w.heap.size _ _ A [] D rfl rfl (own_madeD w (Nat.le_refl _)) (HI.out.below HB0.out) (by omega) (by simp) ?_; intro g1 q1 w1 ho1 hg1; have X1 := Lib.hid (show DvAt w.heap.size w D (.slice (some ⟨g1, 0, none⟩) (0 + n) q1) w1 from ⟨⟨g1, q1, by rw [Nat.zero_add, hl]⟩, by rw [Nat.zero_add] at ho1; rw [Nat.zero_add, hl]; exact ho1, Nat.le_refl _, gb_below_none (gb_made hg1) (Nat.le_refl _)⟩); clear ho1 hg1)
    refine (HOK.out _ (HAT.out _ X1.out.2.2.2)).mono ?_
    rintro e w2 ⟨rfl, hg2⟩
    have X2 := Lib.hid (X1.out.gb hg2)
    clear hg2
    go_wp2_with fail
    go_ret
    exact ⟨_, rfl, own_emptyD rfl X2.out.2.2.2⟩
  | true =>
    rw [hok] at HOK
    cases hok2 : okD E with
    | false =>
      rw [merge_no2 hok2]
      rw [hok2] at HOK2
      clear hok hok2
      go_enter Try.func35, Try.ntmps35
      go_wp2_with (at_builtin; refine wpList_app_ownN _ rfl (.tmp 7) (.tmp 8) rfl i0 hi hz0 hz1 hz2 w.heap.size 0 n cap w.heap.size _ _ A [] D rfl rfl (own_madeD w (Nat.le_refl _)) (HI.out.below HB0.out) (by omega) (by simp) ?_; intro g1 q1 w1 ho1 hg1; have X1 := Lib.hid (show DvAt w.heap.size w D (.slice (some ⟨g1, 0, none⟩) (0 + n) q1) w1 from ⟨⟨g1, q1, by rw [Nat.zero_add, hl]⟩, by rw [Nat.zero_add] at ho1; rw [Nat.zero_add, hl]; exact ho1, Nat.le_refl _, gb_below_none (gb_made hg1) (Nat.le_refl _)⟩); clear ho1 hg1)
      refine (HOK.out _ (HAT.out _ X1.out.2.2.2)).mono ?_
      rintro e w2 ⟨rfl, hg2⟩
      have X2 := Lib.hid (X1.out.gb hg2)
      clear hg2
      go_wp2_with fail
      refine (HOK2.out _ (HAT2.out _ X2.out.2.2.2)).mono ?_
      rintro e w3 ⟨rfl, hg3⟩
      have X3 := Lib.hid (X2.out.gb hg3)
      clear hg3
      go_wp2_with fail
      go_ret
      exact ⟨_, rfl, own_emptyD rfl X3.out.2.2.2⟩
    | true =>
      have HM := Lib.hid (merge_yes hok hok2)
      have HASC := Lib.hid (okD_asc hok)
      rw [hok2] at HOK2
      obtain ⟨M, hM⟩ : ∃ M, mergeD D E = M := ⟨_, rfl⟩
      rw [hM] at HM
      rw [hM]
      clear hok hok2 hM
      go_enter Try.func35, Try.ntmps35
      go_wp2_with (at_builtin; refine wpList_app_ownN _ rfl (.tmp 7) (.tmp 8) rfl i0 hi hz0 hz1 hz2 w.heap.size 0 n cap w.heap.size _ _ A [] D rfl rfl (own_madeD w (Nat.le_refl _)) (HI.out.below HB0.out) (by omega) (by simp) ?_; intro g1 q1 w1 ho1 hg1; have X1 := Lib.hid (show DvAt w.heap.size w (insAll D (E.take 0)) (.slice (some ⟨g1, 0, none⟩) (0 + n) q1) w1 from ⟨⟨g1, q1, by rw [Nat.zero_add, ← hl]; rfl⟩, by rw [Nat.zero_add] at ho1; rw [Nat.zero_add]; show w1.ownsRow _ _ _ _ D.length (depV D); rw [hl]; exact ho1, Nat.le_refl _, gb_below_none (gb_made hg1) (Nat.le_refl _)⟩); clear ho1 hg1)
      refine (HOK.out _ (HAT.out _ X1.out.2.2.2)).mono ?_
      rintro e w2 ⟨rfl, hg2⟩
      have X2 := Lib.hid (X1.out.gb hg2)
      clear hg2
      go_wp2_with fail
      refine (HOK2.out _ (HAT2.out _ X2.out.2.2.2)).mono ?_
      rintro e w3 ⟨rfl, hg3⟩
      have X3 := Lib.hid (X2.out.gb hg3)
      clear hg3
      go_wp2_with fail
      go_loopw [5, 6] (fun v i wr => ∃ k : Nat, i = .int .i64 (k : Int) ∧ k ≤ n2 ∧ DvAt w.heap.size w (insAll D (E.take k)) v wr) (fun _ i _ => n2 - (intOf i).toNat)
      case atStart => exact ⟨0, rfl, Nat.zero_le _, by have h := X3.out; rw [Nat.zero_add] at h; exact h⟩
      case round =>
        obtain ⟨k, rfl, hk, hx⟩ := hrel
        have X4 := Lib.hid hx
        have hai := HI2.out.below hx.2.2.2
        obtain ⟨gv, cv, rfl⟩ := hx.1
        clear hx
        by_cases hlt : k < n2
        · obtain ⟨b1, off, rfl, hb1, c0, c1⟩ := hai.at k hlt
          obtain ⟨x, hx⟩ : ∃ x, atD E k = x := ⟨_, rfl⟩
          have HE := Lib.hid (insAll_take (D := D) (E := E) (k := k) (by omega))
          rw [hx] at c0 c1 HE
          have k0 : (0 : Int) ≤ (k : Int) := by omega
          have k1 : (k : Int) < (n2 : Int) := by omega
          obtain ⟨F, hF⟩ : ∃ F, insAll D (E.take k) = F := ⟨_, rfl⟩
          have hFa : ascD F := by rw [← hF]; exact insAll_asc HASC.out _
          have hFl : F.length ≤ 1800000000 := by
            have := (insAll_length D (E.take k)).1
            rw [hF] at this
            simp at this
            omega
          rw [hF] at X4 HE
          rw [hF]
          have HA := Lib.hid (fun (w' : World) (h : w'.ownsRow w.heap.size 36 2 (.slice (some ⟨gv, 0, none⟩) F.length cv) F.length (depV F)) (hb : w.heap.size ≤ w'.heap.size) => specPut w.heap.size F.length gv cv F x hFa w' h hb (by omega))
          clear hai hx hF hFa hFl
          go_wp2_with fail
          refine (HA.out _ X4.out.2.1 X4.out.le).mono ?_
          intro e w5 hp
          rw [← HE.out] at hp
          obtain ⟨v5, rfl, hx5, _⟩ := X4.out.put hp
          have X5 := Lib.hid hx5
          clear hp hx5 c0 c1
          go_wp2_with fail
          go_roundw
          case rel => exact ⟨k + 1, by go_num, by omega, X5.out⟩
          case measure => simp [intOf]; omega
        · obtain rfl : k = n2 := by omega
          have HL := Lib.hid (show E.take k = E by rw [← hl2]; exact List.take_length)
          clear hai
          go_wp2_with fail
          go_ret
          refine ⟨_, rfl, ?_, X4.out.2.2.2⟩
          have h3 := X4.out.2.1
          rw [HM.out]
          rw [HL.out] at h3 ⊢
          exact h3
end Go.Proofs.Ytnpjadofhpaapaa
