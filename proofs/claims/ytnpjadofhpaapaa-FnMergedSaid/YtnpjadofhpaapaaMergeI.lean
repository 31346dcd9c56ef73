/- What is proved here: the library's copy of a slice of dependencies, and what the program's MergeDepends returns; only new blocks are written. -/
import Derived.Test.YtnpjadofhpaapaaAppD
import Derived.Test.YtnpjadofhpaapaaDokI
import Derived.Test.YtnpjadofhpaapaaInsertI
namespace Go.Proofs.Ytnpjadofhpaapaa
open Go.ChangeShapes Go.WideShapes Go.ChangeAt Go.RowKit
set_option linter.unusedVariables false
set_option maxRecDepth 20000

theorem libClone (A : Option Addr) (n cap : Nat) (D : List Dep) (w : World) (h : DepAt w w.heap.size A n D) (hn : n ≤ 4000000000) :
    Calls Try.prog 51 #[.slice A n cap] w (NewD D w) := by
  obtain ⟨i0, hi, hz0, hz1, hz2⟩ := info_parts info_dep
  have hl := h.1
  cases A with
  | none =>
    have hn0 : n = 0 := by
      rcases Nat.eq_zero_or_pos n with h0 | h0
      · exact h0
      · obtain ⟨b, off, e, _⟩ := h.2 h0; cases e
    subst hn0
    have hD : D = [] := List.eq_nil_of_length_eq_zero hl
    have HD := Lib.hid hD
    have hnil : ∀ w, (binOp .eql 33 (.slice none 0 cap) (.slice none 0 0)).run Try.prog w = .ok (.bool true) w := fun w => Go.Lib.run_eql_slice_nil w 33 36 _ 0 cap 0 0 Try.underlying33
    clear h hl hD
    go_enter Try.func51, Try.ntmps51
    go_wp2_with fail
    go_ret
    exact ⟨_, rfl, own_nilD HD.out _ _, Below.refl _ _⟩
  | some a =>
    have hnil : ∀ w, (binOp .eql 33 (.slice (some a) n cap) (.slice none 0 0)).run Try.prog w = .ok (.bool false) w := fun w => Go.Lib.run_eql_slice_nil w 33 36 _ n cap 0 0 Try.underlying33
    have HO := Lib.hid (own_madeD w (Nat.le_refl w.heap.size))
    have HI := Lib.hid ((h.none (Nat.le_refl _) (gb_alloc (gb_refl w none) (.cells #[] 36))))
    have HL := Lib.hid hl
    clear h hl
    go_enter Try.func51, Try.ntmps51
    go_wp2_with (at_builtin; refine wpList_app_ownD _ rfl _ _ rfl i0 hi hz0 hz1 hz2 w.heap.size 0 n cap w.heap.size (some a) [] D _ rfl rfl HO.out HI.out (by omega) (by simp) ?_; intro v' w2 ho2 hg2)
    go_ret
    refine ⟨v', rfl, ?_, gb_below_none (gb_made hg2) (Nat.le_refl _)⟩
    rw [HL.out]
    rw [Nat.zero_add] at ho2
    exact ho2
/-- A list of the call's own that has become D; the arguments lie below. -/
def MgAt (w : World) (D : List Dep) (v : Value) (wr : World) : Prop := wr.ownsRow w.heap.size 36 2 v D.length (depV D) ∧ Below w.heap.size w wr
theorem MgAt.gb {w wr w' : World} {D : List Dep} {v : Value} (h : MgAt w D v wr) (hg : wr.grownBy w' none) : MgAt w D v w' := ⟨own_none h.1 hg, below_gb h.2 (Nat.le_refl _) hg⟩
theorem MgAt.put {w wr w' : World} {D D' : List Dep} {v v' : Value} (h : MgAt w D v wr) (ho : w'.ownsRow w.heap.size 36 2 v' D'.length (depV D')) (hg : wr.grownBy w' v.ownBlock) : MgAt w D' v' w' :=
  ⟨ho, h.2.grown hg h.2.size (fun q hq => (h.1.lt q hq).1)⟩
theorem MgAt.box {w wr : World} {D : List Dep} {v : Value} (h : MgAt w D v wr) (o : Obj) : MgAt w D v (wr.alloc o) := h.gb (gb_alloc (gb_refl _ _) o)

theorem implMerge (A A2 : Option Addr) (n cap n2 c2 : Nat) (D E : List Dep) (w : World) (h : DepAt w w.heap.size A n D) (h2 : DepAt w w.heap.size A2 n2 E) (hn : n ≤ 1000000000) (hn2 : n2 ≤ 1000000000) :
    Calls Try.prog 18 #[.slice A n cap, .slice A2 n2 c2] w (NewD (mergeD D E) w) := by
  have hl := h.1
  have hl2 := h2.1
  have HI := Lib.hid h
  have HI2 := Lib.hid h2
  have HOK := Lib.hid (implDependsOk A n cap D w h (by omega))
  have HOK2 := Lib.hid (fun (w' : World) (h' : DepAt w' w'.heap.size A2 n2 E) => implDependsOk A2 n2 c2 E w' h' (by omega))
  have HCL := Lib.hid (fun (w' : World) (h' : DepAt w' w'.heap.size A n D) => libClone A n cap D w' h' (by omega))
  clear h h2
  cases hok : okD D with
  | false =>
    rw [merge_no1 hok]
    rw [hok] at HOK
    clear hok
    go_enter Try.func18, Try.ntmps18
    go_wp2_with fail
    refine HOK.out.mono ?_
    rintro e w1 ⟨rfl, hg1⟩
    have G1 := Lib.hid hg1
    clear hg1
    go_wp2_with fail
    go_ret
    exact ⟨_, rfl, own_nilD rfl _ _, gb_below_none G1.out (Nat.le_refl _)⟩
  | true =>
    rw [hok] at HOK
    cases hok2 : okD E with
    | false =>
      rw [merge_no2 hok2]
      rw [hok2] at HOK2
      clear hok hok2
      go_enter Try.func18, Try.ntmps18
      go_wp2_with fail
      refine HOK.out.mono ?_
      rintro e w1 ⟨rfl, hg1⟩
      have G1 := Lib.hid hg1
      clear hg1
      go_wp2_with fail
      refine (HOK2.out _ ((HI2.out.none (Nat.le_refl _) G1.out).more G1.out.size)).mono ?_
      rintro e w2 ⟨rfl, hg2⟩
      have G2 := Lib.hid (gb_trans G1.out hg2)
      clear hg2
      go_wp2_with fail
      go_ret
      exact ⟨_, rfl, own_nilD rfl _ _, gb_below_none G2.out (Nat.le_refl _)⟩
    | true =>
      have HM := Lib.hid (merge_yes hok hok2)
      have HASC := Lib.hid (okD_asc hok)
      rw [hok2] at HOK2
      obtain ⟨M, hM⟩ : ∃ M, mergeD D E = M := ⟨_, rfl⟩
      rw [hM] at HM
      rw [hM]
      clear hok hok2 hM
      go_enter Try.func18, Try.ntmps18
      go_wp2_with fail
      refine HOK.out.mono ?_
      rintro e w1 ⟨rfl, hg1⟩
      have G1 := Lib.hid hg1
      clear hg1
      go_wp2_with fail
      refine (HOK2.out _ ((HI2.out.none (Nat.le_refl _) G1.out).more G1.out.size)).mono ?_
      rintro e w2 ⟨rfl, hg2⟩
      have G2 := Lib.hid (gb_trans G1.out hg2)
      clear hg2
      go_wp2_with fail
      refine (HCL.out _ ((HI.out.none (Nat.le_refl _) G2.out).more G2.out.size)).mono ?_
      rintro e w3 ⟨v3, rfl, ho3, hb3⟩
      have X3 := Lib.hid (show MgAt w (insAll D (E.take 0)) v3 w3 from ⟨own_less ho3 G2.out.size, (gb_below_none G2.out (Nat.le_refl _)).trans (hb3.mono G2.out.size)⟩)
      clear ho3 hb3
      go_wp2_with fail
      go_loopw [5, 20] (fun v i wr => ∃ k : Nat, i = .int .i64 (k : Int) ∧ k ≤ n2 ∧ MgAt w (insAll D (E.take k)) v wr) (fun _ i _ => n2 - (intOf i).toNat)
      case atStart => exact ⟨0, rfl, Nat.zero_le _, X3.out⟩
      case round =>
        obtain ⟨k, rfl, hk, hx⟩ := hrel
        have X4 := Lib.hid hx
        have hai := HI2.out.below hx.2
        obtain ⟨Av, cv, rfl, _⟩ := own_form hx.1
        clear hx
        by_cases hlt : k < n2
        · obtain ⟨b1, off, rfl, hb1, c0, c1⟩ := hai.at k hlt
          obtain ⟨x, hx⟩ : ∃ x, atD E k = x := ⟨_, rfl⟩
          have HE := Lib.hid (insAll_take (D := D) (E := E) (k := k) (by omega))
          rw [hx] at c0 c1 HE
          have k0 : (0 : Int) ≤ (k : Int) := by omega
          have k1 : (k : Int) < (n2 : Int) := by omega
          obtain ⟨F, hF⟩ : ∃ F, insAll D (E.take k) = F := ⟨_, rfl⟩
          have hFa : ascD F := by rw [← hF]; exact insAll_asc HASC.out _
          have hFl : F.length ≤ 2000000000 := by
            have := (insAll_length D (E.take k)).1
            rw [hF] at this
            simp at this
            omega
          rw [hF] at X4 HE
          rw [hF]
          have HA := Lib.hid (fun (w' : World) (h : w'.ownsRow w.heap.size 36 2 (.slice Av F.length cv) F.length (depV F)) (hb : w.heap.size ≤ w'.heap.size) => implInsert w.heap.size F.length (.slice Av F.length cv) F x hFa w' h hb (by omega))
          clear hai hx hF hFa hFl
          go_wp2_with fail
          refine (HA.out _ (X4.out.box _).1 (X4.out.box _).2.size).mono ?_
          rintro e w5 ⟨v5, rfl, ho5, hg5⟩
          rw [← HE.out] at ho5
          have X5 := Lib.hid ((X4.out.box _).put ho5 hg5)
          clear ho5 hg5 c0 c1
          go_wp2_with fail
          go_roundw
          case rel => exact ⟨k + 1, by go_num, by omega, X5.out⟩
          case measure => simp [intOf]; omega
        · obtain rfl : k = n2 := by omega
          have h3 := X4.out.1
          have HL := Lib.hid (show E.take k = E by rw [← hl2]; exact List.take_length)
          clear hai h3
          go_wp2_with fail
          go_ret
          refine ⟨_, rfl, ?_, X4.out.2⟩
          have h3 := X4.out.1
          rw [HM.out]
          rw [HL.out] at h3 ⊢
          exact h3
end Go.Proofs.Ytnpjadofhpaapaa
