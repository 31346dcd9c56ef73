/- What is proved here: what the program's JoinRoutes returns for numbers of 64 bits; only new blocks are written. -/
import Derived.Test.YtakigpgkcneboaaRouteI
import Derived.Test.YtakigpgkcneboaaAppI
import Derived.Lib.SliceRun
namespace Go.Proofs.Ytakigpgkcneboaa
open Go.ChangeShapes Go.WideShapes Go.ChangeAt Go.RowKit
set_option linter.unusedVariables false

theorem implClone (A : Option Addr) (n cap : Nat) (L : List Int) (w : World) (h : IntAt w w.heap.size A n L) (h0 : 0 < n) (hn : n ≤ 1000000000) :
    Calls Try.prog 52 #[.slice A n cap] w (NewI L w) := by
  obtain ⟨i0, hi, hz0, hz1, hz2⟩ := info_parts info_int
  have hl := h.1
  have H1 := Lib.hid ((h.none (Nat.le_refl _) (gb_alloc (gb_refl w none) (.cells #[] 3))))
  have HO := Lib.hid (own_empty (L := []) rfl (Below.refl w.heap.size w))
  obtain ⟨b, off, rfl, _⟩ := h.2 h0
  have N1 := Lib.hid (show 0 + n ≤ 1000000000 by omega)
  have HL := Lib.hid hl
  have he : (binOp .eql 26 (.slice (some ⟨b, off, none⟩) n cap) (.slice none 0 0)).run Try.prog w = .ok (.bool false) w := Go.Lib.run_eql_slice_nil w 26 3 (some ⟨b, off, none⟩) n cap 0 0 Try.underlying26
  clear h hl h0 hn
  go_enter Try.func52, Try.ntmps52
  go_wp2_with (at_builtin; refine wpList_app_own _ rfl _ _ rfl i0 hi hz0 hz1 hz2 w.heap.size 0 n cap _ _ [] L _ rfl rfl HO.out.1 H1.out N1.out (by rw [alloc_size]; omega) ?_; intro v' w1 hown1 hgrow1)
  go_ret
  rw [Nat.zero_add, List.nil_append] at hown1
  exact ⟨_, rfl, by rw [HL.out]; exact hown1, (HO.out.2.grown hgrow1 (by rw [alloc_size]; omega) (fun j hj => by have := (HO.out.1.lt j hj).1; exact this))⟩

theorem wfl_append {a b : List Int} (ha : WfL a) (hb : WfL b) : WfL (a ++ b) := fun x hx => (List.mem_append.1 hx).elim (ha x) (hb x)
theorem wfl_nil0 : WfL [] := fun x h => by cases h

theorem implJoinRoutes (W H : Int) (A A2 A3 : Option Addr) (n cap n2 c2 n3 c3 : Nat) (L R S : List Int) (b : Bool) (hb : routeG W H L (R ++ S) = b) (hL : WfL L) (hR : WfL R) (hS : WfL S) (w : World)
    (h : IntAt w w.heap.size A n L) (h2 : IntAt w w.heap.size A2 n2 R) (h3 : IntAt w w.heap.size A3 n3 S) (hc2 : n2 ≤ c2) (hn : n ≤ 1000000000) (hn2 : n2 + n3 ≤ 1000000000) :
    Calls Try.prog 21 #[.agg #[.int .i64 W, .int .i64 H, .slice A n cap], .slice A2 n2 c2, .slice A3 n3 c3] w (NewR (joinG W H L R S) b w) := by
  obtain ⟨i0, hi, hz0, hz1, hz2⟩ := info_parts info_int
  have S0 := Lib.hid (OneAt.start (W := W) (H := H) (A := A) (n := n) (cap := cap) (gb_refl (w.alloc (.cells (meshC W H A n cap) 28)) none))
  have H0 := Lib.hid h
  have H2 := Lib.hid (S0.out.row h2)
  have H3 := Lib.hid (S0.out.row h3)
  have k0 : (0 : Int) ≤ (n2 : Int) := by omega
  have k1 : (n2 : Int) ≤ (n2 : Int) := Int.le_refl _
  have k2 : (n2 : Int) ≤ (c2 : Int) := by omega
  have HC := Lib.hid (fun A' c' w h h2 => implIsRoute W H A A' n cap (n2 + n3) c' L (R ++ S) b hb hL (wfl_append hR hS) w h h2 hn hn2)
  have hl2 := h2.1
  have hl3 := h3.1
  have HLen := Lib.hid (show (R ++ S).length = n2 + n3 by rw [List.length_append, hl2, hl3])
  clear h h2 h3 hl2 hl3
  cases b with
  | false =>
    have HJ := Lib.hid (joinG_no hb)
    clear hb hL hR hS
    go_enter Try.func21, Try.ntmps21
    go_wp2_with (at_builtin; refine wpList_app_cut _ rfl _ _ rfl i0 hi hz0 hz1 hz2 n2 n3 c3 _ _ A2 A3 R S rfl rfl H2.out H3.out hn2 (Nat.le_refl _) ?_; intro A' c' w1 hint1 hgrow1; have O1 := Lib.hid (S0.out.gb hgrow1); have HI1 := Lib.hid hint1; obtain ⟨a0, a1, a2⟩ := O1.out.cells; clear hint1 hgrow1)
    refine (HC.out _ _ _ (O1.out.row H0.out) HI1.out).mono ?_
    rintro e w2 ⟨rfl, hg2⟩
    have O2 := Lib.hid (O1.out.gb hg2).old
    clear hg2 a0 a1 a2
    go_wp2_with fail
    go_ret2
    exact ⟨_, rfl, own_nil HJ.out _ _, O2.out⟩
  | true =>
    have HJ := Lib.hid (joinG_yes hb)
    have hp := route_pos hb
    rw [HLen.out] at hp
    have HK := Lib.hid (fun A' c' w h => implClone A' (n2 + n3) c' (R ++ S) w h (by omega) hn2)
    clear hb hL hR hS hp
    go_enter Try.func21, Try.ntmps21
    go_wp2_with (at_builtin; refine wpList_app_cut _ rfl _ _ rfl i0 hi hz0 hz1 hz2 n2 n3 c3 _ _ A2 A3 R S rfl rfl H2.out H3.out hn2 (Nat.le_refl _) ?_; intro A' c' w1 hint1 hgrow1; have O1 := Lib.hid (S0.out.gb hgrow1); have HI1 := Lib.hid hint1; obtain ⟨a0, a1, a2⟩ := O1.out.cells; clear hint1 hgrow1)
    refine (HC.out _ _ _ (O1.out.row H0.out) HI1.out).mono ?_
    rintro e w2 ⟨rfl, hg2⟩
    have O2 := Lib.hid (O1.out.gb hg2).old
    have HI2 := Lib.hid ((HI1.out.none (Nat.le_refl _) hg2).more hg2.size)
    clear hg2 a0 a1 a2
    go_wp2_with fail
    refine (HK.out _ _ _ HI2.out).mono ?_
    rintro e w3 ⟨v, rfl, ho, hbl⟩
    rw [HLen.out] at ho
    obtain ⟨A3', c3', rfl, _⟩ := own_form ho
    have HO := Lib.hid (own_less ho O2.out.size)
    have HB := Lib.hid (O2.out.trans (hbl.mono O2.out.size))
    clear ho hbl
    go_wp2_with fail
    go_ret2
    exact ⟨_, rfl, by rw [HJ.out, HLen.out]; exact HO.out, HB.out⟩
end Go.Proofs.Ytakigpgkcneboaa
