/- What is proved here: the laws' helpers for lists of packets: copy, compare, mark, look for the marks, count; only the marked row and new blocks are written. -/
import Derived.Test.YtfloekbmgjmhbaaPktE
import Derived.Deep.RegionHeld3
import Derived.Deep.MidRow
namespace Go.Proofs.Ytfloekbmgjmhbaa
open Go.ChangeShapes Go.WideShapes Go.ChangeAt Go.RowKit
set_option linter.unusedVariables false
set_option maxRecDepth 20000

theorem gb_drP {a b : World} {row : Option Nat} (h : a.drew.grownBy b row) : a.grownBy b row := ⟨h.os, h.tape, h.output, h.size, h.block⟩
def pkt0 : Pkt := ⟨0, 0, 0, 0, 0⟩
def atP (D : List Pkt) (k : Nat) : Pkt := D.getD k pkt0
theorem atP_get {D : List Pkt} {k : Nat} (h : k < D.length) : D[k]? = some (atP D k) := by
  rw [atP, List.getD_eq_getElem?_getD, List.getElem?_eq_getElem h]
  rfl
theorem atP_of {D : List Pkt} {k : Nat} {x : Pkt} (h : D[k]? = some x) : atP D k = x := by
  rw [atP, List.getD_eq_getElem?_getD, h]
  rfl
theorem info_pkt : (Try.prog.info? 44).map (fun i => (i.zero, i.size, i.bytes)) = some (some (pktX pkt0), 5, 40) := by kernel_rfl
theorem lawsEqPacket (x : Pkt) (w : World) :
    Calls Try.prog 70 #[pktX x, pktX x] w (RetB true w) := by
  unfold pktX
  go_enter Try.func70, Try.ntmps70
  go_wp2_with fail
  go_ret
  exact ⟨rfl, gb_alloc (gb_alloc (gb_refl _ _) _) _⟩
theorem lawsSzP (A : Option Addr) (n cap : Nat) (m : Int) (w : World) (hn : n ≤ 9223372036854775807) (hm0 : 0 ≤ m) (hm1 : m ≤ 1048576) :
    Calls Try.prog 24 #[.slice A n cap, .int .i64 m] w fun e w' => e = .returned (.int .i64 (if m < (n : Int) then -1 else m - n)) ∧ w.grownBy w' none := by
  by_cases hlt : m < (n : Int)
  · go_enter Try.func24, Try.ntmps24
    go_wp2_with fail
    go_ret
    exact ⟨ret_int64 (by (repeat' split) <;> first | rfl | omega), gb_refl _ _⟩
  · go_enter Try.func24, Try.ntmps24
    go_wp2_with fail
    go_ret
    exact ⟨ret_int64 (by (repeat' split) <;> first | rfl | omega), gb_refl _ _⟩

/-- The five cells of a record. -/
theorem pkt_five {w : World} {b o : Nat} {x : Pkt} (h : ∀ j v, (pktC x)[j]? = some v → w.cell? ⟨b, o + j, none⟩ = some v) :
    w.cell? ⟨b, o, none⟩ = some (.int .i64 x.id) ∧ w.cell? ⟨b, o + 1, none⟩ = some (.int .i64 x.fr) ∧ w.cell? ⟨b, o + 2, none⟩ = some (.int .i64 x.to) ∧ w.cell? ⟨b, o + 3, none⟩ = some (.int .i64 x.cl) ∧ w.cell? ⟨b, o + 4, none⟩ = some (.int .i64 x.ln) :=
  ⟨h 0 _ rfl, h 1 _ rfl, h 2 _ rfl, h 3 _ rfl, h 4 _ rfl⟩
theorem lawsEqPS (A1 A2 : Option Addr) (n c1 c2 : Nat) (D : List Pkt) (w : World) (h1 : RecAt 5 pktC w w.heap.size A1 n D) (h2 : RecAt 5 pktC w w.heap.size A2 n D) (hn : n ≤ 1000000000) :
    Calls Try.prog 27 #[.slice A1 n c1, .slice A2 n c2] w (RetB true w) := by
  have H1 := Lib.hid h1
  have H2 := Lib.hid h2
  have HE := Lib.hid (fun x w => lawsEqPacket x w)
  clear h1 h2
  go_enter Try.func27, Try.ntmps27
  go_wp2_with fail
  go_loopw [5] (fun i wr => ∃ k : Nat, i = .int .i64 (k : Int) ∧ k ≤ n ∧ w.grownBy wr none) (fun i _ => n - (intOf i).toNat)
  case atStart => exact ⟨0, rfl, Nat.zero_le _, gb_refl _ _⟩
  case round =>
    obtain ⟨k, rfl, hk, hg⟩ := hrel
    have HG := Lib.hid hg
    by_cases hlt : k < n
    · obtain ⟨g1, o1, x, rfl, _, hx, ha⟩ := (H1.out.none (Nat.le_refl _) hg).at k hlt
      obtain ⟨g2, o2, y, rfl, _, hy, hb⟩ := (H2.out.none (Nat.le_refl _) hg).at k hlt
      obtain rfl : x = y := by rw [hx] at hy; exact Option.some.inj hy
      obtain ⟨a0, a1, a2, a3, a4⟩ := pkt_five ha
      obtain ⟨b0, b1, b2, b3, b4⟩ := pkt_five hb
      have k0 : (0 : Int) ≤ (k : Int) := by omega
      have k1 : (k : Int) < (n : Int) := by omega
      clear hx hy ha hb hg
      go_wp2_with fail
      go_region_held3 (fun w' => w'.cell? ⟨g1, o1 + k * 5, none⟩ = some (.int .i64 x.id) ∧ w'.cell? ⟨g1, o1 + k * 5 + 1, none⟩ = some (.int .i64 x.fr) ∧ w'.cell? ⟨g1, o1 + k * 5 + 2, none⟩ = some (.int .i64 x.to) ∧ w'.cell? ⟨g1, o1 + k * 5 + 3, none⟩ = some (.int .i64 x.cl) ∧ w'.cell? ⟨g1, o1 + k * 5 + 4, none⟩ = some (.int .i64 x.ln) ∧ w'.cell? ⟨g2, o2 + k * 5, none⟩ = some (.int .i64 x.id) ∧ w'.cell? ⟨g2, o2 + k * 5 + 1, none⟩ = some (.int .i64 x.fr) ∧ w'.cell? ⟨g2, o2 + k * 5 + 2, none⟩ = some (.int .i64 x.to) ∧ w'.cell? ⟨g2, o2 + k * 5 + 3, none⟩ = some (.int .i64 x.cl) ∧ w'.cell? ⟨g2, o2 + k * 5 + 4, none⟩ = some (.int .i64 x.ln))
        (first | exact ⟨a0, a1, a2, a3, a4, b0, b1, b2, b3, b4⟩ | exact ⟨d0, d1, d2, d3, d4, e0, e1, e2, e3, e4⟩ | fail)
        (first
          | (go_at_call 70; (with_reducible refine (HE.out x _).mono ?_); rintro e w4 ⟨rfl, hg4⟩; have h4 := gb_drP hg4; have d0 := h4.cell a0 (by simp); have d1 := h4.cell a1 (by simp); have d2 := h4.cell a2 (by simp); have d3 := h4.cell a3 (by simp); have d4 := h4.cell a4 (by simp); have e0 := h4.cell b0 (by simp); have e1 := h4.cell b1 (by simp); have e2 := h4.cell b2 (by simp); have e3 := h4.cell b3 (by simp); have e4 := h4.cell b4 (by simp); have G4 := Lib.hid (gb_trans HG.out h4); clear h4 hg4)
          | fail)
      all_goals
        clear d0 d1 d2 d3 d4 e0 e1 e2 e3 e4 a0 a1 a2 a3 a4 b0 b1 b2 b3 b4
        go_wp2_with fail
        go_roundw
        case rel => exact ⟨k + 1, by go_num, by omega, G4.out⟩
        case measure => simp [intOf]; omega
    · obtain rfl : k = n := by omega
      clear hg
      go_wp2_with fail
      go_ret
      exact ⟨rfl, HG.out⟩
theorem lawsEqOwnP (v1 v2 : Value) (b1 b2 : Nat) (D : List Pkt) (w : World) (h1 : w.ownsRow b1 44 5 v1 D.length (recV pktC D)) (h2 : w.ownsRow b2 44 5 v2 D.length (recV pktC D)) (hn : D.length ≤ 1000000000) :
    Calls Try.prog 27 #[v1, v2] w (RetB true w) := by
  obtain ⟨A1, c1, rfl, _⟩ := own_form h1
  obtain ⟨A2, c2, rfl, _⟩ := own_form h2
  exact lawsEqPS A1 A2 D.length c1 c2 D w (recAt_own pktL (by decide) h1 (Nat.le_refl _)) (recAt_own pktL (by decide) h2 (Nat.le_refl _)) hn
end Go.Proofs.Ytfloekbmgjmhbaa
