/- What is proved here: what the model's DifferingEntries returns, for two lists of some length; only new blocks are written. -/
import Derived.Test.YtbnpihkianggiaaDiffI
namespace Go.Proofs.Ytbnpihkianggiaa
open Go.ChangeShapes Go.WideShapes Go.ChangeAt Go.RowKit
set_option linter.unusedVariables false

theorem differ_out {X Y : List Int} {k : Nat} (h : X.length ≤ k ∨ Y.length ≤ k) : differAt X Y k = true := by
  rcases h with h | h <;> simp [differAt, h]

set_option maxRecDepth 100000 in
set_option maxHeartbeats 1600000 in
theorem specDiffering (A1 : Option Addr) (n1 c1 : Nat) (X : List Int) (A2 : Option Addr) (n2 c2 : Nat) (Y : List Int) (w : World) (h1 : IntAt w w.heap.size A1 n1 X) (h2 : IntAt w w.heap.size A2 n2 Y) (hn1 : n1 ≤ 1000000000) (hn2 : n2 ≤ 1000000000) :
    Calls Try.prog 27 #[.agg #[.slice A1 n1 c1], .agg #[.slice A2 n2 c2]] w (RetI (diffG X Y : Int) none w) := by
  have hX := h1.1
  have hY := h2.1
  have HX := Lib.hid hX
  have HY := Lib.hid hY
  have HD := Lib.hid (DiffAt.start (c1 := c1) (c2 := c2) h1 h2)
  have HLE := Lib.hid (diffTo_le X Y)
  obtain ⟨R, hR⟩ : ∃ R, diffG X Y = R := ⟨_, rfl⟩
  have HP : Hid (R = diffTo X Y (max n1 n2)) := Lib.hid (by rw [← hR, diffG, hX, hY])
  rw [hR]
  clear h1 h2 hR hX hY
  go_enter Try.func27, Try.ntmps27
  go_wp2_with fail
  go_loopw [5, 6] (fun q i wr => ∃ x : Nat, i = .int .i64 (x : Int) ∧ x ≤ max n1 n2 ∧ q = .int .i64 (diffTo X Y x : Int) ∧ DiffAt w A1 n1 c1 X A2 n2 c2 Y wr) (fun _ i _ => max n1 n2 - (intOf i).toNat)
  case atStart => exact ⟨0, rfl, Nat.zero_le _, by simp [diffTo], HD.out⟩
  case round =>
    obtain ⟨x, rfl, hx, rfl, hat⟩ := hrel
    have HA := Lib.hid hat
    have hlx := HLE.out x
    have HXM := Lib.hid hx
    have hx32 : (x : Int) ≤ 1000000000 := by omega
    by_cases hl1 : x < n1
    · by_cases hl2 : x < n2
      · obtain ⟨g1, o1, rfl, _, e1⟩ := hat.2.2.1.at x (by omega)
        obtain ⟨g2, o2, rfl, _, e2⟩ := hat.2.2.2.1.at x (by omega)
        have a0 : wr.cell? ⟨w.heap.size, 0, none⟩ = some (.slice (some ⟨g1, o1, none⟩) n1 c1) := hat.1.cell 0
        have a1 : wr.cell? ⟨w.heap.size + 1, 0, none⟩ = some (.slice (some ⟨g2, o2, none⟩) n2 c2) := hat.2.1.cell 0
        obtain ⟨u, hu⟩ : ∃ u, X.getD x 0 = u := ⟨_, rfl⟩
        obtain ⟨v, hv⟩ : ∃ v, Y.getD x 0 = v := ⟨_, rfl⟩
        rw [hu] at e1
        rw [hv] at e2
        by_cases he : u = v
        · have HE := Lib.hid (diffTo_no (differ_no (X := X) (Y := Y) (k := x) (by rw [HX.out]; omega) (by rw [HY.out]; omega) (by rw [hu, hv, he])))
          subst he
          clear hat hu hv hx
          go_wp2_with fail
          go_quiet (fail)
          go_wp2_with fail
          go_roundw
          case rel => exact ⟨x + 1, by go_num, by omega, by rw [HE.out], HA.out.none (gb_drewN (gb_refl _ _) _)⟩
          case measure => simp [intOf]; omega
        · have HE := Lib.hid (diffTo_yes (differ_yes (X := X) (Y := Y) (k := x) (by rw [hu, hv]; exact he)))
          have hbe : (u != v) = true := by simpa using he
          clear hat hu hv hx
          go_wp2_with fail
          go_quiet (fail)
          go_wp2_with fail
          go_roundw
          case rel => exact ⟨x + 1, by go_num, by omega, by rw [HE.out]; go_num, HA.out.none (gb_drewN (gb_refl _ _) _)⟩
          case measure => simp [intOf]; omega
      · have a0 : wr.cell? ⟨w.heap.size, 0, none⟩ = some (.slice A1 n1 c1) := hat.1.cell 0
        have a1 : wr.cell? ⟨w.heap.size + 1, 0, none⟩ = some (.slice A2 n2 c2) := hat.2.1.cell 0
        have HE := Lib.hid (diffTo_yes (differ_out (X := X) (Y := Y) (k := x) (.inr (by rw [HY.out]; omega))))
        have hd1 : decide (n1 ≤ x) = false := by simp; omega
        have hd2 : decide (n2 ≤ x) = true := by simp; omega
        clear hat hx
        go_wp2_with fail
        go_quiet (fail)
        go_wp2_with fail
        go_roundw
        case rel => exact ⟨x + 1, by go_num, by omega, by rw [HE.out]; go_num, HA.out.none (gb_drewN (gb_refl _ _) _)⟩
        case measure => simp [intOf]; omega
    · by_cases hl2 : x < n2
      · have a0 : wr.cell? ⟨w.heap.size, 0, none⟩ = some (.slice A1 n1 c1) := hat.1.cell 0
        have a1 : wr.cell? ⟨w.heap.size + 1, 0, none⟩ = some (.slice A2 n2 c2) := hat.2.1.cell 0
        have HE := Lib.hid (diffTo_yes (differ_out (X := X) (Y := Y) (k := x) (.inl (by rw [HX.out]; omega))))
        have hd1 : decide (n1 ≤ x) = true := by simp; omega
        clear hat hx
        go_wp2_with fail
        go_quiet (fail)
        go_wp2_with fail
        go_roundw
        case rel => exact ⟨x + 1, by go_num, by omega, by rw [HE.out]; go_num, HA.out.none (gb_drewN (gb_refl _ _) _)⟩
        case measure => simp [intOf]; omega
      · have a0 : wr.cell? ⟨w.heap.size, 0, none⟩ = some (.slice A1 n1 c1) := hat.1.cell 0
        have a1 : wr.cell? ⟨w.heap.size + 1, 0, none⟩ = some (.slice A2 n2 c2) := hat.2.1.cell 0
        have HXK : Hid (max n1 n2 = x) := Lib.hid (by omega)
        clear hat hx
        go_wp2_with fail
        go_ret
        exact ⟨ret_int64 (by rw [HP.out, HXK.out]), HA.out.2.2.2.2⟩
end Go.Proofs.Ytbnpihkianggiaa
