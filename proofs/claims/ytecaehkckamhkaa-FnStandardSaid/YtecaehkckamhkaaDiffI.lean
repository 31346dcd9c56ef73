/- What is proved here: what the program's DifferingEntries returns, for two lists of some length; only new blocks are written. -/
import Derived.Test.YtecaehkckamhkaaDiffM
import Derived.Test.YtecaehkckamhkaaNewI
namespace Go.Proofs.Ytecaehkckamhkaa
open Go.ChangeShapes Go.WideShapes Go.ChangeAt Go.RowKit
set_option linter.unusedVariables false

/-- Both tables in blocks of the call's own, and their lists. -/
def DiffAt (w : World) (A1 : Option Addr) (n1 c1 : Nat) (X : List Int) (A2 : Option Addr) (n2 c2 : Nat) (Y : List Int) (wr : World) : Prop :=
  Blk wr w.heap.size 36 #[.slice A1 n1 c1] ∧ Blk wr (w.heap.size + 1) 36 #[.slice A2 n2 c2] ∧ IntAt wr w.heap.size A1 n1 X ∧ IntAt wr w.heap.size A2 n2 Y ∧ w.grownBy wr none
section
variable {w wr wr' : World} {A1 A2 : Option Addr} {n1 c1 n2 c2 : Nat} {X Y : List Int}
theorem DiffAt.none (h : DiffAt w A1 n1 c1 X A2 n2 c2 Y wr) (hg : wr.grownBy wr' none) : DiffAt w A1 n1 c1 X A2 n2 c2 Y wr' :=
  ⟨h.1.grown hg (by simp), h.2.1.grown hg (by simp), h.2.2.1.none h.2.2.2.2.size hg, h.2.2.2.1.none h.2.2.2.2.size hg, gb_trans h.2.2.2.2 hg⟩
theorem DiffAt.start (h1 : IntAt w w.heap.size A1 n1 X) (h2 : IntAt w w.heap.size A2 n2 Y) :
    DiffAt w A1 n1 c1 X A2 n2 c2 Y ((w.alloc (.cells #[.slice A1 n1 c1] 36)).alloc (.cells #[.slice A2 n2 c2] 36)) := by
  have hg := gb_alloc (gb_alloc (gb_refl w Option.none) (.cells #[.slice A1 n1 c1] 36)) (.cells #[.slice A2 n2 c2] 36)
  have hb := Blk.new (w.alloc (.cells #[.slice A1 n1 c1] 36)) 36 #[.slice A2 n2 c2]
  rw [alloc_size] at hb
  exact ⟨(Blk.new w _ _).alloc _, hb, h1.none (Nat.le_refl _) hg, h2.none (Nat.le_refl _) hg, hg⟩
end

theorem differ_no {X Y : List Int} {k : Nat} (h1 : k < X.length) (h2 : k < Y.length) (h : X.getD k 0 = Y.getD k 0) : differAt X Y k = false := by
  have a1 : ¬ X.length ≤ k := by omega
  have a2 : ¬ Y.length ≤ k := by omega
  simp only [differAt, a1, a2, h]; simp
theorem differ_yes {X Y : List Int} {k : Nat} (h : X.getD k 0 ≠ Y.getD k 0) : differAt X Y k = true := by
  unfold differAt; simp only [ne_eq, h, not_false_eq_true, decide_true, Bool.or_true]

set_option maxRecDepth 100000 in
theorem implDiffering (A1 : Option Addr) (n1 c1 : Nat) (X : List Int) (A2 : Option Addr) (n2 c2 : Nat) (Y : List Int) (w : World) (h1 : IntAt w w.heap.size A1 n1 X) (h2 : IntAt w w.heap.size A2 n2 Y) (hn1 : n1 ≤ 1000000000) (hn2 : n2 ≤ 1000000000) :
    Calls Try.prog 33 #[.agg #[.slice A1 n1 c1], .agg #[.slice A2 n2 c2]] w (RetI (diffG X Y : Int) none w) := by
  have hX := h1.1
  have hY := h2.1
  have HX := Lib.hid hX
  have HY := Lib.hid hY
  have HD := Lib.hid (DiffAt.start (c1 := c1) (c2 := c2) h1 h2)
  have HP := Lib.hid (diffG_parts X Y)
  have HLE := Lib.hid (diffTo_le X Y)
  obtain ⟨R, hR⟩ : ∃ R, diffG X Y = R := ⟨_, rfl⟩
  rw [hR, hX, hY] at HP
  rw [hR]
  clear h1 h2 hR hX hY
  rcases Nat.lt_trichotomy n1 n2 with hc | hc | hc
  · have hm : min n1 n2 = n1 := by omega
    rw [hm] at HP
    clear hm
    go_enter Try.func33, Try.ntmps33
    go_wp2_with fail
    go_loopw [6, 25] (fun q i wr => ∃ x : Nat, i = .int .i64 (x : Int) ∧ x ≤ n1 ∧ q = .int .i64 (((n2 : Int) - (n1 : Int)) + (diffTo X Y x : Int)) ∧ DiffAt w A1 n1 c1 X A2 n2 c2 Y wr) (fun _ i _ => n1 - (intOf i).toNat)
    case atStart => exact ⟨0, rfl, Nat.zero_le _, by simp [diffTo], HD.out⟩
    case round =>
      obtain ⟨x, rfl, hx, rfl, hat⟩ := hrel
      have HA := Lib.hid hat
      have hlx := HLE.out x
      by_cases hlt : x < n1
      · obtain ⟨g1, o1, rfl, _, e1⟩ := hat.2.2.1.at x (by omega)
        obtain ⟨g2, o2, rfl, _, e2⟩ := hat.2.2.2.1.at x (by omega)
        have a0 : wr.cell? ⟨w.heap.size, 0, none⟩ = some (.slice (some ⟨g1, o1, none⟩) n1 c1) := hat.1.cell 0
        have a1 : wr.cell? ⟨w.heap.size + 1, 0, none⟩ = some (.slice (some ⟨g2, o2, none⟩) n2 c2) := hat.2.1.cell 0
        obtain ⟨u, hu⟩ : ∃ u, X.getD x 0 = u := ⟨_, rfl⟩
        obtain ⟨v, hv⟩ : ∃ v, Y.getD x 0 = v := ⟨_, rfl⟩
        rw [hu] at e1
        rw [hv] at e2
        by_cases he : u = v
        · have HE := Lib.hid (diffTo_no (differ_no (X := X) (Y := Y) (k := x) (by rw [HX.out]; omega) (by rw [HY.out]; omega) (by rw [hu, hv, he])))
          subst he
          clear hat hu hv
          go_wp2_with fail
          go_quiet (fail)
          go_wp2_with fail
          go_roundw
          case rel => exact ⟨x + 1, by go_num, by omega, by rw [HE.out], HA.out.none (gb_drewN (gb_refl _ _) _)⟩
          case measure => simp [intOf]; omega
        · have HE := Lib.hid (diffTo_yes (differ_yes (X := X) (Y := Y) (k := x) (by rw [hu, hv]; exact he)))
          have hbe : (u != v) = true := by simpa using he
          clear hat hu hv
          go_wp2_with fail
          go_quiet (fail)
          go_wp2_with fail
          go_roundw
          case rel => exact ⟨x + 1, by go_num, by omega, by rw [HE.out]; go_num, HA.out.none (gb_drewN (gb_refl _ _) _)⟩
          case measure => simp [intOf]; omega
      · obtain rfl : x = n1 := by omega
        clear hat
        go_wp2_with fail
        go_ret
        exact ⟨ret_int64 (by have := HP.out; omega), HA.out.2.2.2.2⟩
  · subst hc
    have hm : min n1 n1 = n1 := by omega
    rw [hm] at HP
    clear hm
    go_enter Try.func33, Try.ntmps33
    go_wp2_with fail
    go_loopw [6, 25] (fun q i wr => ∃ x : Nat, i = .int .i64 (x : Int) ∧ x ≤ n1 ∧ q = .int .i64 (0 + (diffTo X Y x : Int)) ∧ DiffAt w A1 n1 c1 X A2 n1 c2 Y wr) (fun _ i _ => n1 - (intOf i).toNat)
    case atStart => exact ⟨0, rfl, Nat.zero_le _, by simp [diffTo], HD.out⟩
    case round =>
      obtain ⟨x, rfl, hx, rfl, hat⟩ := hrel
      have HA := Lib.hid hat
      have hlx := HLE.out x
      by_cases hlt : x < n1
      · obtain ⟨g1, o1, rfl, _, e1⟩ := hat.2.2.1.at x (by omega)
        obtain ⟨g2, o2, rfl, _, e2⟩ := hat.2.2.2.1.at x (by omega)
        have a0 : wr.cell? ⟨w.heap.size, 0, none⟩ = some (.slice (some ⟨g1, o1, none⟩) n1 c1) := hat.1.cell 0
        have a1 : wr.cell? ⟨w.heap.size + 1, 0, none⟩ = some (.slice (some ⟨g2, o2, none⟩) n1 c2) := hat.2.1.cell 0
        obtain ⟨u, hu⟩ : ∃ u, X.getD x 0 = u := ⟨_, rfl⟩
        obtain ⟨v, hv⟩ : ∃ v, Y.getD x 0 = v := ⟨_, rfl⟩
        rw [hu] at e1
        rw [hv] at e2
        by_cases he : u = v
        · have HE := Lib.hid (diffTo_no (differ_no (X := X) (Y := Y) (k := x) (by rw [HX.out]; omega) (by rw [HY.out]; omega) (by rw [hu, hv, he])))
          subst he
          clear hat hu hv
          go_wp2_with fail
          go_quiet (fail)
          go_wp2_with fail
          go_roundw
          case rel => exact ⟨x + 1, by go_num, by omega, by rw [HE.out], HA.out.none (gb_drewN (gb_refl _ _) _)⟩
          case measure => simp [intOf]; omega
        · have HE := Lib.hid (diffTo_yes (differ_yes (X := X) (Y := Y) (k := x) (by rw [hu, hv]; exact he)))
          have hbe : (u != v) = true := by simpa using he
          clear hat hu hv
          go_wp2_with fail
          go_quiet (fail)
          go_wp2_with fail
          go_roundw
          case rel => exact ⟨x + 1, by go_num, by omega, by rw [HE.out]; go_num, HA.out.none (gb_drewN (gb_refl _ _) _)⟩
          case measure => simp [intOf]; omega
      · obtain rfl : x = n1 := by omega
        clear hat
        go_wp2_with fail
        go_ret
        exact ⟨ret_int64 (by have := HP.out; omega), HA.out.2.2.2.2⟩
  · have hm : min n1 n2 = n2 := by omega
    rw [hm] at HP
    clear hm
    go_enter Try.func33, Try.ntmps33
    go_wp2_with fail
    go_loopw [6, 25] (fun q i wr => ∃ x : Nat, i = .int .i64 (x : Int) ∧ x ≤ n2 ∧ q = .int .i64 (((n1 : Int) - (n2 : Int)) + (diffTo X Y x : Int)) ∧ DiffAt w A1 n1 c1 X A2 n2 c2 Y wr) (fun _ i _ => n2 - (intOf i).toNat)
    case atStart => exact ⟨0, rfl, Nat.zero_le _, by simp [diffTo], HD.out⟩
    case round =>
      obtain ⟨x, rfl, hx, rfl, hat⟩ := hrel
      have HA := Lib.hid hat
      have hlx := HLE.out x
      by_cases hlt : x < n2
      · obtain ⟨g1, o1, rfl, _, e1⟩ := hat.2.2.1.at x (by omega)
        obtain ⟨g2, o2, rfl, _, e2⟩ := hat.2.2.2.1.at x (by omega)
        have a0 : wr.cell? ⟨w.heap.size, 0, none⟩ = some (.slice (some ⟨g1, o1, none⟩) n1 c1) := hat.1.cell 0
        have a1 : wr.cell? ⟨w.heap.size + 1, 0, none⟩ = some (.slice (some ⟨g2, o2, none⟩) n2 c2) := hat.2.1.cell 0
        obtain ⟨u, hu⟩ : ∃ u, X.getD x 0 = u := ⟨_, rfl⟩
        obtain ⟨v, hv⟩ : ∃ v, Y.getD x 0 = v := ⟨_, rfl⟩
        rw [hu] at e1
        rw [hv] at e2
        by_cases he : u = v
        · have HE := Lib.hid (diffTo_no (differ_no (X := X) (Y := Y) (k := x) (by rw [HX.out]; omega) (by rw [HY.out]; omega) (by rw [hu, hv, he])))
          subst he
          clear hat hu hv
          go_wp2_with fail
          go_quiet (fail)
          go_wp2_with fail
          go_roundw
          case rel => exact ⟨x + 1, by go_num, by omega, by rw [HE.out], HA.out.none (gb_drewN (gb_refl _ _) _)⟩
          case measure => simp [intOf]; omega
        · have HE := Lib.hid (diffTo_yes (differ_yes (X := X) (Y := Y) (k := x) (by rw [hu, hv]; exact he)))
          have hbe : (u != v) = true := by simpa using he
          clear hat hu hv
          go_wp2_with fail
          go_quiet (fail)
          go_wp2_with fail
          go_roundw
          case rel => exact ⟨x + 1, by go_num, by omega, by rw [HE.out]; go_num, HA.out.none (gb_drewN (gb_refl _ _) _)⟩
          case measure => simp [intOf]; omega
      · obtain rfl : x = n2 := by omega
        clear hat
        go_wp2_with fail
        go_ret
        exact ⟨ret_int64 (by have := HP.out; omega), HA.out.2.2.2.2⟩
end Go.Proofs.Ytecaehkckamhkaa
