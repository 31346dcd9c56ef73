/- What is proved here: DrawDepends returns an ascending list of dependencies between small channels; only new blocks are written. -/
import Derived.Test.YtgjidlhnfbdfpaaPutS
import Derived.Test.YtgjidlhnfbdfpaaCur
namespace Go.Proofs.Ytgjidlhnfbdfpaa
open Go.ChangeShapes Go.WideShapes Go.ChangeAt Go.RowKit
set_option linter.unusedVariables false
set_option maxRecDepth 20000

def smallD (D : List Dep) : Prop := ∀ d ∈ D, 0 ≤ d.1 ∧ d.1 ≤ 5 ∧ 0 ≤ d.2 ∧ d.2 ≤ 5
/-- The list so far, and the cursor. -/
def LsB (w : World) (g k : Nat) (D : List Dep) (q c : Nat) (wr : World) : Prop :=
  ascD D ∧ smallD D ∧ D.length ≤ k ∧ wr.ownsRow w.heap.size 55 2 (.slice (some ⟨q, 0, none⟩) D.length c) D.length (depV D) ∧ Cur wr g ∧ w.grownBy wr (some g)
theorem own_cur {w wr w' : World} {g n : Nat} {v : Value} {xs : List Value} (h : wr.ownsRow w.heap.size 55 2 v n xs) (hg : g < w.heap.size) (hb : wr.grownBy w' (some g)) : w'.ownsRow w.heap.size 55 2 v n xs :=
  h.kept hb (by
    cases hv : v.ownBlock with
    | none => exact .inl rfl
    | some k => exact .inr (fun e => by have := (h.lt k hv).1; have := Option.some.inj e; omega))
theorem LsB.cur {w wr w' : World} {g k q c : Nat} {D : List Dep} (h : LsB w g k D q c wr) (hg : g < w.heap.size) (hc : Cur w' g) (hb : wr.grownBy w' (some g)) : LsB w g k D q c w' := by
  obtain ⟨h2, h3, h4, h5, h6, h7⟩ := h
  exact ⟨h2, h3, h4, own_cur h5 hg hb, hc, gb_trans h7 hb⟩
theorem small_ins {D : List Dep} (h : smallD D) {x y : Int} (hx : 0 ≤ x ∧ x ≤ 5) (hy : 0 ≤ y ∧ y ≤ 5) : smallD (insD D (x, y)) := fun d hd => by
  rcases mem_ins.1 hd with rfl | hd
  · exact ⟨hx.1, hx.2, hy.1, hy.2⟩
  · exact h d hd
def DrawnL (g : Nat) (w : World) (e : Ending) (w' : World) : Prop :=
  ∃ (v : Value) (D : List Dep), e = .returned v ∧ ascD D ∧ smallD D ∧ D.length ≤ 9 ∧ w'.ownsRow w.heap.size 55 2 v D.length (depV D) ∧ Cur w' g ∧ w.grownBy w' (some g)

theorem l08List (g : Nat) (w : World) (hcur : Cur w g) :
    Calls Try.prog 29 #[.pointer (some ⟨g, 0, none⟩)] w (DrawnL g w) := by
  have hgw := hcur.lt
  have X0 := Lib.hid (show LsB w g 0 [] w.heap.size 0 (w.alloc (.cells #[] 55)) from
    ⟨asc_nil, (fun d h => by cases h), Nat.le_refl _, own_madeD w (Nat.le_refl _), hcur.grown (gb_alloc (gb_refl w none) _) (fun k h => by cases h), gb_alloc (gb_refl _ _) _⟩)
  clear hcur
  go_enter Try.func29, Try.ntmps29
  go_wp2_with fail
  go_loopw [3, 4] (fun v i wr => ∃ (k : Nat) (D : List Dep) (q c : Nat), i = .int .i64 (k : Int) ∧ k ≤ 9 ∧ v = .slice (some ⟨q, 0, none⟩) D.length c ∧ LsB w g k D q c wr) (fun _ i _ => 10 - (intOf i).toNat)
  case atStart => exact ⟨0, [], _, _, rfl, Nat.zero_le _, rfl, X0.out⟩
  case round =>
    obtain ⟨k, D, q, c, rfl, hk, rfl, hx⟩ := hrel
    have X1 := Lib.hid hx
    have hc1 := hx.2.2.2.2.1
    clear hx
    go_wp2_with fail
    refine (l01Below 9 _ _ hc1).mono ?_
    rintro e w2 ⟨r, rfl, hr0, hr1, _, hc2, hg2⟩
    have hr9 := hr1 (by omega)
    have X2 := Lib.hid (X1.out.cur hgw hc2 hg2)
    clear hr1 hc1 hg2 X1
    by_cases hlt : (k : Int) < r
    · have hk9 : k < 9 := by omega
      clear hr9
      go_wp2_with fail
      refine (l01Below 6 _ _ hc2).mono ?_
      rintro e w3 ⟨x, rfl, hx0, hx1, _, hc3, hg3⟩
      have HX := Lib.hid (show 0 ≤ x ∧ x ≤ 5 by have := hx1 (by omega); omega)
      have X3 := Lib.hid (X2.out.cur hgw hc3 hg3)
      clear hx0 hx1 hc2 hg3 X2
      go_wp2_with fail
      refine (l01Below 6 _ _ hc3).mono ?_
      rintro e w4 ⟨y, rfl, hy0, hy1, _, hc4, hg4⟩
      have HY := Lib.hid (show 0 ≤ y ∧ y ≤ 5 by have := hy1 (by omega); omega)
      have X4 := Lib.hid (X3.out.cur hgw hc4 hg4)
      have hl := X4.out.2.2.1
      have HP := Lib.hid (show Calls Try.prog 50 #[.slice (some ⟨q, 0, none⟩) D.length c, .agg #[.int .i64 x, .int .i64 y]] w4 (PutN w.heap.size (insD D (x, y)) w4) from specPut w.heap.size D.length q c D (x, y) X4.out.1 w4 X4.out.2.2.2.1 X4.out.2.2.2.2.2.size (by omega))
      clear hy0 hy1 hc3 hg4 hc4 X3
      go_wp2_with fail
      refine HP.out.mono ?_
      rintro e w5 ⟨q5, c5, rfl, ho5, hg5⟩
      have X5 := Lib.hid (show LsB w g (k + 1) (insD D (x, y)) q5 c5 w5 from
        ⟨ins_asc X4.out.1 _, small_ins X4.out.2.1 HX.out HY.out, by have := (ins_length D (x, y)).1; omega, ho5, X4.out.2.2.2.2.1.grown hg5 (fun k h => by cases h), gb_trans X4.out.2.2.2.2.2 (gb_of_none hg5 _)⟩)
      clear ho5 hg5
      go_wp2_with fail
      go_roundw
      case rel => exact ⟨k + 1, _, _, _, by go_num, by omega, rfl, X5.out⟩
      case measure => simp [intOf]; omega
    · clear hc2
      go_wp2_with fail
      go_ret
      exact ⟨_, D, rfl, X2.out.1, X2.out.2.1, Nat.le_trans X2.out.2.2.1 hk, X2.out.2.2.2.1, X2.out.2.2.2.2.1, X2.out.2.2.2.2.2⟩

/-- A list of small dependencies. -/
def DrawnDep (w : World) (e : Ending) (w' : World) : Prop :=
  ∃ (v : Value) (D : List Dep), e = .returned v ∧ ascD D ∧ smallD D ∧ D.length ≤ 9 ∧ w'.ownsRow w.heap.size 55 2 v D.length (depV D) ∧ Below w.heap.size w w'
theorem drawDepends (A : Option Addr) (n cap : Nat) (w : World) (hr : ByteRow w w.heap.size A n) (hn : n ≤ 1048576) :
    Calls Try.prog 10 #[.slice A n cap] w (DrawnDep w) := by
  have HR := Lib.hid hr
  clear hr
  go_enter Try.func10, Try.ntmps10
  go_wp2_with fail
  refine (l01New _ _ _ _ HR.out hn).mono ?_
  rintro e w1 ⟨g, rfl, hg, hc1, hbel⟩
  have HB := Lib.hid hbel
  have HG := Lib.hid hg
  clear hbel hg
  go_wp2_with fail
  refine (l08List g _ hc1).mono ?_
  rintro e w2 ⟨v, D, rfl, h2, h3, h4, h5, h6, h7⟩
  have X2 := Lib.hid (show DrawnDep w (.returned v) w2 from ⟨v, D, rfl, h2, h3, h4, own_less h5 HB.out.size, HB.out.trans (gb_below h7 HB.out.size HG.out)⟩)
  clear h2 h3 h4 h5 h6 h7 hc1
  go_wp2_with fail
  go_ret
  exact X2.out
end Go.Proofs.Ytgjidlhnfbdfpaa
