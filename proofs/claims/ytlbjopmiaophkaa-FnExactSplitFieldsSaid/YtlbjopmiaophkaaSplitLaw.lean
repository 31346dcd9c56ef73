/- What is proved here: the law on SplitFields answers true, for every line; only new blocks are written. -/
import Derived.Test.YtlbjopmiaophkaaSplit2
namespace Go.Proofs.Ytlbjopmiaophkaa
open Go.ChangeShapes Go.WideShapes Go.ChangeAt Go.RowKit
set_option linter.unusedVariables false

/-- A row of the call's own stays over a call that writes new blocks alone. -/
theorem own_below {w w' : World} {base : Nat} {e : TypeId} {size n : Nat} {v : Value} {xs : List Value} (h : w.ownsRow base e size v n xs) (hb : Below w.heap.size w w') : w'.ownsRow base e size v n xs :=
  h.kept (gb_of_below hb none) (by cases hv : v.ownBlock <;> simp)
theorem own_none {w w' : World} {base : Nat} {e : TypeId} {size n : Nat} {v : Value} {xs : List Value} (h : w.ownsRow base e size v n xs) (hb : w.grownBy w' none) : w'.ownsRow base e size v n xs :=
  h.kept hb (by cases hv : v.ownBlock <;> simp)
theorem own_apart {w w' : World} {b1 b2 : Nat} {e1 e2 : TypeId} {s1 s2 n1 n2 : Nat} {v1 v2 : Value} {x1 x2 : List Value} (h1 : w.ownsRow b1 e1 s1 v1 n1 x1) (hlt : ∀ k, v1.ownBlock = some k → k < b2) (h2 : w.ownsRow b2 e2 s2 v2 n2 x2) (hg : w.grownBy w' v2.ownBlock) : w'.ownsRow b1 e1 s1 v1 n1 x1 :=
  h1.kept hg (by
    cases hv : v1.ownBlock with
    | none => exact .inl rfl
    | some k => exact .inr (fun e => by have := hlt k hv; have := (h2.lt k e.symm).1; omega))
theorem fRes_le (s : ByteArray) : (fRes s).length ≤ 24 := by
  unfold fRes
  split
  · rename_i h; exact h.2.2
  · simp

theorem walk_FnExactSplitFields (s : ByteArray) (w : World) (hm : s.size ≤ maxLen) :
    Calls Try.prog 6 #[.string s] w fun e w' => e = .returned (.bool true) ∧ Below w.heap.size w w' := by
  have c1 := fun W => specSplit s W hm
  have c2 := fun W => implSplit s W hm
  unfold maxLen at hm
  by_cases hbig : 1048576 < s.size
  · clear c1 c2
    go_enter Try.func6, Try.ntmps6
    go_wp2_with fail
    go_ret
    exact ⟨rfl, Below.refl _ _⟩
  · have hlen := fRes_le s
    unfold FieldsPost at c1 c2
    obtain ⟨l, hl⟩ : ∃ l, fRes s = l := ⟨_, rfl⟩
    obtain ⟨b, hb⟩ : ∃ b : Bool, fBool s = b := ⟨_, rfl⟩
    rw [hl] at hlen c1 c2
    rw [hb] at c1 c2
    have C1 := Lib.hid c1
    have C2 := Lib.hid c2
    clear c1 c2 hl hb
    go_enter Try.func6, Try.ntmps6
    go_wp2_with fail
    refine (C1.out _).mono ?_
    rintro e w1 ⟨v0, rfl, o1, b1⟩
    have O1 := Lib.hid o1
    have B1 := Lib.hid b1
    clear o1 b1
    go_wp2_with fail
    refine (C2.out _).mono ?_
    rintro e w2 ⟨g0, rfl, o2, b2⟩
    have O2 := Lib.hid o2
    have P2 := Lib.hid (own_below O1.out b2)
    have B2 := Lib.hid (B1.out.trans (b2.mono B1.out.size))
    clear o2 b2
    go_wp2_with fail
    refine (lawsEqS g0 v0 _ _ l _ O2.out P2.out).mono ?_
    rintro e w3 ⟨rfl, g3⟩
    have O3 := Lib.hid (own_none O2.out g3)
    have P3 := Lib.hid (own_none P2.out g3)
    have B3 := Lib.hid (B2.out.grown g3 B2.out.size (fun k e => by cases e))
    clear g3
    go_wp2_with fail
    refine (lawsMarkS g0 _ l.length 1 _ _ O3.out (by omega)).mono ?_
    rintro e w4 ⟨rfl, o4, g4⟩
    have O4 := Lib.hid o4
    have P4 := Lib.hid (own_apart P3.out (fun k hk => (O1.out.lt k hk).2) O3.out g4)
    have B4 := Lib.hid (B3.out.grown g4 B3.out.size (fun k e => by have := (O3.out.lt k e).1; have := B1.out.size; omega))
    clear o4 g4
    go_wp2_with fail
    refine (lawsHeldS g0 _ l.length 1 _ O4.out (by omega)).mono ?_
    rintro e w5 ⟨rfl, g5⟩
    have O5 := Lib.hid (own_none O4.out g5)
    have P5 := Lib.hid (own_none P4.out g5)
    have B5 := Lib.hid (B4.out.grown g5 B4.out.size (fun k e => by cases e))
    clear g5
    go_wp2_with fail
    refine (C2.out _).mono ?_
    rintro e w6 ⟨h0, rfl, o6, b6⟩
    have Q6 := Lib.hid o6
    have O6 := Lib.hid (own_below O5.out b6)
    have P6 := Lib.hid (own_below P5.out b6)
    have B6 := Lib.hid (B5.out.trans (b6.mono B5.out.size))
    clear o6 b6
    go_wp2_with fail
    refine (lawsEqS h0 v0 _ _ l _ Q6.out P6.out).mono ?_
    rintro e w7 ⟨rfl, g7⟩
    have O7 := Lib.hid (own_none O6.out g7)
    have B7 := Lib.hid (B6.out.grown g7 B6.out.size (fun k e => by cases e))
    clear g7
    go_wp2_with fail
    refine (lawsHeldS g0 _ l.length 1 _ O7.out (by omega)).mono ?_
    rintro e w8 ⟨rfl, g8⟩
    have B8 := Lib.hid (B7.out.grown g8 B7.out.size (fun k e => by cases e))
    clear g8
    go_wp2_with fail
    go_ret
    exact ⟨rfl, B8.out⟩
end Go.Proofs.Ytlbjopmiaophkaa
