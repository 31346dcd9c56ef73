/- What is proved here: the program's sets of turns: a map whose keys are numbers below 16; what is put in by add and addAll; the map's own block alone is written. -/
import Derived.Test.YtecaehkckamhkaaTurnM
import Derived.Test.YtecaehkckamhkaaIntAt
import Derived.Test.YtecaehkckamhkaaNewI
import Derived.Maps.OwnSet
import Derived.Lib.SlKeysI
import Derived.Maps.AppendAt
namespace Go.Proofs.Ytecaehkckamhkaa
open Go.ChangeShapes Go.WideShapes Go.ChangeAt Go.RowKit Go.Maps
set_option linter.unusedVariables false
set_option maxRecDepth 20000

theorem keyInt : Keyed Try.prog 3 := int_keyed Try.underlying3
theorem wfInt {x : Int} (h0 : 0 ≤ x) (h1 : x ≤ 1000) : (Lit.int .i64 x).wf = true := by
  have e1 : IntKind.i64.min = -9223372036854775808 := by decide
  have e2 : IntKind.i64.max = 9223372036854775807 := by decide
  simp only [Lit.wf, e1, e2, Bool.and_eq_true, decide_eq_true_eq]
  omega
theorem keyOfInt {x : Int} (h0 : 0 ≤ x) (h1 : x ≤ 1000) : keyOf Try.prog 3 (.int .i64 x) = some (.int .i64 x) := keyOf_int_mk Try.underlying3 (wfInt h0 h1)
/-- The numbers below 16 that f has are the keys of D. -/
def KeysAre (D : DataW Unit) (f : Nat → Bool) : Prop := ∀ x : Int, has D (.int .i64 x) = true ↔ ∃ j : Nat, j < 16 ∧ x = (j : Int) ∧ f j = true
theorem keys_perm {w : World} {b n : Nat} {f : Nat → Bool} {D : DataW Unit} (hown : w.ownsMap Try.prog 3 unitElem b n D) (hs : KeysAre D f) : (setL f 16).Perm (intKeys D) := by
  have hsrt := setL_sorted f 16
  have hc : CollectedI D (fun _ => false) (setL f 16) := by
    refine ⟨hsrt.imp (fun {a b} h => by omega), fun x => ?_⟩
    rw [setL_mem, hs x]
    simp
  exact hc.perm hown keyInt Try.underlying3 (fun _ => rfl)
theorem keys_cap {w : World} {b n : Nat} {f : Nat → Bool} {D : DataW Unit} (hown : w.ownsMap Try.prog 3 unitElem b n D) (hs : KeysAre D f) : w.ownsMap Try.prog 3 unitElem b 16 D := by
  have hp := (keys_perm hown hs).length_eq
  have hl := setL_len f 16
  obtain ⟨es, clock, hb, F, hn, rfl⟩ := hown
  refine ⟨es, clock, hb, F, ?_, rfl⟩
  rw [intKeys, List.length_map, length_read] at hp
  omega
/-- Block b is a map whose keys are the numbers below 16 that f has. -/
def SetAt (w : World) (b : Nat) (f : Nat → Bool) : Prop := ∃ D : DataW Unit, w.ownsMap Try.prog 3 unitElem b 16 D ∧ KeysAre D f
theorem SetAt.made (w : World) : SetAt (w.alloc (.map #[] 0)) w.heap.size (fun _ => false) :=
  ⟨.map [], (World.ownsMap_made _ _ _ _).mono (by omega), fun x => ⟨fun h => by simp [has_eq] at h, fun ⟨_, _, _, h⟩ => by cases h⟩⟩
theorem SetAt.kept {w w' : World} {b : Nat} {f : Nat → Bool} {row : Option Nat} (h : SetAt w b f) (hg : w.grownBy w' row) (hne : some b ≠ row) : SetAt w' b f :=
  let ⟨D, h1, h2⟩ := h; ⟨D, h1.kept hg hne, h2⟩
theorem SetAt.none {w w' : World} {b : Nat} {f : Nat → Bool} (h : SetAt w b f) (hg : w.grownBy w' none) : SetAt w' b f := h.kept hg (by simp)
theorem SetAt.lt {w : World} {b : Nat} {f : Nat → Bool} (h : SetAt w b f) : b < w.heap.size := let ⟨D, h1, _⟩ := h; h1.lt
theorem has_with {D : DataW Unit} {f : Nat → Bool} {p q : Int} (hD : IsMap D) (hs : KeysAre D f)
    (hne : p ≠ q) (p0 : 0 ≤ p) (p3 : p ≤ 3) (q0 : 0 ≤ q) (q3 : q ≤ 3) (d : DataW Unit) :
    KeysAre (D.put (.int .i64 (4 * p + q)) d) (withT f p q) := fun x => by
  by_cases hx : x = 4 * p + q
  · subst hx
    rw [has_put_same hD (by trivial)]
    simp only [true_iff]
    exact ⟨(4 * p + q).toNat, by omega, by omega, by simp [withT, hne]; omega⟩
  · rw [has_put_other (by simpa using hx), hs x]
    constructor
    · rintro ⟨j, h1, h2, h3⟩
      exact ⟨j, h1, h2, by simp [withT, h3]⟩
    · rintro ⟨j, h1, h2, h3⟩
      refine ⟨j, h1, h2, ?_⟩
      simp only [withT, Bool.or_eq_true, decide_eq_true_eq] at h3
      rcases h3 with h3 | ⟨_, h3⟩
      · exact h3
      · omega

theorem implAdd (b : Nat) (f : Nat → Bool) (p q : Int) (p0 : 0 ≤ p) (p3 : p ≤ 3) (q0 : 0 ≤ q) (q3 : q ≤ 3) (w : World) (h : SetAt w b f) :
    Calls Try.prog 87 #[.map (some b), .int .i64 p, .int .i64 q] w fun e w' => e = .returned (.tuple #[]) ∧ SetAt w' b (withT f p q) ∧ w.grownBy w' (some b) := by
  obtain ⟨D, hown, hs⟩ := h
  by_cases hpq : p = q
  · have HT := Lib.hid (show SetAt w b (withT f p q) by rw [withT_same hpq]; exact ⟨D, hown, hs⟩)
    clear hown hs
    subst hpq
    go_enter Try.func87, Try.ntmps87
    go_wp2_with fail
    go_end0
    exact ⟨rfl, HT.out, gb_of_none (gb_refl _ _) _⟩
  · have HK := Lib.hid (keyOfInt (x := 4 * p + q) (by omega) (by omega))
    have HS := Lib.hid (fun d => has_with hown.isMap hs hpq p0 p3 q0 q3 d)
    have HO := Lib.hid hown
    clear hown hs
    go_enter Try.func87, Try.ntmps87
    go_wp2_with (at_mapUpdate; refine wpList_mapUpdate_own _ rfl _ _ _ 107 rfl 3 129 keyInt Try.underlying107 (unitElem (H := Unit)) b 16 D rfl HO.out (by unfold maxLen; omega) _ _ _ rfl rfl HK.out _ [] unitElem_mk ?_; intro w1 hown1 hg1; have HG := Lib.hid hg1; have HO1 := Lib.hid hown1; clear hg1 hown1)
    go_end0
    exact ⟨rfl, ⟨_, keys_cap HO1.out (HS.out _), HS.out _⟩, HG.out⟩

/-- The numbers in the block B are T. -/
def RowAt (w : World) (B : Nat) (T : List Int) : Prop := ∀ j, j < T.length → w.cell? ⟨B, j, none⟩ = some (.int .i64 (T.getD j 0))
theorem RowAt.kept {w w' : World} {B b : Nat} {T : List Int} (h : RowAt w B T) (hB : B < w.heap.size) (hg : w.grownBy w' (some b)) (hne : B ≠ b) : RowAt w' B T := fun j hj => by
  rw [World.cell?_of_block (hg.block B hB (by simpa using hne)), h j hj]
theorem RowAt.none {w w' : World} {B : Nat} {T : List Int} (h : RowAt w B T) (hB : B < w.heap.size) (hg : w.grownBy w' none) : RowAt w' B T := fun j hj => by
  rw [World.cell?_of_block (hg.block B hB (by simp)), h j hj]
def Ports (T : List Int) : Prop := T.length ≤ 4 ∧ ∀ j, j < T.length → 0 ≤ T.getD j 0 ∧ T.getD j 0 ≤ 3
def PutAt (b : Nat) (f : Nat → Bool) (w wr : World) : Prop := SetAt wr b f ∧ w.grownBy wr (some b)

theorem implAddAll (b : Nat) (f : Nat → Bool) (F T : List Int) (B1 B2 c1 c2 : Nat) (hF : Ports F) (hT : Ports T) (w : World) (h : SetAt w b f)
    (h1 : RowAt w B1 F) (h2 : RowAt w B2 T) (l1 : B1 < w.heap.size) (l2 : B2 < w.heap.size) (n1 : B1 ≠ b) (n2 : B2 ≠ b) :
    Calls Try.prog 89 #[.map (some b), .slice (some ⟨B1, 0, none⟩) F.length c1, .slice (some ⟨B2, 0, none⟩) T.length c2] w fun e w' => e = .returned (.tuple #[]) ∧ PutAt b (orT f (crossT F T F.length)) w w' := by
  obtain ⟨N1, hN1⟩ : ∃ k, F.length = k := ⟨_, rfl⟩
  obtain ⟨N2, hN2⟩ : ∃ k, T.length = k := ⟨_, rfl⟩
  obtain ⟨f4, hf⟩ := hF
  obtain ⟨t4, ht⟩ := hT
  have HS := Lib.hid (show PutAt b (orT f (crossT F T 0)) w w by rw [orT_none f (cross_zero F T)]; exact ⟨h, gb_of_none (gb_refl _ _) _⟩)
  have H1 := Lib.hid h1
  have H2 := Lib.hid h2
  have HF := Lib.hid hf
  have HT := Lib.hid ht
  clear h h1 h2 hf ht
  rw [hN1, hN2]
  rw [hN1] at f4
  rw [hN2] at t4
  have E1 := Lib.hid hN1
  have E2 := Lib.hid hN2
  clear hN1 hN2
  go_enter Try.func89, Try.ntmps89
  go_wp2_with fail
  go_loopw [12] (fun i wr => ∃ k : Nat, i = .int .i64 (k : Int) ∧ k ≤ N1 ∧ PutAt b (orT f (crossT F T k)) w wr) (fun i _ => N1 - (Go.RowKit.intOf i).toNat)
  case atStart => exact ⟨0, rfl, by omega, HS.out⟩
  case round =>
    obtain ⟨k, rfl, hk, hp⟩ := hrel
    have HP := Lib.hid hp
    clear hp
    by_cases hlt : k < N1
    · obtain ⟨p, hp⟩ : ∃ p, F.getD k 0 = p := ⟨_, rfl⟩
      obtain ⟨p0, p3⟩ := HF.out k (by rw [E1.out]; exact hlt)
      have c1 := (H1.out.kept l1 HP.out.2 n1) k (by rw [E1.out]; exact hlt)
      rw [hp] at p0 p3 c1
      have HPK := Lib.hid hp
      clear hp
      go_wp2_with fail
      go_loopw [18] (fun i ws => ∃ j : Nat, i = .int .i64 (j : Int) ∧ j ≤ N2 ∧ PutAt b (orT (orT f (crossT F T k)) (rowT p T j)) w ws) (fun i _ => N2 - (Go.RowKit.intOf i).toNat)
      case atStart => exact ⟨0, rfl, by omega, by rw [orT_none _ (row_zero p T)]; exact HP.out⟩
      case round =>
        obtain ⟨j, rfl, hj, hp2⟩ := hrel
        have HP2 := Lib.hid hp2
        clear hp2
        by_cases hlj : j < N2
        · obtain ⟨q, hq⟩ : ∃ q, T.getD j 0 = q := ⟨_, rfl⟩
          obtain ⟨q0, q3⟩ := HT.out j (by rw [E2.out]; exact hlj)
          have c2 := (H2.out.kept l2 HP2.out.2 n2) j (by rw [E2.out]; exact hlj)
          rw [hq] at q0 q3 c2
          have HA := Lib.hid (fun w h => implAdd b (orT (orT f (crossT F T k)) (rowT p T j)) p q p0 p3 q0 q3 w h)
          have HR := Lib.hid (row_next (orT f (crossT F T k)) p q T j hq)
          clear hq
          go_wp2_with fail
          refine (HA.out _ HP2.out.1).mono ?_
          rintro e w2 ⟨rfl, hs2, hg2⟩
          have HP3 := Lib.hid (show PutAt b (orT (orT f (crossT F T k)) (rowT p T (j + 1))) w w2 from ⟨HR.out ▸ hs2, HP2.out.2.trans hg2⟩)
          clear hs2 hg2 c2
          go_wp2_with fail
          go_roundw
          case rel => exact ⟨j + 1, rfl, by omega, HP3.out⟩
          case measure => simp [Go.RowKit.intOf]; omega
        · obtain rfl : j = N2 := by omega
          have HP3 := Lib.hid (show PutAt b (orT f (crossT F T (k + 1))) w _ by rw [← cross_next f p F T k HPK.out, E2.out]; exact HP2.out)
          go_wp2_with fail
          go_roundw
          case rel => exact ⟨k + 1, rfl, by omega, HP3.out⟩
          case measure => simp [Go.RowKit.intOf]; omega
    · obtain rfl : k = N1 := by omega
      go_wp2_with fail
      go_end0
      exact ⟨rfl, HP.out⟩
end Go.Proofs.Ytecaehkckamhkaa
