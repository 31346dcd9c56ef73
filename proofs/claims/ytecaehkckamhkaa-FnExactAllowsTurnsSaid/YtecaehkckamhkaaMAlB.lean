/- What is proved here: the law FnExactAllowsTurns answers true for every argument that can be read, and leaves its arguments as they were. No condition. -/
import Derived.Test.YtecaehkckamhkaaMAlA
import Derived.Maps.OwnSet
import Derived.Lib.SlKeysI
import Derived.Maps.AppendAt
import Derived.Shelf.SlIterI.Nil
import Derived.Shelf.SlIterI.Sorted
import Derived.Shelf.SortM.Plain
import Derived.Shelf.SortM.SortNone
import Derived.Ground.GgzProg
import Derived.Ground.SlgmProg
import Derived.Test.YtecaehkckamhkaaProg
import Derived.Shelf.AbstractIn
import Derived.WalkKit
import Derived.Laws.Rows
import Derived.Laws.Tables
import Derived.Laws.ResultCell
import Derived.Deep.RegionHeld3
import Derived.Lib.SmallJoins
import Derived.ShutString
import Derived.ChangeOld
section
namespace Go.Proofs.Ytecaehkckamhkaa
open Go.ChangeShapes Go.WideShapes Go.ChangeAt Go.RowKit Go.Maps
set_option linter.unusedVariables false
set_option maxRecDepth 20000

theorem keyInt : Keyed Try.prog 3 := int_keyed Try.underlying3
theorem wfInt {x : Int} (h0 : 0 ≤ x) (h1 : x ≤ 1000) : (Lit.int .i64 x).wf = true := by
  have e1 : IntKind.i64.min = -9223372036854775808 := by decide
  have e2 : IntKind.i64.max = 9223372036854775807 := by decide
  simp only [Lit.wf, e1, e2, Bool.and_eq_true, decide_eq_true_eq]
  omega
theorem keyOfInt {x : Int} (h0 : 0 ≤ x) (h1 : x ≤ 1000) : keyOf Try.prog 3 (.int .i64 x) = some (.int .i64 x) := keyOf_int_mk Try.underlying3 (wfInt h0 h1)
/-- The numbers below 16 that f has are the keys of D. -/
def KeysAre (D : DataW Unit) (f : Nat → Bool) : Prop := ∀ x : Int, has D (.int .i64 x) = true ↔ ∃ j : Nat, j < 16 ∧ x = (j : Int) ∧ f j = true
theorem keys_perm {w : World} {b n : Nat} {f : Nat → Bool} {D : DataW Unit} (hown : w.ownsMap Try.prog 3 unitElem b n D) (hs : KeysAre D f) : (setL f 16).Perm (intKeys D) := by
  have hsrt := setL_sorted f 16
  have hc : CollectedI D (fun _ => false) (setL f 16) := by
    refine ⟨hsrt.imp (fun {a b} h => by omega), fun x => ?_⟩
    rw [setL_mem, hs x]
    simp
  exact hc.perm hown keyInt Try.underlying3 (fun _ => rfl)
theorem keys_cap {w : World} {b n : Nat} {f : Nat → Bool} {D : DataW Unit} (hown : w.ownsMap Try.prog 3 unitElem b n D) (hs : KeysAre D f) : w.ownsMap Try.prog 3 unitElem b 16 D := by
  have hp := (keys_perm hown hs).length_eq
  have hl := setL_len f 16
  obtain ⟨es, clock, hb, F, hn, rfl⟩ := hown
  refine ⟨es, clock, hb, F, ?_, rfl⟩
  rw [intKeys, List.length_map, length_read] at hp
  omega
/-- Block b is a map whose keys are the numbers below 16 that f has. -/
def SetAt (w : World) (b : Nat) (f : Nat → Bool) : Prop := ∃ D : DataW Unit, w.ownsMap Try.prog 3 unitElem b 16 D ∧ KeysAre D f
theorem SetAt.made (w : World) : SetAt (w.alloc (.map #[] 0)) w.heap.size (fun _ => false) :=
  ⟨.map [], (World.ownsMap_made _ _ _ _).mono (by omega), fun x => ⟨fun h => by simp [has_eq] at h, fun ⟨_, _, _, h⟩ => by cases h⟩⟩
theorem SetAt.kept {w w' : World} {b : Nat} {f : Nat → Bool} {row : Option Nat} (h : SetAt w b f) (hg : w.grownBy w' row) (hne : some b ≠ row) : SetAt w' b f :=
  let ⟨D, h1, h2⟩ := h; ⟨D, h1.kept hg hne, h2⟩
theorem SetAt.none {w w' : World} {b : Nat} {f : Nat → Bool} (h : SetAt w b f) (hg : w.grownBy w' none) : SetAt w' b f := h.kept hg (by simp)
theorem SetAt.lt {w : World} {b : Nat} {f : Nat → Bool} (h : SetAt w b f) : b < w.heap.size := let ⟨D, h1, _⟩ := h; h1.lt
theorem has_with {D : DataW Unit} {f : Nat → Bool} {p q : Int} (hD : IsMap D) (hs : KeysAre D f)
    (hne : p ≠ q) (p0 : 0 ≤ p) (p3 : p ≤ 3) (q0 : 0 ≤ q) (q3 : q ≤ 3) (d : DataW Unit) :
    KeysAre (D.put (.int .i64 (4 * p + q)) d) (withT f p q) := fun x => by
  by_cases hx : x = 4 * p + q
  · subst hx
    rw [has_put_same hD (by trivial)]
    simp only [true_iff]
    exact ⟨(4 * p + q).toNat, by omega, by omega, by simp [withT, hne]; omega⟩
  · rw [has_put_other (by simpa using hx), hs x]
    constructor
    · rintro ⟨j, h1, h2, h3⟩
      exact ⟨j, h1, h2, by simp [withT, h3]⟩
    · rintro ⟨j, h1, h2, h3⟩
      refine ⟨j, h1, h2, ?_⟩
      simp only [withT, Bool.or_eq_true, decide_eq_true_eq] at h3
      rcases h3 with h3 | ⟨_, h3⟩
      · exact h3
      · omega

theorem implAdd (b : Nat) (f : Nat → Bool) (p q : Int) (p0 : 0 ≤ p) (p3 : p ≤ 3) (q0 : 0 ≤ q) (q3 : q ≤ 3) (w : World) (h : SetAt w b f) :
    Calls Try.prog 87 #[.map (some b), .int .i64 p, .int .i64 q] w fun e w' => e = .returned (.tuple #[]) ∧ SetAt w' b (withT f p q) ∧ w.grownBy w' (some b) := by
  obtain ⟨D, hown, hs⟩ := h
  by_cases hpq : p = q
  · have HT := Lib.hid (show SetAt w b (withT f p q) by rw [withT_same hpq]; exact ⟨D, hown, hs⟩)
    clear hown hs
    subst hpq
    go_enter Try.func87, Try.ntmps87
    go_wp2_with fail
    go_end0
    exact ⟨rfl, HT.out, gb_of_none (gb_refl _ _) _⟩
  · have HK := Lib.hid (keyOfInt (x := 4 * p + q) (by omega) (by omega))
    have HS := Lib.hid (fun d => has_with hown.isMap hs hpq p0 p3 q0 q3 d)
    have HO := Lib.hid hown
    clear hown hs
    go_enter Try.func87, Try.ntmps87
    go_wp2_with (at_mapUpdate; refine wpList_mapUpdate_own _ rfl _ _ _ 107 rfl 3 129 keyInt Try.underlying107 (unitElem (H := Unit)) b 16 D rfl HO.out (by unfold maxLen; omega) _ _ _ rfl rfl HK.out _ [] unitElem_mk ?_; intro w1 hown1 hg1; have HG := Lib.hid hg1; have HO1 := Lib.hid hown1; clear hg1 hown1)
    go_end0
    exact ⟨rfl, ⟨_, keys_cap HO1.out (HS.out _), HS.out _⟩, HG.out⟩

/-- The numbers in the block B are T. -/
def RowAt (w : World) (B : Nat) (T : List Int) : Prop := ∀ j, j < T.length → w.cell? ⟨B, j, none⟩ = some (.int .i64 (T.getD j 0))
theorem RowAt.kept {w w' : World} {B b : Nat} {T : List Int} (h : RowAt w B T) (hB : B < w.heap.size) (hg : w.grownBy w' (some b)) (hne : B ≠ b) : RowAt w' B T := fun j hj => by
  rw [World.cell?_of_block (hg.block B hB (by simpa using hne)), h j hj]
theorem RowAt.none {w w' : World} {B : Nat} {T : List Int} (h : RowAt w B T) (hB : B < w.heap.size) (hg : w.grownBy w' none) : RowAt w' B T := fun j hj => by
  rw [World.cell?_of_block (hg.block B hB (by simp)), h j hj]
def Ports (T : List Int) : Prop := T.length ≤ 4 ∧ ∀ j, j < T.length → 0 ≤ T.getD j 0 ∧ T.getD j 0 ≤ 3
def PutAt (b : Nat) (f : Nat → Bool) (w wr : World) : Prop := SetAt wr b f ∧ w.grownBy wr (some b)

theorem implAddAll (b : Nat) (f : Nat → Bool) (F T : List Int) (B1 B2 c1 c2 : Nat) (hF : Ports F) (hT : Ports T) (w : World) (h : SetAt w b f)
    (h1 : RowAt w B1 F) (h2 : RowAt w B2 T) (l1 : B1 < w.heap.size) (l2 : B2 < w.heap.size) (n1 : B1 ≠ b) (n2 : B2 ≠ b) :
    Calls Try.prog 89 #[.map (some b), .slice (some ⟨B1, 0, none⟩) F.length c1, .slice (some ⟨B2, 0, none⟩) T.length c2] w fun e w' => e = .returned (.tuple #[]) ∧ PutAt b (orT f (crossT F T F.length)) w w' := by
  obtain ⟨N1, hN1⟩ : ∃ k, F.length = k := ⟨_, rfl⟩
  obtain ⟨N2, hN2⟩ : ∃ k, T.length = k := ⟨_, rfl⟩
  obtain ⟨f4, hf⟩ := hF
  obtain ⟨t4, ht⟩ := hT
  have HS := Lib.hid (show PutAt b (orT f (crossT F T 0)) w w by rw [orT_none f (cross_zero F T)]; exact ⟨h, gb_of_none (gb_refl _ _) _⟩)
  have H1 := Lib.hid h1
  have H2 := Lib.hid h2
  have HF := Lib.hid hf
  have HT := Lib.hid ht
  clear h h1 h2 hf ht
  rw [hN1, hN2]
  rw [hN1] at f4
  rw [hN2] at t4
  have E1 := Lib.hid hN1
  have E2 := Lib.hid hN2
  clear hN1 hN2
  go_enter Try.func89, Try.ntmps89
  go_wp2_with fail
  go_loopw [12] (fun i wr => ∃ k : Nat, i = .int .i64 (k : Int) ∧ k ≤ N1 ∧ PutAt b (orT f (crossT F T k)) w wr) (fun i _ => N1 - (Go.RowKit.intOf i).toNat)
  case atStart => exact ⟨0, rfl, by omega, HS.out⟩
  case round =>
    obtain ⟨k, rfl, hk, hp⟩ := hrel
    have HP := Lib.hid hp
    clear hp
    by_cases hlt : k < N1
    · obtain ⟨p, hp⟩ : ∃ p, F.getD k 0 = p := ⟨_, rfl⟩
      obtain ⟨p0, p3⟩ := HF.out k (by rw [E1.out]; exact hlt)
      have c1 := (H1.out.kept l1 HP.out.2 n1) k (by rw [E1.out]; exact hlt)
      rw [hp] at p0 p3 c1
      have HPK := Lib.hid hp
      clear hp
      go_wp2_with fail
      go_loopw [18] (fun i ws => ∃ j : Nat, i = .int .i64 (j : Int) ∧ j ≤ N2 ∧ PutAt b (orT (orT f (crossT F T k)) (rowT p T j)) w ws) (fun i _ => N2 - (Go.RowKit.intOf i).toNat)
      case atStart => exact ⟨0, rfl, by omega, by rw [orT_none _ (row_zero p T)]; exact HP.out⟩
      case round =>
        obtain ⟨j, rfl, hj, hp2⟩ := hrel
        have HP2 := Lib.hid hp2
        clear hp2
        by_cases hlj : j < N2
        · obtain ⟨q, hq⟩ : ∃ q, T.getD j 0 = q := ⟨_, rfl⟩
          obtain ⟨q0, q3⟩ := HT.out j (by rw [E2.out]; exact hlj)
          have c2 := (H2.out.kept l2 HP2.out.2 n2) j (by rw [E2.out]; exact hlj)
          rw [hq] at q0 q3 c2
          have HA := Lib.hid (fun w h => implAdd b (orT (orT f (crossT F T k)) (rowT p T j)) p q p0 p3 q0 q3 w h)
          have HR := Lib.hid (row_next (orT f (crossT F T k)) p q T j hq)
          clear hq
          go_wp2_with fail
          refine (HA.out _ HP2.out.1).mono ?_
          rintro e w2 ⟨rfl, hs2, hg2⟩
          have HP3 := Lib.hid (show PutAt b (orT (orT f (crossT F T k)) (rowT p T (j + 1))) w w2 from ⟨HR.out ▸ hs2, HP2.out.2.trans hg2⟩)
          clear hs2 hg2 c2
          go_wp2_with fail
          go_roundw
          case rel => exact ⟨j + 1, rfl, by omega, HP3.out⟩
          case measure => simp [Go.RowKit.intOf]; omega
        · obtain rfl : j = N2 := by omega
          have HP3 := Lib.hid (show PutAt b (orT f (crossT F T (k + 1))) w _ by rw [← cross_next f p F T k HPK.out, E2.out]; exact HP2.out)
          go_wp2_with fail
          go_roundw
          case rel => exact ⟨k + 1, rfl, by omega, HP3.out⟩
          case measure => simp [Go.RowKit.intOf]; omega
    · obtain rfl : k = N1 := by omega
      go_wp2_with fail
      go_end0
      exact ⟨rfl, HP.out⟩
end Go.Proofs.Ytecaehkckamhkaa
end

section
namespace Go.Proofs
open Go.Shelf
def Try.keysA_ren : Go.Shelf.Ren := ⟨fun | 7 => 112 | 10 => 122 | n => n, fun | 23 => 107 | 26 => 3 | 3 => 129 | 28 => 132 | 0 => 0 | 27 => 131 | 33 => 68 | 4 => 4 | n => n, fun | n => n⟩
theorem Try.keysA : Go.Proofs.SlLaysZI.n7 Try.prog Try.keysA_ren := {
  mixed := by kernel_rfl
  f7 := ⟨Try.f112.name, by decide, Try.func112.trans (congrArg some (by kernel_rfl))⟩
  f10 := ⟨Try.f122.name, by decide, Try.func122.trans (congrArg some (by kernel_rfl))⟩
  t0 := Try.underlying0
  a0 := Try.isAgg0
  z0 := Try.sizeOf0
  v0 := Try.zeroValue0
  t4 := Try.underlying4
  a4 := Try.isAgg4
  z4 := Try.sizeOf4
  v4 := Try.zeroValue4
  t23 := Try.underlying107
  a23 := Try.isAgg107
  z23 := Try.sizeOf107
  v23 := Try.zeroValue107
  t26 := Try.underlying3
  a26 := Try.isAgg3
  z26 := Try.sizeOf3
  v26 := Try.zeroValue3
  t27 := Try.underlying131
  a27 := Try.isAgg131
  z27 := Try.sizeOf131
  v27 := Try.zeroValue131
  t28 := Try.underlying132
  a28 := Try.isAgg132
  z28 := Try.sizeOf132
  v28 := Try.zeroValue132
  t33 := Try.underlying68
  a33 := Try.isAgg68
  z33 := Try.sizeOf68
  v33 := Try.zeroValue68 }
def Try.sortedA_ren : Go.Shelf.Ren := ⟨fun | 6 => 111 | 8 => 120 | 9 => 121 | 11 => 128 | 13 => 130 | 12 => 129 | 23 => 141 | 24 => 142 | 14 => 132 | 15 => 133 | 16 => 134 | 17 => 135 | 18 => 136 | 19 => 137 | 20 => 138 | 21 => 139 | 22 => 140 | 25 => 143 | 26 => 144 | 27 => 145 | 28 => 146 | 29 => 147 | 30 => 148 | 31 => 149 | n => n, fun | 26 => 3 | 28 => 132 | 24 => 24 | 0 => 0 | 3 => 3 | 37 => 135 | 48 => 150 | 50 => 152 | 4 => 4 | 40 => 143 | 39 => 142 | 45 => 147 | 5 => 5 | 9 => 9 | 51 => 153 | 55 => 157 | 57 => 159 | 58 => 98 | 33 => 68 | n => n, fun | n => n⟩
theorem Try.sortedA : Go.Proofs.SlLaysZI.n6 Try.prog Try.sortedA_ren := {
  mixed := by kernel_rfl
  f6 := ⟨Try.f111.name, by decide, Try.func111.trans (congrArg some (by kernel_rfl))⟩
  f8 := ⟨Try.f120.name, by decide, Try.func120.trans (congrArg some (by kernel_rfl))⟩
  f11 := ⟨Try.f128.name, by decide, Try.func128.trans (congrArg some (by kernel_rfl))⟩
  t0 := Try.underlying0
  a0 := Try.isAgg0
  z0 := Try.sizeOf0
  v0 := Try.zeroValue0
  t24 := Try.underlying24
  a24 := Try.isAgg24
  z24 := Try.sizeOf24
  v24 := Try.zeroValue24
  t26 := Try.underlying3
  a26 := Try.isAgg3
  z26 := Try.sizeOf3
  v26 := Try.zeroValue3
  t28 := Try.underlying132
  a28 := Try.isAgg132
  z28 := Try.sizeOf132
  v28 := Try.zeroValue132
  i26 := by kernel_rfl }
def Try.sortA_ren : Go.Shelf.Ren := ⟨fun | 5 => 121 | 8 => 130 | 7 => 129 | 19 => 141 | 20 => 142 | 10 => 132 | 11 => 133 | 12 => 134 | 13 => 135 | 14 => 136 | 15 => 137 | 16 => 138 | 17 => 139 | 18 => 140 | 30 => 143 | 31 => 144 | 32 => 145 | 33 => 146 | 34 => 147 | 35 => 148 | 40 => 149 | n => n, fun | 23 => 24 | 25 => 3 | 3 => 3 | 32 => 135 | 22 => 24 | 0 => 0 | 44 => 150 | 46 => 152 | 4 => 4 | 36 => 143 | 35 => 142 | 41 => 147 | 5 => 5 | 9 => 9 | 53 => 153 | 57 => 157 | 63 => 159 | 64 => 98 | n => n, fun | n => n⟩
theorem Try.sortA : Go.Proofs.SlLaysM.n5 Try.prog Try.sortA_ren := {
  mixed := by kernel_rfl
  f5 := ⟨Try.f121.name, by decide, Try.func121.trans (congrArg some (by kernel_rfl))⟩
  f7 := ⟨Try.f129.name, by decide, Try.func129.trans (congrArg some (by kernel_rfl))⟩
  f8 := Try.func130.trans (congrArg some (by kernel_rfl))
  f10 := ⟨Try.f132.name, by decide, Try.func132.trans (congrArg some (by kernel_rfl))⟩
  f11 := ⟨Try.f133.name, by decide, Try.func133.trans (congrArg some (by kernel_rfl))⟩
  f12 := ⟨Try.f134.name, by decide, Try.func134.trans (congrArg some (by kernel_rfl))⟩
  f13 := ⟨Try.f135.name, by decide, Try.func135.trans (congrArg some (by kernel_rfl))⟩
  f14 := ⟨Try.f136.name, by decide, Try.func136.trans (congrArg some (by kernel_rfl))⟩
  f15 := ⟨Try.f137.name, by decide, Try.func137.trans (congrArg some (by kernel_rfl))⟩
  f16 := ⟨Try.f138.name, by decide, Try.func138.trans (congrArg some (by kernel_rfl))⟩
  f17 := ⟨Try.f139.name, by decide, Try.func139.trans (congrArg some (by kernel_rfl))⟩
  f18 := ⟨Try.f140.name, by decide, Try.func140.trans (congrArg some (by kernel_rfl))⟩
  f19 := Try.func141.trans (congrArg some (by kernel_rfl))
  f20 := Try.func142.trans (congrArg some (by kernel_rfl))
  f30 := ⟨Try.f143.name, by decide, Try.func143.trans (congrArg some (by kernel_rfl))⟩
  f31 := Try.func144.trans (congrArg some (by kernel_rfl))
  f32 := Try.func145.trans (congrArg some (by kernel_rfl))
  f33 := ⟨Try.f146.name, by decide, Try.func146.trans (congrArg some (by kernel_rfl))⟩
  f34 := ⟨Try.f147.name, by decide, Try.func147.trans (congrArg some (by kernel_rfl))⟩
  f35 := ⟨Try.f148.name, by decide, Try.func148.trans (congrArg some (by kernel_rfl))⟩
  f40 := ⟨Try.f149.name, by decide, Try.func149.trans (congrArg some (by kernel_rfl))⟩
  t0 := Try.underlying0
  a0 := Try.isAgg0
  z0 := Try.sizeOf0
  v0 := Try.zeroValue0
  t3 := Try.underlying3
  a3 := Try.isAgg3
  z3 := Try.sizeOf3
  v3 := Try.zeroValue3
  t4 := Try.underlying4
  a4 := Try.isAgg4
  z4 := Try.sizeOf4
  v4 := Try.zeroValue4
  t5 := Try.underlying5
  a5 := Try.isAgg5
  z5 := Try.sizeOf5
  v5 := Try.zeroValue5
  t9 := Try.underlying9
  a9 := Try.isAgg9
  z9 := Try.sizeOf9
  v9 := Try.zeroValue9
  t22 := Try.underlying24
  a22 := Try.isAgg24
  z22 := Try.sizeOf24
  v22 := Try.zeroValue24
  t23 := Try.underlying24
  a23 := Try.isAgg24
  z23 := Try.sizeOf24
  v23 := Try.zeroValue24
  t25 := Try.underlying3
  a25 := Try.isAgg3
  z25 := Try.sizeOf3
  v25 := Try.zeroValue3
  t32 := Try.underlying135
  a32 := Try.isAgg135
  z32 := Try.sizeOf135
  v32 := Try.zeroValue135
  t35 := Try.underlying142
  a35 := Try.isAgg142
  z35 := Try.sizeOf142
  v35 := Try.zeroValue142
  t36 := Try.underlying143
  a36 := Try.isAgg143
  z36 := Try.sizeOf143
  v36 := Try.zeroValue143
  t41 := Try.underlying147
  a41 := Try.isAgg147
  z41 := Try.sizeOf147
  v41 := Try.zeroValue147
  t44 := Try.underlying150
  a44 := Try.isAgg150
  z44 := Try.sizeOf150
  v44 := Try.zeroValue150
  t46 := Try.underlying152
  a46 := Try.isAgg152
  z46 := Try.sizeOf152
  v46 := Try.zeroValue152
  t53 := Try.underlying153
  a53 := Try.isAgg153
  z53 := Try.sizeOf153
  v53 := Try.zeroValue153
  t57 := Try.underlying157
  a57 := Try.isAgg157
  z57 := Try.sizeOf157
  v57 := Try.zeroValue157
  t63 := Try.underlying159
  a63 := Try.isAgg159
  z63 := Try.sizeOf159
  v63 := Try.zeroValue159
  t64 := Try.underlying98
  a64 := Try.isAgg98
  z64 := Try.sizeOf98
  v64 := Try.zeroValue98 }
end Go.Proofs
end

section
namespace Go.Proofs.Ytecaehkckamhkaa
open Go.ChangeShapes Go.WideShapes Go.ChangeAt Go.RowKit Go.Maps Go.Sort Go.Shelf
set_option linter.unusedVariables false
set_option maxRecDepth 20000

theorem sortsK (m : Nat) : AnyZI.SortsIn Try.prog Try.sortedA_ren Fence.wide m :=
  ⟨fun blk off cap ss W hH hblk hsz => callsIn_wide.2 (AnyM.slices_Sort_int Try.sortA blk off cap ss W hH hblk hsz),
   fun p cap W => callsIn_wide.2 (AnyM.slices_Sort_int_none Try.sortA p cap W)⟩

/-- The keys of a set, sorted, are its numbers ascending. -/
theorem set_sorted {w : World} {b n : Nat} {f : Nat → Bool} {D : DataW Unit} (hown : w.ownsMap Try.prog 3 unitElem b n D) (hs : KeysAre D f) {ss : List Int} (hp : ss.Perm (intKeys D)) :
    ss.mergeSort (fun x y => decide (x ≤ y)) = setL f 16 := by
  rw [mergeSort_of_perm_i (hp.trans (keys_perm hown hs).symm)]
  exact List.mergeSort_of_pairwise ((setL_sorted f 16).imp (fun {a b} h => by simp; omega))

set_option maxHeartbeats 1000000 in
theorem implAscending (b : Nat) (f : Nat → Bool) (w : World) (h : SetAt w b f) :
    Calls Try.prog 88 #[.map (some b)] w (NewI (setL f 16) w) := by
  obtain ⟨D0, hown, hs⟩ := h
  have hsz := hown.size_le
  have hmax : Maps.size D0 ≤ maxLen := by unfold maxLen; omega
  have hbytes : Maps.size D0 * 8 ≤ 140737488355328 := by omega
  refine (callsIn_wide (n := 6)).1 ?_
  have hbl := hown.lt
  have hseq : SeqGives Fence.wide 2 Try.prog 122 #[.pointer (some ⟨w.heap.size, 0, none⟩)] encZ (fun ss => ss.Perm (intKeys D0)) (Maps.size D0) (w.alloc (.cells #[.map (some b)] 107)) :=
    AnyZI.keys_gives (ρ := Try.keysA_ren) { Try.keysA with } Fence.wide _ trivial rfl (by omega) w.heap.size b 16 D0 _ (by simp) (by simp) (by
      obtain ⟨es, clock, hb, Ft, hs, hD⟩ := hown
      exact ⟨es, clock, (Below.heap_alloc _ _ b hbl).trans hb, Ft, hs, hD⟩)
  have cK : ∀ mb W, CallsIn Fence.wide 5 Try.prog 112 #[.map mb] W fun e w' => e = .returned (.func (.func 122) #[] #[.pointer (some ⟨W.heap.size, 0, none⟩)]) ∧ w' = W.alloc (.cells #[.map mb] 107) := fun mb W => AnyZI.keys_in Try.keysA Fence.wide 5 trivial rfl mb W
  have cS := AnyZI.sorted_in Try.sortedA Fence.wide 5 trivial trivial trivial trivial rfl (by omega) (sortsK _) (enters_of Try.func121 (by kernel_rfl) rfl) 122 #[.pointer (some ⟨w.heap.size, 0, none⟩)] trivial (enters_of Try.func122 (by kernel_rfl) rfl) _ _ hmax hbytes _ hseq
  change CallsIn _ _ Try.prog 111 _ _ _ at cS
  have hfK : Fence.wide.fn 112 := trivial
  have hfS : Fence.wide.fn 111 := trivial
  have HO := Lib.hid (fun ss h => set_sorted hown hs (ss := ss) h)
  refine callsIn_of_wp Try.func88 rfl trivial ?_ rfl
  simp only [Try.ntmps88, List.size_toArray, List.length_cons, List.length_nil, Nat.reduceAdd, Nat.reduceSub, Array.replicate_succ, Array.replicate_zero, List.push_toArray, List.append_toArray, List.nil_append, List.cons_append]
  gi_wp2_with (first
    | (gi_at_call 112; refine (cK _ _).mono ?_; rintro e w' ⟨rfl, rfl⟩)
    | (gi_at_call 111; refine cS.mono ?_; rintro e w' ⟨v, ss, rfl, hS, hrow, hnil, hb⟩))
  go_ret
  have hl : (setL f 16).length = ss.length := by rw [← HO.out ss hS]; exact (List.length_mergeSort ss)
  rw [HO.out ss hS] at hrow
  refine ⟨v, rfl, ?_, ((Below.refl _ w).alloc (Nat.le_refl _) _).trans (hb.mono (by simp))⟩
  rw [hl]
  exact ownsRow_base_a hrow (by simp)
end Go.Proofs.Ytecaehkckamhkaa
end

section
namespace Go.Proofs.Ytecaehkckamhkaa
open Go.ChangeShapes Go.WideShapes Go.ChangeAt Go.RowKit
set_option linter.unusedVariables false

theorem boxi_blk {w w1 : World} {T : TypeId} {cs : Array Value} (h : (w.alloc (.cells cs T)).grownBy w1 none) : Blk w1 w.heap.size T cs := (Blk.new w T cs).grown h (by simp)
theorem boxi_gb {w w1 : World} {o : Obj} (h : (w.alloc o).grownBy w1 none) : w.grownBy w1 none := gb_trans (gb_alloc (gb_refl _ _) _) h

theorem implGridOk (W H : Int) (w : World) :
    Calls Try.prog 73 #[.agg #[.int .i64 W, .int .i64 H]] w (RetB (okG W H) w) := by
  by_cases h1 : W ≥ 1 <;> by_cases h2 : W ≤ 4 <;> by_cases h3 : H ≥ 1 <;> by_cases h4 : H ≤ 4
  all_goals first | (exfalso; omega) | skip
  all_goals
    go_enter Try.func73, Try.ntmps73
    go_wp2_with fail
    go_ret
    exact ⟨ret_bool (by simp [okG] <;> omega), gb_alloc (gb_refl _ _) _⟩

theorem implNodeCount (W H : Int) (w : World) :
    Calls Try.prog 66 #[.agg #[.int .i64 W, .int .i64 H]] w (RetI (countG W H) none w) := by
  cases hok : okG W H with
  | true =>
    obtain ⟨hW, hH⟩ := okG_cases hok
    have hm : wrap64 (W * H) = countG W H := by
      simp only [countG, hok, if_true]
      rcases hW with rfl | rfl | rfl | rfl <;> rcases hH with rfl | rfl | rfl | rfl <;> exact IntWalk.wrap64_in _ (by omega)
    have Hm := Lib.hid hm
    clear hW hH hm
    go_enter Try.func66, Try.ntmps66
    go_wp2_with fail
    refine (implGridOk W H _).mono ?_
    rintro e w1 ⟨rfl, hg⟩
    have hb := boxi_blk hg
    have c0 : w1.cell? ⟨w.heap.size, 0, none⟩ = some (.int .i64 W) := hb.cell 0
    have c1 : w1.cell? ⟨w.heap.size, 1, none⟩ = some (.int .i64 H) := hb.cell 1
    have Hg := Lib.hid hg
    clear hg hb
    rw [hok]
    go_wp2_with fail
    go_ret
    exact ⟨ret_int64 (by rw [← Hm.out]), boxi_gb Hg.out⟩
  | false =>
    go_enter Try.func66, Try.ntmps66
    go_wp2_with fail
    refine (implGridOk W H _).mono ?_
    rintro e w1 ⟨rfl, hg⟩
    rw [hok]
    go_wp2_with fail
    go_ret
    exact ⟨ret_int64 (by simp [countG, hok]), boxi_gb hg⟩

theorem implHasNode (W H n : Int) (w : World) :
    Calls Try.prog 71 #[.agg #[.int .i64 W, .int .i64 H], .int .i64 n] w (RetB (hasG W H n) w) := by
  obtain ⟨k, hk⟩ : ∃ k, countG W H = k := ⟨_, rfl⟩
  by_cases h0 : n ≥ 0
  · by_cases h1 : n < k
    all_goals
      go_enter Try.func71, Try.ntmps71
      go_wp2_with fail
      refine (implNodeCount W H _).mono ?_
      rintro e w1 ⟨rfl, hg⟩
      rw [hk]
      go_wp2_with fail
      go_ret
      exact ⟨ret_bool (by simp [hasG, hk]; omega), boxi_gb hg⟩
  · go_enter Try.func71, Try.ntmps71
    go_wp2_with fail
    go_ret
    exact ⟨ret_bool (by simp [hasG, hk]; omega), gb_alloc (gb_refl _ _) _⟩

def hasPlaceG (W H x y : Int) : Bool := decide (okG W H = true ∧ 0 ≤ x ∧ x < W ∧ 0 ≤ y ∧ y < H)

theorem implHasPlace (W H x y : Int) (w : World) :
    Calls Try.prog 127 #[.agg #[.int .i64 W, .int .i64 H], .int .i64 x, .int .i64 y] w (RetB (hasPlaceG W H x y) w) := by
  cases hok : okG W H with
  | true =>
    obtain ⟨p1, p2, p3, p4⟩ := okG_iff.1 hok
    by_cases h1 : x ≥ 0 <;> by_cases h2 : x < W <;> by_cases h3 : y ≥ 0 <;> by_cases h4 : y < H
    all_goals first | (exfalso; omega) | skip
    all_goals
      go_enter Try.func127, Try.ntmps127
      go_wp2_with fail
      refine (implGridOk W H _).mono ?_
      rintro e w1 ⟨rfl, hg⟩
      have hb := boxi_blk hg
      have c0 := hb.cell 0
      have c1 := hb.cell 1
      have Hg := Lib.hid hg
      clear hg hb
      simp at c0 c1
      rw [hok]
      go_wp2_with fail
      go_ret
      exact ⟨ret_bool (by
        unfold hasPlaceG
        first
        | exact (decide_eq_true ⟨hok, by omega⟩).symm
        | exact (decide_eq_false (fun h => by have := h.2; omega)).symm
        | exact decide_eq_decide.2 ⟨fun h => by omega, fun h => h.2.2.2.2⟩), boxi_gb Hg.out⟩
  | false =>
    go_enter Try.func127, Try.ntmps127
    go_wp2_with fail
    refine (implGridOk W H _).mono ?_
    rintro e w1 ⟨rfl, hg⟩
    rw [hok]
    go_wp2_with fail
    go_ret
    exact ⟨ret_bool (by simp [hasPlaceG, hok]), boxi_gb hg⟩

theorem implNodeAt (W H x y : Int) (w : World) :
    Calls Try.prog 119 #[.agg #[.int .i64 W, .int .i64 H], .int .i64 x, .int .i64 y] w (RetI (atG W H x y) none w) := by
  cases hp : hasPlaceG W H x y with
  | true =>
    obtain ⟨hok, hx0, hx1, hy0, hy1⟩ : okG W H = true ∧ 0 ≤ x ∧ x < W ∧ 0 ≤ y ∧ y < H := by simpa [hasPlaceG] using hp
    obtain ⟨hW, hH⟩ := okG_cases hok
    rcases hW with rfl | rfl | rfl | rfl
    all_goals
      go_enter Try.func119, Try.ntmps119
      go_wp2_with fail
      refine (implHasPlace _ H x y _).mono ?_
      rintro e w1 ⟨rfl, hg⟩
      have hb := boxi_blk hg
      have c0 := hb.cell 0
      have Hg := Lib.hid hg
      clear hg hb
      simp at c0
      rw [hp]
      go_wp2_with fail
      go_ret
      exact ⟨ret_int64 (by unfold atG; rw [if_pos ⟨hok, by omega⟩] <;> omega), boxi_gb Hg.out⟩
  | false =>
    go_enter Try.func119, Try.ntmps119
    go_wp2_with fail
    refine (implHasPlace W H x y _).mono ?_
    rintro e w1 ⟨rfl, hg⟩
    rw [hp]
    go_wp2_with fail
    go_ret
    exact ⟨ret_int64 (by unfold atG; rw [if_neg (by simpa [hasPlaceG] using hp)]), boxi_gb hg⟩
end Go.Proofs.Ytecaehkckamhkaa
end

section
namespace Go.Proofs.Ytecaehkckamhkaa
open Go.ChangeShapes Go.WideShapes Go.ChangeAt Go.RowKit
set_option linter.unusedVariables false

/-- Numbers as the cells of a block. -/
def cellsX (X : List Int) : Array Value := (intsV X).toArray
theorem cellsX_size (X : List Int) : (cellsX X).size = X.length := by simp [cellsX, intsV_length]
theorem cellsX_at {X : List Int} {i : Nat} {x : Int} (hi : i < X.length) (h : X.getD i 0 = x) : (cellsX X)[i]? = some (.int .i64 x) := by
  rw [List.getD_eq_getElem?_getD, List.getElem?_eq_getElem hi] at h
  simp only [Option.getD_some] at h
  simp [cellsX, intsV, List.getElem?_eq_getElem hi, h]
theorem cellsX_set (X : List Int) (i : Nat) (x : Int) : (cellsX X).setIfInBounds i (.int .i64 x) = cellsX (X.set i x) := by
  simp [cellsX, intsV_set]
theorem cellsX_one (X : List Int) : (cellsX X).all (·.oneCell') = true := by
  rw [Array.all_eq_true_iff_forall_mem]
  intro v hv
  simp only [cellsX, intsV, List.mem_toArray, List.mem_map] at hv
  obtain ⟨x, _, rfl⟩ := hv
  rfl
theorem zero_cells : Try.zeroCells85 = cellsX zerosX := by kernel_rfl
theorem square_info : (Try.prog.info? 85).map (·.size) = some 256 := by kernel_rfl

section
variable {w : World} {g : Nat} {X Y : List Int}
theorem gb_setRow {w : World} {g : Nat} {old cs : Array Value} {t : TypeId} (h : Blk w g t old) : Blk (w.setRow g cs) g t cs ∧ w.grownBy (w.setRow g cs) (some g) := by
  refine ⟨setRow_heap w g old cs t (0, 0) h, rfl, rfl, rfl, ?_, fun i hi hne => ?_⟩
  · simp [World.setRow]
  · have hne' : g ≠ i := fun e => hne (by rw [e])
    simp [World.setRow, Array.getElem?_modify, hne']
theorem load_square (hb : Blk w g 85 (cellsX X)) (hl : X.length = 256) : (loadVar 85 ⟨g, 0, none⟩).run Try.prog w = .ok (.agg (cellsX X)) w :=
  run_loadVar_row w g _ _ (cellsX X) (0, 0) _ hb Try.underlying85 rfl (by rw [cellsX_size, hl]; exact square_info)
theorem store_square (hb : Blk w g 85 (cellsX X)) (hl : X.length = 256) (hm : Y.length = 256) : (storeVar 85 ⟨g, 0, none⟩ (.agg (cellsX Y))).run Try.prog w = .ok () (w.setRow g (cellsX Y)) :=
  run_storeVar_row w g _ _ (cellsX X) (cellsX Y) hb (by rw [cellsX_size, hm]; exact square_info) (by rw [cellsX_size, cellsX_size, hl, hm]) (cellsX_one Y)
end

theorem wpList_loadX {ops : Array Oper} {rest : List Oper} {op : Oper} {a : Act} {w : World} {Q : Exit → Act → World → Prop} (hgd : op.guard = none) (x : Operand) (ho : op.op = .load 85 x)
    (g : Nat) (hx : a.eval x = .pointer (some ⟨g, 0, none⟩)) (X : List Int) (hb : Blk w g 85 (cellsX X)) (hl : X.length = 256)
    (h : wpList Try.prog ops Q rest (a.put op.dst (.agg (cellsX X))) w) : wpList Try.prog ops Q (op :: rest) a w :=
  wpList_plain hgd fun _ hK => by
    unfold Oper.wp execOp
    simp only [ho, hx, Instr.loadAt, Instr.sureAddr, Sem.run_bind, Sem.run_pure, Result.andThen_ok, load_square hb hl]
    exact hK _ _ h
theorem wpList_storeX {ops : Array Oper} {rest : List Oper} {op : Oper} {a : Act} {w : World} {Q : Exit → Act → World → Prop} (hgd : op.guard = none) (x y : Operand) (ho : op.op = .store 85 x y)
    (g : Nat) (X Y : List Int) (hx : a.eval x = .pointer (some ⟨g, 0, none⟩)) (hy : a.eval y = .agg (cellsX Y)) (hb : Blk w g 85 (cellsX X)) (hl : X.length = 256) (hm : Y.length = 256)
    (h : ∀ w', Blk w' g 85 (cellsX Y) → w.grownBy w' (some g) → wpList Try.prog ops Q rest (a.put op.dst undef) w') : wpList Try.prog ops Q (op :: rest) a w :=
  wpList_plain hgd fun _ hK => by
    unfold Oper.wp execOp
    simp only [ho, hx, hy, Instr.storeAt, Instr.sureAddr, Sem.run_bind, Sem.run_pure, Result.andThen_ok, store_square hb hl hm]
    exact hK _ _ (h _ (gb_setRow hb).1 (gb_setRow hb).2)

/-- What is written lies in a block of the call's own. -/
theorem gb_new {a b c : World} {g : Nat} (h : a.grownBy b none) (k : b.grownBy c (some g)) (hg : a.heap.size ≤ g) : a.grownBy c none :=
  ⟨k.os.trans h.os, k.tape.trans h.tape, k.output.trans h.output, Nat.le_trans h.size k.size, fun i hi hne => (k.block i (Nat.lt_of_lt_of_le hi h.size) (fun e => by cases e; omega)).trans (h.block i hi hne)⟩

/-- A square and whether there is one. -/
def RetX (X : List Int) (b : Bool) (w : World) (e : Ending) (w' : World) : Prop := e = .returned (.tuple #[.agg (cellsX X), .bool b]) ∧ w.grownBy w' none
end Go.Proofs.Ytecaehkckamhkaa
end

section
namespace Go.Proofs.Ytecaehkckamhkaa
open Go.ChangeShapes Go.WideShapes Go.ChangeAt Go.RowKit
set_option linter.unusedVariables false

/-- A node's column and row. -/
theorem implPlace (W H n x y : Int) (hh : hasG W H n = true) (hx : n % W = x) (hy : n / W = y) (w : World) :
    Calls Try.prog 79 #[.agg #[.int .i64 W, .int .i64 H], .int .i64 n] w fun e w' => e = .returned (.tuple #[.int .i64 x, .int .i64 y]) ∧ w.grownBy w' none := by
  obtain ⟨hW, hH⟩ := okG_cases (hasG_ok hh).1
  obtain ⟨h0, h1⟩ := hasG_le hh
  have hq := row_wrap h0 h1 hW
  have da : n.tdiv W = y := by rw [Int.tdiv_eq_ediv_of_nonneg h0]; exact hy
  have ta : n.tmod W = x := by rw [Int.tmod_eq_emod_of_nonneg h0]; exact hx
  obtain ⟨a0, a1, a2, a3, a4⟩ := place_of hh
  rw [hx] at a0 a1
  rw [hy] at a2 a3
  have hWn : W ≠ 0 := by omega
  have hW1 : 1 ≤ W := by omega
  have hW2 : W ≤ 4 := by omega
  have hH2 : H ≤ 4 := by omega
  clear hW hH hx hy hq a4 h0
  go_enter Try.func79, Try.ntmps79
  go_wp2_with fail
  go_quiet (fail)
  go_wp2_with fail
  go_ret2
  exact ⟨rfl, gb_drewN (gb_alloc (gb_refl _ _) _) _⟩

theorem gb_undrew {a b : World} {row : Option Nat} (h : a.drew.grownBy b row) : a.grownBy b row := ⟨h.os, h.tape, h.output, h.size, h.block⟩
end Go.Proofs.Ytecaehkckamhkaa
end

section
namespace Go.Proofs.Ytecaehkckamhkaa
open Go.ChangeShapes Go.WideShapes Go.ChangeAt Go.RowKit
set_option linter.unusedVariables false

theorem implNodeAtV (W H x y n : Int) (h : atG W H x y = n) (w : World) :
    Calls Try.prog 119 #[.agg #[.int .i64 W, .int .i64 H], .int .i64 x, .int .i64 y] w (RetI n none w) := h ▸ implNodeAt W H x y w

theorem implNextNode (W H n p : Int) (w : World) :
    Calls Try.prog 106 #[.agg #[.int .i64 W, .int .i64 H], .int .i64 n, .int .i64 p] w (RetI (nextG W H n p) none w) := by
  cases hh : hasG W H n with
  | true =>
    obtain ⟨hW, hH⟩ := okG_cases (hasG_ok hh).1
    obtain ⟨a0, a1, a2, a3, a4⟩ := place_of hh
    have hN : nextG W H n p = (if p = 0 then atG W H (n % W) (n / W - 1) else if p = 1 then atG W H (n % W + 1) (n / W) else if p = 2 then atG W H (n % W) (n / W + 1) else if p = 3 then atG W H (n % W - 1) (n / W) else if p = 4 then n else -1) := by simp [nextG, hh]
    obtain ⟨x, hx⟩ : ∃ x, n % W = x := ⟨_, rfl⟩
    obtain ⟨y, hy⟩ : ∃ y, n / W = y := ⟨_, rfl⟩
    rw [hx, hy] at hN
    rw [hx] at a0 a1
    rw [hy] at a2 a3
    have x1 : x ≤ 4 := by omega
    have y1 : y ≤ 4 := by omega
    obtain ⟨r, hr⟩ : ∃ r, nextG W H n p = r := ⟨_, rfl⟩
    rw [hr] at hN ⊢
    have HP := Lib.hid (fun w => implPlace W H n x y hh hx hy w)
    clear a1 a3 a4 hW hH hr hx hy
    by_cases p0 : p = 0
    · subst p0
      simp at hN
      go_enter Try.func106, Try.ntmps106
      go_wp2_with fail
      refine (implHasNode W H n _).mono ?_
      rintro e w1 ⟨rfl, hg⟩
      have hb := boxi_blk hg
      have c0 := hb.cell 0
      have c1 := hb.cell 1
      have Hg := Lib.hid (boxi_gb hg)
      clear hg hb
      simp at c0 c1
      rw [hh]
      go_wp2_with fail
      refine (HP.out _).mono ?_
      rintro e w2 ⟨rfl, hg2⟩
      have d0 := hg2.cell c0 (by simp)
      have d1 := hg2.cell c1 (by simp)
      have Hg2 := Lib.hid (gb_trans Hg.out hg2)
      clear hg2 c0 c1
      go_wp2_with fail
      refine (implNodeAtV W H x (y - 1) r hN.symm _).mono ?_
      rintro e w3 ⟨rfl, hg3⟩
      have Hg3 := Lib.hid (gb_trans Hg2.out hg3)
      clear hg3
      go_wp2_with fail
      go_ret
      exact ⟨ret_int64 hN.symm, Hg3.out⟩
    by_cases p1 : p = 1
    · subst p1
      simp at hN
      go_enter Try.func106, Try.ntmps106
      go_wp2_with fail
      refine (implHasNode W H n _).mono ?_
      rintro e w1 ⟨rfl, hg⟩
      have hb := boxi_blk hg
      have c0 := hb.cell 0
      have c1 := hb.cell 1
      have Hg := Lib.hid (boxi_gb hg)
      clear hg hb
      simp at c0 c1
      rw [hh]
      go_wp2_with fail
      refine (HP.out _).mono ?_
      rintro e w2 ⟨rfl, hg2⟩
      have d0 := hg2.cell c0 (by simp)
      have d1 := hg2.cell c1 (by simp)
      have Hg2 := Lib.hid (gb_trans Hg.out hg2)
      clear hg2 c0 c1
      go_wp2_with fail
      refine (implNodeAtV W H (x + 1) y r hN.symm _).mono ?_
      rintro e w3 ⟨rfl, hg3⟩
      have Hg3 := Lib.hid (gb_trans Hg2.out hg3)
      clear hg3
      go_wp2_with fail
      go_ret
      exact ⟨ret_int64 hN.symm, Hg3.out⟩
    by_cases p2 : p = 2
    · subst p2
      simp at hN
      go_enter Try.func106, Try.ntmps106
      go_wp2_with fail
      refine (implHasNode W H n _).mono ?_
      rintro e w1 ⟨rfl, hg⟩
      have hb := boxi_blk hg
      have c0 := hb.cell 0
      have c1 := hb.cell 1
      have Hg := Lib.hid (boxi_gb hg)
      clear hg hb
      simp at c0 c1
      rw [hh]
      go_wp2_with fail
      refine (HP.out _).mono ?_
      rintro e w2 ⟨rfl, hg2⟩
      have d0 := hg2.cell c0 (by simp)
      have d1 := hg2.cell c1 (by simp)
      have Hg2 := Lib.hid (gb_trans Hg.out hg2)
      clear hg2 c0 c1
      go_wp2_with fail
      refine (implNodeAtV W H x (y + 1) r hN.symm _).mono ?_
      rintro e w3 ⟨rfl, hg3⟩
      have Hg3 := Lib.hid (gb_trans Hg2.out hg3)
      clear hg3
      go_wp2_with fail
      go_ret
      exact ⟨ret_int64 hN.symm, Hg3.out⟩
    by_cases p3 : p = 3
    · subst p3
      simp at hN
      go_enter Try.func106, Try.ntmps106
      go_wp2_with fail
      refine (implHasNode W H n _).mono ?_
      rintro e w1 ⟨rfl, hg⟩
      have hb := boxi_blk hg
      have c0 := hb.cell 0
      have c1 := hb.cell 1
      have Hg := Lib.hid (boxi_gb hg)
      clear hg hb
      simp at c0 c1
      rw [hh]
      go_wp2_with fail
      refine (HP.out _).mono ?_
      rintro e w2 ⟨rfl, hg2⟩
      have d0 := hg2.cell c0 (by simp)
      have d1 := hg2.cell c1 (by simp)
      have Hg2 := Lib.hid (gb_trans Hg.out hg2)
      clear hg2 c0 c1
      go_wp2_with fail
      refine (implNodeAtV W H (x - 1) y r hN.symm _).mono ?_
      rintro e w3 ⟨rfl, hg3⟩
      have Hg3 := Lib.hid (gb_trans Hg2.out hg3)
      clear hg3
      go_wp2_with fail
      go_ret
      exact ⟨ret_int64 hN.symm, Hg3.out⟩
    by_cases p4 : p = 4
    · subst p4
      simp at hN
      go_enter Try.func106, Try.ntmps106
      go_wp2_with fail
      refine (implHasNode W H n _).mono ?_
      rintro e w1 ⟨rfl, hg⟩
      have hb := boxi_blk hg
      have c0 := hb.cell 0
      have c1 := hb.cell 1
      have Hg := Lib.hid (boxi_gb hg)
      clear hg hb
      simp at c0 c1
      rw [hh]
      go_wp2_with fail
      refine (HP.out _).mono ?_
      rintro e w2 ⟨rfl, hg2⟩
      have d0 := hg2.cell c0 (by simp)
      have d1 := hg2.cell c1 (by simp)
      have Hg2 := Lib.hid (gb_trans Hg.out hg2)
      clear hg2 c0 c1
      go_wp2_with fail
      go_ret
      exact ⟨ret_int64 hN.symm, Hg2.out⟩
    simp [p0, p1, p2, p3, p4] at hN
    have q0 : (p == 0) = false := by simpa using p0
    have q1 : (p == 1) = false := by simpa using p1
    have q2 : (p == 2) = false := by simpa using p2
    have q3 : (p == 3) = false := by simpa using p3
    have q4 : (p == 4) = false := by simpa using p4
    clear p0 p1 p2 p3 p4
    go_enter Try.func106, Try.ntmps106
    go_wp2_with fail
    refine (implHasNode W H n _).mono ?_
    rintro e w1 ⟨rfl, hg⟩
    have hb := boxi_blk hg
    have c0 := hb.cell 0
    have c1 := hb.cell 1
    have Hg := Lib.hid (boxi_gb hg)
    clear hg hb
    simp at c0 c1
    rw [hh]
    go_wp2_with fail
    refine (HP.out _).mono ?_
    rintro e w2 ⟨rfl, hg2⟩
    have d0 := hg2.cell c0 (by simp)
    have d1 := hg2.cell c1 (by simp)
    have Hg2 := Lib.hid (gb_trans Hg.out hg2)
    clear hg2 c0 c1
    go_wp2_with fail
    go_ret
    exact ⟨ret_int64 hN.symm, Hg2.out⟩
  | false =>
    go_enter Try.func106, Try.ntmps106
    go_wp2_with fail
    refine (implHasNode W H n _).mono ?_
    rintro e w1 ⟨rfl, hg⟩
    rw [hh]
    go_wp2_with fail
    go_ret
    exact ⟨ret_int64 (by simp [nextG, hh]), boxi_gb hg⟩

theorem implNextNodeV (W H n p r : Int) (h : nextG W H n p = r) (w : World) :
    Calls Try.prog 106 #[.agg #[.int .i64 W, .int .i64 H], .int .i64 n, .int .i64 p] w (RetI r none w) := h ▸ implNextNode W H n p w

/-- Where a channel leads, by the rounding of the language. -/
def endG (W H c : Int) : Int := nextG W H (c.tdiv 4) (c.tmod 4)
theorem leads_end (W H c : Int) : leadsG W H c = decide (0 ≤ endG W H c) := by
  unfold leadsG endG
  by_cases h0 : 0 ≤ c
  · rw [Int.tdiv_eq_ediv_of_nonneg h0, Int.tmod_eq_emod_of_nonneg h0]
    refine decide_eq_decide.2 ⟨fun h => h.2.2, fun h => ⟨h0, ?_, h⟩⟩
    cases hh : hasG W H (c / 4) with
    | true => have := (hasG_iff.1 hh).2; omega
    | false => simp [nextG, hh] at h
  · refine decide_eq_decide.2 ⟨fun h => absurd h.1 h0, fun h => ?_⟩
    exfalso
    cases hh : hasG W H (c.tdiv 4) with
    | true =>
      have h1 := (hasG_iff.1 hh).1
      have h2 : c.tmod 4 < 0 := by
        have e := Int.mul_tdiv_add_tmod c 4
        omega
      rw [nextG_has (by omega)] at h
      omega
    | false => simp [nextG, hh] at h
theorem implEnd (W H c r : Int) (hc : (Lit.int .i64 c).wf = true) (hr : endG W H c = r) (w : World) :
    Calls Try.prog 78 #[.agg #[.int .i64 W, .int .i64 H], .int .i64 c] w (RetI r none w) := by
  have hb := bounds_i64 hc
  have hm : c.tmod 4 < 4 ∧ -4 < c.tmod 4 := ⟨Int.tmod_lt_of_pos _ (by omega), by have := Int.lt_tmod_of_pos c (b := 4) (by omega); omega⟩
  have hq : wrap64 (c.tdiv 4) = c.tdiv 4 := IntWalk.wrap64_in _ (by have := Int.mul_tdiv_add_tmod c 4; omega)
  clear hm
  have HC := Lib.hid (fun w => implNextNodeV W H (c.tdiv 4) (c.tmod 4) r hr w)
  clear hc hr hb
  go_enter Try.func78, Try.ntmps78
  go_wp2_with fail
  simp only [hq]
  refine (HC.out _).mono ?_
  rintro e w1 ⟨rfl, hg⟩
  have Hg := Lib.hid (boxi_gb hg)
  clear hg
  go_wp2_with fail
  go_ret
  exact ⟨rfl, Hg.out⟩
end Go.Proofs.Ytecaehkckamhkaa
end

section
namespace Go.Proofs.Ytecaehkckamhkaa
open Go.ChangeShapes Go.WideShapes Go.ChangeAt Go.RowKit
set_option linter.unusedVariables false

theorem implMeshOk (W H : Int) (A : Option Addr) (n cap : Nat) (L : List Int) (hL : WfL L) (w : World) (h : IntAt w w.heap.size A n L) (hn : n ≤ 1000000000) :
    Calls Try.prog 76 #[.agg #[.int .i64 W, .int .i64 H, .slice A n cap]] w (RetB (meshG W H L) w) := by
  have hl := h.1
  have HI := Lib.hid h
  have HW := Lib.hid hL
  clear h hL
  cases hok : okG W H with
  | false =>
    go_enter Try.func76, Try.ntmps76
    go_wp2_with fail
    refine (implGridOk W H _).mono ?_
    rintro e w1 ⟨rfl, hg⟩
    rw [hok]
    go_wp2_with fail
    go_ret
    exact ⟨ret_bool (meshG_bad hok).symm, boxi_gb hg⟩
  | true =>
    go_enter Try.func76, Try.ntmps76
    go_wp2_with fail
    refine (implGridOk W H _).mono ?_
    rintro e w1 ⟨rfl, hg⟩
    have HM := Lib.hid (show MeshAt W H L A n cap w 0 w1 from ⟨goodTo_zero W H L, hg⟩)
    have hbk := boxi_blk hg
    have a2 : w1.cell? ⟨w.heap.size, 2, none⟩ = some (.slice A n cap) := hbk.cell 2
    clear hg hbk
    rw [hok]
    go_wp2_with fail
    clear a2
    go_loopw [12] (fun i wr => ∃ k : Nat, i = .int .i64 (k : Int) ∧ k ≤ n ∧ MeshAt W H L A n cap w k wr) (fun i _ => n - (intOf i).toNat)
    case atStart => exact ⟨0, rfl, Nat.zero_le _, HM.out⟩
    case round =>
      obtain ⟨k, rfl, hk, hgood, hg⟩ := hrel
      have HGo := Lib.hid hgood
      have HG := Lib.hid hg
      have hbk := boxi_blk hg
      have HBK := Lib.hid hbk
      have a0 : wr.cell? ⟨w.heap.size, 0, none⟩ = some (.int .i64 W) := hbk.cell 0
      have a1 : wr.cell? ⟨w.heap.size, 1, none⟩ = some (.int .i64 H) := hbk.cell 1
      have a2 : wr.cell? ⟨w.heap.size, 2, none⟩ = some (.slice A n cap) := hbk.cell 2
      have hia := HI.out.none (Nat.le_refl _) (boxi_gb hg)
      have HIA := Lib.hid hia
      clear hg hgood hbk
      by_cases hlt : k < n
      · obtain ⟨b, off, rfl, hb, hc⟩ := hia.at k hlt
        obtain ⟨x, hx⟩ : ∃ x, L.getD k 0 = x := ⟨_, rfl⟩
        rw [hx] at hc
        obtain ⟨r, hr⟩ : ∃ r, endG W H x = r := ⟨_, rfl⟩
        have HE := Lib.hid (fun w => implEnd W H x r (HW.out.get (by omega) hx) hr w)
        have hld := leads_end W H x
        rw [hr] at hld
        clear hia hr
        by_cases h0 : r < 0
        · have hbad := meshG_no (L := L) (i := k) (by omega) (goodAt_lead hx (by rw [hld]; exact decide_eq_false (by omega)))
          have HBad := Lib.hid hbad
          clear hx hld hbad
          go_wp2_with fail
          refine (HE.out _).mono ?_
          rintro e w2 ⟨rfl, hg2⟩
          have HG2 := Lib.hid (gb_trans (boxi_gb HG.out) hg2)
          clear hg2
          go_wp2_with fail
          go_ret
          exact ⟨ret_bool HBad.out.symm, HG2.out⟩
        · have hldt : leadsG W H x = true := by rw [hld]; exact decide_eq_true (by omega)
          clear hld
          cases k with
          | zero =>
            have HNx := Lib.hid (goodTo_succ HGo.out (goodAt_first hx hldt))
            have hc' : wr.cell? ⟨b, off, none⟩ = some (.int .i64 x) := hc
            clear hx hldt hc
            go_wp2_with fail
            refine (HE.out _).mono ?_
            rintro e w2 ⟨rfl, hg2⟩
            have HG2 := Lib.hid (gb_trans HG.out hg2)
            clear hg2
            go_wp2_with fail
            go_roundw
            case rel => exact ⟨1, by go_num, by omega, HNx.out, HG2.out⟩
            case measure => simp [intOf] <;> omega
          | succ j =>
            obtain ⟨b', off', hbe, _, hc2⟩ := HIA.out.at j (by omega)
            obtain ⟨rfl, rfl⟩ : b = b' ∧ off = off' := by injection hbe with h1; injection h1 with h2 h3; exact ⟨h2, h3⟩
            obtain ⟨y, hy⟩ : ∃ y, L.getD j 0 = y := ⟨_, rfl⟩
            rw [hy] at hc2
            have hga := goodAt_next hx hy hldt
            have HGA := Lib.hid hga
            clear hx hy hldt hga hbe
            go_wp2_with fail
            refine (HE.out _).mono ?_
            rintro e w2 ⟨rfl, hg2⟩
            have dc := hg2.cell hc (by simp)
            have dc2 := hg2.cell hc2 (by simp)
            have d2 := hg2.cell a2 (by simp)
            have HG2 := Lib.hid (gb_trans HG.out hg2)
            clear hg2 hc hc2 a0 a1 a2
            by_cases hyx : y < x
            · have hge : decide (y ≥ x) = false := decide_eq_false (by omega)
              have HNx := Lib.hid (goodTo_succ HGo.out (HGA.out.trans (decide_eq_true hyx)))
              clear hyx
              go_wp2_with fail
              go_roundw
              case rel => exact ⟨j + 2, by go_num, by omega, HNx.out, HG2.out⟩
              case measure => simp [intOf] <;> omega
            · have hge : decide (y ≥ x) = true := decide_eq_true (by omega)
              have HBad := Lib.hid (meshG_no (i := j + 1) (by omega) (HGA.out.trans (decide_eq_false hyx)))
              clear hyx
              go_wp2_with fail
              go_ret
              exact ⟨ret_bool HBad.out.symm, boxi_gb HG2.out⟩
      · obtain rfl : k = n := by omega
        clear hia
        go_wp2_with fail
        go_ret
        exact ⟨ret_bool (meshG_yes hok (by rw [hl]; exact HGo.out)).symm, boxi_gb HG.out⟩

theorem implMeshOkV (W H : Int) (A : Option Addr) (n cap : Nat) (L : List Int) (b : Bool) (hb : meshG W H L = b) (hL : WfL L) (w : World) (h : IntAt w w.heap.size A n L) (hn : n ≤ 1000000000) :
    Calls Try.prog 76 #[.agg #[.int .i64 W, .int .i64 H, .slice A n cap]] w (RetB b w) := hb ▸ implMeshOk W H A n cap L hL w h hn
end Go.Proofs.Ytecaehkckamhkaa
end

section
namespace Go.Proofs.Ytecaehkckamhkaa
open Go.ChangeShapes Go.WideShapes Go.ChangeAt Go.RowKit
set_option linter.unusedVariables false

/-- A mesh, a table and a square as blocks. -/
def thrB (W H : Int) (A A2 : Option Addr) (n cap n2 c2 : Nat) (w : World) : World :=
  ((w.alloc (.cells (meshC W H A n cap) 34)).alloc (.cells #[.slice A2 n2 c2] 36)).alloc (.cells (cellsX zerosX) 85)
section
variable {W H : Int} {A A2 : Option Addr} {n cap n2 c2 : Nat} {w wr : World}
theorem thrB_size : (thrB W H A A2 n cap n2 c2 w).heap.size = w.heap.size + 3 := by unfold thrB; rw [alloc_size, alloc_size, alloc_size]
theorem thrB_gb : w.grownBy (thrB W H A A2 n cap n2 c2 w) none := gb_alloc (gb_alloc (gb_alloc (gb_refl _ _) _) _) _
theorem thrB_mesh : Blk (thrB W H A A2 n cap n2 c2 w) w.heap.size 34 (meshC W H A n cap) := ((Blk.new w 34 (meshC W H A n cap)).alloc _).alloc _
theorem thrB_table : Blk (thrB W H A A2 n cap n2 c2 w) (w.heap.size + 1) 36 #[.slice A2 n2 c2] := by
  have := Blk.new (w.alloc (.cells (meshC W H A n cap) 34)) 36 #[.slice A2 n2 c2]
  rw [alloc_size] at this
  exact this.alloc _
theorem thrB_square : Blk (thrB W H A A2 n cap n2 c2 w) (w.heap.size + 2) 85 (cellsX (zerosX)) := by
  have := Blk.new ((w.alloc (.cells (meshC W H A n cap) 34)).alloc (.cells #[.slice A2 n2 c2] 36)) 85 (cellsX zerosX)
  rw [alloc_size, alloc_size] at this
  exact this
end

theorem implPortsNo (W H : Int) (A A2 : Option Addr) (n cap n2 c2 : Nat) (L P : List Int) (hL : WfL L) (w : World) (h : IntAt w w.heap.size A n L) (h2 : IntAt w w.heap.size A2 n2 P) (hn : n ≤ 1000000000) (hn2 : n2 ≤ 1000000000)
    (hs : sizedG W H L P = false) :
    Calls Try.prog 70 #[.agg #[.int .i64 W, .int .i64 H, .slice A n cap], .agg #[.slice A2 n2 c2]] w (RetX (zerosX) false w) := by
  have hp := h2.1
  have HI := Lib.hid (h.none (Nat.le_refl _) (thrB_gb (W := W) (H := H) (A := A) (A2 := A2) (n := n) (cap := cap) (n2 := n2) (c2 := c2)))
  clear h h2
  obtain ⟨k, hk⟩ : ∃ k, countG W H = k := ⟨_, rfl⟩
  obtain ⟨hk0, hk1⟩ := countG_le W H
  rw [hk] at hk0 hk1
  have HN := Lib.hid (fun w => show Calls Try.prog 66 #[.agg #[.int .i64 W, .int .i64 H]] w (RetI k none w) from hk ▸ implNodeCount W H w)
  have TM := Lib.hid (thrB_mesh (W := W) (H := H) (A := A) (A2 := A2) (n := n) (cap := cap) (n2 := n2) (c2 := c2) (w := w))
  have TT := Lib.hid (thrB_table (W := W) (H := H) (A := A) (A2 := A2) (n := n) (cap := cap) (n2 := n2) (c2 := c2) (w := w))
  have TS := Lib.hid (thrB_square (W := W) (H := H) (A := A) (A2 := A2) (n := n) (cap := cap) (n2 := n2) (c2 := c2) (w := w))
  have TG := Lib.hid (thrB_gb (W := W) (H := H) (A := A) (A2 := A2) (n := n) (cap := cap) (n2 := n2) (c2 := c2) (w := w))
  have TZ := Lib.hid (thrB_size (W := W) (H := H) (A := A) (A2 := A2) (n := n) (cap := cap) (n2 := n2) (c2 := c2) (w := w))
  cases hm : meshG W H L with
  | false =>
    have HK := Lib.hid (fun w h => implMeshOkV W H A n cap L false hm hL w h hn)
    clear hm hL hs hk
    go_enter Try.func70, Try.ntmps70
    go_wp2_with fail
    refine (HN.out _).mono ?_
    rintro e w1 ⟨rfl, hg⟩
    rw [zero_cells] at hg
    have hg1 : (thrB W H A A2 n cap n2 c2 w).grownBy w1 none := hg
    have hbk := TM.out.grown hg1 (by simp)
    have a0 : w1.cell? ⟨w.heap.size, 0, none⟩ = some (.int .i64 W) := hbk.cell 0
    have a1 : w1.cell? ⟨w.heap.size, 1, none⟩ = some (.int .i64 H) := hbk.cell 1
    have a2 : w1.cell? ⟨w.heap.size, 2, none⟩ = some (.slice A n cap) := hbk.cell 2
    have hi := (HI.out.none (by rw [TZ.out]; omega) hg1).more (B' := w1.heap.size) (gb_trans TG.out hg1).size
    have HG := Lib.hid hg1
    clear hg hg1 hbk
    go_wp2_with fail
    refine (HK.out _ hi).mono ?_
    rintro e w2 ⟨rfl, hg2⟩
    have HG2 := Lib.hid (gb_trans HG.out hg2)
    have HSq := Lib.hid (TS.out.grown HG2.out (by simp))
    clear hg2 hi a0 a1 a2
    go_wp2_with (refine wpList_storeX rfl _ _ rfl (w.heap.size + 1 + 1) zerosX zerosX rfl (congrArg Value.agg zero_cells) HSq.out zerosX_length zerosX_length ?_; intro w3 hb3 hg3; have HB3 := Lib.hid hb3; have HG3 := Lib.hid hg3; clear hb3 hg3)
    refine bodyPost_ret (v := .tuple #[.agg (cellsX zerosX), .bool false]) ?_ rfl ⟨rfl, gb_new (gb_trans TG.out HG2.out) HG3.out (by omega)⟩
    rw [results_cell_tmp rfl]
    simp [asAddr, Result.andThen, load_square HB3.out zerosX_length]
  | true =>
    have hsq : ¬ (n2 : Int) = k * k := fun e => by
      have : sizedG W H L P = true := by simp [sizedG, hm, hk, hp, e]
      rw [hs] at this; cases this
    have hkk0 : 0 ≤ k * k := Int.mul_nonneg hk0 hk0
    have hkk1 : k * k ≤ 256 := Int.le_trans (Int.mul_le_mul hk1 hk1 hk0 (by omega)) (by omega)
    obtain ⟨q, hq⟩ : ∃ q, k * k = q := ⟨_, rfl⟩
    rw [hq] at hkk0 hkk1 hsq
    have e1 : wrap64 (k * k) = q := by rw [hq]; exact IntWalk.wrap64_in _ (by omega)
    have hb : ((n2 : Int) != q) = true := by simpa using hsq
    have HK := Lib.hid (fun w h => implMeshOkV W H A n cap L true hm hL w h hn)
    clear hm hL hs hk hq
    go_enter Try.func70, Try.ntmps70
    go_wp2_with fail
    refine (HN.out _).mono ?_
    rintro e w1 ⟨rfl, hg⟩
    rw [zero_cells] at hg
    have hg1 : (thrB W H A A2 n cap n2 c2 w).grownBy w1 none := hg
    have hbk := TM.out.grown hg1 (by simp)
    have a0 : w1.cell? ⟨w.heap.size, 0, none⟩ = some (.int .i64 W) := hbk.cell 0
    have a1 : w1.cell? ⟨w.heap.size, 1, none⟩ = some (.int .i64 H) := hbk.cell 1
    have a2 : w1.cell? ⟨w.heap.size, 2, none⟩ = some (.slice A n cap) := hbk.cell 2
    have hi := (HI.out.none (by rw [TZ.out]; omega) hg1).more (B' := w1.heap.size) (gb_trans TG.out hg1).size
    have HG := Lib.hid hg1
    clear hg hg1 hbk
    go_wp2_with fail
    refine (HK.out _ hi).mono ?_
    rintro e w2 ⟨rfl, hg2⟩
    have HG2 := Lib.hid (gb_trans HG.out hg2)
    have HSq := Lib.hid (TS.out.grown HG2.out (by simp))
    have b0 : w2.cell? ⟨w.heap.size + 1, 0, none⟩ = some (.slice A2 n2 c2) := (TT.out.grown HG2.out (by simp)).cell 0
    clear hg2 hi a0 a1 a2
    go_wp2_with (refine wpList_storeX rfl _ _ rfl (w.heap.size + 1 + 1) zerosX zerosX rfl (congrArg Value.agg zero_cells) HSq.out zerosX_length zerosX_length ?_; intro w3 hb3 hg3; have HB3 := Lib.hid hb3; have HG3 := Lib.hid hg3; clear hb3 hg3)
    refine bodyPost_ret (v := .tuple #[.agg (cellsX zerosX), .bool false]) ?_ rfl ⟨rfl, gb_new (gb_trans TG.out HG2.out) HG3.out (by omega)⟩
    rw [results_cell_tmp rfl]
    simp [asAddr, Result.andThen, load_square HB3.out zerosX_length]

/-- The square after j entries, in a block of the call's own. -/
def PortsAt (W H : Int) (A A2 : Option Addr) (n cap n2 c2 : Nat) (P : List Int) (w : World) (g j : Nat) (wr : World) : Prop :=
  Blk wr g 85 (cellsX (portsX W H P j)) ∧ (thrB W H A A2 n cap n2 c2 w).grownBy wr none

theorem implPortsYes (W H : Int) (A A2 : Option Addr) (n cap n2 c2 : Nat) (L P : List Int) (hL : WfL L) (w : World) (h : IntAt w w.heap.size A n L) (h2 : IntAt w w.heap.size A2 n2 P) (hn : n ≤ 1000000000) (hn2 : n2 ≤ 1000000000)
    (hs : sizedG W H L P = true) :
    Calls Try.prog 70 #[.agg #[.int .i64 W, .int .i64 H, .slice A n cap], .agg #[.slice A2 n2 c2]] w (RetX (portsX W H P P.length) true w) := by
  have hp := h2.1
  have HI := Lib.hid (h.none (Nat.le_refl _) (thrB_gb (W := W) (H := H) (A := A) (A2 := A2) (n := n) (cap := cap) (n2 := n2) (c2 := c2)))
  have HP := Lib.hid (h2.none (Nat.le_refl _) (thrB_gb (W := W) (H := H) (A := A) (A2 := A2) (n := n) (cap := cap) (n2 := n2) (c2 := c2)))
  clear h h2
  obtain ⟨k, hk⟩ : ∃ k, cntN W H = k := ⟨_, rfl⟩
  have hki := cntN_int W H
  have hk1 := cntN_le W H
  rw [hk] at hki hk1
  have hsz := (sizedG_mesh hs).2
  have hm := (sizedG_mesh hs).1
  rw [hp, ← hki] at hsz
  have HN := Lib.hid (fun w => show Calls Try.prog 66 #[.agg #[.int .i64 W, .int .i64 H]] w (RetI (k : Int) none w) from hki ▸ implNodeCount W H w)
  have HK := Lib.hid (fun w h => implMeshOkV W H A n cap L true hm hL w h hn)
  have TM := Lib.hid (thrB_mesh (W := W) (H := H) (A := A) (A2 := A2) (n := n) (cap := cap) (n2 := n2) (c2 := c2) (w := w))
  have TT := Lib.hid (thrB_table (W := W) (H := H) (A := A) (A2 := A2) (n := n) (cap := cap) (n2 := n2) (c2 := c2) (w := w))
  have TS := Lib.hid (thrB_square (W := W) (H := H) (A := A) (A2 := A2) (n := n) (cap := cap) (n2 := n2) (c2 := c2) (w := w))
  have TG := Lib.hid (thrB_gb (W := W) (H := H) (A := A) (A2 := A2) (n := n) (cap := cap) (n2 := n2) (c2 := c2) (w := w))
  have TZ := Lib.hid (thrB_size (W := W) (H := H) (A := A) (A2 := A2) (n := n) (cap := cap) (n2 := n2) (c2 := c2) (w := w))
  have hkk1 : (k : Int) * k ≤ 256 := Int.le_trans (Int.mul_le_mul (Int.ofNat_le.2 hk1) (Int.ofNat_le.2 hk1) (by omega) (by omega)) (by omega)
  have hn256 : n2 ≤ 256 := by omega
  have e1 : wrap64 ((k : Int) * k) = (n2 : Int) := by rw [← hsz]; exact IntWalk.wrap64_in _ (by omega)
  have hb : ((n2 : Int) != (n2 : Int)) = false := by simp
  have HSZ := Lib.hid (show n2 = k * k by exact_mod_cast hsz)
  have HKK := Lib.hid hk
  have HPL := Lib.hid hp
  clear hm hL hs hk hki hsz hkk1 hp
  go_enter Try.func70, Try.ntmps70
  go_wp2_with fail
  refine (HN.out _).mono ?_
  rintro e w1 ⟨rfl, hg⟩
  rw [zero_cells] at hg
  have hg1 : (thrB W H A A2 n cap n2 c2 w).grownBy w1 none := hg
  have hbk := TM.out.grown hg1 (by simp)
  have a0 : w1.cell? ⟨w.heap.size, 0, none⟩ = some (.int .i64 W) := hbk.cell 0
  have a1 : w1.cell? ⟨w.heap.size, 1, none⟩ = some (.int .i64 H) := hbk.cell 1
  have a2 : w1.cell? ⟨w.heap.size, 2, none⟩ = some (.slice A n cap) := hbk.cell 2
  have hi := (HI.out.none (by rw [TZ.out]; omega) hg1).more (B' := w1.heap.size) (gb_trans TG.out hg1).size
  have HG := Lib.hid hg1
  clear hg hg1 hbk
  go_wp2_with fail
  refine (HK.out _ hi).mono ?_
  rintro e w2 ⟨rfl, hg2⟩
  have HG2 := Lib.hid (gb_trans HG.out hg2)
  have HSq := Lib.hid (TS.out.grown HG2.out (by simp))
  have b0 : w2.cell? ⟨w.heap.size + 1, 0, none⟩ = some (.slice A2 n2 c2) := (TT.out.grown HG2.out (by simp)).cell 0
  have b1 : (w2.alloc (.cells Try.zeroCells85 85)).cell? ⟨w.heap.size + 1, 0, none⟩ = some (.slice A2 n2 c2) := ((TT.out.grown HG2.out (by simp)).alloc _).cell 0
  have HB2 := Lib.hid (show w.heap.size + 3 ≤ w2.heap.size by have := HG2.out.size; rw [TZ.out] at this; exact this)
  clear hg2 hi a0 a1 a2
  go_wp2_with fail
  obtain ⟨g, hg⟩ : ∃ g, w2.heap.size = g := ⟨_, rfl⟩
  rw [zero_cells]
  have HX := Lib.hid (show PortsAt W H A A2 n cap n2 c2 P w g 0 (w2.alloc (.cells (cellsX zerosX) 85)) from ⟨hg ▸ Blk.new w2 85 (cellsX zerosX), gb_alloc HG2.out _⟩)
  rw [hg, e1]
  have HGE := Lib.hid (show w.heap.size + 3 ≤ g by rw [← hg]; exact HB2.out)
  clear hg b0 b1 e1 hb
  go_loopw [29] (fun i wr => ∃ j : Nat, i = .int .i64 (j : Int) ∧ j ≤ n2 ∧ PortsAt W H A A2 n cap n2 c2 P w g j wr) (fun i _ => n2 - (intOf i).toNat)
  case atStart => exact ⟨0, rfl, Nat.zero_le _, HX.out⟩
  case round =>
    obtain ⟨j, rfl, hj, hblk, hgr⟩ := hrel
    have HBk := Lib.hid hblk
    have HGr := Lib.hid hgr
    clear hgr hblk
    by_cases hlt : j < n2
    · have hsz := HSZ.out
      have hk0 : 0 < k := Nat.pos_of_ne_zero fun e => by rw [e] at hsz; omega
      obtain ⟨b, off, rfl, hbB, hcell⟩ := (HP.out.none (by rw [TZ.out]; omega) HGr.out).at j hlt
      obtain ⟨p, hpp⟩ : ∃ p, P.getD j 0 = p := ⟨_, rfl⟩
      rw [hpp] at hcell
      obtain ⟨x, hx⟩ : ∃ x, j / k = x := ⟨_, rfl⟩
      obtain ⟨y, hy⟩ : ∃ y, j % k = y := ⟨_, rfl⟩
      have hx1 : x < k := by rw [← hx]; exact Nat.div_lt_of_lt_mul (by rw [← hsz]; exact hlt)
      have hy1 : y < k := by rw [← hy]; exact Nat.mod_lt _ hk0
      have d1 : Int.tdiv (j : Int) (k : Int) = (x : Int) := by rw [← hx]; rfl
      have d2 : Int.tmod (j : Int) (k : Int) = (y : Int) := by rw [← hy]; rfl
      have hx16 : (x : Int) < 16 := by omega
      have hy16 : (y : Int) < 16 := by omega
      obtain ⟨o, ho⟩ : ∃ o, (portsX W H P j).getD (16 * x + y) 0 = o := ⟨_, rfl⟩
      have c1 : wr.cell? ⟨g, x * 16 + y, none⟩ = some (.int .i64 o) := by rw [Nat.mul_comm x 16]; exact (HBk.out.cell (16 * x + y)).trans (cellsX_at (by rw [portsX, sqTo_length]; omega) ho)
      have f1 := HBk.out.frozen (x * 16 + y)
      have hb2 := HBk.out.set_ (x * 16 + y) (.int .i64 (portP p))
      rw [cellsX_set, show (portsX W H P j).set (x * 16 + y) (portP p) = portsX W H P (j + 1) by rw [portsX, portsX, sqTo, HKK.out, hx, hy, hpp, Nat.mul_comm x 16]] at hb2
      have HB2x := Lib.hid hb2
      have HG2x := Lib.hid (gb_setCell HGr.out (p := ⟨g, x * 16 + y, none⟩) (.inr (by rw [TZ.out]; exact HGE.out)) (.int .i64 (portP p)))
      clear hb2 hx hy hpp ho hsz
      by_cases hp0 : p < 0
      · rw [portP_out (.inl hp0)] at HB2x HG2x
        go_wp2_with fail
        go_region
        go_wp2_with fail
        go_roundw
        case rel => exact ⟨j + 1, by go_num, by omega, HB2x.out.drewN 1, gb_drew HG2x.out⟩
        case measure => simp [intOf]; omega
      · by_cases hp4 : 4 < p
        · rw [portP_out (.inr hp4)] at HB2x HG2x
          go_wp2_with fail
          go_region
          go_wp2_with fail
          go_roundw
          case rel => exact ⟨j + 1, by go_num, by omega, HB2x.out.drewN 1, gb_drew HG2x.out⟩
          case measure => simp [intOf]; omega
        · rw [portP_in (by omega) (by omega)] at HB2x HG2x
          go_wp2_with fail
          go_region
          go_wp2_with fail
          go_roundw
          case rel => exact ⟨j + 1, by go_num, by omega, HB2x.out.drewN 1, gb_drew HG2x.out⟩
          case measure => simp [intOf]; omega
    · obtain rfl : j = n2 := by omega
      go_wp2_with (first | (refine wpList_loadX rfl _ rfl g rfl (portsX W H P j) HBk.out (sqTo_length _ _ _) ?_) | (refine wpList_storeX rfl _ _ rfl (w.heap.size + 1 + 1) zerosX (portsX W H P j) rfl rfl ((TS.out.grown HGr.out (by simp))) zerosX_length (sqTo_length _ _ _) ?_; intro w3 hb3 hg3; have HB3 := Lib.hid hb3; have HG3 := Lib.hid hg3; clear hb3 hg3))
      refine bodyPost_ret (v := .tuple #[.agg (cellsX (portsX W H P j)), .bool true]) ?_ rfl ⟨by rw [HPL.out], gb_new (gb_trans TG.out HGr.out) HG3.out (by omega)⟩
      rw [results_cell_tmp rfl]
      simp [asAddr, Result.andThen, load_square HB3.out (sqTo_length _ _ _)]
end Go.Proofs.Ytecaehkckamhkaa
end

section
namespace Go.Proofs.Ytecaehkckamhkaa
open Go.ChangeShapes Go.WideShapes Go.ChangeAt Go.RowKit
set_option linter.unusedVariables false

/-- A mesh and a table as blocks. -/
def twoI (W H : Int) (A A2 : Option Addr) (n cap n2 c2 : Nat) (w : World) : World := (w.alloc (.cells (meshC W H A n cap) 34)).alloc (.cells #[.slice A2 n2 c2] 36)
section
variable {W H : Int} {A A2 : Option Addr} {n cap n2 c2 : Nat} {w wr : World}
theorem twoI_size : (twoI W H A A2 n cap n2 c2 w).heap.size = w.heap.size + 2 := by unfold twoI; rw [alloc_size, alloc_size]
theorem twoI_gb : w.grownBy (twoI W H A A2 n cap n2 c2 w) none := gb_alloc (gb_alloc (gb_refl _ _) _) _
theorem twoI_mesh (h : (twoI W H A A2 n cap n2 c2 w).grownBy wr none) : Blk wr w.heap.size 34 (meshC W H A n cap) := ((Blk.new w 34 (meshC W H A n cap)).alloc _).grown h (by simp)
theorem twoI_table (h : (twoI W H A A2 n cap n2 c2 w).grownBy wr none) : Blk wr (w.heap.size + 1) 36 #[.slice A2 n2 c2] := by
  have := Blk.new (w.alloc (.cells (meshC W H A n cap) 34)) 36 #[.slice A2 n2 c2]
  rw [alloc_size] at this
  exact this.grown h (by simp)
theorem twoI_le (h : (twoI W H A A2 n cap n2 c2 w).grownBy wr none) : w.heap.size + 2 ≤ wr.heap.size := by have := h.size; rw [twoI_size] at this; exact this
theorem twoI_old (h : (twoI W H A A2 n cap n2 c2 w).grownBy wr none) : w.grownBy wr none := gb_trans twoI_gb h
theorem IntAt.twoI {B : Option Addr} {m : Nat} {M : List Int} (h : IntAt w w.heap.size B m M) : IntAt (twoI W H A A2 n cap n2 c2 w) (twoI W H A A2 n cap n2 c2 w).heap.size B m M :=
  (h.none (Nat.le_refl _) twoI_gb).more (by rw [twoI_size]; omega)
theorem IntAt.oldI {B : Option Addr} {m : Nat} {M : List Int} (h : IntAt w w.heap.size B m M) (hg : w.grownBy wr Option.none) : IntAt wr wr.heap.size B m M :=
  (h.none (Nat.le_refl _) hg).more hg.size
end
/-- The new block of a square. -/
theorem new_square (w : World) : Blk (w.alloc (.cells Try.zeroCells85 85)) w.heap.size 85 (cellsX zerosX) := by
  rw [← zero_cells]; exact Blk.new w _ _
theorem gb_square {a b c : World} (h : a.grownBy b none) (k : (b.alloc (.cells Try.zeroCells85 85)).grownBy c (some b.heap.size)) : a.grownBy c none :=
  gb_new (gb_alloc h _) k h.size
end Go.Proofs.Ytecaehkckamhkaa
end

section
namespace Go.Proofs.Ytecaehkckamhkaa
open Go.ChangeShapes Go.WideShapes Go.ChangeAt Go.RowKit
set_option linter.unusedVariables false

/-- An index, or -1. -/
def Idx (L : List Int) (c : Int) (w : World) (e : Ending) (w' : World) : Prop := ∃ k : Int, e = .returned (.int .i64 k) ∧ decide (0 ≤ k) = inG L c ∧ w = w'
theorem implIndex (A : Option Addr) (n cap B : Nat) (L : List Int) (c : Int) (w : World) (h : IntAt w B A n L) (hn : n ≤ 1000000000) :
    Calls Try.prog 107 #[.slice A n cap, .int .i64 c] w (Idx L c w) := by
  have hl := h.1
  have HI := Lib.hid h
  clear h
  go_enter Try.func107, Try.ntmps107
  go_wp2_with fail
  go_loop [8] (fun i => ∃ k : Nat, i = .int .i64 (k : Int) ∧ k ≤ n ∧ ∀ j, j < k → L.getD j 0 ≠ c) (fun i => n - (intOf i).toNat)
  case atStart => exact ⟨0, rfl, Nat.zero_le _, fun j h => by omega⟩
  case round =>
    obtain ⟨k, rfl, hk, hne⟩ := hrel
    have HNE := Lib.hid hne
    clear hne
    by_cases hlt : k < n
    · obtain ⟨b, off, rfl, hb, hc⟩ := HI.out.at k hlt
      obtain ⟨x, hx⟩ : ∃ x, L.getD k 0 = x := ⟨_, rfl⟩
      rw [hx] at hc
      have HX := Lib.hid hx
      clear hx
      by_cases hxc : x = c
      · subst hxc
        go_wp2_with fail
        go_ret
        exact ⟨_, rfl, by rw [inG_yes (by omega) HX.out]; exact decide_eq_true (by omega), rfl⟩
      · have hxb : (c == x) = false := by simpa using fun e => hxc e.symm
        have HXC := Lib.hid hxc
        clear hxc
        go_wp2_with fail
        go_round
        case rel => exact ⟨k + 1, by go_num, by omega, fun j hj => by
          rcases Nat.lt_succ_iff_lt_or_eq.1 hj with h1 | rfl
          · exact HNE.out j h1
          · rw [HX.out]; exact HXC.out⟩
        case measure => simp [intOf]; omega
    · obtain rfl : k = n := by omega
      go_wp2_with fail
      go_ret
      exact ⟨-1, rfl, by rw [inG_no (fun j hj => HNE.out j (by omega))]; rfl, rfl⟩

theorem implContains (A : Option Addr) (n cap B : Nat) (L : List Int) (c : Int) (b : Bool) (hb : inG L c = b) (w : World) (h : IntAt w B A n L) (hn : n ≤ 1000000000) :
    Calls Try.prog 81 #[.slice A n cap, .int .i64 c] w fun e w' => e = .returned (.bool b) ∧ w = w' := by
  have HC := Lib.hid (fun w h => implIndex A n cap B L c w h hn)
  have HI := Lib.hid h
  clear h
  go_enter Try.func81, Try.ntmps81
  go_wp2_with fail
  refine (HC.out _ HI.out).mono ?_
  rintro e w1 ⟨k, rfl, hk, rfl⟩
  rw [hb] at hk
  have HK := Lib.hid hk
  clear hk hb
  go_wp2_with fail
  go_ret
  exact ⟨ret_bool (by rw [← HK.out]), rfl⟩

theorem implConnects (W H : Int) (A : Option Addr) (n cap : Nat) (L : List Int) (c : Int) (b : Bool) (hcw : (Lit.int .i64 c).wf = true) (hb : hasChG W H L c = b) (w : World) (h : IntAt w w.heap.size A n L) (hn : n ≤ 1000000000) :
    Calls Try.prog 77 #[.agg #[.int .i64 W, .int .i64 H, .slice A n cap], .int .i64 c] w (RetB b w) := by
  obtain ⟨r, hr⟩ : ∃ r, endG W H c = r := ⟨_, rfl⟩
  have HE := Lib.hid (fun w => implEnd W H c r hcw hr w)
  have HI := Lib.hid h
  have hld := leads_end W H c
  rw [hr] at hld
  clear h hcw hr
  by_cases h0 : 0 ≤ r
  · obtain ⟨q, hq⟩ : ∃ q, inG L c = q := ⟨_, rfl⟩
    have hv : b = !q := by rw [← hb, hasChG, hld, decide_eq_true h0, hq]; rfl
    have HV := Lib.hid hv
    have hd : decide (r ≥ 0) = true := decide_eq_true h0
    have HF := Lib.hid (fun w h => implContains A n cap (w.heap.size) L c q hq w h hn)
    clear hv hld hb hq
    go_enter Try.func77, Try.ntmps77
    go_wp2_with fail
    refine (HE.out _).mono ?_
    rintro e w1 ⟨rfl, hg⟩
    have hbk := boxi_blk hg
    have a2 : w1.cell? ⟨w.heap.size, 2, none⟩ = some (.slice A n cap) := hbk.cell 2
    have hi := (HI.out.none (Nat.le_refl _) (boxi_gb hg)).more (B' := w1.heap.size) (boxi_gb hg).size
    have Hg := Lib.hid (boxi_gb hg)
    clear hg hbk
    go_wp2_with fail
    refine (HF.out _ hi).mono ?_
    rintro e w2 ⟨rfl, rfl⟩
    clear hi
    go_wp2_with fail
    go_ret
    exact ⟨ret_bool (by rw [HV.out]), Hg.out⟩
  · have hv : b = false := by rw [← hb, hasChG, hld, decide_eq_false h0]; rfl
    have hd : decide (r ≥ 0) = false := decide_eq_false h0
    have HV := Lib.hid hv
    clear hv hld hb
    go_enter Try.func77, Try.ntmps77
    go_wp2_with fail
    refine (HE.out _).mono ?_
    rintro e w1 ⟨rfl, hg⟩
    have Hg := Lib.hid (boxi_gb hg)
    clear hg
    go_wp2_with fail
    go_ret
    exact ⟨ret_bool (by rw [HV.out]), Hg.out⟩
end Go.Proofs.Ytecaehkckamhkaa
end

section
namespace Go.Proofs.Ytecaehkckamhkaa
open Go.ChangeShapes Go.WideShapes Go.ChangeAt Go.RowKit
set_option linter.unusedVariables false
set_option maxRecDepth 20000

theorem end_step {W H p : Int} {x : Nat} (h0 : 0 ≤ p) (h3 : p ≤ 3) : endG W H (4 * (x : Int) + p) = nextG W H x p := by
  unfold endG
  rw [Int.tdiv_eq_ediv_of_nonneg (by omega), Int.tmod_eq_emod_of_nonneg (by omega)]
  rw [show (4 * (x : Int) + p) / 4 = x by omega, show (4 * (x : Int) + p) % 4 = p by omega]

theorem ret_two {v : Value} {a b : Bool} (h : a = b) : Ending.returned (.tuple #[v, .bool a]) = Ending.returned (.tuple #[v, .bool b]) := by rw [h]
/-- A new list of numbers, and whether there is one. -/
def NewW (L : List Int) (b : Bool) (w : World) (e : Ending) (w' : World) : Prop :=
  ∃ v, e = .returned (.tuple #[v, .bool b]) ∧ w'.ownsRow w.heap.size 3 1 v L.length (intsV L) ∧ Below w.heap.size w w'
def lenW : Value → Nat | .slice _ n _ => n | _ => 0
/-- The walk has come to x. -/
def WalkTo (W H : Int) (A : Option Addr) (n cap : Nat) (L P : List Int) (z : Nat) (res : List Int) (rb : Bool) (w : World) (acc : List Int) (x : Nat) (v : Value) (wr : World) : Prop :=
  (x : Int) < countG W H ∧ acc.length ≤ cntN W H ∧ res = restG W H L P z acc (cntN W H + 1 - acc.length) x ∧ rb = restE W H L P z (cntN W H + 1 - acc.length) x ∧
  wr.ownsRow (w.heap.size + 1) 3 1 v acc.length (intsV acc) ∧ Below (w.heap.size + 1) (w.alloc (.cells (meshC W H A n cap) 34)) wr

theorem app_to {W H : Int} {A : Option Addr} {n cap : Nat} {w w4 w5 : World} {acc : List Int} {c : Int} {v v' : Value} {o : Obj} (hb : Below (w.heap.size + 1) (w.alloc (.cells (meshC W H A n cap) 34)) w4) (ho : w4.ownsRow (w.heap.size + 1) 3 1 v acc.length (intsV acc))
    (hown5 : w5.ownsRow (w.heap.size + 1) 3 1 v' (acc.length + 1) (intsV acc ++ [.int .i64 c])) (hg : (w4.alloc o).grownBy w5 v.ownBlock) :
    w5.ownsRow (w.heap.size + 1) 3 1 v' (acc ++ [c]).length (intsV (acc ++ [c])) ∧ Below (w.heap.size + 1) (w.alloc (.cells (meshC W H A n cap) 34)) w5 ∧ lenW v' = acc.length + 1 ∧
    w5.cell? ⟨w.heap.size, 0, none⟩ = some (.int .i64 W) ∧ w5.cell? ⟨w.heap.size, 1, none⟩ = some (.int .i64 H) := by
  have hsz : w.heap.size + 1 ≤ w4.heap.size := by have h1 := hb.size; simp at h1; exact h1
  have h1 : w5.ownsRow (w.heap.size + 1) 3 1 v' (acc ++ [c]).length (intsV (acc ++ [c])) := by rw [List.length_append, intsV_append]; exact hown5
  have h2 : Below (w.heap.size + 1) (w.alloc (.cells (meshC W H A n cap) 34)) w5 := (hb.alloc hsz _).grown hg (by simp; omega) (fun j hj => (ho.lt j hj).1)
  have tm := (Blk.new w 34 (meshC W H A n cap)).below h2 (by omega)
  refine ⟨h1, h2, ?_, tm.cell 0, tm.cell 1⟩
  obtain ⟨A', c', rfl, _⟩ := own_form h1
  simp [lenW]

set_option maxHeartbeats 1600000 in
theorem implWalk (W H : Int) (A : Option Addr) (n cap : Nat) (L P X : List Int) (g a z : Nat) (hL : WfL L) (w : World) (h : IntAt w w.heap.size A n L) (hn : n ≤ 1000000000)
    (hX : isPorts W H P X) (hb : Blk w g 85 (cellsX X)) (ha : (a : Int) < countG W H) (hz : (z : Int) < countG W H) :
    Calls Try.prog 72 #[.pointer (some ⟨g, 0, none⟩), .agg #[.int .i64 W, .int .i64 H, .slice A n cap], .int .i64 a, .int .i64 z] w (NewW (walkOf W H L P a z) (endsG W H L P a z) w) := by
  obtain ⟨i0, hi, hz0, hz1, hz2⟩ := info_parts info_int
  have HI := Lib.hid h
  have hg := hb.lt
  have HSQ := Lib.hid (fun (wr : World) (h : Below w.heap.size w wr) (x y : Nat) (hx : (x : Int) < countG W H) (hy : (y : Int) < countG W H) => show wr.cell? ⟨g, x * 16 + y, none⟩ = some (.int .i64 (portP (tabG (countG W H) P x y))) by
    have hc := countG_le W H
    rw [Nat.mul_comm x 16]
    exact ((hb.below h hg).cell (16 * x + y)).trans (cellsX_at (by rw [hX.1]; omega) (hX.2 x y hx hy)))
  obtain ⟨res, hres⟩ : ∃ res, walkOf W H L P a z = res := ⟨_, rfl⟩
  obtain ⟨rb, hrb⟩ : ∃ rb, endsG W H L P a z = rb := ⟨_, rfl⟩
  rw [hres, hrb]
  have hsz1 : (w.alloc (.cells (meshC W H A n cap) 34)).heap.size = w.heap.size + 1 := by simp
  have HX := Lib.hid (show WalkTo W H A n cap L P z res rb w [] a (.slice none 0 0) (w.alloc (.cells (meshC W H A n cap) 34)) from
    ⟨ha, Nat.zero_le _, by rw [← hres]; exact (rest_start a z).symm, by rw [← hrb]; rfl, World.ownsRow_nil _ _ _ _, Below.refl _ _⟩)
  have HS1 := Lib.hid hsz1
  have hki := cntN_int W H
  obtain ⟨k, hk⟩ : ∃ k, cntN W H = k := ⟨_, rfl⟩
  have hk1 := cntN_le W H
  rw [hk] at hki hk1
  have HN := Lib.hid (fun w => show Calls Try.prog 66 #[.agg #[.int .i64 W, .int .i64 H]] w (RetI (k : Int) none w) from hki ▸ implNodeCount W H w)
  have HKI := Lib.hid hki
  have HKK := Lib.hid hk
  have HZ := Lib.hid hz
  have ha16 : (a : Int) < 16 := by omega
  have hz16 : (z : Int) < 16 := by omega
  have hgne : ¬ g = w.heap.size := by omega
  have c0 := HSQ.out (w.alloc (.cells (meshC W H A n cap) 34)) (((Below.refl _ _)).alloc (Nat.le_refl _) _) a z ha hz
  obtain ⟨q, hq⟩ : ∃ q, portP (tabG (countG W H) P a z) = q := ⟨_, rfl⟩
  rw [hq] at c0
  have HQ := Lib.hid hq
  clear h hX hb hres hrb hsz1 hki hk ha hz hq
  unfold meshC at c0
  go_enter Try.func72, Try.ntmps72
  go_wp2_with fail
  clear c0
  go_loopw [10, 11, 12] (fun v s11 s12 wr => ∃ (acc : List Int) (x : Nat), s11 = .int .i64 (x : Int) ∧ s12 = .int .i64 (portP (tabG (countG W H) P x z)) ∧ WalkTo W H A n cap L P z res rb w acc x v wr) (fun v _ _ _ => 17 - lenW v)
  case atStart => exact ⟨[], a, rfl, by rw [HQ.out], HX.out⟩
  case round =>
    obtain ⟨acc, x, rfl, rfl, hx, hl, hre, hrb, hown, hbel⟩ := hrel
    rw [HKK.out] at hl hre hrb
    obtain ⟨Aq, capq, rfl, hAq⟩ := own_form hown
    have HOwn := Lib.hid hown
    have HBel := Lib.hid hbel
    have HBo := Lib.hid (below_box hbel)
    obtain ⟨f, hf⟩ : ∃ f, k + 1 - acc.length = f + 1 := ⟨k - acc.length, by omega⟩
    rw [hf] at hre hrb
    have HF := Lib.hid hf
    have HRE := Lib.hid hre
    have HRB := Lib.hid hrb
    have HXC := Lib.hid hx
    have hx16 : (x : Int) < 16 := by have := HKI.out; omega
    obtain ⟨t, ht⟩ : ∃ t, tabG (countG W H) P x z = t := ⟨_, rfl⟩
    rw [ht]
    have HT := Lib.hid ht
    have tm := (Blk.new w 34 (meshC W H A n cap)).below hbel (by omega)
    have a0 : wr.cell? ⟨w.heap.size, 0, none⟩ = some (.int .i64 W) := tm.cell 0
    have a1 : wr.cell? ⟨w.heap.size, 1, none⟩ = some (.int .i64 H) := tm.cell 1
    have a2 : wr.cell? ⟨w.heap.size, 2, none⟩ = some (.slice A n cap) := tm.cell 2
    have hsw : w.heap.size + 1 ≤ wr.heap.size := by have h1 := hbel.size; rw [HS1.out] at h1; exact h1
    clear hown hbel hre hrb hx hf ht tm hAq
    by_cases h4 : t = 4
    · subst h4
      have hp4 : portP 4 = 4 := rfl
      rw [hp4]
      clear a0 a1 a2
      by_cases hxz : x = z
      · subst hxz
        have hxb : ((x : Int) != (x : Int)) = false := by simp
        have HF2 := Lib.hid (HRE.out.trans (rest_end HT.out rfl))
        have HF3 := Lib.hid (HRB.out.trans (restE_end HT.out rfl))
        go_wp2_with fail
        go_ret2
        refine ⟨_, ret_two HF3.out.symm, ?_, HBo.out⟩
        rw [HF2.out]
        exact own_less HOwn.out (by omega)
      · have hne : (x : Int) ≠ (z : Int) := fun e => hxz (by exact_mod_cast e)
        have hxb : ((x : Int) != (z : Int)) = true := bne_iff_ne.2 hne
        have HF2 := Lib.hid (HRE.out.trans (rest_lost HT.out hne))
        have HF3 := Lib.hid (HRB.out.trans (restE_lost HT.out hne))
        clear hxz hne
        go_wp2_with fail
        go_ret2
        refine ⟨_, ret_two HF3.out.symm, ?_, HBo.out⟩
        rw [HF2.out]
        exact World.ownsRow_nil _ _ _ _
    · have H4 := Lib.hid h4
      have h4b : (portP t != 4) = true := bne_iff_ne.2 fun e => h4 (portP_four.1 e)
      obtain ⟨q, hq⟩ : ∃ q, portP t = q := ⟨_, rfl⟩
      have hqb := portP_bounds t
      rw [hq] at h4b hqb ⊢
      by_cases h0 : q < 0
      · have hst : stepsG W H L x t = false := by
          have hs : ¬ (0 ≤ t ∧ t ≤ 3) := fun e => by rw [portP_in e.1 (by omega)] at hq; omega
          simp only [stepsG, Bool.and_eq_false_iff, decide_eq_false_iff_not]; exact .inl hs
        have HF2 := Lib.hid (HRE.out.trans (rest_bad HT.out H4.out hst))
        have HF3 := Lib.hid (HRB.out.trans (restE_bad HT.out H4.out hst))
        have e1 : wrap64 (4 * (x : Int)) = 4 * (x : Int) := IntWalk.wrap64_in _ (by omega)
        have e2 : wrap64 (4 * (x : Int) + q) = 4 * (x : Int) + q := IntWalk.wrap64_in _ (by omega)
        clear hst hq h4 a0 a1 a2
        go_wp2_with fail
        go_ret2
        refine ⟨_, ret_two HF3.out.symm, ?_, HBo.out⟩
        rw [HF2.out]
        exact World.ownsRow_nil _ _ _ _
      · have hqt : t = q := portP_in_of hq (by omega)
        subst hqt
        have ht3 : t ≤ 3 := by omega
        have e1 : wrap64 (4 * (x : Int)) = 4 * (x : Int) := IntWalk.wrap64_in _ (by omega)
        have e2 : wrap64 (4 * (x : Int) + t) = 4 * (x : Int) + t := IntWalk.wrap64_in _ (by omega)
        have hcw : (Lit.int .i64 (4 * (x : Int) + t)).wf = true := WalkArith.wf_i64 (by omega)
        have hi2 := (HI.out.below HBo.out).more (B' := wr.heap.size) (by omega)
        have TM := Lib.hid ((Blk.new w 34 (meshC W H A n cap)).below HBel.out (by omega))
        cases hc : hasChG W H L (4 * (x : Int) + t) with
        | false =>
          have hst : stepsG W H L x t = false := by simp [stepsG, hc]
          have HF2 := Lib.hid (HRE.out.trans (rest_bad HT.out H4.out hst))
          have HF3 := Lib.hid (HRB.out.trans (restE_bad HT.out H4.out hst))
          have HC := Lib.hid (fun w h => implConnects W H A n cap L (4 * (x : Int) + t) false hcw hc w h hn)
          clear hst hq h4 hc hcw
          go_wp2_with fail
          refine (HC.out _ hi2).mono ?_
          rintro e w3 ⟨rfl, hg3⟩
          have G3 := Lib.hid (below_gb HBo.out (Nat.le_refl _) hg3)
          clear hg3 hi2 a0 a1 a2
          go_wp2_with fail
          go_ret2
          refine ⟨_, ret_two HF3.out.symm, ?_, G3.out⟩
          rw [HF2.out]
          exact World.ownsRow_nil _ _ _ _
        | true =>
          have hst : stepsG W H L x t = true := by simp only [stepsG, hc, Bool.and_true, decide_eq_true_eq]; omega
          have HF2 := Lib.hid (HRE.out.trans (rest_go HT.out H4.out hst))
          have HF3 := Lib.hid (HRB.out.trans (restE_go HT.out H4.out hst))
          have HC := Lib.hid (fun w h => implConnects W H A n cap L (4 * (x : Int) + t) true hcw hc w h hn)
          obtain ⟨y, hy⟩ : ∃ y : Nat, nextG W H x t = (y : Int) := ⟨(nextG W H x t).toNat, (Int.toNat_of_nonneg (hasG_iff.1 (step_has hst)).1).symm⟩
          have hyk := (hasG_iff.1 (step_has hst)).2
          rw [hy] at hyk
          have HE := Lib.hid (fun w => implEnd W H (4 * (x : Int) + t) y hcw (by rw [end_step (by omega) ht3, hy]) w)
          have HY := Lib.hid hy
          have HYK := Lib.hid hyk
          clear hst hq h4 hc hcw hy hyk
          go_wp2_with fail
          refine (HC.out _ hi2).mono ?_
          rintro e w3 ⟨rfl, hg3⟩
          have G3 := Lib.hid hg3
          have tm3 := TM.out.grown hg3 (by simp)
          have d0 : w3.cell? ⟨w.heap.size, 0, none⟩ = some (.int .i64 W) := tm3.cell 0
          have d1 : w3.cell? ⟨w.heap.size, 1, none⟩ = some (.int .i64 H) := tm3.cell 1
          clear hg3 hi2 a0 a1 a2 tm3
          go_wp2_with fail
          refine (HN.out _).mono ?_
          rintro e w4 ⟨rfl, hg4⟩
          have G4 := Lib.hid (gb_trans G3.out hg4)
          have TM4 := Lib.hid (TM.out.grown G4.out (by simp))
          clear hg4 d0 d1
          by_cases hlk : acc.length = k
          · have hf0 : f = 0 := by have := HF.out; omega
            have hlb : ((acc.length : Int) == (k : Int)) = true := beq_iff_eq.2 (by omega)
            have G5 := Lib.hid (below_gb HBo.out (Nat.le_refl _) G4.out)
            have HG2 := Lib.hid (show res = [] by rw [HF2.out, hf0]; rfl)
            have HG3 := Lib.hid (show rb = false by rw [HF3.out, hf0]; rfl)
            clear hlk hf0
            go_wp2_with fail
            go_ret2
            refine ⟨_, ret_two HG3.out.symm, ?_, G5.out⟩
            rw [HG2.out]
            exact World.ownsRow_nil _ _ _ _
          · have hlb : ((acc.length : Int) == (k : Int)) = false := beq_false_of_ne (by omega)
            have hown1 := own_none HOwn.out G4.out
            have hsz4 : w.heap.size + 1 ≤ w4.heap.size := Nat.le_trans hsw G4.out.size
            have b3' := Lib.hid (show ∀ u ∈ [Value.int .i64 (4 * (x : Int) + t)], u.oneCell' = true by simp [Value.oneCell'])
            have b4' := Lib.hid (show acc.length + 1 ≤ maxLen by unfold maxLen; omega)
            have HLK := Lib.hid (show acc.length < k by omega)
            have HB4 := Lib.hid (below_gb HBel.out (by rw [HS1.out]; exact Nat.le_refl _) G4.out)
            clear hlk
            go_wp2_with (at_builtin; refine wpList_append_own _ rfl _ _ 24 rfl (w.heap.size + 1) 3 i0 (.int .i64 0) 1 8 Try.underlying24 hi hz0 hz1 hz2 rfl (by decide) _ acc.length _ rfl (hown1.alloc _) ⟨w4.heap.size, 0, none⟩ 1 1 [.int .i64 (4 * (x : Int) + t)] rfl rfl (World.news_of_block (cs := #[.int .i64 (4 * (x : Int) + t)]) (t := 3) (fr := (0, 0)) (heap_alloc_new w4 _)) b3'.out b4'.out (by omega) (by simp; omega) ?_; intro v' w5 hown5 hgrow5 _; obtain ⟨ho5, hb5, hlv, a0, a1⟩ := app_to HB4.out hown1 hown5 hgrow5; have HO5 := Lib.hid ho5; have HB5 := Lib.hid hb5; have HLV := Lib.hid hlv; clear ho5 hb5 hlv hown5 hgrow5 hown1)
            refine (HE.out _).mono ?_
            rintro e w6 ⟨rfl, hg6⟩
            have G6 := Lib.hid hg6
            have HB6 := Lib.hid (below_gb HB5.out (by rw [HS1.out]; exact Nat.le_refl _) hg6)
            have c6 := HSQ.out w6 (below_box HB6.out) y z HYK.out HZ.out
            have y16 : (y : Int) < 16 := by have := HYK.out; have := HKI.out; omega
            obtain ⟨q6, hq6⟩ : ∃ q, portP (tabG (countG W H) P y z) = q := ⟨_, rfl⟩
            rw [hq6] at c6
            have HQ6 := Lib.hid hq6
            clear hg6 a0 a1 hq6
            go_wp2_with fail
            go_roundw
            case rel => exact ⟨acc ++ [4 * (x : Int) + t], y, rfl, by rw [HQ6.out], HYK.out, by rw [HKK.out, List.length_append]; exact HLK.out, by rw [HF2.out, HY.out, HKK.out]; congr 1; have := HF.out; simp; omega, by rw [HF3.out, HY.out, HKK.out]; congr 1; have := HF.out; simp; omega, own_none HO5.out G6.out, HB6.out⟩
            case measure => rw [HLV.out]; simp [lenW]; omega
end Go.Proofs.Ytecaehkckamhkaa
end

section
namespace Go.Proofs.Ytecaehkckamhkaa
open Go.ChangeShapes Go.WideShapes Go.ChangeAt Go.RowKit
set_option linter.unusedVariables false

/-- The mesh's box lies first; the list lies behind it. -/
def OneAt (W H : Int) (A : Option Addr) (n cap : Nat) (w : World) (acc : List Int) (v : Value) (wr : World) : Prop :=
  wr.ownsRow (w.heap.size + 1) 3 1 v acc.length (intsV acc) ∧ Below (w.heap.size + 1) (w.alloc (.cells (meshC W H A n cap) 34)) wr
section
variable {W H : Int} {A : Option Addr} {n cap : Nat} {w wr w' : World} {acc : List Int} {v : Value}
theorem one_size : (w.alloc (.cells (meshC W H A n cap) 34)).heap.size = w.heap.size + 1 := by simp
theorem OneAt.le (h : OneAt W H A n cap w acc v wr) : w.heap.size + 1 ≤ wr.heap.size := by have h1 := h.2.size; rw [one_size] at h1; exact h1
theorem OneAt.gb (h : OneAt W H A n cap w acc v wr) (hg : wr.grownBy w' none) : OneAt W H A n cap w acc v w' := ⟨own_none h.1 hg, below_gb h.2 (by rw [one_size]; exact Nat.le_refl _) hg⟩
theorem OneAt.old (h : OneAt W H A n cap w acc v wr) : Below w.heap.size w wr := below_box h.2
theorem OneAt.mesh (h : OneAt W H A n cap w acc v wr) : Blk wr w.heap.size 34 (meshC W H A n cap) := (Blk.new w 34 (meshC W H A n cap)).below h.2 (by omega)
theorem OneAt.cells (h : OneAt W H A n cap w acc v wr) : wr.cell? ⟨w.heap.size, 0, none⟩ = some (.int .i64 W) ∧ wr.cell? ⟨w.heap.size, 1, none⟩ = some (.int .i64 H) ∧ wr.cell? ⟨w.heap.size, 2, none⟩ = some (.slice A n cap) :=
  ⟨h.mesh.cell 0, h.mesh.cell 1, h.mesh.cell 2⟩
theorem OneAt.row (h : OneAt W H A n cap w acc v wr) {B : Option Addr} {m : Nat} {X : List Int} (hi : IntAt w w.heap.size B m X) : IntAt wr wr.heap.size B m X := (hi.below h.old).more h.old.size
theorem OneAt.app {x : Int} {v' : Value} {o : Obj} (h : OneAt W H A n cap w acc v wr) (ho : w'.ownsRow (w.heap.size + 1) 3 1 v' (acc.length + 1) (intsV acc ++ [.int .i64 x])) (hg : (wr.alloc o).grownBy w' v.ownBlock) :
    OneAt W H A n cap w (acc ++ [x]) v' w' ∧ ∃ A' c', v' = .slice A' (acc.length + 1) c' := by
  have h1 : w'.ownsRow (w.heap.size + 1) 3 1 v' (acc ++ [x]).length (intsV (acc ++ [x])) := by rw [List.length_append, intsV_append]; exact ho
  refine ⟨⟨h1, (h.2.alloc h.le _).grown hg (by have := h.le; simp; omega) (fun j hj => (h.1.lt j hj).1)⟩, ?_⟩
  obtain ⟨A', c', rfl, _⟩ := own_form ho
  exact ⟨A', c', rfl⟩
theorem OneAt.start (hg : (w.alloc (.cells (meshC W H A n cap) 34)).grownBy wr none) : OneAt W H A n cap w [] (.slice none 0 0) wr := ⟨World.ownsRow_nil _ _ _ _, gb_below_none hg (by rw [one_size]; exact Nat.le_refl _)⟩
/-- A list of one number. -/
theorem OneAt.made (hg : (w.alloc (.cells (meshC W H A n cap) 34)).grownBy wr none) (x : Int) :
    OneAt W H A n cap w [x] (.slice (some ⟨wr.heap.size, 0, none⟩) 1 1) (wr.alloc (.cells #[.int .i64 x] 3)) := by
  have hb := gb_below_none hg (B := w.heap.size + 1) (by rw [one_size]; exact Nat.le_refl _)
  have hs := hb.size
  rw [one_size] at hs
  exact ⟨World.ownsRow_lit (base := w.heap.size + 1) (e := 3) (size := 1) wr #[.int .i64 x] 1 hs (by decide) rfl, hb.alloc hs _⟩
theorem OneAt.made0 (hg : (w.alloc (.cells (meshC W H A n cap) 34)).grownBy wr none) :
    OneAt W H A n cap w [] (.slice (some ⟨wr.heap.size, 0, none⟩) 0 0) (wr.alloc (.cells #[] 3)) := by
  have hb := gb_below_none hg (B := w.heap.size + 1) (by rw [one_size]; exact Nat.le_refl _)
  have hs := hb.size
  rw [one_size] at hs
  exact ⟨World.ownsRow_made (base := w.heap.size + 1) (e := 3) (size := 1) wr #[] 0 hs (by decide) rfl, hb.alloc hs _⟩
theorem OneAt.new (h : OneAt W H A n cap w acc v wr) {L : List Int} (hL : acc = L) : wr.ownsRow w.heap.size 3 1 v L.length (intsV L) ∧ Below w.heap.size w wr := by
  subst hL; exact ⟨own_less h.1 (by omega), h.old⟩
end
/-- A new list of numbers, and whether there is one. -/
def NewR (L : List Int) (b : Bool) (w : World) (e : Ending) (w' : World) : Prop :=
  ∃ v, e = .returned (.tuple #[v, .bool b]) ∧ w'.ownsRow w.heap.size 3 1 v L.length (intsV L) ∧ Below w.heap.size w w'
theorem ret_pair {v : Value} {a b : Bool} (h : a = b) : Ending.returned (.tuple #[v, .bool a]) = Ending.returned (.tuple #[v, .bool b]) := by rw [h]
theorem own_nil {L : List Int} (h : L = []) (w : World) (base : Nat) : w.ownsRow base 3 1 (.slice none 0 0) L.length (intsV L) := by subst h; exact World.ownsRow_nil _ _ _ _
/-- An empty list of the function's own. -/
theorem own_empty {L : List Int} (h : L = []) {w wr : World} (hb : Below w.heap.size w wr) : (wr.alloc (.cells #[] 3)).ownsRow w.heap.size 3 1 (.slice (some ⟨wr.heap.size, 0, none⟩) 0 0) L.length (intsV L) ∧ Below w.heap.size w (wr.alloc (.cells #[] 3)) := by
  subst h
  exact ⟨World.ownsRow_made (base := w.heap.size) (e := 3) (size := 1) wr #[] 0 hb.size (by decide) rfl, hb.alloc hb.size _⟩
theorem own_cap {w : World} {base : Nat} {e : TypeId} {size n cap : Nat} {A : Option Addr} {xs : List Value} (h : w.ownsRow base e size (.slice A n cap) n xs) : n ≤ cap ∧ cap ≤ maxLen := by
  rcases h.2 with ⟨h1, h2⟩ | ⟨g, cap', cur, h1, _, _, h2, h3, _⟩
  · simp only [Value.slice.injEq] at h1
    obtain ⟨_, _, rfl⟩ := h1
    exact ⟨by omega, Nat.zero_le _⟩
  · simp only [Value.slice.injEq] at h1
    obtain ⟨_, _, rfl⟩ := h1
    exact ⟨h2, h3⟩
/-- The first k numbers of a slice. -/
theorem IntAt.take {w : World} {B n : Nat} {A : Option Addr} {L : List Int} (h : IntAt w B A n L) {k : Nat} (hk : k ≤ n) : IntAt w B A k (L.take k) := ⟨by have := h.1; simp; omega, fun h0 => by
  obtain ⟨b, off, hA, hb, hc⟩ := h.2 (by omega)
  refine ⟨b, off, hA, hb, fun j x hx => hc j x ?_⟩
  rcases Nat.lt_or_ge j k with h1 | h1
  · rwa [List.getElem?_take_of_lt h1] at hx
  · rw [List.getElem?_eq_none (by simp; omega)] at hx; cases hx⟩
end Go.Proofs.Ytecaehkckamhkaa
end

section
namespace Go.Proofs.Ytecaehkckamhkaa
open Go.ChangeShapes Go.WideShapes Go.ChangeAt Go.RowKit
set_option linter.unusedVariables false
set_option maxRecDepth 20000

theorem info_lists : (Try.prog.info? 24).map (fun i => (i.zero, i.size, i.bytes)) = some (some (.slice none 0 0), 1, 24) := by kernel_rfl
/-- A row of lists: element k is a row of the caller's own that holds the numbers of F k. -/
def ListsAt (w : World) (base : Nat) (v : Value) (N : Nat) (F : Nat → List Int) : Prop :=
  ∃ vs : List Value, w.ownsRow base 24 1 v N vs ∧ ∀ k, k < N → ∃ A c, vs[k]? = some (.slice A (F k).length c) ∧ w.ownsRow base 3 1 (.slice A (F k).length c) (F k).length (intsV (F k))
section
variable {w w' : World} {base : Nat} {v v' : Value} {N : Nat} {F : Nat → List Int}
theorem ListsAt.nil (w : World) (base : Nat) (F : Nat → List Int) : ListsAt w base (.slice none 0 0) 0 F := ⟨[], World.ownsRow_nil _ _ _ _, fun k h => by omega⟩
theorem ListsAt.gb (h : ListsAt w base v N F) (hg : w.grownBy w' none) : ListsAt w' base v N F := by
  obtain ⟨vs, ho, hi⟩ := h
  refine ⟨vs, own_none ho hg, fun k hk => ?_⟩
  obtain ⟨A, c, h1, h2⟩ := hi k hk
  exact ⟨A, c, h1, own_none h2 hg⟩
theorem ListsAt.below (h : ListsAt w base v N F) (hb : Below w.heap.size w w') : ListsAt w' base v N F := h.gb (gb_of_below hb none)
theorem ListsAt.less {b : Nat} (h : ListsAt w base v N F) (hb : b ≤ base) : ListsAt w b v N F := by
  obtain ⟨vs, ho, hi⟩ := h
  refine ⟨vs, own_less ho hb, fun k hk => ?_⟩
  obtain ⟨A, c, h1, h2⟩ := hi k hk
  exact ⟨A, c, h1, own_less h2 hb⟩
theorem ListsAt.form (h : ListsAt w base v N F) : ∃ A c, v = .slice A N c ∧ (0 < N → ∃ g, A = some ⟨g, 0, none⟩) := by obtain ⟨vs, ho, _⟩ := h; exact own_form ho
/-- A row of numbers does not lie where the row of lists lies. -/
theorem own_two {A : Option Addr} {n c k : Nat} {L : List Int} {vs : List Value} (h : w.ownsRow base 24 1 v N vs) (h2 : w.ownsRow base 3 1 (.slice A n c) k (intsV L)) : (Value.slice A n c).ownBlock = none ∨ (Value.slice A n c).ownBlock ≠ v.ownBlock := by
  rcases h2.2 with ⟨h3, _⟩ | ⟨g2, c2, cur2, h3, _, hg2, _⟩
  · rw [h3]; exact .inl rfl
  · right
    rw [h3]
    rcases h.2 with ⟨h4, _⟩ | ⟨g, c4, cur, h4, _, hg, _⟩
    · rw [h4]; intro e; cases e
    · rw [h4]
      intro e
      have e2 : g2 = g := Option.some.inj e
      subst e2
      rw [hg] at hg2
      have e3 := Option.some.inj hg2
      injection e3 with _ e4 _
      exact absurd e4 (by decide)
/-- One list more. -/
theorem ListsAt.app {A : Option Addr} {c : Nat} {o : Obj} {vs : List Value} {w4 : World} (ho : w.ownsRow base 24 1 v N vs) (hi : ∀ k, k < N → ∃ A c, vs[k]? = some (.slice A (F k).length c) ∧ w.ownsRow base 3 1 (.slice A (F k).length c) (F k).length (intsV (F k)))
    (h2 : w.ownsRow base 3 1 (.slice A (F N).length c) (F N).length (intsV (F N))) (ho4 : w4.ownsRow base 24 1 v' (N + 1) (vs ++ [.slice A (F N).length c])) (hg : (w.alloc o).grownBy w4 v.ownBlock) : ListsAt w4 base v' (N + 1) F := by
  have hvs : vs.length = N := by have := ho.1; omega
  have key : ∀ {A : Option Addr} {n c k : Nat} {L : List Int}, w.ownsRow base 3 1 (.slice A n c) k (intsV L) → w4.ownsRow base 3 1 (.slice A n c) k (intsV L) := fun h => (h.alloc o).kept hg (own_two ho h)
  refine ⟨_, ho4, fun k hk => ?_⟩
  rcases Nat.lt_succ_iff_lt_or_eq.1 hk with h | rfl
  · obtain ⟨A, c, h3, h4⟩ := hi k h
    exact ⟨A, c, by rw [List.getElem?_append_left (by omega)]; exact h3, key h4⟩
  · exact ⟨A, c, by rw [List.getElem?_append_right (by omega), hvs, Nat.sub_self]; rfl, key h2⟩
/-- One list of a row. -/
theorem ListsAt.at {A : Option Addr} {n c : Nat} (h : ListsAt w base (.slice A n c) N F) (k : Nat) (hk : k < N) : ∃ g B d, A = some ⟨g, 0, none⟩ ∧ w.cell? ⟨g, k, none⟩ = some (.slice B (F k).length d) ∧ w.ownsRow base 3 1 (.slice B (F k).length d) (F k).length (intsV (F k)) := by
  obtain ⟨vs, ho, hi⟩ := h
  obtain ⟨B, d, h1, h2⟩ := hi k hk
  obtain ⟨A', c', e, hA⟩ := own_form ho
  obtain ⟨g, hg⟩ := hA (by omega)
  simp only [Value.slice.injEq] at e
  obtain ⟨rfl, rfl, rfl⟩ := e
  subst hg
  exact ⟨g, B, d, rfl, by rw [ho.cellAt k (by omega)]; exact h1, h2⟩
theorem one_slice (A : Option Addr) (n c : Nat) : ∀ u ∈ [Value.slice A n c], u.oneCell' = true := by simp [Value.oneCell']
end
/-- A new row of lists. -/
def NewL (N : Nat) (F : Nat → List Int) (w : World) (e : Ending) (w' : World) : Prop :=
  ∃ v, e = .returned v ∧ ListsAt w' w.heap.size v N F ∧ Below w.heap.size w w'
/-- How many walks there are. -/
def wlkN (W H : Int) (L P : List Int) : Nat := if tableG W H L P then sqG W H else 0
theorem wlkN_no {W H : Int} {L P : List Int} (h : tableG W H L P = false) : wlkN W H L P = 0 := if_neg (by simp [h])
theorem wlkN_yes {W H : Int} {L P : List Int} (h : tableG W H L P = true) : wlkN W H L P = sqG W H := if_pos h
/-- The square of ports in its block, and the row of walks so far. -/
def WksAt (W H : Int) (A A2 : Option Addr) (n cap n2 c2 : Nat) (L P : List Int) (w : World) (g1 j : Nat) (v : Value) (wr : World) : Prop :=
  Blk wr g1 85 (cellsX (portsX W H P P.length)) ∧ ListsAt wr (w.heap.size + 2) v j (pairW W H L P) ∧ w.heap.size + 2 ≤ g1 ∧ Below (w.heap.size + 2) (twoI W H A A2 n cap n2 c2 w) wr
section
variable {W H : Int} {A A2 : Option Addr} {n cap n2 c2 : Nat} {L P : List Int} {w wr w' : World} {g1 j : Nat} {v : Value}
theorem WksAt.gb (h : WksAt W H A A2 n cap n2 c2 L P w g1 j v wr) (hg : wr.grownBy w' none) : WksAt W H A A2 n cap n2 c2 L P w g1 j v w' :=
  ⟨h.1.grown hg (by simp), h.2.1.gb hg, h.2.2.1, below_gb h.2.2.2 (by rw [twoI_size]; exact Nat.le_refl _) hg⟩
theorem twoI_bm (h : Below (w.heap.size + 2) (twoI W H A A2 n cap n2 c2 w) wr) : Blk wr w.heap.size 34 (meshC W H A n cap) :=
  ((Blk.new w 34 (meshC W H A n cap)).alloc _).below h (by omega)
theorem twoI_bo (h : Below (w.heap.size + 2) (twoI W H A A2 n cap n2 c2 w) wr) : Below w.heap.size w wr :=
  (gb_below_none twoI_gb (Nat.le_refl _)).trans (h.mono (by omega))
theorem twoI_bs (h : Below (w.heap.size + 2) (twoI W H A A2 n cap n2 c2 w) wr) : w.heap.size + 2 ≤ wr.heap.size := by have := h.size; rw [twoI_size] at this; exact this
theorem WksAt.cells (h : WksAt W H A A2 n cap n2 c2 L P w g1 j v wr) : wr.cell? ⟨w.heap.size, 0, none⟩ = some (.int .i64 W) ∧ wr.cell? ⟨w.heap.size, 1, none⟩ = some (.int .i64 H) ∧ wr.cell? ⟨w.heap.size, 2, none⟩ = some (.slice A n cap) :=
  ⟨(twoI_bm h.2.2.2).cell 0, (twoI_bm h.2.2.2).cell 1, (twoI_bm h.2.2.2).cell 2⟩
end
set_option maxHeartbeats 1600000 in
theorem implWalksOf (W H : Int) (A A2 : Option Addr) (n cap n2 c2 : Nat) (L P : List Int) (hL : WfL L) (w : World) (h : IntAt w w.heap.size A n L) (h2 : IntAt w w.heap.size A2 n2 P) (hn : n ≤ 1000000000) (hn2 : n2 ≤ 1000000000) :
    Calls Try.prog 63 #[.agg #[.int .i64 W, .int .i64 H, .slice A n cap], .agg #[.slice A2 n2 c2]] w (NewL (wlkN W H L P) (pairW W H L P) w) := by
  obtain ⟨i0, hi, hz0, hz1, hz2⟩ := info_parts info_lists
  have HI := Lib.hid h
  have HT1 := Lib.hid (h.twoI (W := W) (H := H) (A := A) (A2 := A2) (n := n) (cap := cap) (n2 := n2) (c2 := c2))
  have HT2 := Lib.hid (h2.twoI (W := W) (H := H) (A := A) (A2 := A2) (n := n) (cap := cap) (n2 := n2) (c2 := c2))
  have TZ := Lib.hid (twoI_size (W := W) (H := H) (A := A) (A2 := A2) (n := n) (cap := cap) (n2 := n2) (c2 := c2) (w := w))
  clear h h2
  obtain ⟨N, hN⟩ : ∃ N, wlkN W H L P = N := ⟨_, rfl⟩
  rw [hN]
  have HNN := Lib.hid hN
  clear hN
  cases hs : sizedG W H L P with
  | false =>
    have HPO := Lib.hid (fun w h h2 => implPortsNo W H A A2 n cap n2 c2 L P hL w h h2 hn hn2 hs)
    have HR := Lib.hid (HNN.out.symm.trans (wlkN_no (tableG_unsized hs)))
    clear hs hL
    go_enter Try.func63, Try.ntmps63
    go_wp2_with fail
    refine (HPO.out _ HT1.out HT2.out).mono ?_
    rintro e w1 ⟨rfl, hg⟩
    have HG1 := Lib.hid (show (twoI W H A A2 n cap n2 c2 w).grownBy w1 none from hg)
    clear hg
    go_wp2_with (refine wpList_storeX rfl (.tmp 5) _ rfl w1.heap.size zerosX zerosX rfl rfl (new_square w1) zerosX_length zerosX_length ?_; intro w2 hb2 hg2; have HG2 := Lib.hid (gb_square HG1.out hg2); clear hb2 hg2)
    go_ret
    exact ⟨_, rfl, by rw [HR.out]; exact ListsAt.nil _ _ _, gb_below_none (twoI_old HG2.out) (Nat.le_refl _)⟩
  | true =>
    have HPO := Lib.hid (fun w h h2 => implPortsYes W H A A2 n cap n2 c2 L P hL w h h2 hn hn2 hs)
    have HPX := Lib.hid (portsX_is hs)
    have hki := cntN_int W H
    obtain ⟨k, hk⟩ : ∃ k, cntN W H = k := ⟨_, rfl⟩
    have hk1 := cntN_le W H
    rw [hk] at hki hk1
    have HN := Lib.hid (fun w => show Calls Try.prog 66 #[.agg #[.int .i64 W, .int .i64 H]] w (RetI (k : Int) none w) from hki ▸ implNodeCount W H w)
    have HW := Lib.hid (fun (x y : Nat) (hx : x < k) (hy : y < k) w g h hb => implWalk W H A n cap L P (portsX W H P P.length) g x y hL w h hn HPX.out hb (by omega) (by omega))
    have HAT := Lib.hid (fun (x y : Nat) (hy : y < k) => pairW_at (L := L) (P := P) hk (x := x) hy)
    have HS := Lib.hid hs
    have HKI := Lib.hid hki
    have HKK := Lib.hid hk
    have HSQ := Lib.hid (sqG_cnt hk)
    clear hs hL hki hk
    go_enter Try.func63, Try.ntmps63
    go_wp2_with fail
    refine (HPO.out _ HT1.out HT2.out).mono ?_
    rintro e w1 ⟨rfl, hg⟩
    have HG1 := Lib.hid (show (twoI W H A A2 n cap n2 c2 w).grownBy w1 none from hg)
    clear hg
    go_wp2_with (refine wpList_storeX rfl (.tmp 5) _ rfl w1.heap.size zerosX (portsX W H P P.length) rfl rfl (new_square w1) zerosX_length (sqTo_length _ _ _) ?_; intro w2 hb2 hg2; have HX2 := Lib.hid (show WksAt W H A A2 n cap n2 c2 L P w w1.heap.size 0 (.slice none 0 0) w2 from ⟨hb2, ListsAt.nil _ _ _, twoI_le HG1.out, gb_below_none (gb_square HG1.out hg2) (by rw [TZ.out]; exact Nat.le_refl _)⟩); obtain ⟨a0, a1, _⟩ := HX2.out.cells; clear hb2 hg2)
    refine (HN.out _).mono ?_
    rintro e w3 ⟨rfl, hg3⟩
    have HX3 := Lib.hid (HX2.out.gb hg3)
    obtain ⟨g1, hg1⟩ : ∃ g, w1.heap.size = g := ⟨_, rfl⟩
    rw [hg1] at HX3
    clear a0 a1 hg3
    go_wp2_with fail
    (try rw [hg1])
    clear hg1
    go_loopw [7, 23] (fun v i wr => ∃ x : Nat, i = .int .i64 (x : Int) ∧ x ≤ k ∧ pairsTo W H L P x 0 ∧ WksAt W H A A2 n cap n2 c2 L P w g1 (x * k) v wr) (fun _ i _ => 17 - (intOf i).toNat)
    case atStart => exact ⟨0, rfl, Nat.zero_le _, pairs_zero, by rw [Nat.zero_mul]; exact HX3.out⟩
    case round =>
      obtain ⟨x, rfl, hxk, hpairs, hx⟩ := hrel
      have HP0 := Lib.hid hpairs
      have HX4 := Lib.hid hx
      obtain ⟨a0, a1, _⟩ := hx.cells
      clear hpairs hx
      by_cases hlt : x < k
      · have HXK := Lib.hid hlt
        have hx16 : (x : Int) < 16 := by omega
        go_wp2_with fail
        refine (HN.out _).mono ?_
        rintro e w4 ⟨rfl, hg4⟩
        have HX5 := Lib.hid (HX4.out.gb hg4)
        clear hg4 a0 a1
        go_wp2_with fail
        go_loopw [7, 29] (fun v i wr => ∃ y : Nat, i = .int .i64 (y : Int) ∧ y ≤ k ∧ pairsTo W H L P x y ∧ WksAt W H A A2 n cap n2 c2 L P w g1 (x * k + y) v wr) (fun _ i _ => 17 - (intOf i).toNat)
        case atStart => exact ⟨0, rfl, Nat.zero_le _, HP0.out, HX5.out⟩
        case round =>
          obtain ⟨y, rfl, hyk, hpairs, hy⟩ := hrel
          have HP1 := Lib.hid hpairs
          have HX6 := Lib.hid hy
          clear hpairs hy
          by_cases hlt2 : y < k
          · have hy16 : (y : Int) < 16 := by omega
            obtain ⟨a0, a1, a2⟩ := HX6.out.cells
            have hi2 := (HI.out.below (twoI_bo HX6.out.2.2.2)).more (B' := wr.heap.size) (twoI_bo HX6.out.2.2.2).size
            have HE := Lib.hid (ends_entry (W := W) (H := H) (L := L) (P := P) x y)
            obtain ⟨j, hj⟩ : ∃ j, x * k + y = j := ⟨_, rfl⟩
            have hj9 : j ≤ 256 := by
              have h1 : x * k ≤ 15 * 16 := Nat.mul_le_mul (by omega) (by omega)
              omega
            obtain ⟨R, hR⟩ : ∃ R, walkOf W H L P x y = R := ⟨_, rfl⟩
            have HF := Lib.hid (show pairW W H L P j = R by rw [← hj, ← hR]; exact HAT.out x y hlt2)
            have HW6 := Lib.hid (HW.out x y HXK.out hlt2 _ _ hi2 HX6.out.1)
            rw [hR] at HW6
            have HJ := Lib.hid hj
            rw [hj] at HX6
            clear hi2 hj hR
            go_wp2_with fail
            refine HW6.out.mono ?_
            rintro e w6 ⟨vq, rfl, ho6, hb6⟩
            have HX7 := Lib.hid (HX6.out.gb (gb_of_below hb6 none))
            obtain ⟨Aq, capq, rfl, _⟩ := own_form ho6
            have HO6 := Lib.hid (own_less ho6 (twoI_bs HX6.out.2.2.2))
            rw [HE.out]
            clear a0 a1 a2 ho6 hb6
            cases he : entryG W H L P x y with
            | false =>
              have hf := tableG_no (W := W) (H := H) (L := L) (P := P) (a := x) (b := y) (by rw [← HKI.out]; omega) (by rw [← HKI.out]; omega) he
              have HR := Lib.hid (HNN.out.symm.trans (wlkN_no hf))
              clear hf he
              go_wp2_with fail
              go_ret
              exact ⟨_, rfl, by rw [HR.out]; exact ListsAt.nil _ _ _, twoI_bo HX7.out.2.2.2⟩
            | true =>
              have HPn := Lib.hid (pairs_next HP1.out he)
              clear he
              obtain ⟨vs, hvo, hvi⟩ := HX7.out.2.1
              obtain ⟨Av, cv, rfl, _⟩ := own_form hvo
              have HVO := Lib.hid hvo
              have HVI := Lib.hid hvi
              have b3 := Lib.hid (one_slice Aq R.length capq)
              have b4 := Lib.hid (show j + 1 ≤ maxLen by unfold maxLen; omega)
              have b5 := Lib.hid (twoI_bs HX7.out.2.2.2)
              clear hvo hvi
              go_wp2_with (at_builtin; refine wpList_append_own _ rfl _ _ 76 rfl (w.heap.size + 2) 24 i0 (.slice none 0 0) 1 24 Try.underlying76 hi hz0 hz1 hz2 rfl (by decide) _ j _ rfl (HVO.out.alloc _) ⟨w6.heap.size, 0, none⟩ 1 1 [.slice Aq R.length capq] rfl rfl (World.news_of_block (cs := #[.slice Aq R.length capq]) (t := 24) (fr := (0, 0)) (heap_alloc_new w6 _)) b3.out b4.out (by omega) (by have := b5.out; simp; omega) ?_; intro v' w7 hown7 hgrow7 _)
              have HX8 := Lib.hid (show WksAt W H A A2 n cap n2 c2 L P w g1 (x * k + (y + 1)) v' w7 from by
                have h5 := HX7.out
                rw [← Nat.add_assoc, HJ.out]
                have hF := HF.out
                refine ⟨(h5.1.alloc _).grown hgrow7 (fun e => own_ne HVO.out h5.1 (by decide) e.symm), ?_, h5.2.2.1, (h5.2.2.2.alloc b5.out _).grown hgrow7 (by have := b5.out; simp; omega) (fun q hq => (HVO.out.lt q hq).1)⟩
                exact ListsAt.app (F := pairW W H L P) HVO.out HVI.out (by rw [hF]; exact HO6.out) (by rw [hF]; exact hown7) hgrow7)
              clear hown7 hgrow7
              go_wp2_with fail
              go_roundw
              case rel => exact ⟨y + 1, by go_num, by omega, HPn.out, HX8.out⟩
              case measure => simp [intOf]; omega
          · obtain rfl : y = k := by omega
            have HPr := Lib.hid (pairs_row HP1.out HKI.out)
            go_wp2_with fail
            go_roundw
            case rel => exact ⟨x + 1, by go_num, by omega, HPr.out, by rw [Nat.add_mul, Nat.one_mul]; exact HX6.out⟩
            case measure => simp [intOf]; omega
      · obtain rfl : x = k := by omega
        have hf := tableG_yes HS.out HP0.out HKI.out
        have HR := Lib.hid (show N = x * x by rw [← HNN.out, wlkN_yes hf, HSQ.out])
        clear a0 a1 hf
        go_wp2_with fail
        go_ret
        exact ⟨_, rfl, by rw [HR.out]; exact HX4.out.2.1.less (by omega), twoI_bo HX4.out.2.2.2⟩
end Go.Proofs.Ytecaehkckamhkaa
end

section
namespace Go.Proofs.Ytecaehkckamhkaa
open Go.ChangeShapes Go.WideShapes Go.ChangeAt Go.RowKit
set_option linter.unusedVariables false
set_option maxRecDepth 20000

theorem sqG_pos {W H : Int} {L P : List Int} (h : tableG W H L P = true) : 0 < sqG W H := by
  have hok := (meshG_ok (sizedG_mesh (tableG_sized h)).1).1
  obtain ⟨h1, _, h3, _⟩ := okG_iff.1 hok
  have hc : countG W H = W * H := by simp [countG, hok]
  have hp : 0 < W * H := Int.mul_pos (by omega) (by omega)
  have : 0 < (countG W H).toNat := by rw [hc]; omega
  exact Nat.mul_pos this this
theorem twoI_new {W H : Int} {A A2 : Option Addr} {n cap n2 c2 : Nat} {w w1 : World} (h : Below (twoI W H A A2 n cap n2 c2 w).heap.size (twoI W H A A2 n cap n2 c2 w) w1) : (twoI W H A A2 n cap n2 c2 w).grownBy w1 none := gb_of_below h none
theorem wlkN_small (W H : Int) (L P : List Int) : wlkN W H L P ≤ 256 := by
  unfold wlkN
  split
  · have h := cntN_le W H
    exact Nat.mul_le_mul h h
  · exact Nat.zero_le _

theorem implTableOk (W H : Int) (A A2 : Option Addr) (n cap n2 c2 : Nat) (L P : List Int) (hL : WfL L) (w : World) (h : IntAt w w.heap.size A n L) (h2 : IntAt w w.heap.size A2 n2 P) (hn : n ≤ 1000000000) (hn2 : n2 ≤ 1000000000) :
    Calls Try.prog 18 #[.agg #[.int .i64 W, .int .i64 H, .slice A n cap], .agg #[.slice A2 n2 c2]] w (RetB (tableG W H L P) w) := by
  have HT1 := Lib.hid (h.twoI (W := W) (H := H) (A := A) (A2 := A2) (n := n) (cap := cap) (n2 := n2) (c2 := c2))
  have HT2 := Lib.hid (h2.twoI (W := W) (H := H) (A := A) (A2 := A2) (n := n) (cap := cap) (n2 := n2) (c2 := c2))
  have HWK := Lib.hid (fun w h h2 => implWalksOf W H A A2 n cap n2 c2 L P hL w h h2 hn hn2)
  clear h h2 hL
  cases ht : tableG W H L P with
  | false =>
    rw [wlkN_no ht] at HWK
    clear ht
    go_enter Try.func18, Try.ntmps18
    go_wp2_with fail
    refine (HWK.out _ HT1.out HT2.out).mono ?_
    rintro e w1 ⟨va, rfl, hl1, hb1⟩
    obtain ⟨Aw, cw, rfl, _⟩ := hl1.form
    have G1 := Lib.hid (twoI_old (twoI_new hb1))
    clear hl1 hb1
    go_wp2_with fail
    go_ret
    exact ⟨ret_bool (by simp), G1.out⟩
  | true =>
    rw [wlkN_yes ht] at HWK
    have hp := sqG_pos ht
    obtain ⟨N, hN⟩ : ∃ N, sqG W H = N := ⟨_, rfl⟩
    rw [hN] at HWK hp
    clear ht hN
    go_enter Try.func18, Try.ntmps18
    go_wp2_with fail
    refine (HWK.out _ HT1.out HT2.out).mono ?_
    rintro e w1 ⟨va, rfl, hl1, hb1⟩
    obtain ⟨Aw, cw, rfl, _⟩ := hl1.form
    have G1 := Lib.hid (twoI_old (twoI_new hb1))
    clear hl1 hb1
    go_wp2_with fail
    go_ret
    exact ⟨ret_bool (by simp <;> omega), G1.out⟩
end Go.Proofs.Ytecaehkckamhkaa
end

section
namespace Go.Proofs.Ytecaehkckamhkaa
open Go.ChangeShapes Go.WideShapes Go.ChangeAt Go.RowKit
set_option linter.unusedVariables false
set_option maxRecDepth 20000

/-- The greatest length of the first k walks. -/
def mxW (W H : Int) (L P : List Int) (k : Nat) : Int := if k = 0 then -1 else (mostTo W H L P k : Int)
theorem mxW_next {W H : Int} {L P : List Int} {k : Nat} {R : List Int} (h : pairW W H L P k = R) : max (mxW W H L P k) (R.length : Int) = mxW W H L P (k + 1) := by
  have e : lenAt W H L P k = R.length := by rw [← h]; rfl
  unfold mxW
  rw [if_neg (Nat.succ_ne_zero k), mostTo, e]
  split
  · rename_i h0
    subst h0
    simp only [mostTo]
    omega
  · omega
theorem mxW_all (W H : Int) (L P : List Int) : mxW W H L P (wlkN W H L P) = longG W H L P := by
  unfold longG
  cases ht : tableG W H L P with
  | false => rw [wlkN_no ht]; rfl
  | true =>
    rw [wlkN_yes ht, mxW, if_neg (by have := sqG_pos ht; omega)]
    rfl
/-- The row of walks. -/
def WkAt (W H : Int) (A A2 : Option Addr) (n cap n2 c2 : Nat) (L P : List Int) (w : World) (Aw : Option Addr) (N cw : Nat) (wr : World) : Prop :=
  ListsAt wr (w.heap.size + 2) (.slice Aw N cw) N (pairW W H L P) ∧ (twoI W H A A2 n cap n2 c2 w).grownBy wr none
section
variable {W H : Int} {A A2 : Option Addr} {n cap n2 c2 : Nat} {L P : List Int} {w wr w' : World} {Aw : Option Addr} {N cw : Nat}
theorem WkAt.gb (h : WkAt W H A A2 n cap n2 c2 L P w Aw N cw wr) (hg : wr.grownBy w' none) : WkAt W H A A2 n cap n2 c2 L P w Aw N cw w' := ⟨h.1.gb hg, gb_trans h.2 hg⟩
theorem WkAt.one (h : WkAt W H A A2 n cap n2 c2 L P w Aw N cw wr) {k : Nat} (hk : k < N) {R : List Int} (hR : pairW W H L P k = R) : ∃ g B d, Aw = some ⟨g, 0, none⟩ ∧ wr.cell? ⟨g, k, none⟩ = some (.slice B R.length d) := by
  obtain ⟨g, B, d, h1, h2, _⟩ := h.1.at k hk
  rw [hR] at h2
  exact ⟨g, B, d, h1, h2⟩
end
theorem int_maxW (a b : Int) : (if a < b then b else a) = max a b := by omega

theorem implLongestWalk (W H : Int) (A A2 : Option Addr) (n cap n2 c2 : Nat) (L P : List Int) (hL : WfL L) (w : World) (h : IntAt w w.heap.size A n L) (h2 : IntAt w w.heap.size A2 n2 P) (hn : n ≤ 1000000000) (hn2 : n2 ≤ 1000000000) :
    Calls Try.prog 22 #[.agg #[.int .i64 W, .int .i64 H, .slice A n cap], .agg #[.slice A2 n2 c2]] w (RetI (longG W H L P) none w) := by
  have HT1 := Lib.hid (h.twoI (W := W) (H := H) (A := A) (A2 := A2) (n := n) (cap := cap) (n2 := n2) (c2 := c2))
  have HT2 := Lib.hid (h2.twoI (W := W) (H := H) (A := A) (A2 := A2) (n := n) (cap := cap) (n2 := n2) (c2 := c2))
  have HWK := Lib.hid (fun w h h2 => implWalksOf W H A A2 n cap n2 c2 L P hL w h h2 hn hn2)
  have HRES := Lib.hid (mxW_all W H L P)
  have hN256 := wlkN_small W H L P
  have TZ := Lib.hid (twoI_size (W := W) (H := H) (A := A) (A2 := A2) (n := n) (cap := cap) (n2 := n2) (c2 := c2) (w := w))
  obtain ⟨N, hN⟩ : ∃ N, wlkN W H L P = N := ⟨_, rfl⟩
  rw [hN] at HWK HRES hN256
  clear h h2 hL hN
  go_enter Try.func22, Try.ntmps22
  go_wp2_with fail
  refine (HWK.out _ HT1.out HT2.out).mono ?_
  rintro e w1 ⟨va, rfl, hl1, hb1⟩
  obtain ⟨Aw, cw, rfl, _⟩ := hl1.form
  have X1 := Lib.hid (show WkAt W H A A2 n cap n2 c2 L P w Aw N cw w1 from ⟨by rw [TZ.out] at hl1; exact hl1, twoI_new hb1⟩)
  clear hl1 hb1
  go_wp2_with fail
  go_loopw [5, 12] (fun m i wr => ∃ k : Nat, m = .int .i64 (mxW W H L P k) ∧ i = .int .i64 (k : Int) ∧ k ≤ N ∧ WkAt W H A A2 n cap n2 c2 L P w Aw N cw wr) (fun _ i _ => 257 - (intOf i).toNat)
  case atStart => exact ⟨0, rfl, rfl, Nat.zero_le _, X1.out⟩
  case round =>
    obtain ⟨k, rfl, rfl, hk, hx⟩ := hrel
    have X2 := Lib.hid hx
    clear hx
    by_cases hlt : k < N
    · obtain ⟨R, hR⟩ : ∃ R, pairW W H L P k = R := ⟨_, rfl⟩
      obtain ⟨gw, B, d, hA, hc⟩ := X2.out.one hlt hR
      subst hA
      have hnx := mxW_next hR
      have HNX := Lib.hid hnx
      have k0 : (0 : Int) ≤ (k : Int) := by omega
      have k1 : (k : Int) < (N : Int) := by omega
      obtain ⟨M, hM⟩ : ∃ M, R.length = M := ⟨_, rfl⟩
      obtain ⟨q, hq⟩ : ∃ q, mxW W H L P k = q := ⟨_, rfl⟩
      rw [hM] at hc
      rw [hM, hq] at HNX
      rw [hq]
      clear hnx hR hM hq
      go_wp2_with fail
      go_roundw
      case rel => exact ⟨k + 1, by rw [← HNX.out] <;> (first | rfl | (rw [← int_maxW])), by go_num, by omega, X2.out⟩
      case measure => simp [intOf]; omega
    · obtain rfl : k = N := by omega
      go_wp2_with fail
      go_ret
      exact ⟨ret_int64 HRES.out, twoI_old X2.out.2⟩
end Go.Proofs.Ytecaehkckamhkaa
end

section
namespace Go.Proofs.Ytecaehkckamhkaa
open Go.ChangeShapes Go.WideShapes Go.ChangeAt Go.RowKit
set_option linter.unusedVariables false
set_option maxRecDepth 20000

theorem ListsAt.over {w w' : World} {base g : Nat} {v : Value} {N : Nat} {F : Nat → List Int} (h : ListsAt w base v N F) (hg : w.grownBy w' (some g)) (hlt : g < base) : ListsAt w' base v N F := by
  have key : ∀ {e : TypeId} {sz n : Nat} {v : Value} {xs : List Value}, w.ownsRow base e sz v n xs → w'.ownsRow base e sz v n xs := fun {e sz n v xs} ho => ho.kept hg (by
    cases hv : v.ownBlock with
    | none => exact .inl rfl
    | some k => exact .inr (fun e => by have := (ho.lt k hv).1; have := Option.some.inj e; omega))
  obtain ⟨vs, ho, hi⟩ := h
  refine ⟨vs, key ho, fun k hk => ?_⟩
  obtain ⟨A, c, h3, h4⟩ := hi k hk
  exact ⟨A, c, h3, key h4⟩
theorem own_over {w w' : World} {base g n : Nat} {v : Value} {L : List Int} (ho : w.ownsRow base 3 1 v n (intsV L)) (hg : w.grownBy w' (some g)) (hlt : g < base) : w'.ownsRow base 3 1 v n (intsV L) := ho.kept hg (by
  cases hv : v.ownBlock with
  | none => exact .inl rfl
  | some k => exact .inr (fun e => by have := (ho.lt k hv).1; have := Option.some.inj e; omega))
theorem gb_drT {a b : World} {row : Option Nat} (h : a.drew.grownBy b row) : a.grownBy b row := ⟨h.os, h.tape, h.output, h.size, h.block⟩
theorem gb_put {a b c : World} {g : Nat} (h : a.grownBy b none) (hg : b.grownBy c (some g)) (hs : a.heap.size ≤ g) : a.grownBy c none :=
  ⟨hg.os.trans h.os, hg.tape.trans h.tape, hg.output.trans h.output, Nat.le_trans h.size hg.size, fun i hi _ => (hg.block i (Nat.lt_of_lt_of_le hi h.size) (fun e => by have := Option.some.inj e; omega)).trans (h.block i hi (by simp))⟩
theorem turns_wlk {W H : Int} {L P : List Int} : setL (allT W H L P (wlkN W H L P)) 16 = turnsG W H L P := by
  cases ht : tableG W H L P with
  | false =>
    rw [wlkN_no ht, turnsG_no ht]
    rfl
  | true => rw [wlkN_yes ht, turnsG_yes ht]

/-- The row of walks, and the set of turns in the block g. -/
def TuAt (W H : Int) (A A2 : Option Addr) (n cap n2 c2 : Nat) (L P : List Int) (w : World) (Aw : Option Addr) (N cw g : Nat) (f : Nat → Bool) (wr : World) : Prop :=
  ListsAt wr (g + 1) (.slice Aw N cw) N (pairW W H L P) ∧ w.heap.size + 2 = g ∧ SetAt wr g f ∧ (twoI W H A A2 n cap n2 c2 w).grownBy wr none
section
variable {W H : Int} {A A2 : Option Addr} {n cap n2 c2 : Nat} {L P : List Int} {w wr w' : World} {Aw : Option Addr} {N cw g : Nat} {f f' : Nat → Bool}
theorem TuAt.put (h : TuAt W H A A2 n cap n2 c2 L P w Aw N cw g f wr) (hs : SetAt w' g f') (hg : wr.grownBy w' (some g)) : TuAt W H A A2 n cap n2 c2 L P w Aw N cw g f' w' :=
  ⟨h.1.over hg (Nat.lt_succ_self g), h.2.1, hs, gb_put h.2.2.2 hg (by rw [twoI_size]; exact Nat.le_of_eq h.2.1)⟩
end

set_option maxHeartbeats 1600000 in
theorem implTurnsOf (W H : Int) (A A2 : Option Addr) (n cap n2 c2 : Nat) (L P : List Int) (hL : WfL L) (w : World) (h : IntAt w w.heap.size A n L) (h2 : IntAt w w.heap.size A2 n2 P) (hn : n ≤ 1000000000) (hn2 : n2 ≤ 1000000000) :
    Calls Try.prog 44 #[.agg #[.int .i64 W, .int .i64 H, .slice A n cap], .agg #[.slice A2 n2 c2]] w (NewI (turnsG W H L P) w) := by
  have TG := Lib.hid (gb_alloc (gb_refl (twoI W H A A2 n cap n2 c2 w) none) (.map #[] 0))
  have TZ := Lib.hid (twoI_size (W := W) (H := H) (A := A) (A2 := A2) (n := n) (cap := cap) (n2 := n2) (c2 := c2) (w := w))
  have HT1 := Lib.hid (h.oldI (twoI_old TG.out))
  have HT2 := Lib.hid (h2.oldI (twoI_old TG.out))
  have HS0 := Lib.hid (SetAt.made (twoI W H A A2 n cap n2 c2 w))
  have HWK := Lib.hid (fun w h h2 => implWalksOf W H A A2 n cap n2 c2 L P hL w h h2 hn hn2)
  have HRES := Lib.hid (turns_wlk (W := W) (H := H) (L := L) (P := P))
  have hN256 := wlkN_small W H L P
  obtain ⟨N, hN⟩ : ∃ N, wlkN W H L P = N := ⟨_, rfl⟩
  rw [hN] at HWK HRES hN256
  obtain ⟨res, hres⟩ : ∃ r, turnsG W H L P = r := ⟨_, rfl⟩
  rw [hres] at HRES
  rw [hres]
  have hmm := @run_makeMap Try.prog
  clear h h2 hL hN hres
  go_enter Try.func44, Try.ntmps44
  go_wp2_with fail
  refine (HWK.out _ HT1.out HT2.out).mono ?_
  rintro e w1 ⟨va, rfl, hl1, hb1⟩
  obtain ⟨Aw, cw, rfl, _⟩ := hl1.form
  obtain ⟨g, hg⟩ : ∃ g, w.heap.size + 1 + 1 = g := ⟨_, rfl⟩
  have X1 := Lib.hid (show TuAt W H A A2 n cap n2 c2 L P w Aw N cw g (allT W H L P 0) w1 from by
    have hz : (twoI W H A A2 n cap n2 c2 w).heap.size = g := TZ.out.trans hg
    have hz2 : ((twoI W H A A2 n cap n2 c2 w).alloc (.map #[] 0)).heap.size = g + 1 := by rw [alloc_size, hz]
    have hs := HS0.out
    rw [hz] at hs
    rw [hz2] at hl1
    exact ⟨hl1, hg, hs.none (gb_of_below hb1 none), gb_trans TG.out (gb_of_below hb1 none)⟩)
  clear hl1 hb1
  go_wp2_with fail
  (try rw [hg])
  clear hg
  go_loopw [14] (fun i wr => ∃ k : Nat, i = .int .i64 (k : Int) ∧ k ≤ N ∧ TuAt W H A A2 n cap n2 c2 L P w Aw N cw g (allT W H L P k) wr) (fun i _ => 257 - (Go.RowKit.intOf i).toNat)
  case atStart => exact ⟨0, rfl, Nat.zero_le _, X1.out⟩
  case round =>
    obtain ⟨k, rfl, hk, hx⟩ := hrel
    have X5 := Lib.hid hx
    by_cases hlt : k < N
    · obtain ⟨gw, B, d, hA, hc, ho⟩ := hx.1.at k hlt
      subst hA
      have hRN := pairW_len (W := W) (H := H) (L := L) (P := P) k
      have HRR := Lib.hid (fun j (h : j < (pairW W H L P k).length) => pairW_range (W := W) (H := H) (L := L) (P := P) h)
      obtain ⟨R, hR⟩ : ∃ R, pairW W H L P k = R := ⟨_, rfl⟩
      have HAN := Lib.hid (all_next hR)
      rw [hR] at hc ho hRN HRR
      obtain ⟨M, hM⟩ : ∃ M, R.length = M := ⟨_, rfl⟩
      have HN2 := Lib.hid hM
      rw [hM] at hc ho hRN HRR
      obtain ⟨_, _, e1, hgv⟩ := own_form ho
      simp only [Value.slice.injEq] at e1
      obtain ⟨rfl, _, rfl⟩ := e1
      have HGV := Lib.hid hgv
      have O6 := Lib.hid ho
      obtain ⟨F, hF⟩ : ∃ F, allT W H L P k = F := ⟨_, rfl⟩
      rw [hF] at X5 HAN
      have X6 := Lib.hid (show TuAt W H A A2 n cap n2 c2 L P w (some ⟨gw, 0, none⟩) N cw g (orT F (wayT R 0)) wr by rw [orT_none _ (way_zero R)]; exact X5.out)
      have k0 : (0 : Int) ≤ (k : Int) := by omega
      have k1 : (k : Int) < (N : Int) := by omega
      clear hx hR hM ho hgv X5 hF
      go_wp2_with fail
      clear hc
      go_loopw [8] (fun i ws => ∃ j : Nat, i = .int .i64 ((j : Int) + 1) ∧ j ≤ M - 1 ∧ TuAt W H A A2 n cap n2 c2 L P w (some ⟨gw, 0, none⟩) N cw g (orT F (wayT R j)) ws ∧ ws.ownsRow (g + 1) 3 1 (.slice B M d) M (intsV R)) (fun i _ => 17 - (Go.RowKit.intOf i).toNat)
      case atStart => exact ⟨0, rfl, Nat.zero_le _, X6.out, O6.out⟩
      case round =>
        obtain ⟨j, rfl, hj, hx, ho⟩ := hrel
        have X7 := Lib.hid hx
        have O7 := Lib.hid ho
        clear hx ho
        by_cases hlt3 : j + 1 < M
        · have hl3 : (j : Int) + 1 < (M : Int) := by omega
          obtain ⟨gv, hgv⟩ := HGV.out (by omega)
          subst hgv
          obtain ⟨x1, hx1⟩ : ∃ z, R.getD j 0 = z := ⟨_, rfl⟩
          obtain ⟨x2, hx2⟩ : ∃ z, R.getD (j + 1) 0 = z := ⟨_, rfl⟩
          obtain ⟨r10, r11⟩ := HRR.out j (by omega)
          obtain ⟨r20, r21⟩ := HRR.out (j + 1) hlt3
          have c1 := ints_cell O7.out j x1 (by rw [← hx1, List.getD, List.getElem?_eq_getElem (by rw [HN2.out]; omega)]; rfl) HN2.out
          have c2' := ints_cell O7.out (j + 1) x2 (by rw [← hx2, List.getD, List.getElem?_eq_getElem (by rw [HN2.out]; omega)]; rfl) HN2.out
          rw [hx1] at r10 r11
          rw [hx2] at r20 r21
          obtain ⟨p, hp⟩ : ∃ p, x1 % 4 = p := ⟨_, rfl⟩
          obtain ⟨q, hq⟩ : ∃ q, x2 % 4 = q := ⟨_, rfl⟩
          have hwn := Lib.hid (way_next F R j p q (by rw [hx1, hp]) (by rw [hx2, hq]))
          have p0 : 0 ≤ p := by omega
          have p3 : p ≤ 3 := by omega
          have q0 : 0 ≤ q := by omega
          have q3 : q ≤ 3 := by omega
          have t1 : x1.tmod 4 = p := by rw [Int.tmod_eq_emod_of_nonneg r10, hp]
          have t2 : x2.tmod 4 = q := by rw [Int.tmod_eq_emod_of_nonneg r20, hq]
          have HA := Lib.hid (fun (w : World) h => implAdd g (orT F (wayT R j)) p q p0 p3 q0 q3 w h)
          obtain ⟨m, hm⟩ : ∃ m : Nat, j + 1 = m := ⟨_, rfl⟩
          have hmi : (j : Int) + 1 = (m : Int) := by omega
          rw [hm] at c2'
          have j0 : (0 : Int) ≤ (j : Int) := by omega
          have j1 : (j : Int) < (M : Int) := by omega
          have j2 : (0 : Int) ≤ (m : Int) := by omega
          have j3 : (m : Int) < (M : Int) := by omega
          have e2 : IntKind.i64.wrap ((m : Int) - 1) = (j : Int) := by rw [IntWalk.i64_in _ (by omega)]; omega
          have HM := Lib.hid (And.intro hm hlt3)
          have hgv : some gv ≠ some g := fun e => by
            have := (O7.out.lt gv rfl).1
            injection e with e
            omega
          rw [hmi]
          clear hp hq hx1 hx2 hl3 hlt3 hmi hm
          go_wp2_with fail
          go_region_held3 (fun w' => w'.cell? ⟨gv, j, none⟩ = some (.int .i64 x1) ∧ w'.cell? ⟨gv, m, none⟩ = some (.int .i64 x2))
            (first | exact ⟨c1, c2'⟩ | exact ⟨d1, d2⟩ | fail)
            (first
              | (go_at_call 87; (with_reducible refine (HA.out _ ?_).mono ?_); exact X7.out.2.2.1; rintro e w7 ⟨rfl, hs7, hg7⟩; have d1 := (gb_drT hg7).cell c1 hgv; have d2 := (gb_drT hg7).cell c2' hgv)
              | fail)
          all_goals
            rw [hwn.out] at hs7
            have X8 := Lib.hid (X7.out.put hs7 (gb_drT hg7))
            have O8 := Lib.hid (own_over O7.out (gb_drT hg7) (Nat.lt_succ_self g))
            clear hs7 hg7 d1 d2 c1 c2'
            go_wp2_with fail
            go_roundw
            case rel => exact ⟨j + 1, by have hm := HM.out.1; go_num, by have := HM.out.2; omega, X8.out, O8.out⟩
            case measure => have hm := HM.out; simp [Go.RowKit.intOf]; omega
        · obtain rfl : j = M - 1 := by omega
          have hl3 : ¬ ((M - 1 : Nat) : Int) + 1 < (M : Int) := by omega
          have X8 := Lib.hid (show TuAt W H A A2 n cap n2 c2 L P w (some ⟨gw, 0, none⟩) N cw g (allT W H L P (k + 1)) _ from by
            rw [← HAN.out, HN2.out]
            exact X7.out)
          clear X7 O7
          go_wp2_with fail
          go_roundw
          case rel => exact ⟨k + 1, by go_num, by omega, X8.out⟩
          case measure => simp [Go.RowKit.intOf]; omega
    · obtain rfl : k = N := by omega
      have HSo := Lib.hid (implAscending g _ _ X5.out.2.2.1)
      rw [HRES.out] at HSo
      clear hx
      go_wp2_with fail
      refine HSo.out.mono ?_
      rintro e w4 ⟨v, rfl, ho, hb⟩
      have G5 := Lib.hid (twoI_old X5.out.2.2.2)
      have Y := Lib.hid (show NewI res w (.returned v) w4 from ⟨v, rfl, own_less ho G5.out.size, (gb_below_none G5.out (Nat.le_refl _)).trans (hb.mono G5.out.size)⟩)
      clear ho hb
      go_wp2_with fail
      go_ret
      exact Y.out
end Go.Proofs.Ytecaehkckamhkaa
end

section
namespace Go.Proofs.Ytecaehkckamhkaa
open Go.ChangeShapes Go.WideShapes Go.ChangeAt Go.RowKit
set_option linter.unusedVariables false
set_option maxRecDepth 20000

theorem implAllows (W H : Int) (A A2 A3 : Option Addr) (n cap n2 c2 n3 c3 : Nat) (L P T : List Int) (hL : WfL L) (w : World) (h : IntAt w w.heap.size A n L) (h2 : IntAt w w.heap.size A2 n2 P) (h3 : IntAt w w.heap.size A3 n3 T) (hn : n ≤ 1000000000) (hn2 : n2 ≤ 1000000000) (hn3 : n3 ≤ 1000000000) :
    Calls Try.prog 49 #[.agg #[.int .i64 W, .int .i64 H, .slice A n cap], .agg #[.slice A2 n2 c2], .slice A3 n3 c3] w (RetB (allowsG W H L P T) w) := by
  have HI := Lib.hid h
  have HP := Lib.hid h2
  have HT1 := Lib.hid (h.two (W := W) (H := H) (A := A) (A2 := A2) (n := n) (cap := cap) (n2 := n2) (c2 := c2))
  have HT2 := Lib.hid (h2.two (W := W) (H := H) (A := A) (A2 := A2) (n := n) (cap := cap) (n2 := n2) (c2 := c2))
  have HOK := Lib.hid (fun (w : World) h h2 => implTableOk W H A A2 n cap n2 c2 L P hL w h h2 hn hn2)
  have HTO := Lib.hid (fun (w : World) h h2 => implTurnsOf W H A A2 n cap n2 c2 L P hL w h h2 hn hn2)
  have HQ := Lib.hid h3
  clear h h2 h3
  cases ht : tableG W H L P with
  | false =>
    have HF := Lib.hid (show allowsG W H L P T = false by rw [allowsG, ht]; rfl)
    rw [ht] at HOK
    clear ht hL
    go_enter Try.func49, Try.ntmps49
    go_wp2_with fail
    refine (HOK.out _ HT1.out HT2.out).mono ?_
    rintro e w1 ⟨rfl, hg⟩
    have B1 := Lib.hid (below_two hg)
    clear hg
    go_wp2_with fail
    go_ret
    exact ⟨ret_bool HF.out.symm, gb_of_below (twoB_old B1.out) none⟩
  | true =>
    obtain ⟨R, hR⟩ : ∃ R, turnsG W H L P = R := ⟨_, rfl⟩
    have HF := Lib.hid (show allowsG W H L P T = R.all fun x => inG T x by rw [allowsG, ht, hR]; rfl)
    have hlen : R.length ≤ 16 := by rw [← hR]; exact turnsG_len
    obtain ⟨N, hN⟩ : ∃ N, R.length = N := ⟨_, rfl⟩
    rw [ht] at HOK
    rw [hR] at HTO
    rw [hN] at hlen
    have HN := Lib.hid hN
    clear ht hL hR
    go_enter Try.func49, Try.ntmps49
    go_wp2_with fail
    refine (HOK.out _ HT1.out HT2.out).mono ?_
    rintro e w1 ⟨rfl, hg⟩
    have B1 := Lib.hid (below_two hg)
    clear hg
    have a0 : w1.cell? ⟨w.heap.size, 0, none⟩ = some (.int .i64 W) := (twoB_mesh B1.out).cell 0
    have a1 : w1.cell? ⟨w.heap.size, 1, none⟩ = some (.int .i64 H) := (twoB_mesh B1.out).cell 1
    have a2 : w1.cell? ⟨w.heap.size, 2, none⟩ = some (.slice A n cap) := (twoB_mesh B1.out).cell 2
    have a3 : w1.cell? ⟨w.heap.size + 1, 0, none⟩ = some (.slice A2 n2 c2) := (twoB_table B1.out).cell 0
    go_wp2_with fail
    refine (HTO.out _ (HI.out.old B1.out) (HP.out.old B1.out)).mono ?_
    rintro e w2 ⟨v, rfl, ho, hb⟩
    rw [hN] at ho
    obtain ⟨AR, capR, rfl, har⟩ := own_form ho
    have HAR := Lib.hid har
    have B2 := Lib.hid (below_then B1.out (gb_of_below hb none))
    have O2 := Lib.hid ho
    have HQ2 := Lib.hid (HQ.out.old B2.out)
    clear ho hb har hN a0 a1 a2 a3
    go_wp2_with fail
    go_loop [17] (fun i => ∃ j : Nat, i = .int .i64 (j : Int) ∧ j ≤ N ∧ ∀ y, y < j → inG T (R.getD y 0) = true) (fun i => 17 - (Go.RowKit.intOf i).toNat)
    case atStart => exact ⟨0, rfl, Nat.zero_le _, fun y h => by omega⟩
    case round =>
      obtain ⟨j, rfl, hj, hall⟩ := hrel
      have HA := Lib.hid hall
      clear hall
      by_cases hlt : j < N
      · have hli : (j : Int) < (N : Int) := by omega
        obtain ⟨gv, hgv⟩ := HAR.out (by omega)
        subst hgv
        obtain ⟨x, hx⟩ : ∃ z, R.getD j 0 = z := ⟨_, rfl⟩
        have c1 := ints_cell O2.out j x (by rw [← hx, List.getD, List.getElem?_eq_getElem (by rw [HN.out]; omega)]; rfl) HN.out
        obtain ⟨b, hb⟩ : ∃ b, inG T x = b := ⟨_, rfl⟩
        have HC := Lib.hid (fun (w : World) h => implContains A3 n3 c3 (w.heap.size) T x b hb w h hn3)
        cases b with
        | false =>
          have HNo := Lib.hid (show allowsG W H L P T = false by
            rw [HF.out, List.all_eq_false]
            exact ⟨x, by rw [← hx, List.getD, List.getElem?_eq_getElem (by rw [HN.out]; omega)]; exact List.getElem_mem _, by rw [hb]; decide⟩)
          clear hb hx
          go_wp2_with fail
          refine (HC.out _ HQ2.out).mono ?_
          rintro e w3 ⟨rfl, rfl⟩
          go_wp2_with fail
          go_ret
          exact ⟨ret_bool HNo.out.symm, gb_of_below (twoB_old B2.out) none⟩
        | true =>
          have HNx := Lib.hid (show ∀ y, y < j + 1 → inG T (R.getD y 0) = true from fun y hy => by
            rcases Nat.lt_succ_iff_lt_or_eq.1 hy with h1 | rfl
            · exact HA.out y h1
            · rw [hx]; exact hb)
          clear hb hx
          go_wp2_with fail
          refine (HC.out _ HQ2.out).mono ?_
          rintro e w3 ⟨rfl, rfl⟩
          go_wp2_with fail
          go_round
          case rel => exact ⟨j + 1, by go_num, by omega, HNx.out⟩
          case measure => simp [Go.RowKit.intOf]; omega
      · obtain rfl : j = N := by omega
        have HY := Lib.hid (show allowsG W H L P T = true by
          rw [HF.out, List.all_eq_true]
          intro x hx
          obtain ⟨y, hy, rfl⟩ := List.getElem_of_mem hx
          have := HA.out y (by rw [← HN.out]; exact hy)
          rwa [List.getD, List.getElem?_eq_getElem hy] at this)
        go_wp2_with fail
        go_ret
        exact ⟨ret_bool HY.out.symm, gb_of_below (twoB_old B2.out) none⟩
end Go.Proofs.Ytecaehkckamhkaa
end

section
namespace Go.Proofs.Ytecaehkckamhkaa
open Go.ChangeShapes Go.WideShapes Go.ChangeAt Go.RowKit
set_option linter.unusedVariables false

theorem walk_FnExactAllowsTurns (W H : Int) (A : Option Addr) (n cap : Nat) (L : List Int) (A2 : Option Addr) (n2 c2 : Nat) (P : List Int) (A3 : Option Addr) (n3 c3 : Nat) (T : List Int) (w : World) (hw : (Lit.int .i64 W).wf = true) (hh : (Lit.int .i64 H).wf = true) (hnc : n ≤ cap) (hcm : cap ≤ maxLen) (h : IntAt w w.heap.size A n L) (hl : ∀ x ∈ L, (Lit.int .i64 x).wf = true) (hnc2 : n2 ≤ c2) (hcm2 : c2 ≤ maxLen) (h2 : IntAt w w.heap.size A2 n2 P) (hl2 : ∀ x ∈ P, (Lit.int .i64 x).wf = true) (hnc3 : n3 ≤ c3) (hcm3 : c3 ≤ maxLen) (h3 : IntAt w w.heap.size A3 n3 T) (hl3 : ∀ x ∈ T, (Lit.int .i64 x).wf = true) :
    Calls Try.prog 12 #[.agg #[.int .i64 W, .int .i64 H, .slice A n cap], .agg #[.slice A2 n2 c2], .slice A3 n3 c3] w fun e w' => e = .returned (.bool true) ∧ Below w.heap.size w w' := by
  have hn9 : n ≤ 9223372036854775807 := Nat.le_trans hnc (Nat.le_trans hcm (by decide))
  have hm9 : n2 ≤ 9223372036854775807 := Nat.le_trans hnc2 (Nat.le_trans hcm2 (by decide))
  have hLn := h.1
  have hPn := h2.1
  have HI := Lib.hid h
  have HP := Lib.hid h2
  have hT9 : n3 ≤ 9223372036854775807 := Nat.le_trans hnc3 (Nat.le_trans hcm3 (by decide))
  have hTn := h3.1
  have HQ := Lib.hid h3
  have HWF := Lib.hid (show WfL L from hl)
  clear hw hh hl hl2 hnc hcm hnc2 hcm2 h h2 hl3 hnc3 hcm3 h3
  subst hLn
  subst hPn
  subst hTn
  by_cases hbig0 : (1048576 : Int) < (T.length : Int)
  · have B0 := Lib.hid (show LawB W H A A2 L.length cap P.length c2 w (lawB W H A A2 L.length cap P.length c2 w) from LawB.first (gb_refl _ _))
    go_enter Try.func12, Try.ntmps12
    go_wp2_with fail
    go_ret
    exact ⟨rfl, B0.out.old⟩
  have hn3 : T.length ≤ 1048576 := by omega
  clear hbig0
  by_cases hbig : (1048576 : Int) < (L.length : Int)
  · go_enter Try.func12, Try.ntmps12
    go_wp2_with fail
    refine (lawsSzMesh W H A L.length cap 1048576 _ hn9 (by omega) (by omega)).mono ?_
    rintro e w1 ⟨rfl, hg1⟩
    rw [if_pos hbig]
    have B1 := Lib.hid (show LawB W H A A2 L.length cap P.length c2 w w1 from LawB.first hg1)
    clear hg1
    go_wp2_with fail
    go_ret
    exact ⟨rfl, B1.out.old⟩
  · have hn : L.length ≤ 1048576 := by omega
    obtain ⟨q, hq⟩ : ∃ q : Int, (1048576 : Int) - (L.length : Int) = q := ⟨_, rfl⟩
    have hq0 : ¬ q < 0 := by omega
    have hq1 : q ≤ 1048576 := by omega
    by_cases hbig2 : q < (P.length : Int)
    · go_enter Try.func12, Try.ntmps12
      go_wp2_with fail
      refine (lawsSzMesh W H A L.length cap 1048576 _ hn9 (by omega) (by omega)).mono ?_
      rintro e w1 ⟨rfl, hg1⟩
      rw [if_neg (by omega), hq]
      have B1 := Lib.hid (show LawB W H A A2 L.length cap P.length c2 w w1 from LawB.first hg1)
      have a3 : w1.cell? ⟨w.heap.size + 1, 0, none⟩ = some (.slice A2 P.length c2) := B1.out.table.cell 0
      clear hg1 hq
      go_wp2_with fail
      refine (lawsSzTable A2 P.length c2 q _ hm9 (by omega) hq1).mono ?_
      rintro e w2 ⟨rfl, hg2⟩
      rw [if_pos hbig2]
      have B2 := Lib.hid (B1.out.gb hg2)
      clear hg2
      go_wp2_with fail
      go_ret
      exact ⟨rfl, B2.out.old⟩
    · have hn2 : P.length ≤ 1048576 := by omega
      obtain ⟨q2, hq2⟩ : ∃ q2 : Int, q - (P.length : Int) = q2 := ⟨_, rfl⟩
      have hq20 : ¬ q2 < 0 := by omega
      go_enter Try.func12, Try.ntmps12
      go_wp2_with fail
      refine (lawsSzMesh W H A L.length cap 1048576 _ hn9 (by omega) (by omega)).mono ?_
      rintro e w1 ⟨rfl, hg1⟩
      rw [if_neg (by omega), hq]
      have B1 := Lib.hid (show LawB W H A A2 L.length cap P.length c2 w w1 from LawB.first hg1)
      have a3 : w1.cell? ⟨w.heap.size + 1, 0, none⟩ = some (.slice A2 P.length c2) := B1.out.table.cell 0
      clear hg1 hq
      go_wp2_with fail
      refine (lawsSzTable A2 P.length c2 q _ hm9 (by omega) hq1).mono ?_
      rintro e w2 ⟨rfl, hg2⟩
      rw [if_neg (by omega), hq2]
      have Bw2 := Lib.hid (B1.out.gb hg2)
      clear hg2 hq2 a3 hbig hbig2
      go_wp2_with fail
      obtain ⟨res, hres⟩ : ∃ r, allowsG W H L P T = r := ⟨_, rfl⟩
      have a0 : w2.cell? ⟨w.heap.size, 0, none⟩ = some (.int .i64 W) := Bw2.out.mesh.cell 0
      have a1 : w2.cell? ⟨w.heap.size, 1, none⟩ = some (.int .i64 H) := Bw2.out.mesh.cell 1
      have a2 : w2.cell? ⟨w.heap.size, 2, none⟩ = some (.slice A L.length cap) := Bw2.out.mesh.cell 2
      have a3 : w2.cell? ⟨w.heap.size + 1, 0, none⟩ = some (.slice A2 P.length c2) := Bw2.out.table.cell 0
      have Bw2d := Lib.hid Bw2.out.dr
      go_region_held3 (fun w' => w'.cell? ⟨w.heap.size, 0, none⟩ = some (.int .i64 W) ∧ w'.cell? ⟨w.heap.size, 1, none⟩ = some (.int .i64 H) ∧ w'.cell? ⟨w.heap.size, 2, none⟩ = some (.slice A L.length cap) ∧ w'.cell? ⟨w.heap.size + 1, 0, none⟩ = some (.slice A2 P.length c2))
        (first | exact ⟨a0, a1, a2, a3⟩ | exact ⟨j0, j1, j2, j3⟩ | exact ⟨k0, k1, k2, k3⟩ | exact ⟨kk0, kk1, kk2, kk3⟩ | exact ⟨l0, l1, l2, l3⟩)
        (first
          | (go_at_call 16; (with_reducible refine (lawsToMesh W H A L.length cap L _ (Bw2d.out.at HI.out) hn).mono ?_); rintro e w3 ⟨g6, rfl, o6, b6⟩; have Bw3 := Lib.hid (Bw2d.out.bl b6); have O6 := Lib.hid o6; have j0 : w3.cell? ⟨w.heap.size, 0, none⟩ = some (.int .i64 W) := Bw3.out.mesh.cell 0; have j1 : w3.cell? ⟨w.heap.size, 1, none⟩ = some (.int .i64 H) := Bw3.out.mesh.cell 1; have j2 : w3.cell? ⟨w.heap.size, 2, none⟩ = some (.slice A L.length cap) := Bw3.out.mesh.cell 2; have j3 : w3.cell? ⟨w.heap.size + 1, 0, none⟩ = some (.slice A2 P.length c2) := Bw3.out.table.cell 0; clear o6 b6)
          | (go_at_call 17; (with_reducible refine (lawsToTable A2 P.length c2 P _ (Bw3.out.at HP.out) hn2).mono ?_); rintro e w4 ⟨g7, rfl, o7, b7⟩; have Bw4 := Lib.hid (Bw3.out.bl b7); have O6b := Lib.hid (own_below O6.out b7); have O7 := Lib.hid o7; have k0 : w4.cell? ⟨w.heap.size, 0, none⟩ = some (.int .i64 W) := Bw4.out.mesh.cell 0; have k1 : w4.cell? ⟨w.heap.size, 1, none⟩ = some (.int .i64 H) := Bw4.out.mesh.cell 1; have k2 : w4.cell? ⟨w.heap.size, 2, none⟩ = some (.slice A L.length cap) := Bw4.out.mesh.cell 2; have k3 : w4.cell? ⟨w.heap.size + 1, 0, none⟩ = some (.slice A2 P.length c2) := Bw4.out.table.cell 0; clear o7 b7)
          | (go_at_call 57; (with_reducible refine (lawsToIntS A3 T.length c3 T _ (Bw4.out.at HQ.out) hn3).mono ?_); rintro e w4b ⟨g7t, rfl, o7t, b7t⟩; have Bw4b := Lib.hid (Bw4.out.bl b7t); have O6c := Lib.hid (own_below O6b.out b7t); have O7c := Lib.hid (own_below O7.out b7t); have O7t := Lib.hid o7t; have kk0 : w4b.cell? ⟨w.heap.size, 0, none⟩ = some (.int .i64 W) := Bw4b.out.mesh.cell 0; have kk1 : w4b.cell? ⟨w.heap.size, 1, none⟩ = some (.int .i64 H) := Bw4b.out.mesh.cell 1; have kk2 : w4b.cell? ⟨w.heap.size, 2, none⟩ = some (.slice A L.length cap) := Bw4b.out.mesh.cell 2; have kk3 : w4b.cell? ⟨w.heap.size + 1, 0, none⟩ = some (.slice A2 P.length c2) := Bw4b.out.table.cell 0; clear o7t b7t)
          | (go_at_call 56; (with_reducible refine ((fun w h h2 h3 => show Calls Try.prog 56 #[.agg #[.int .i64 W, .int .i64 H, .slice (some ⟨g6, 0, none⟩) L.length L.length], .agg #[.slice (some ⟨g7, 0, none⟩) P.length P.length], .slice (some ⟨g7t, 0, none⟩) T.length T.length] w (RetB res w) from hres ▸ specAllows W H (some ⟨g6, 0, none⟩) (some ⟨g7, 0, none⟩) (some ⟨g7t, 0, none⟩) L.length L.length P.length P.length T.length T.length L P T w h h2 h3 (by omega) (by omega) (by omega)) _ (intAt_own O6c.out rfl (Nat.le_refl _)) (intAt_own O7c.out rfl (Nat.le_refl _)) (intAt_own O7t.out rfl (Nat.le_refl _))).mono ?_); rintro e w5 ⟨rfl, hg5⟩; have Bw5 := Lib.hid (Bw4b.out.gb hg5); have l0 : w5.cell? ⟨w.heap.size, 0, none⟩ = some (.int .i64 W) := Bw5.out.mesh.cell 0; have l1 : w5.cell? ⟨w.heap.size, 1, none⟩ = some (.int .i64 H) := Bw5.out.mesh.cell 1; have l2 : w5.cell? ⟨w.heap.size, 2, none⟩ = some (.slice A L.length cap) := Bw5.out.mesh.cell 2; have l3 : w5.cell? ⟨w.heap.size + 1, 0, none⟩ = some (.slice A2 P.length c2) := Bw5.out.table.cell 0; clear hg5)
          | fail)
      all_goals
        go_wp2_with fail
        refine (lawsToMesh W H A L.length cap L _ (Bw5.out.at HI.out) hn).mono ?_
        rintro e w6 ⟨gm, rfl, o6x, b6x⟩
        have Bw6 := Lib.hid ((Bw5.out.bl b6x).gb (gb_alloc (gb_refl w6 _) (.cells #[.int .i64 W, .int .i64 H, .slice (some ⟨gm, 0, none⟩) L.length L.length] 34)))
        have OM6 := Lib.hid ((own_less o6x Bw5.out.le).alloc (.cells #[.int .i64 W, .int .i64 H, .slice (some ⟨gm, 0, none⟩) L.length L.length] 34))
        have KM6 := Lib.hid (Blk.new w6 34 #[.int .i64 W, .int .i64 H, .slice (some ⟨gm, 0, none⟩) L.length L.length])
        have c3 : (w6.alloc (.cells #[.int .i64 W, .int .i64 H, .slice (some ⟨gm, 0, none⟩) L.length L.length] 34)).cell? ⟨w.heap.size + 1, 0, none⟩ = some (.slice A2 P.length c2) := Bw6.out.table.cell 0
        obtain ⟨b0, hb0⟩ : ∃ b, w6.heap.size = b := ⟨_, rfl⟩
        have HB0 := Lib.hid hb0
        rw [hb0] at KM6
        clear o6x b6x l0 l1 l2 l3 hb0
        go_wp2_with fail
        refine (lawsToTable A2 P.length c2 P _ (Bw6.out.at HP.out) hn2).mono ?_
        rintro e w7 ⟨gp, rfl, o7x, b7x⟩
        have CW7 := Lib.hid (show LawC W H A A2 L.length cap P.length c2 L P w b0 w7.heap.size gm gp (w7.alloc (.cells #[.slice (some ⟨gp, 0, none⟩) P.length P.length] 36)) from
          ⟨(Bw6.out.bl b7x).gb (gb_alloc (gb_refl w7 _) _), (KM6.out.below b7x (by rw [← HB0.out]; simp)).alloc _, Blk.new w7 36 #[.slice (some ⟨gp, 0, none⟩) P.length P.length], (own_below OM6.out b7x).alloc _, (own_less o7x Bw6.out.le).alloc _⟩)
        have q0 : (w7.alloc (.cells #[.slice (some ⟨gp, 0, none⟩) P.length P.length] 36)).cell? ⟨b0, 0, none⟩ = some (.int .i64 W) := CW7.out.2.1.cell 0
        have q1 : (w7.alloc (.cells #[.slice (some ⟨gp, 0, none⟩) P.length P.length] 36)).cell? ⟨b0, 1, none⟩ = some (.int .i64 H) := CW7.out.2.1.cell 1
        have q2 : (w7.alloc (.cells #[.slice (some ⟨gp, 0, none⟩) P.length P.length] 36)).cell? ⟨b0, 2, none⟩ = some (.slice (some ⟨gm, 0, none⟩) L.length L.length) := CW7.out.2.1.cell 2
        clear o7x b7x c3
        (try rw [HB0.out])
        go_wp2_with fail
        obtain ⟨b1, hb1⟩ : ∃ b, w7.heap.size = b := ⟨_, rfl⟩
        rw [hb1] at CW7
        (try rw [hb1])
        clear hb1 q0 q1 q2
        refine (lawsToIntS A3 T.length c3 T _ (CW7.out.lb.at HQ.out) hn3).mono ?_
        rintro e w7t ⟨gt, rfl, ot, bt⟩
        have CW7t := Lib.hid (CW7.out.bl bt)
        have OT7 := Lib.hid ot
        have q0 : w7t.cell? ⟨b0, 0, none⟩ = some (.int .i64 W) := CW7t.out.2.1.cell 0
        have q1 : w7t.cell? ⟨b0, 1, none⟩ = some (.int .i64 H) := CW7t.out.2.1.cell 1
        have q2 : w7t.cell? ⟨b0, 2, none⟩ = some (.slice (some ⟨gm, 0, none⟩) L.length L.length) := CW7t.out.2.1.cell 2
        have q3 : w7t.cell? ⟨b1, 0, none⟩ = some (.slice (some ⟨gp, 0, none⟩) P.length P.length) := CW7t.out.2.2.1.cell 0
        clear ot bt
        go_wp2_with fail
        refine (implAllows W H (some ⟨gm, 0, none⟩) (some ⟨gp, 0, none⟩) (some ⟨gt, 0, none⟩) L.length L.length P.length P.length T.length T.length L P T HWF.out _ CW7t.out.atM CW7t.out.atP (intAt_own OT7.out rfl (Nat.le_refl _)) (by omega) (by omega) (by omega)).mono ?_
        rintro e w8 ⟨rfl, hg8⟩
        have Cw8 := Lib.hid (CW7t.out.gb hg8)
        have OT8 : Hid (w8.drew.ownsRow _ _ _ _ _ _) := (own_none OT7.out hg8 :)
        rw [hres]
        clear hg8 q0 q1 q2 q3
        go_wp2_with fail
        have d0 : w8.cell? ⟨w.heap.size, 0, none⟩ = some (.int .i64 W) := Cw8.out.1.mesh.cell 0
        have d1 : w8.cell? ⟨w.heap.size, 1, none⟩ = some (.int .i64 H) := Cw8.out.1.mesh.cell 1
        have d2 : w8.cell? ⟨w.heap.size, 2, none⟩ = some (.slice A L.length cap) := Cw8.out.1.mesh.cell 2
        have q0 : w8.cell? ⟨b0, 0, none⟩ = some (.int .i64 W) := Cw8.out.2.1.cell 0
        have q1 : w8.cell? ⟨b0, 1, none⟩ = some (.int .i64 H) := Cw8.out.2.1.cell 1
        have q2 : w8.cell? ⟨b0, 2, none⟩ = some (.slice (some ⟨gm, 0, none⟩) L.length L.length) := Cw8.out.2.1.cell 2
        have Cw8d := Lib.hid Cw8.out.dr
        go_region_held3 (fun w' => w'.cell? ⟨w.heap.size, 0, none⟩ = some (.int .i64 W) ∧ w'.cell? ⟨w.heap.size, 1, none⟩ = some (.int .i64 H) ∧ w'.cell? ⟨w.heap.size, 2, none⟩ = some (.slice A L.length cap) ∧ w'.cell? ⟨b0, 0, none⟩ = some (.int .i64 W) ∧ w'.cell? ⟨b0, 1, none⟩ = some (.int .i64 H) ∧ w'.cell? ⟨b0, 2, none⟩ = some (.slice (some ⟨gm, 0, none⟩) L.length L.length))
          (first | exact ⟨d0, d1, d2, q0, q1, q2⟩ | exact ⟨e0, e1, e2, r0, r1, r2⟩ | exact ⟨f0, f1, f2, s0, s1, s2⟩)
          (first
            | (go_at_call 16; (with_reducible refine (lawsToMesh W H A L.length cap L _ (Cw8d.out.lb.at HI.out) hn).mono ?_); rintro e w9 ⟨g9, rfl, o9, b9⟩; have Cw9 := Lib.hid (Cw8d.out.bl b9); have O9 := Lib.hid (intAt_own o9 rfl (Nat.le_refl _)); have e0 : w9.cell? ⟨w.heap.size, 0, none⟩ = some (.int .i64 W) := Cw9.out.1.mesh.cell 0; have e1 : w9.cell? ⟨w.heap.size, 1, none⟩ = some (.int .i64 H) := Cw9.out.1.mesh.cell 1; have e2 : w9.cell? ⟨w.heap.size, 2, none⟩ = some (.slice A L.length cap) := Cw9.out.1.mesh.cell 2; have r0 : w9.cell? ⟨b0, 0, none⟩ = some (.int .i64 W) := Cw9.out.2.1.cell 0; have r1 : w9.cell? ⟨b0, 1, none⟩ = some (.int .i64 H) := Cw9.out.2.1.cell 1; have r2 : w9.cell? ⟨b0, 2, none⟩ = some (.slice (some ⟨gm, 0, none⟩) L.length L.length) := Cw9.out.2.1.cell 2; have OT9 := Lib.hid (own_below OT8.out b9); clear o9 b9)
            | (go_at_call 19; (with_reducible refine (lawsEqMesh W H (some ⟨gm, 0, none⟩) (some ⟨g9, 0, none⟩) L.length L.length L.length _ _ L _ Cw9.out.atM O9.out (Nat.le_refl _) (Nat.le_refl _) (by omega)).mono ?_); rintro e w10 ⟨rfl, hgb⟩; have Cw10 := Lib.hid (Cw9.out.gb hgb); have f0 : w10.cell? ⟨w.heap.size, 0, none⟩ = some (.int .i64 W) := Cw10.out.1.mesh.cell 0; have f1 : w10.cell? ⟨w.heap.size, 1, none⟩ = some (.int .i64 H) := Cw10.out.1.mesh.cell 1; have f2 : w10.cell? ⟨w.heap.size, 2, none⟩ = some (.slice A L.length cap) := Cw10.out.1.mesh.cell 2; have s0 : w10.cell? ⟨b0, 0, none⟩ = some (.int .i64 W) := Cw10.out.2.1.cell 0; have s1 : w10.cell? ⟨b0, 1, none⟩ = some (.int .i64 H) := Cw10.out.2.1.cell 1; have s2 : w10.cell? ⟨b0, 2, none⟩ = some (.slice (some ⟨gm, 0, none⟩) L.length L.length) := Cw10.out.2.1.cell 2; have OT10 : Hid (w10.drew.ownsRow _ _ _ _ _ _) := (own_none OT9.out hgb :); clear hgb)
            | fail)
        all_goals
          go_wp2_with fail
          have g0 : w10.cell? ⟨w.heap.size + 1, 0, none⟩ = some (.slice A2 P.length c2) := Cw10.out.1.table.cell 0
          have g1 : w10.cell? ⟨b1, 0, none⟩ = some (.slice (some ⟨gp, 0, none⟩) P.length P.length) := Cw10.out.2.2.1.cell 0
          have Cw10d := Lib.hid Cw10.out.dr
          go_region_held3 (fun w' => w'.cell? ⟨w.heap.size + 1, 0, none⟩ = some (.slice A2 P.length c2) ∧ w'.cell? ⟨b1, 0, none⟩ = some (.slice (some ⟨gp, 0, none⟩) P.length P.length))
            (first | exact ⟨g0, g1⟩ | exact ⟨h0, h1⟩ | exact ⟨i0, i1⟩)
            (first
              | (go_at_call 17; (with_reducible refine (lawsToTable A2 P.length c2 P _ (Cw10d.out.lb.at HP.out) hn2).mono ?_); rintro e w11 ⟨g8, rfl, o8, b8⟩; have Cw11 := Lib.hid (Cw10d.out.bl b8); have O8 := Lib.hid (intAt_own o8 rfl (Nat.le_refl _)); have h0 : w11.cell? ⟨w.heap.size + 1, 0, none⟩ = some (.slice A2 P.length c2) := Cw11.out.1.table.cell 0; have h1 : w11.cell? ⟨b1, 0, none⟩ = some (.slice (some ⟨gp, 0, none⟩) P.length P.length) := Cw11.out.2.2.1.cell 0; have OT11 := Lib.hid (own_below OT10.out b8); clear o8 b8)
              | (go_at_call 20; (with_reducible refine (lawsEqTable (some ⟨gp, 0, none⟩) (some ⟨g8, 0, none⟩) P.length P.length P.length _ _ P _ Cw11.out.atP O8.out (Nat.le_refl _) (Nat.le_refl _) (by omega)).mono ?_); rintro e w12 ⟨rfl, hgb⟩; have Cw12 := Lib.hid (Cw11.out.gb hgb); have i0 : w12.cell? ⟨w.heap.size + 1, 0, none⟩ = some (.slice A2 P.length c2) := Cw12.out.1.table.cell 0; have i1 : w12.cell? ⟨b1, 0, none⟩ = some (.slice (some ⟨gp, 0, none⟩) P.length P.length) := Cw12.out.2.2.1.cell 0; have OT12 := Lib.hid (own_none OT11.out hgb); clear hgb)
              | fail)
          all_goals
            go_wp2_with fail
            refine (lawsToIntS A3 T.length c3 T _ (Cw12.out.lb.at HQ.out) hn3).mono ?_
            rintro e w13 ⟨g10, rfl, o10, b10⟩
            have Bw13 := Lib.hid (Cw12.out.lb.bl b10)
            have OT13 := Lib.hid (own_below OT12.out b10)
            have O13 := Lib.hid o10
            clear o10 b10
            go_wp2_with fail
            refine (lawsEqOwn _ _ _ _ T _ OT13.out O13.out (by omega)).mono ?_
            rintro e w14 ⟨rfl, hg14⟩
            have Bw14 := Lib.hid (Bw13.out.gb hg14)
            clear hg14
            go_wp2_with fail
            go_ret
            exact ⟨rfl, Bw14.out.old⟩
end Go.Proofs.Ytecaehkckamhkaa
end

section
namespace Go.Proofs.Ytecaehkckamhkaa
open Go.ChangeShapes Go.WideShapes Go.ChangeAt Go.RowKit
set_option linter.unusedVariables false

section
variable {H : Type} {enc : TypeId × Value → H} {w : World} {spare : Nat → Bool} {held : Bool} {base fuel : Nat}

theorem intAt_of (x : Addr) (l : Nat) (zs : List Int) (hl : l ≤ zs.length) (hcell : ∀ i, i < zs.length → w.cell? (x.add i) = some (.int .i64 (zs.getD i 0))) :
    IntAt w w.heap.size (some x) l (zs.take l) := ⟨by simp; omega, fun hn => by
  obtain ⟨b, off, spot⟩ := x
  have hc := hcell 0 (by omega)
  have hspot : spot = none := by simpa [Addr.add] using World.cell?_spot hc
  subst hspot
  have hlt : b < w.heap.size := by simpa [Addr.add] using World.block_lt_of_cell? _ _ hc
  refine ⟨b, off, rfl, hlt, fun k y hy => ?_⟩
  have hkl : k < l := by
    rcases Nat.lt_or_ge k l with h1 | h1
    · exact h1
    · rw [List.getElem?_eq_none (by simp; omega)] at hy; cases hy
  rw [List.getElem?_take_of_lt hkl] at hy
  have h2 := hcell k (by omega)
  rw [List.getD_eq_getElem?_getD, hy] at h2
  simpa [Addr.add_lit] using h2⟩

/-- A cell that reads as a slice of integers. -/
theorem open_intS {cs : List Value} {y : DataW H × List MemPlace} (hf : DataW.trod enc Try.prog w base spare held fuel 24 cs = some y) :
    ∃ (A : Option Addr) (n cap : Nat) (L : List Int), cs = [.slice A n cap] ∧ n ≤ cap ∧ cap ≤ maxLen ∧ IntAt w w.heap.size A n L ∧ ∀ x ∈ L, (Lit.int .i64 x).wf = true := by
  rcases open_ints Try.underlying24 Try.underlying3 (by kernel_rfl) hf with ⟨hcs, _⟩ | ⟨x, l, c, zs, hcs, _, hl, hm, hz, _, hcell, hwz⟩
  · exact ⟨none, 0, 0, [], hcs, Nat.le_refl _, Nat.zero_le _, IntAt.nil _ _ _, fun x h => by cases h⟩
  · refine ⟨some x, l, c, zs.take l, hcs, hl, hm, intAt_of x l zs (by rw [hz]; split <;> omega) hcell, fun y hy => hwz y (List.mem_of_mem_take hy)⟩
end
end Go.Proofs.Ytecaehkckamhkaa
end

section
namespace Go.Proofs.Ytecaehkckamhkaa
open Go.ChangeShapes Go.WideShapes Go.ChangeAt Go.RowKit
set_option linter.unusedVariables false
set_option maxRecDepth 20000

section
variable {H : Type} {enc : TypeId × Value → H} {w : World} {spare : Nat → Bool} {held : Bool} {base : Nat}
theorem open_table {r : Reach} {b0 : Nat} {v : Value} {d : DataW H} {p : List MemPlace}
    (hv : Value.okWide Try.prog w r b0 28 v) (h : DataW.Trod enc Try.prog w base spare held 28 v d p) :
    ∃ (A : Option Addr) (n cap : Nat) (P : List Int), v = .agg #[.slice A n cap] ∧ n ≤ cap ∧ cap ≤ maxLen ∧ IntAt w w.heap.size A n P ∧ ∀ x ∈ P, (Lit.int .i64 x).wf = true := by
  obtain ⟨cs, rfl, hsz⟩ := okWide_struct Try.underlying28 hv
  have hC : Try.prog.cellsOf 28 = 1 := by kernel_rfl
  have hS : Try.prog.cellsOf 24 = 1 := by kernel_rfl
  obtain ⟨c0, rfl⟩ : ∃ c, cs = #[c] := by
    obtain ⟨l⟩ := cs
    have h1 : l.length = 1 := hsz.trans hC
    obtain ⟨c, rfl⟩ := List.length_eq_one_iff.1 h1
    exact ⟨c, rfl⟩
  obtain ⟨fuel, hf⟩ := h
  obtain ⟨y0, n, hx, _, h0⟩ := trod_struct1 Try.underlying28 hf
  simp [Value.cells, hS] at h0
  obtain ⟨A, l, cap, P, e2, i1, i2, i3, i4⟩ := open_intS h0
  simp at e2
  subst e2
  exact ⟨A, l, cap, P, rfl, i1, i2, i3, i4⟩
end
end Go.Proofs.Ytecaehkckamhkaa
end

section
namespace Go.Proofs.Ytecaehkckamhkaa
open Go.ChangeShapes Go.WideShapes Go.ChangeAt Go.RowKit
set_option linter.unusedVariables false

section
variable {H : Type} {enc : TypeId × Value → H} {w : World} {spare : Nat → Bool} {held : Bool} {base fuel : Nat}
set_option maxRecDepth 100000 in
theorem open_mesh {r : Reach} {b0 : Nat} {v : Value} {d : DataW H} {p : List MemPlace}
    (hv : Value.okWide Try.prog w r b0 26 v) (h : DataW.Trod enc Try.prog w base spare held 26 v d p) :
    ∃ (W Hh : Int) (A : Option Addr) (n cap : Nat) (L : List Int), v = .agg #[.int .i64 W, .int .i64 Hh, .slice A n cap] ∧ (Lit.int .i64 W).wf = true ∧ (Lit.int .i64 Hh).wf = true ∧ n ≤ cap ∧ cap ≤ maxLen ∧ IntAt w w.heap.size A n L ∧ ∀ x ∈ L, (Lit.int .i64 x).wf = true := by
  obtain ⟨cs, rfl, hsz⟩ := okWide_struct Try.underlying26 hv
  have hC : Try.prog.cellsOf 26 = 3 := by kernel_rfl
  have hG : Try.prog.cellsOf 23 = 2 := by kernel_rfl
  have hS : Try.prog.cellsOf 24 = 1 := by kernel_rfl
  have hI : Try.prog.cellsOf 3 = 1 := by kernel_rfl
  obtain ⟨c0, c1, c2, rfl⟩ := Go.Joins.array3 (hsz.trans hC)
  obtain ⟨fuel, hf⟩ := h
  obtain ⟨y0, y1, n, hx, _, h0, h1⟩ := trod_struct2 Try.underlying26 hf
  obtain ⟨z0, z1, m, _, _, g0, g1⟩ := trod_struct2 Try.underlying23 h0
  simp [Value.cells, hG, hS, hI] at h1 g0 g1
  obtain ⟨W, e0, _, w0⟩ := DataW.trod_int Try.underlying3 g0
  obtain ⟨Hh, e1, _, w1⟩ := DataW.trod_int Try.underlying3 g1
  obtain ⟨A, l, cap, L, e2, i1, i2, i3, i4⟩ := open_intS h1
  simp at e0 e1 e2
  subst e0 e1 e2
  exact ⟨W, Hh, A, l, cap, L, rfl, w0, w1, i1, i2, i3, i4⟩
end
end Go.Proofs.Ytecaehkckamhkaa
end

section
namespace Go.Proofs.Ytecaehkckamhkaa.fnExactAllowsTurns
open Go.ChangeShapes Go.WideShapes Go.ChangeAt Go.RowKit
open Go.ChangeMaps (open_string shut_string)
set_option linter.unusedVariables false

theorem own : ownKnob Try.prog.godebug = none := by kernel_rfl
theorem laidOut : laidOutB Try.prog = true := by kernel_rfl

set_option maxRecDepth 100000 in
theorem lifted (os : Os) (started : os.Started) (H : Type) (enc : TypeId × Value → H) :
    ReturnsInHanded {} Try.checked os 12 .any (Rows.fnExactAllowsTurnsSpec.pre6 enc Try.prog Try.f12 Rows.fnExactAllowsTurnsRow.domain false) (Rows.fnExactAllowsTurnsSpec.post enc Try.prog Try.f12 false true false false) := by
  refine returnsInHanded_of_change (C := Try.checked) own started (by kernel_rfl) Try.func12
    (ChangeSpec.witness6 (enc := enc) (C := Try.checked) false ⟨#[], #[.agg #[.int .i64 0, .int .i64 0, .slice none 0 0], .agg #[.slice none 0 0], .slice none 0 0], []⟩ 8 (by kernel_rfl) (by kernel_rfl) (by kernel_rfl) (by kernel_rfl)) ?_
  intro W base args ds gs before hval0 hW hcnd _
  have hval : ∀ (j : Nat) t v, Try.f12.params[j]? = some t → args[j]? = some v → Value.okWide Try.prog W .any base t v := hval0
  have hW' := hW
  obtain ⟨p, q, hA0, hV, rfl, hfz, hnd⟩ := hW
  have hA : DataW.TrodAll enc Try.prog W 0 (fun _ => true) true Try.f12.params.toList args.toList ds p := hA0
  rw [Try.params12] at hA hval
  obtain ⟨v0, vs0, d0, ds0, p0, q0, hargs, rfl, rfl, h0, r0⟩ := trodAll_cons hA
  obtain ⟨v1, vs1, d1, ds1, p1, q1, rfl, rfl, rfl, h1, r1⟩ := trodAll_cons r0
  obtain ⟨v2, vs2, d2, ds2, p2, q2, rfl, rfl, rfl, h2, r2⟩ := trodAll_cons r1
  obtain ⟨rfl, rfl, rfl⟩ := trodAll_nil r2
  obtain rfl : args = #[v0, v1, v2] := by cases args; simp_all
  obtain ⟨rfl, rfl⟩ := trodVars_none hV
  have k0 := h0
  have lt0 : ∀ x ∈ p0, x.block < W.heap.size := by obtain ⟨m, hm⟩ := k0; exact DataW.trod_lt m _ _ _ hm
  obtain ⟨a0w, a0h, a0A, a0n, a0c, a0L, rfl, w0w, w0h, w0n, w0c, w0i, w0l⟩ := open_mesh (hval 0 26 v0 rfl rfl) h0
  have k1 := h1
  have lt1 : ∀ x ∈ p1, x.block < W.heap.size := by obtain ⟨m, hm⟩ := k1; exact DataW.trod_lt m _ _ _ hm
  obtain ⟨a1A, a1n, a1c, a1L, rfl, w1n, w1c, w1i, w1l⟩ := open_table (hval 1 28 v1 rfl rfl) h1
  have k2 := h2
  have lt2 : ∀ x ∈ p2, x.block < W.heap.size := by obtain ⟨m, hm⟩ := k2; exact DataW.trod_lt m _ _ _ hm
  obtain ⟨a2A, a2n, a2c, rfl⟩ := okWide_slice Try.underlying24 (hval 2 24 v2 rfl rfl)
  have b2 := h2
  obtain ⟨fuel2, hf2⟩ := b2
  obtain ⟨x2A, x2n, x2c, a2L, hcs2, w2n, w2c, w2i, w2l⟩ := open_intS hf2
  simp [Value.cells] at hcs2
  obtain ⟨rfl, rfl, rfl⟩ := hcs2
  clear hA0 hval0
  refine (walk_FnExactAllowsTurns a0w a0h a0A a0n a0c a0L a1A a1n a1c a1L a2A a2n a2c a2L W w0w w0h w0n w0c w0i w0l w1n w1c w1i w1l w2n w2c w2i w2l).mono fun e W' ⟨he, bel⟩ => ?_
  subst he
  exact ⟨_, rfl, _, _, _, [], _, [], hW', trodAll_mk1 (shut_bool Try.underlying4 _), (trodAll_cons_mk (Below.trod laidOut (by kernel_rfl) (of_decide_eq_true (by kernel_rfl)) k0 bel lt0) (trodAll_cons_mk (Below.trod laidOut (by kernel_rfl) (of_decide_eq_true (by kernel_rfl)) k1 bel lt1) (trodAll_cons_mk (Below.trod laidOut (by kernel_rfl) (of_decide_eq_true (by kernel_rfl)) k2 bel lt2) trodAll_mk0))), rfl, bel.frame _, fun h => by cases h⟩

theorem over : Rows.fnExactAllowsTurnsRow.holds Try.pinned (OpenSpec.ofChange Rows.fnExactAllowsTurnsSpec) :=
  OpenClaim.holds_of_wide 12 Try.f12 rfl rfl rfl rfl rfl rfl rfl ⟨rfl, rfl, rfl, rfl, rfl⟩ rfl rfl rfl rfl rfl (by kernel_rfl) Try.func12 (by kernel_rfl)
    (of_decide_eq_true (by kernel_rfl)) (by unfold Func.isWrapper; first | (rw [if_pos (by decide +kernel)]; kernel_rfl) | (rw [if_neg (by decide +kernel)]; exact ⟨rfl, rfl⟩))
    (fun os started H enc _ => lifted os started H enc)

theorem proved : Rows.FnExactAllowsTurnsSaid := over
#print axioms proved
end Go.Proofs.Ytecaehkckamhkaa.fnExactAllowsTurns
end
