/- What is proved here: the program's shortest way from a channel back to it; only new blocks are written. -/
import Derived.Test.YtnielgpcfgfioaaQueM
import Derived.Test.YtnielgpcfgfioaaSuccI
import Derived.Test.YtnielgpcfgfioaaRk
import Derived.Test.YtnielgpcfgfioaaDpR
namespace Go.Proofs.Ytnielgpcfgfioaa
open Go.ChangeShapes Go.WideShapes Go.ChangeAt Go.RowKit
set_option linter.unusedVariables false
set_option maxRecDepth 20000

theorem find_atI {p : Int → Bool} : ∀ {l : List Int} {k : Nat}, k < l.length → p (l.getD k 0) = true → (∀ j, j < k → p (l.getD j 0) = false) → l.find? p = some (l.getD k 0)
  | [], k, h, _, _ => by simp at h
  | x :: l, 0, _, h, _ => by
    have h' : p x = true := h
    rw [List.find?_cons, h']
    rfl
  | x :: l, k + 1, hk, h, hn => by
    have h0 : p x = false := hn 0 (by omega)
    rw [List.find?_cons, h0]
    have := find_atI (l := l) (k := k) (by simpa using hk) (by simpa using h) (fun j hj => by have := hn (j + 1) (by omega); simpa using this)
    simpa using this
theorem getD_memI0 {L : List Int} {k : Nat} (h : k < L.length) : L.getD k 0 ∈ L := by
  rw [List.getD_eq_getElem?_getD, List.getElem?_eq_getElem h]
  exact List.getElem_mem h
/-- The first i channels of the way. -/
def wayN (D : List Dep) (st b i : Nat) : List Int := (List.range i).map fun j => (atP D st b j : Int)
theorem wayN_len (D : List Dep) (st b i : Nat) : (wayN D st b i).length = i := by simp [wayN]
theorem wayN_all (D : List Dep) (st b : Nat) : wayN D st b b = cycP D st b := rfl
theorem wayN_next (D : List Dep) (st b i : Nat) : wayN D st b (i + 1) = wayN D st b i ++ [(atP D st b i : Int)] := cyc_next D st b i
/-- The successor that the program finds is the next one. -/
theorem way_hit {D : List Dep} (hD : okD D = true) {st b i k t : Nat} (hb : distD D st st = b) (hi : i + 1 < b) (hk : k < (succD D (atP D st b i : Int)).length) (ht : (succD D (atP D st b i : Int)).getD k 0 = (t : Int))
    (h : (toL D st).getD t 0 = ((b - 1 - i : Nat) : Int)) (hn : ∀ j, j < k → (toL D st).getD ((succD D (atP D st b i : Int)).getD j 0).toNat 0 ≠ ((b - 1 - i : Nat) : Int)) : atP D st b (i + 1) = t := by
  have h1 := nextW_is hD (st := st) (b := b) (left := b - 1 - i) (u := atP D st b i) hb (by omega) (by omega)
  have h2 : atP D st b (i + 1) = nextP D st (b - 1 - i) (atP D st b i) := by
    show nextP D st (b - i - 1) (atP D st b i) = _
    rw [show b - i - 1 = b - 1 - i by omega]
  rw [h2, ← h1]
  unfold nextW
  rw [find_atI (k := k) hk (by rw [ht, Int.toNat_natCast]; exact decide_eq_true h) (fun j hj => decide_eq_false (hn j hj)), ht]
  exact Int.toNat_natCast t
/-- There is one. -/
theorem way_found {D : List Dep} (hD : okD D = true) {st b i : Nat} (hst : st < 128) (hb : distD D st st = b) (hi : i + 1 < b) (hn : ∀ j, j < (succD D (atP D st b i : Int)).length → (toL D st).getD ((succD D (atP D st b i : Int)).getD j 0).toNat 0 ≠ ((b - 1 - i : Nat) : Int)) : False := by
  have h1 := path_dist hD hb (i := i + 1) hi
  have h2 := edge_succ.1 (path_edge hD hb (i := i) (by omega))
  obtain ⟨k, hk, e⟩ := List.getElem_of_mem h2
  have h3 := hn k hk
  have e2 : (succD D (atP D st b i : Int)).getD k 0 = (atP D st b (i + 1) : Int) := by rw [List.getD_eq_getElem?_getD, List.getElem?_eq_getElem hk, e]; rfl
  rw [e2, Int.toNat_natCast, toL_at (path_lt hD hb hi), h1, if_neg (by omega)] at h3
  exact h3 (by omega)
/-- The way so far. -/
def WyAt (w : World) (D : List Dep) (st b i : Nat) (v : Value) (wr : World) : Prop := wr.ownsRow w.heap.size 3 1 v i (intsV (wayN D st b i)) ∧ Below w.heap.size w wr
theorem WyAt.below {w wr w' : World} {D : List Dep} {st b i : Nat} {v : Value} (h : WyAt w D st b i v wr) (hb : Below wr.heap.size wr w') : WyAt w D st b i v w' :=
  ⟨own_none h.1 (gb_of_below hb none), below_gb h.2 (Nat.le_refl _) (gb_of_below hb none)⟩

set_option maxHeartbeats 1600000 in
theorem implWayBack (A AX : Option Addr) (n cap cX : Nat) (D : List Dep) (st b : Nat) (hst : st < 128) (hok : okD D = true) (hb : distD D st st = b) (hb1 : 1 ≤ b) (w : World) (h : DepAt w w.heap.size A n D) (hX : IntAt w w.heap.size AX 128 (toL D st)) (hn : n ≤ 1000000000) :
    Calls Try.prog 50 #[.slice A n cap, .slice AX 128 cX, .int .i64 (st : Int)] w (NewI (cycP D st b) w) := by
  obtain ⟨i0, hi, hz0, hz1, hz2⟩ := info_parts info_int
  obtain ⟨bX, oX, rfl, hbX, cX0⟩ := hX.at st (by omega)
  have hb128 : b ≤ 128 := hb ▸ dist_le hok st st
  rw [toL_at hst, hb, if_neg (by omega)] at cX0
  have HI := Lib.hid h
  have HX := Lib.hid (hX : IntAt w w.heap.size (some ⟨bX, oX, none⟩) 128 (toL D st))
  have HOK := Lib.hid hok
  have HBB := Lib.hid hb
  have HSU := Lib.hid (fun (c : Int) w h => implSuccessors A n cap D c w h (by omega))
  have hl := h.1
  have HSL := Lib.hid (fun x => (show (succD D x).length ≤ n from hl ▸ succ_length D x))
  have X0 := Lib.hid (show WyAt w D st b 1 (.slice (some ⟨w.heap.size, 0, none⟩) 1 1) (w.alloc (.cells #[.int .i64 (st : Int)] 3)) from
    ⟨World.ownsRow_lit (base := w.heap.size) (e := 3) (size := 1) w #[.int .i64 (st : Int)] 1 (Nat.le_refl _) (by decide) rfl, (Below.refl _ _).alloc (Nat.le_refl _) _⟩)
  have hbw : IntKind.i64.wrap ((b : Int) - 1) = ((b - 1 : Nat) : Int) := by rw [IntWalk.i64_in _ (by omega)]; omega
  have s0 : (0 : Int) ≤ (st : Int) := by omega
  have s1 : (st : Int) < 128 := by omega
  clear h hX hok hb hl
  go_enter Try.func50, Try.ntmps50
  go_wp2_with fail
  go_loopw [7, 8, 9] (fun v c l wr => ∃ i : Nat, i + 1 ≤ b ∧ c = .int .i64 (atP D st b i : Int) ∧ l = .int .i64 ((b - 1 - i : Nat) : Int) ∧ WyAt w D st b (i + 1) v wr) (fun _ _ l _ => (intOf l).toNat)
  case atStart => exact ⟨0, hb1, rfl, rfl, X0.out⟩
  case round =>
    obtain ⟨i, hib, rfl, rfl, hx⟩ := hrel
    have X1 := Lib.hid hx
    obtain ⟨Aw, cw, rfl, _⟩ := own_form hx.1
    clear hx
    by_cases hlt : i + 1 < b
    · obtain ⟨lf, hlf⟩ : ∃ lf, b - 1 - i = lf := ⟨_, rfl⟩
      have hl0 : (0 : Int) < (lf : Int) := by omega
      obtain ⟨u, hu⟩ : ∃ u, atP D st b i = u := ⟨_, rfl⟩
      have HU := Lib.hid hu
      have HLF := Lib.hid hlf
      have HLT := Lib.hid hlt
      rw [hlf, hu]
      clear hlf hu hlt
      go_wp2_with fail
      refine (HSU.out (u : Int) _ ((HI.out.below X1.out.2).more X1.out.2.size)).mono ?_
      rintro e w2 ⟨v2, rfl, o2, b2⟩
      have X2 := Lib.hid (X1.out.below b2)
      obtain ⟨S, hS⟩ : ∃ S, succD D (u : Int) = S := ⟨_, rfl⟩
      have HS := Lib.hid hS
      rw [hS] at o2
      obtain ⟨m, hm⟩ : ∃ m, S.length = m := ⟨_, rfl⟩
      have HM := Lib.hid hm
      rw [hm] at o2
      obtain ⟨As, cs, rfl, _⟩ := own_form o2
      have HSI := Lib.hid (intAt_own o2 hm (Nat.le_refl _))
      have hmn : m ≤ n := by rw [← hm, ← hS]; exact HSL.out (u : Int)
      clear o2 b2 hS hm
      go_wp2_with fail
      go_loop [28] (fun j => ∃ k : Nat, j = .int .i64 (k : Int) ∧ k ≤ m ∧ ∀ j, j < k → (toL D st).getD (S.getD j 0).toNat 0 ≠ (lf : Int)) (fun j => m - (intOf j).toNat)
      case atStart => exact ⟨0, rfl, Nat.zero_le _, fun j hj => by omega⟩
      case round =>
        obtain ⟨k, rfl, hk, hne⟩ := hrel
        have HNE := Lib.hid hne
        clear hne
        by_cases hlt : k < m
        · have hkS : k < S.length := by have := HM.out; omega
          obtain ⟨b1, off, rfl, hb1', c0⟩ := HSI.out.at k hlt
          have hin := succ_in HOK.out (c := (u : Int)) (x := S.getD k 0) (by rw [HS.out]; exact getD_memI0 hkS)
          obtain ⟨t, ht⟩ : ∃ t : Nat, S.getD k 0 = (t : Int) := ⟨(S.getD k 0).toNat, by omega⟩
          rw [ht] at c0 hin
          have ht128 : t < 128 := by omega
          obtain ⟨bx, ox, ex, _, c1⟩ := (HX.out.none (Nat.le_refl _) (gb_of_below X2.out.2 none)).at t ht128
          injection ex with ex
          injection ex with ex1 ex2
          subst ex1 ex2
          obtain ⟨y, hy⟩ : ∃ y, (toL D st).getD t 0 = y := ⟨_, rfl⟩
          rw [hy] at c1
          have HY := Lib.hid hy
          have HT := Lib.hid ht
          have k0 : (0 : Int) ≤ (k : Int) := by omega
          have k1 : (k : Int) < (m : Int) := by omega
          have t0 : (0 : Int) ≤ (t : Int) := by omega
          have t1 : (t : Int) < 128 := by omega
          have HLK := Lib.hid hlt
          have HKS := Lib.hid hkS
          clear hin ht hy ht128 hlt hkS
          by_cases hyl : y = (lf : Int)
          · have HA := Lib.hid (show atP D st b (i + 1) = t from way_hit HOK.out HBB.out HLT.out (by rw [HU.out, HS.out]; exact HKS.out) (by rw [HU.out, HS.out]; exact HT.out) (by rw [HY.out, HLF.out]; exact hyl) (by rw [HU.out, HS.out, HLF.out]; exact HNE.out))
            subst hyl
            have hnb := Lib.hid (World.news_of_block (w := w2.alloc (.cells #[.int .i64 (t : Int)] 3)) (B := w2.heap.size) (cs := #[.int .i64 (t : Int)]) (t := 3) (fr := (0, 0)) (heap_alloc_new w2 _))
            have b3 := Lib.hid (show ∀ u ∈ [Value.int .i64 (t : Int)], u.oneCell' = true by simp [Value.oneCell'])
            have b4 := Lib.hid (show i + 1 + 1 ≤ maxLen by unfold maxLen; omega)
            have b5 := Lib.hid (show (i + 1 + 1) * 8 ≤ 140737488355328 by omega)
            have b6 := Lib.hid (show w.heap.size ≤ (w2.alloc (.cells #[.int .i64 (t : Int)] 3)).heap.size by have := X2.out.2.size; rw [alloc_size]; omega)
            have hlw : IntKind.i64.wrap ((lf : Int) - 1) = ((lf - 1 : Nat) : Int) := by have := HLF.out; rw [IntWalk.i64_in _ (by omega)]; omega
            go_wp2_with (at_builtin; refine wpList_append_own _ rfl _ _ 24 rfl w.heap.size 3 i0 (.int .i64 0) 1 8 Try.underlying24 hi hz0 hz1 hz2 rfl (by decide) _ (i + 1) _ rfl (X2.out.1.alloc _) ⟨w2.heap.size, 0, none⟩ 1 1 [.int .i64 (t : Int)] rfl rfl hnb.out b3.out b4.out b5.out b6.out ?_; intro v' w4 hown4 hgrow4 _)
            have X4 := Lib.hid (show WyAt w D st b (i + 1 + 1) v' w4 from by
              refine ⟨by rw [wayN_next, HA.out, intsV_append]; exact hown4, ?_⟩
              exact (X2.out.2.alloc (by have := X2.out.2.size; omega) _).grown hgrow4 b6.out (fun j hj => (X2.out.1.lt j hj).1))
            clear hown4 hgrow4 c0 c1
            go_wp2_with fail
            go_roundw
            case rel => exact ⟨i + 1, by have := HLT.out; omega, by rw [HA.out], by have := HLF.out; go_num, X4.out⟩
            case measure => have := HLF.out; simp [intOf]; omega
          · have hyb : (y == (lf : Int)) = false := by simpa using hyl
            have HYL := Lib.hid hyl
            clear hyl
            go_wp2_with fail
            go_round
            case rel => exact ⟨k + 1, by go_num, by have := HLK.out; omega, fun j hj => by
              rcases Nat.lt_succ_iff_lt_or_eq.1 hj with h1 | rfl
              · exact HNE.out j h1
              · rw [HT.out, Int.toNat_natCast, HY.out]; exact HYL.out⟩
            case measure => have := HLK.out; simp [intOf]; omega
        · obtain rfl : k = m := by omega
          have hF := way_found HOK.out hst HBB.out HLT.out (by rw [HU.out, HS.out, HLF.out]; intro j hj; exact HNE.out j (by rw [HM.out] at hj; exact hj))
          exact hF.elim
    · obtain rfl : b = i + 1 := by omega
      have e0 : i + 1 - 1 - i = 0 := by omega
      rw [e0]
      go_wp2_with fail
      go_ret
      exact ⟨_, rfl, by rw [cyc_len]; exact X1.out.1, X1.out.2⟩
end Go.Proofs.Ytnielgpcfgfioaa
