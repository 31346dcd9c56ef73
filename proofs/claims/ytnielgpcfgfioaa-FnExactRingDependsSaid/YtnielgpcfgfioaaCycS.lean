/- What is proved here: what the model's ShortestCycle and HasCycle return, for all arguments; only new blocks are written. -/
import Derived.Test.YtnielgpcfgfioaaDeepS
namespace Go.Proofs.Ytnielgpcfgfioaa
open Go.ChangeShapes Go.WideShapes Go.ChangeAt Go.RowKit
set_option linter.unusedVariables false
set_option maxRecDepth 20000

theorem find_at {p : Int → Bool} : ∀ {L : List Int} {k : Nat}, k < L.length → (∀ j, j < k → p (L.getD j 0) = false) → p (L.getD k 0) = true → L.find? p = some (L.getD k 0)
  | [], k, h, _, _ => by simp at h
  | x :: L, 0, h, _, h2 => by
    have : p x = true := h2
    simp [this]
  | x :: L, k + 1, h, h1, h2 => by
    have h0 : p x = false := h1 0 (by omega)
    have := find_at (L := L) (k := k) (by simpa using h) (fun j hj => h1 (j + 1) (by omega)) h2
    simp [h0, this]
theorem next_hit {D : List Dep} {st left u k t : Nat} (hk : k < (succD D (u : Int)).length) (h : ∀ j, j < k → candP D st left ((succD D (u : Int)).getD j 0) = false) (ht : (succD D (u : Int)).getD k 0 = (t : Int)) (hc : candP D st left (t : Int) = true) : nextP D st left u = t := by
  unfold nextP
  rw [find_at hk h (by rw [ht]; exact hc), ht]
  rfl
theorem next_miss {D : List Dep} {st left u : Nat} (h : ∀ j, j < (succD D (u : Int)).length → candP D st left ((succD D (u : Int)).getD j 0) = false) : nextP D st left u = u := by
  unfold nextP
  have : (succD D (u : Int)).find? (candP D st left) = none := List.find?_eq_none.2 fun x hx => by
    obtain ⟨j, hj, e⟩ := List.getElem_of_mem hx
    have := h j hj
    rw [List.getD_eq_getElem?_getD, List.getElem?_eq_getElem hj, Option.getD_some, e] at this
    rw [this]; simp
  rw [this]
theorem cand_zero {D : List Dep} {st t : Nat} : candP D st 0 (t : Int) = decide (t = st) := by
  unfold candP
  rw [if_pos rfl]
  exact decide_eq_decide.2 (by omega)
theorem cand_same {D : List Dep} {st left : Nat} (h : 0 < left) : candP D st left (st : Int) = false := by
  unfold candP
  rw [if_neg (by omega)]
  simp
theorem cand_far {D : List Dep} {st left t : Nat} (h : 0 < left) (hne : t ≠ st) : candP D st left (t : Int) = decide (distD D t st = left) := by
  unfold candP
  rw [if_neg (by omega), Int.toNat_natCast]
  have : (t : Int) ≠ (st : Int) := by omega
  simp [this]
theorem no_succ {D : List Dep} (hD : okD D = true) {c : Nat} (h : succD D (c : Int) = []) : distD D c c = 0 := by
  rcases dist_is hD c c with ⟨h1, _⟩ | ⟨h1, h2⟩
  · exact h1
  · obtain ⟨m, hm⟩ : ∃ m, distD D c c = m + 1 := ⟨distD D c c - 1, by omega⟩
    have h3 := h2.1
    rw [hm] at h3
    obtain ⟨s, h4, _⟩ := way_head hD h3
    rw [edge_succ, h] at h4
    cases h4
def cycN (D : List Dep) (st b i : Nat) : List Int := (List.range i).map fun i => (atP D st b i : Int)
theorem cycN_next (D : List Dep) (st b i : Nat) : cycN D st b (i + 1) = cycN D st b i ++ [(atP D st b i : Int)] := by simp [cycN, List.range_succ]
theorem cycN_len (D : List Dep) (st b i : Nat) : (cycN D st b i).length = i := by simp [cycN]
/-- The list that is built, and the successors. -/
structure CyR (w : World) (vo : Value) (O : List Int) (vs : Value) (S : List Int) (wr : World) : Prop where
  ro : wr.ownsRow w.heap.size 3 1 vo O.length (intsV O)
  rs : wr.ownsRow w.heap.size 3 1 vs S.length (intsV S)
  lb : Below w.heap.size w wr
section
variable {w wr w' : World} {vo vs v : Value} {O S L : List Int}
theorem CyR.gb (h : CyR w vo O vs S wr) (hg : wr.grownBy w' none) : CyR w vo O vs S w' := ⟨own_none h.ro hg, own_none h.rs hg, below_gb h.lb (Nat.le_refl _) hg⟩
theorem CyR.bl (h : CyR w vo O vs S wr) (hb : Below wr.heap.size wr w') : CyR w vo O vs S w' := h.gb (gb_of_below hb none)
theorem CyR.succ (h : CyR w vo O vs S wr) (ho : w'.ownsRow wr.heap.size 3 1 v L.length (intsV L)) (hb : Below wr.heap.size wr w') : CyR w vo O v L w' := by
  have k := h.bl hb
  exact ⟨k.ro, own_less ho h.lb.size, k.lb⟩
theorem CyR.drop (h : CyR w vo O vs S wr) : CyR w vo O (.slice none 0 0) [] wr := ⟨h.ro, World.ownsRow_nil _ _ _ _, h.lb⟩
theorem CyR.app {o : Obj} {x : Int} (h : CyR w vo O vs S wr) (ho : w'.ownsRow w.heap.size 3 1 v (O.length + 1) (intsV O ++ [.int .i64 x])) (hg : (wr.alloc o).grownBy w' vo.ownBlock) : CyR w v (O ++ [x]) (.slice none 0 0) [] w' :=
  ⟨by rw [List.length_append, intsV_append]; exact ho, World.ownsRow_nil _ _ _ _, (h.lb.alloc h.lb.size o).grown hg (by rw [alloc_size]; have := h.lb.size; omega) (fun j e => (h.ro.lt j e).1)⟩
end
set_option maxHeartbeats 6400000 in
theorem specShortest (A : Option Addr) (n cap : Nat) (D : List Dep) (w : World) (h : DepAt w w.heap.size A n D) (hn : n ≤ 1000000000) :
    Calls Try.prog 46 #[.slice A n cap] w (NewI (cycG D) w) := by
  obtain ⟨i0, hi, hz0, hz1, hz2⟩ := info_parts info_int
  have HI := Lib.hid h
  have hl := h.1
  have X0 := Lib.hid (show CyR w (.slice (some ⟨w.heap.size, 0, none⟩) 0 0) [] (.slice none 0 0) [] (w.alloc (.cells #[] 3)) from ⟨World.ownsRow_made (base := w.heap.size) (e := 3) (size := 1) w #[] 0 (Nat.le_refl _) (by decide) rfl, World.ownsRow_nil _ _ _ _, (Below.refl _ _).alloc (Nat.le_refl _) _⟩)
  have HOK := Lib.hid (fun (w' : World) (hb : Below w.heap.size w w') => specDependsOk A n cap D w' ((h.below hb).more hb.size) (by omega))
  clear h
  cases hok : okD D with
  | false =>
    have HE := Lib.hid (cyc_bad hok)
    rw [hok] at HOK
    clear hok
    go_enter Try.func46, Try.ntmps46
    go_wp2_with fail
    refine (HOK.out _ X0.out.lb).mono ?_
    rintro e w1 ⟨rfl, hg1⟩
    have X1 := Lib.hid (X0.out.gb hg1)
    clear hg1
    go_wp2_with fail
    go_ret
    exact ⟨_, rfl, by rw [HE.out]; exact X1.out.ro, X1.out.lb⟩
  | true =>
    have HD := Lib.hid hok
    have HSU := Lib.hid (fun (x : Int) w h => specSuccessors A n cap D x w h (by omega))
    have HDE := Lib.hid (fun (a : Nat) (ha : a < 128) w h => specDepths A n cap D a ha hok w h hn)
    have HSL := Lib.hid (fun x => (show (succD D x).length ≤ n from hl ▸ succ_length D x))
    have HCY := Lib.hid (cyc_ok hok)
    rw [hok] at HOK
    clear hok hl
    go_enter Try.func46, Try.ntmps46
    go_wp2_with fail
    refine (HOK.out _ X0.out.lb).mono ?_
    rintro e w1 ⟨rfl, hg1⟩
    have X1 := Lib.hid (X0.out.gb hg1)
    clear hg1
    go_wp2_with fail
    go_loopw [4, 5, 6] (fun p s i wr => ∃ c : Nat, i = .int .i64 (c : Int) ∧ p = .int .i64 ((bestTo D c).1 : Int) ∧ s = .int .i64 (bestTo D c).2 ∧ c ≤ 128 ∧ CyR w (.slice (some ⟨w.heap.size, 0, none⟩) 0 0) [] (.slice none 0 0) [] wr) (fun _ _ i _ => 128 - (intOf i).toNat)
    case atStart => exact ⟨0, rfl, rfl, rfl, Nat.zero_le _, X1.out⟩
    case round =>
      obtain ⟨c, rfl, rfl, rfl, hc, hx⟩ := hrel
      have X2 := Lib.hid hx
      clear hx
      by_cases hlt : c < 128
      · have HLT := Lib.hid hlt
        have c0 : (0 : Int) ≤ (c : Int) := by omega
        have c1 : (c : Int) < 128 := by omega
        obtain ⟨b, hb⟩ : ∃ b, (bestTo D c).1 = b := ⟨_, rfl⟩
        obtain ⟨s, hs⟩ : ∃ s, (bestTo D c).2 = s := ⟨_, rfl⟩
        have HTAKE := Lib.hid (best_take (D := D) (c := c))
        have HPASS := Lib.hid (best_pass (D := D) (c := c))
        have HBS := Lib.hid (show bestTo D c = (b, s) from Prod.ext hb hs)
        rw [hb] at HTAKE HPASS
        simp only [hb, hs]
        obtain ⟨d, hd⟩ : ∃ d, distD D c c = d := ⟨_, rfl⟩
        have HA := Lib.hid (distL_at (D := D) (a := c) hlt)
        have HNS := Lib.hid (fun h => (no_succ HD.out (c := c) h).symm.trans hd)
        rw [hd] at HA HTAKE HPASS
        clear hb hs hd hlt
        go_wp2_with fail
        refine (HSU.out (c : Int) _ ((HI.out.below X2.out.lb).more X2.out.lb.size)).mono ?_
        rintro e w3 ⟨v3, rfl, o3, b3⟩
        obtain ⟨A3, c3, rfl, _⟩ := own_form o3
        obtain ⟨S, hS⟩ : ∃ S, succD D (c : Int) = S := ⟨_, rfl⟩
        rw [hS] at HNS
        obtain ⟨nS, hnS⟩ : ∃ nS, S.length = nS := ⟨_, rfl⟩
        have X3 := Lib.hid (X2.out.bl b3)
        clear o3 b3
        simp only [hS, hnS]
        by_cases hS0 : nS = 0
        · have hd0 : d = 0 := (HNS.out (List.eq_nil_of_length_eq_zero (by omega))).symm
          have HP := Lib.hid ((HPASS.out (fun e => by have := e.1; omega)).trans HBS.out)
          clear hS hnS
          subst hS0
          go_wp2_with fail
          go_roundw
          case rel => exact ⟨c + 1, by go_num, by rw [HP.out], by rw [HP.out], by have := HLT.out; omega, X3.out⟩
          case measure => have := HLT.out; simp [intOf]; omega
        · have hSb : ((nS : Int) == 0) = false := by simpa using hS0
          clear hS hnS
          go_wp2_with fail
          refine (HDE.out c HLT.out _ ((HI.out.below X3.out.lb).more X3.out.lb.size)).mono ?_
          rintro e w4 ⟨v4, rfl, o4, b4⟩
          rw [distL_len] at o4
          obtain ⟨A4, c4, rfl, ha4⟩ := own_form o4
          obtain ⟨g4, rfl⟩ := ha4 (by omega)
          have e0 := ints_at o4 (distL_len D c) HLT.out
          rw [HA.out] at e0
          have X4 := Lib.hid (X3.out.bl b4)
          clear o4 b4 ha4
          by_cases hd0 : d = 0
          · have HP := Lib.hid ((HPASS.out (fun e => by have := e.1; omega)).trans HBS.out)
            subst hd0
            go_wp2_with fail
            go_roundw
            case rel => exact ⟨c + 1, by go_num, by rw [HP.out], by rw [HP.out], by have := HLT.out; omega, X4.out⟩
            case measure => have := HLT.out; simp [intOf]; omega
          · have hdp : (0 : Int) < (d : Int) := by omega
            have hdn : 0 < d := by omega
            by_cases hb0 : b = 0
            · have HP := Lib.hid (HTAKE.out hdn (.inl hb0))
              subst hb0
              go_wp2_with fail
              go_roundw
              case rel => exact ⟨c + 1, by go_num, by rw [HP.out], by rw [HP.out], by have := HLT.out; omega, X4.out⟩
              case measure => have := HLT.out; simp [intOf]; omega
            · have hbb : ((b : Int) == 0) = false := by simpa using hb0
              by_cases hdb : d < b
              · have HP := Lib.hid (HTAKE.out hdn (.inr hdb))
                have hlt : (d : Int) < (b : Int) := by omega
                go_wp2_with fail
                go_roundw
                case rel => exact ⟨c + 1, by go_num, by rw [HP.out], by rw [HP.out], by have := HLT.out; omega, X4.out⟩
                case measure => have := HLT.out; simp [intOf]; omega
              · have HP := Lib.hid ((HPASS.out (fun e => by rcases e.2 with h | h; exact hb0 h; exact hdb h)).trans HBS.out)
                have hlt : ¬ (d : Int) < (b : Int) := by omega
                go_wp2_with fail
                go_roundw
                case rel => exact ⟨c + 1, by go_num, by rw [HP.out], by rw [HP.out], by have := HLT.out; omega, X4.out⟩
                case measure => have := HLT.out; simp [intOf]; omega
      · obtain rfl : c = 128 := by omega
        have HBI := best_is D 128
        obtain ⟨b, hb⟩ : ∃ b, (bestTo D 128).1 = b := ⟨_, rfl⟩
        obtain ⟨s, hs⟩ : ∃ s, (bestTo D 128).2 = s := ⟨_, rfl⟩
        unfold BestIs at HBI
        rw [hb, hs] at HCY HBI
        simp only [hb, hs]
        clear hb hs
        rcases HBI with ⟨hb0, _, _⟩ | ⟨st, hst, hs, hbd, hb1, _, _⟩
        · have HE := Lib.hid (show cycG D = [] by rw [HCY.out, hb0]; rfl)
          subst hb0
          clear HCY
          go_wp2_with fail
          simp only [show ((128 : Nat) : Int) = 128 from rfl]
          go_loopw [3, 8, 9] (fun v p i wr => v = .slice (some ⟨w.heap.size, 0, none⟩) 0 0 ∧ i = .int .i64 0 ∧ CyR w (.slice (some ⟨w.heap.size, 0, none⟩) 0 0) [] (.slice none 0 0) [] wr) (fun _ _ _ _ => 0)
          case atStart => exact ⟨rfl, rfl, X2.out⟩
          case round =>
            obtain ⟨rfl, rfl, hx⟩ := hrel
            have X3 := Lib.hid hx
            clear hx
            go_wp2_with fail
            go_ret
            exact ⟨_, rfl, by rw [HE.out]; exact X3.out.ro, X3.out.lb⟩
        · rw [hs, Int.toNat_natCast] at HCY
          have hb128 : b ≤ 128 := by rw [hbd]; exact dist_le HD.out st st
          subst hs
          have HBD := Lib.hid hbd.symm
          have HST := Lib.hid hst
          have HB1 := Lib.hid hb1
          clear hbd hst hb1
          go_wp2_with fail
          simp only [show ((128 : Nat) : Int) = 128 from rfl]
          go_loopw [3, 8, 9] (fun v p i wr => ∃ j : Nat, i = .int .i64 (j : Int) ∧ p = .int .i64 (atP D st b j : Int) ∧ j ≤ b ∧ CyR w v (cycN D st b j) (.slice none 0 0) [] wr) (fun _ _ i _ => b - (intOf i).toNat)
          case atStart => exact ⟨0, rfl, rfl, Nat.zero_le _, X2.out⟩
          case round =>
            obtain ⟨i, rfl, rfl, hib, hx⟩ := hrel
            have ho := hx.ro
            rw [cycN_len] at ho
            have o3 := Lib.hid ho
            have X3 := Lib.hid hx
            obtain ⟨Ao, co, rfl, _⟩ := own_form ho
            clear hx ho
            by_cases hlt : i < b
            · obtain ⟨u, hu⟩ : ∃ u, atP D st b i = u := ⟨_, rfl⟩
              obtain ⟨l, hl⟩ : ∃ l, b = i + 1 + l := ⟨b - i - 1, by omega⟩
              have HNX := Lib.hid (show atP D st b (i + 1) = nextP D st l u by rw [atP, hu, show b - i - 1 = l by omega])
              have HLT := Lib.hid hlt
              have HU := Lib.hid hu
              have HLB := Lib.hid hl
              have hz : (b : Int) - (i : Int) - 1 = (l : Int) := by omega
              have i1 : (i : Int) < (b : Int) := by omega
              have b3 := Lib.hid (show ∀ z ∈ [Value.int .i64 (u : Int)], z.oneCell' = true by simp [Value.oneCell'])
              have b4 := Lib.hid (show i + 1 ≤ maxLen by unfold maxLen; omega)
              have b5 := Lib.hid (show (i + 1) * 8 ≤ 140737488355328 by omega)
              have b6 := Lib.hid (show w.heap.size ≤ (wr.alloc (.cells #[.int .i64 (u : Int)] 3)).heap.size by rw [alloc_size]; have := X3.out.lb.size; omega)
              simp only [hu]
              clear hu hl
              go_wp2_with (at_builtin; refine wpList_append_own _ rfl _ _ 24 rfl w.heap.size 3 i0 (.int .i64 0) 1 8 Try.underlying24 hi hz0 hz1 hz2 rfl (by decide) _ i _ rfl (o3.out.alloc _) ⟨wr.heap.size, 0, none⟩ 1 1 [.int .i64 (u : Int)] rfl rfl (World.news_of_block (cs := #[.int .i64 (u : Int)]) (t := 3) (fr := (0, 0)) (heap_alloc_new wr _)) b3.out b4.out b5.out b6.out ?_; intro v' w4 hown4 hgrow4 _)
              have X4 := Lib.hid (show CyR w v' (cycN D st b (i + 1)) (.slice none 0 0) [] w4 by rw [cycN_next, HU.out]; exact X3.out.app (by rw [cycN_len]; exact hown4) hgrow4)
              clear hown4 hgrow4
              go_wp2_with fail
              refine (HSU.out (u : Int) _ ((HI.out.below X4.out.lb).more X4.out.lb.size)).mono ?_
              rintro e w5 ⟨v5, rfl, o5, b5'⟩
              obtain ⟨S, hS⟩ : ∃ S, succD D (u : Int) = S := ⟨_, rfl⟩
              rw [hS] at o5
              have X5 := Lib.hid (X4.out.succ o5 b5')
              obtain ⟨As, cs, rfl, has⟩ := own_form o5
              have HAS := Lib.hid has
              have HSE := Lib.hid hS
              obtain ⟨nS, hnS⟩ : ∃ nS, S.length = nS := ⟨_, rfl⟩
              have HNS := Lib.hid hnS
              have hnl : nS ≤ n := (by rw [← hnS, ← hS]; exact HSL.out (u : Int))
              have HHIT := Lib.hid (fun k (t : Nat) (h1 : k < S.length) h2 (h3 : S.getD k 0 = (t : Int)) h4 => HNX.out.trans (next_hit (D := D) (st := st) (left := l) (u := u) (k := k) (t := t) (by rw [hS]; exact h1) (by rw [hS]; exact h2) (by rw [hS]; exact h3) h4))
              have HMISS := Lib.hid (fun h2 => HNX.out.trans (next_miss (D := D) (st := st) (left := l) (u := u) (by rw [hS]; exact h2)))
              clear o5 b5' has
              go_wp2_with fail
              simp only [hnS] at X5 ⊢
              clear hS hnS
              go_loopw [8, 11] (fun q j wr => ∃ k : Nat, j = .int .i64 (k : Int) ∧ q = .int .i64 (u : Int) ∧ k ≤ nS ∧ (∀ j, j < k → candP D st l (S.getD j 0) = false) ∧ CyR w v' (cycN D st b (i + 1)) (.slice As nS cs) S wr) (fun _ j _ => nS - (intOf j).toNat)
              case atStart => exact ⟨0, rfl, rfl, Nat.zero_le _, fun j h => by omega, X5.out⟩
              case round =>
                obtain ⟨k, rfl, rfl, hk, hno, hx⟩ := hrel
                have HN := Lib.hid hno
                have X6 := Lib.hid hx
                clear hno hx
                by_cases hlt3 : k < nS
                · have hkS : k < S.length := by have := HNS.out; omega
                  have hmS := getD_memI hkS
                  have hrg : 0 ≤ S.getD k 0 ∧ S.getD k 0 < 128 := succ_in HD.out (by rw [HSE.out]; exact hmS)
                  obtain ⟨t, ht⟩ : ∃ t : Nat, S.getD k 0 = (t : Int) := ⟨(S.getD k 0).toNat, by omega⟩
                  obtain ⟨gs, hgs⟩ := HAS.out (by omega)
                  subst hgs
                  have ht128 : t < 128 := by omega
                  have c0 := ints_at (by have := X6.out.rs; rw [HNS.out] at this; exact this) HNS.out hlt3
                  rw [ht] at c0
                  have HT := Lib.hid ht
                  have HT2 := Lib.hid ht128
                  have HLT2 := Lib.hid hlt3
                  have k0 : (0 : Int) ≤ (k : Int) := by omega
                  have k1 : (k : Int) < (nS : Int) := by omega
                  have t0 : (0 : Int) ≤ (t : Int) := by omega
                  have t1 : (t : Int) < 128 := by omega
                  have HFOUND := Lib.hid (fun (hc : candP D st l (t : Int) = true) => HHIT.out k t hkS HN.out ht hc)
                  have HNEXT := Lib.hid (fun (hc : candP D st l (t : Int) = false) j (hj : j < k + 1) => show candP D st l (S.getD j 0) = false by rcases Nat.lt_succ_iff_lt_or_eq.1 hj with h | h; exact HN.out j h; rw [h, ht]; exact hc)
                  clear hmS hrg ht hkS ht128
                  by_cases hl0 : l = 0
                  · have hz0 : (b : Int) - (i : Int) - 1 = 0 := by omega
                    by_cases hts : st = t
                    · have HF := Lib.hid (HFOUND.out (by rw [hl0, cand_zero]; exact decide_eq_true hts.symm))
                      clear hz
                      subst hts
                      go_wp2_with fail
                      go_roundw
                      case rel => exact ⟨i + 1, by go_num, by rw [HF.out], by have := HLT.out; omega, X6.out.drop⟩
                      case measure => have := HLT.out; simp [intOf]; omega
                    · have HF := Lib.hid (HNEXT.out (by rw [hl0, cand_zero]; exact decide_eq_false (fun e => hts e.symm)))
                      have hne : ((t : Int) == (st : Int)) = false := by simp; omega
                      clear hz
                      go_wp2_with fail
                      go_roundw
                      case rel => exact ⟨k + 1, by go_num, rfl, by have := HLT2.out; omega, HF.out, X6.out⟩
                      case measure => have := HLT2.out; simp [intOf]; omega
                  · have hlb : ((l : Int) == 0) = false := by simpa using hl0
                    have hlp : (0 : Int) < (l : Int) := by omega
                    by_cases hts : st = t
                    · have HF := Lib.hid (HNEXT.out (by rw [← hts]; exact cand_same (by omega)))
                      subst hts
                      go_wp2_with fail
                      go_roundw
                      case rel => exact ⟨k + 1, by go_num, rfl, by have := HLT2.out; omega, HF.out, X6.out⟩
                      case measure => have := HLT2.out; simp [intOf]; omega
                    · have hne : ((t : Int) == (st : Int)) = false := by simp; omega
                      have hne2 : ((t : Int) != (st : Int)) = true := by simp; omega
                      have s0 : (0 : Int) ≤ (st : Int) := by omega
                      have s1 : (st : Int) < 128 := by have := HST.out; omega
                      have HCF := Lib.hid (cand_far (D := D) (show 0 < l by omega) (fun e => hts e.symm))
                      have HA := Lib.hid (distL_at (D := D) (a := t) HST.out)
                      obtain ⟨d, hd⟩ : ∃ d, distD D t st = d := ⟨_, rfl⟩
                      rw [hd] at HCF HA
                      clear hd
                      go_wp2_with fail
                      refine (HDE.out t HT2.out _ ((HI.out.below X6.out.lb).more X6.out.lb.size)).mono ?_
                      rintro e w7 ⟨v7, rfl, o7, b7⟩
                      rw [distL_len] at o7
                      obtain ⟨A7, c7, rfl, ha7⟩ := own_form o7
                      obtain ⟨g7, rfl⟩ := ha7 (by omega)
                      have e0 := ints_at o7 (distL_len D t) HST.out
                      rw [HA.out] at e0
                      have X7 := Lib.hid (X6.out.bl b7)
                      have e1 := ints_at (by have := X7.out.rs; rw [HNS.out] at this; exact this) HNS.out HLT2.out
                      rw [HT.out] at e1
                      clear o7 b7 ha7 c0
                      by_cases hdl : l = d
                      · have HF := Lib.hid (HFOUND.out (HCF.out.trans (decide_eq_true hdl.symm)))
                        subst hdl
                        go_wp2_with fail
                        go_roundw
                        case rel => exact ⟨i + 1, by go_num, by rw [HF.out], by have := HLT.out; omega, X7.out.drop⟩
                        case measure => have := HLT.out; simp [intOf]; omega
                      · have HF := Lib.hid (HNEXT.out (HCF.out.trans (decide_eq_false (fun e => hdl e.symm))))
                        have hdb : ((d : Int) == (l : Int)) = false := by simp; omega
                        go_wp2_with fail
                        go_roundw
                        case rel => exact ⟨k + 1, by go_num, rfl, by have := HLT2.out; omega, HF.out, X7.out⟩
                        case measure => have := HLT2.out; simp [intOf]; omega
                · obtain rfl : k = nS := by omega
                  have HE := Lib.hid (HMISS.out (fun j hj => HN.out j (by have := HNS.out; omega)))
                  have X7 := Lib.hid X6.out.drop
                  go_wp2_with fail
                  go_roundw
                  case rel => exact ⟨i + 1, by go_num, by rw [HE.out], by have := HLT.out; omega, X7.out⟩
                  case measure => have := HLT.out; simp [intOf]; omega
            · obtain rfl : i = b := by omega
              go_wp2_with fail
              go_ret
              exact ⟨_, rfl, by rw [HCY.out]; exact X3.out.ro, X3.out.lb⟩
end Go.Proofs.Ytnielgpcfgfioaa
