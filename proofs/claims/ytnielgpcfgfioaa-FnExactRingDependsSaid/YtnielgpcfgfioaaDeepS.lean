/- What is proved here: the model's least numbers of steps from a channel to all others; only new blocks are written. -/
import Derived.Test.YtnielgpcfgfioaaBfsM
import Derived.Test.YtnielgpcfgfioaaDpR
import Derived.Test.YtnielgpcfgfioaaSuccS
import Derived.Deep.AppendLies
namespace Go.Proofs.Ytnielgpcfgfioaa
open Go.ChangeShapes Go.WideShapes Go.ChangeAt Go.RowKit
set_option linter.unusedVariables false
set_option maxRecDepth 20000

/-- A new row of 128 zeros. -/
theorem made_zeros : ∃ Z : List Int, Z.length = 128 ∧ (∀ t, t < 128 → Z.getD t 0 = 0) ∧ ∃ c : Array Value, (∀ w : World, (Instr.makeSlice 24 (.int .i64 128) (.int .i64 128)).run Try.prog w = .ok (.slice (some ⟨w.heap.size, 0, none⟩) 128 128) (w.alloc (.cells c 3))) ∧
    ∀ w : World, (w.alloc (.cells c 3)).ownsRow w.heap.size 3 1 (.slice (some ⟨w.heap.size, 0, none⟩) 128 128) 128 (intsV Z) := by
  obtain ⟨i0, hi, hz0, hz1, hz2⟩ := info_parts info_int
  refine ⟨List.replicate 128 0, List.length_replicate, fun t ht => ?_, madeCells #[Value.int .i64 0] 128, fun w => ?_, fun w => ?_⟩
  · rw [List.getD_eq_getElem?_getD, List.getElem?_replicate, if_pos ht]; rfl
  · have := run_make (P := Try.prog) w 24 3 i0 (.int .i64 0) Try.underlying24 hi hz0 .i64 .i64 128 128 (by decide) (by decide) (by rw [hz2]; decide) (by decide)
    rw [hz1] at this
    simpa [Value.cells] using this
  · have := World.ownsRow_lit (base := w.heap.size) (e := 3) (size := 1) w (madeCells #[Value.int .i64 0] 128) 128 (Nat.le_refl _) (by decide) (by simp [madeCells])
    rw [toList_madeCells_one] at this
    unfold intsV
    rw [List.map_replicate]
    exact this
theorem ints_at {w : World} {base g cap n : Nat} {L : List Int} (h : w.ownsRow base 3 1 (.slice (some ⟨g, 0, none⟩) n cap) n (intsV L)) (hn : L.length = n) {k : Nat} (hk : k < n) : w.cell? ⟨g, k, none⟩ = some (.int .i64 (L.getD k 0)) :=
  ints_cell h k (L.getD k 0) (by rw [List.getD, List.getElem?_eq_getElem (by omega)]; rfl) hn
theorem getD_memI {L : List Int} {k : Nat} (h : k < L.length) : L.getD k 0 ∈ L := by
  rw [List.getD_eq_getElem?_getD, List.getElem?_eq_getElem h]
  exact List.getElem_mem h

set_option maxHeartbeats 3200000 in
theorem specDepths (A : Option Addr) (n cap : Nat) (D : List Dep) (a : Nat) (ha : a < 128) (hok : okD D = true) (w : World) (h : DepAt w w.heap.size A n D) (hn : n ≤ 1000000000) :
    Calls Try.prog 56 #[.slice A n cap, .int .i64 (a : Int)] w (NewI (distL D a) w) := by
  obtain ⟨i0, hi, hz0, hz1, hz2⟩ := info_parts info_int
  have HI := Lib.hid h
  have HD := Lib.hid hok
  have HSU := Lib.hid (fun (x : Int) w h => specSuccessors A n cap D x w h (by omega))
  have hl := h.1
  have HSL := Lib.hid (fun x => (show (succD D x).length ≤ n from hl ▸ succ_length D x))
  obtain ⟨Z, hZl, hZ0, cz, hmk, hown⟩ := made_zeros
  have X0 := Lib.hid (show Dp w (.slice (some ⟨w.heap.size, 0, none⟩) 128 128) Z (.slice (some ⟨w.heap.size + 1, 0, none⟩) 1 1) [(a : Int)] (.slice none 0 0) [] (.slice none 0 0) [] ((w.alloc (.cells cz 3)).alloc (.cells #[.int .i64 (a : Int)] 3)) from by
    have e : (w.alloc (.cells cz 3)).heap.size = w.heap.size + 1 := alloc_size _ _
    have h2 := World.ownsRow_lit (base := w.heap.size) (e := 3) (size := 1) (w.alloc (.cells cz 3)) #[.int .i64 (a : Int)] 1 (by omega) (by decide) rfl
    rw [e] at h2
    refine ⟨(hown w).alloc _, h2, World.ownsRow_nil _ _ _ _, World.ownsRow_nil _ _ _ _, ((Below.refl _ _).alloc (Nat.le_refl _) _).alloc (by omega) _, fun g hg e => ?_, apart_none _, apart_none _, none_apart _, none_apart _⟩
    have h3 : w.heap.size = g := Option.some.inj hg
    have h4 : w.heap.size + 1 = g := Option.some.inj e
    omega)
  have HF1 := Lib.hid (front_one D ha)
  have HB1 := Lib.hid (bfs_start D a hZl hZ0)
  obtain ⟨G, hG⟩ : ∃ G, w.heap.size = G := ⟨_, rfl⟩
  have HG := Lib.hid hG
  clear h hok hown hZl hZ0 hl
  go_enter Try.func56, Try.ntmps56
  go_wp2_with fail
  simp only [hG] at X0 ⊢
  clear hG
  go_loopw [6, 7] (fun f i wr => ∃ (m : Nat) (X F : List Int), i = .int .i64 (m : Int) ∧ 1 ≤ m ∧ F.length ≤ 128 ∧ Front D a m F ∧ Bfs D a m (fun _ => False) X [] ∧ Dp w (.slice (some ⟨G, 0, none⟩) 128 128) X f F (.slice none 0 0) [] (.slice none 0 0) [] wr) (fun _ i _ => 200 - (intOf i).toNat)
  case atStart => exact ⟨1, Z, _, rfl, Nat.le_refl _, by simp, HF1.out, HB1.out, X0.out⟩
  case round =>
    obtain ⟨m, X, F, rfl, hm, hf128, hf, hb, hx⟩ := hrel
    have HM := Lib.hid hm
    have HF := Lib.hid hf
    have HB := Lib.hid hb
    have X2 := Lib.hid hx
    obtain ⟨Af, cf, rfl, haf⟩ := own_form hx.rf
    have HAF := Lib.hid haf
    obtain ⟨nF, hnF⟩ : ∃ nF, F.length = nF := ⟨_, rfl⟩
    have HNF := Lib.hid hnF
    have hnF128 : nF ≤ 128 := by omega
    clear hf128
    clear hm hf hb hx haf
    by_cases h0 : 0 < nF
    · have HM2 := Lib.hid (front_le HD.out HF.out (by omega))
      have hp : (0 : Int) < (nF : Int) := by omega
      simp only [hnF] at X2 ⊢
      clear hnF
      go_wp2_with fail
      have X3 := Lib.hid X2.out.begin
      go_loopw [8, 9] (fun q i wr => ∃ (j : Nat) (X N : List Int), i = .int .i64 (j : Int) ∧ j ≤ nF ∧ Bfs D a m (seenP D F j [] 0) X N ∧ Dp w (.slice (some ⟨G, 0, none⟩) 128 128) X (.slice Af nF cf) F q N (.slice none 0 0) [] wr) (fun _ i _ => nF - (intOf i).toNat)
      case atStart => exact ⟨0, X, [], rfl, Nat.zero_le _, HB.out.congr seen_zero, X3.out⟩
      case round =>
        obtain ⟨j, X, N, rfl, hj, hb, hx⟩ := hrel
        have HB2 := Lib.hid hb
        have X4 := Lib.hid hx
        clear hb hx
        by_cases hlt : j < nF
        · obtain ⟨gf, hgf⟩ := HAF.out (by have := HNF.out; omega)
          subst hgf
          have hjF : j < F.length := by have := HNF.out; omega
          have hmem := getD_memI hjF
          have hrg := HF.out.rng _ hmem
          obtain ⟨x, hxx⟩ : ∃ x : Nat, F.getD j 0 = (x : Int) := ⟨(F.getD j 0).toNat, by omega⟩
          have HX := Lib.hid hxx
          have c0 := ints_at (by have := X4.out.rf; rw [HNF.out] at this; exact this) HNF.out hlt
          rw [hxx] at hmem c0
          have HME := Lib.hid hmem
          have HLT := Lib.hid hlt
          have j0 : (0 : Int) ≤ (j : Int) := by omega
          have j1 : (j : Int) < (nF : Int) := by omega
          clear hmem hrg hxx hjF hlt
          go_wp2_with fail
          refine (HSU.out (x : Int) _ ((HI.out.below X4.out.lb).more X4.out.lb.size)).mono ?_
          rintro e w5 ⟨v5, rfl, o5, b5⟩
          have X5 := Lib.hid (X4.out.succ o5 b5)
          obtain ⟨As, cs, rfl, has⟩ := own_form o5
          have HAS := Lib.hid has
          obtain ⟨S, hS⟩ : ∃ S, succD D (x : Int) = S := ⟨_, rfl⟩
          have HSE := Lib.hid hS
          rw [hS] at X5 HAS
          obtain ⟨nS, hnS⟩ : ∃ nS, S.length = nS := ⟨_, rfl⟩
          have HNS := Lib.hid hnS
          have hnl : nS ≤ n := (by rw [← hnS, ← hS]; exact HSL.out (x : Int))
          clear o5 b5 has c0
          go_wp2_with fail
          simp only [hnS] at X5 ⊢
          clear hS hnS
          go_loopw [8, 11] (fun q i wr => ∃ (k : Nat) (X N : List Int), i = .int .i64 (k : Int) ∧ k ≤ nS ∧ Bfs D a m (seenP D F j S k) X N ∧ Dp w (.slice (some ⟨G, 0, none⟩) 128 128) X (.slice (some ⟨gf, 0, none⟩) nF cf) F q N (.slice As nS cs) S wr) (fun _ i _ => nS - (intOf i).toNat)
          case atStart => exact ⟨0, X, N, rfl, Nat.zero_le _, HB2.out.congr seen_begin, X5.out⟩
          case round =>
            obtain ⟨k, X, N, rfl, hk, hb, hx⟩ := hrel
            have HB3 := Lib.hid hb
            have X6 := Lib.hid hx
            clear hb hx
            by_cases hlt : k < nS
            · have hkS : k < S.length := by have := HNS.out; omega
              have hmS := getD_memI hkS
              have hrg : 0 ≤ S.getD k 0 ∧ S.getD k 0 < 128 := succ_in HD.out (by rw [HSE.out]; exact hmS)
              obtain ⟨t, ht⟩ : ∃ t : Nat, S.getD k 0 = (t : Int) := ⟨(S.getD k 0).toNat, by omega⟩
              have HT := Lib.hid ht
              obtain ⟨gs, hgs⟩ := HAS.out (by omega)
              subst hgs
              have ht128 : t < 128 := by omega
              have HT2 := Lib.hid ht128
              have c0 := ints_at (by have := X6.out.rs; rw [HNS.out] at this; exact this) HNS.out hlt
              have c1 := ints_at X6.out.rd HB3.out.len ht128
              rw [ht] at hmS c0
              have HWY := Lib.hid (front_way HD.out HF.out HM.out HME.out (by rw [HSE.out]; exact hmS))
              obtain ⟨y, hy⟩ : ∃ y, X.getD t 0 = y := ⟨_, rfl⟩
              rw [hy] at c1
              have k0 : (0 : Int) ≤ (k : Int) := by omega
              have k1 : (k : Int) < (nS : Int) := by omega
              have t0 : (0 : Int) ≤ (t : Int) := by omega
              have t1 : (t : Int) < 128 := by omega
              have HLT2 := Lib.hid hlt
              clear hmS hrg ht hkS hlt ht128
              by_cases hy0 : y = 0
              · have HB4 := Lib.hid (show Bfs D a m (seenP D F j S (k + 1)) (X.set t (m : Int)) (N ++ [(t : Int)]) from (HB3.out.hit HM.out HT2.out (hy.trans hy0) HWY.out).congr (seen_one HT.out))
                have X7 := Lib.hid (X6.out.store t (m : Int))
                have f0 := X6.out.rd.frozenAt t
                have c2 := ints_at (by have := X7.out.rs; rw [HNS.out] at this; exact this) HNS.out HLT2.out
                rw [HT.out] at c2
                have hsz : (wr.setCell ⟨G, t, none⟩ (.int .i64 (m : Int))).heap.size = wr.heap.size := by simp
                have HNB := Lib.hid (show ((wr.setCell ⟨G, t, none⟩ (.int .i64 (m : Int))).alloc (.cells #[.int .i64 (t : Int)] 3)).heap[wr.heap.size]? = some (.cells #[.int .i64 (t : Int)] 3) by have := heap_alloc_new (wr.setCell ⟨G, t, none⟩ (.int .i64 (m : Int))) (.cells #[.int .i64 (t : Int)] 3); rw [hsz] at this; exact this)
                have b3 := Lib.hid (show ∀ u ∈ [Value.int .i64 (t : Int)], u.oneCell' = true by simp [Value.oneCell'])
                have b4 := Lib.hid (show N.length + 1 ≤ maxLen by have := HB3.out.few; unfold maxLen; omega)
                have b5 := Lib.hid (show (N.length + 1) * 8 ≤ 140737488355328 by have := HB3.out.few; omega)
                have b6 := Lib.hid (show w.heap.size ≤ ((wr.setCell ⟨G, t, none⟩ (.int .i64 (m : Int))).alloc (.cells #[.int .i64 (t : Int)] 3)).heap.size by rw [alloc_size, hsz]; have := X6.out.lb.size; omega)
                clear hy hsz
                subst hy0
                go_wp2_with (at_builtin; refine wpList_append_lies _ rfl _ _ 24 rfl w.heap.size 3 i0 (.int .i64 0) 1 8 Try.underlying24 hi hz0 hz1 hz2 rfl (by decide) _ N.length _ rfl (X7.out.rn.alloc _) ⟨wr.heap.size, 0, none⟩ 1 1 [.int .i64 (t : Int)] rfl rfl (World.news_of_block HNB.out) b3.out (by decide) b4.out b5.out b6.out _ rfl ?_; intro g4 cap4 w4 hown4 hgrow4 hat4 _)
                have X8 := Lib.hid (X7.out.app hown4 hgrow4 hat4)
                clear hown4 hgrow4 hat4 c0 c1 c2
                go_wp2_with fail
                go_roundw
                case rel => exact ⟨k + 1, _, _, by go_num, by have := HLT2.out; omega, HB4.out, X8.out⟩
                case measure => have := HLT2.out; simp [intOf]; omega
              · have HB4 := Lib.hid (show Bfs D a m (seenP D F j S (k + 1)) X N from (HB3.out.miss (s := t) (by rw [hy]; exact hy0)).congr (seen_one HT.out))
                have hyb : (y == 0) = false := by simpa using hy0
                clear hy
                go_wp2_with fail
                go_roundw
                case rel => exact ⟨k + 1, _, _, by go_num, by have := HLT2.out; omega, HB4.out, X6.out⟩
                case measure => have := HLT2.out; simp [intOf]; omega
            · obtain rfl : k = nS := by omega
              have HB4 := Lib.hid (show Bfs D a m (seenP D F (j + 1) [] 0) X N from HB3.out.congr (fun t ht h => by have := seen_row HX.out t ht h; rwa [HSE.out, HNS.out] at this))
              have X7 := Lib.hid X6.out.drop
              go_wp2_with fail
              go_roundw
              case rel => exact ⟨j + 1, X, N, by go_num, by have := HLT.out; omega, HB4.out, X7.out⟩
              case measure => have := HLT.out; simp [intOf]; omega
        · obtain rfl : j = nF := by omega
          have HB4 := Lib.hid (bfs_next HD.out (HB2.out.congr (fun t ht h => by have := seen_all HF.out t ht h; rwa [HNF.out] at this)) HM.out)
          have X7 := Lib.hid X4.out.shift
          have hmw : IntKind.i64.wrap ((m : Int) + 1) = ((m + 1 : Nat) : Int) := by have := HM2.out; rw [IntWalk.i64_in _ (by omega)]; omega
          go_wp2_with fail
          go_roundw
          case rel => exact ⟨m + 1, X, N, by go_num, by omega, HB2.out.few, HB4.out.1, HB4.out.2, X7.out⟩
          case measure => have := HM2.out; simp [intOf]; omega
    · have hp : ¬ (0 : Int) < (nF : Int) := by omega
      have hF0 : F = [] := List.eq_nil_of_length_eq_zero (by omega)
      have HE := Lib.hid (bfs_end HD.out HB.out (by have := HF.out; rwa [hF0] at this) HM.out)
      simp only [hnF] at X2 ⊢
      clear hnF h0 hF0
      go_wp2_with fail
      go_ret
      refine ⟨_, rfl, ?_, X2.out.lb⟩
      rw [← HE.out, HB.out.len]
      exact X2.out.rd
end Go.Proofs.Ytnielgpcfgfioaa
