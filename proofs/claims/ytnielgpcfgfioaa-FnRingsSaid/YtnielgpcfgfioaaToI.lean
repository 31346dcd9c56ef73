/- What is proved here: what the program's stepsTo returns: the least number of steps from each channel to a certain one, -1 where there are none; only new blocks are written. -/
import Derived.Test.YtnielgpcfgfioaaMkI
import Derived.Test.YtnielgpcfgfioaaRepI
import Derived.Test.YtnielgpcfgfioaaNewI
import Derived.Shelf.Abstract
import Derived.StillTailTactics
namespace Go.Proofs.Ytnielgpcfgfioaa
open Go.ChangeShapes Go.WideShapes Go.ChangeAt Go.RowKit
set_option linter.unusedVariables false
set_option maxRecDepth 20000

/-- The shared variables at the start. -/
theorem mk_start {w w1 : World} {g gs c1 : Nat} {F : Nat → List Int} (hr : LstsIn w w.heap.size g F)
    (o1 : w1.ownsRow ((w.alloc (.cells #[.slice (some ⟨g, 0, none⟩) 128 128] 65)).alloc (.cells #[.int .i64 (-1)] 3)).heap.size 3 1 (.slice (some ⟨gs, 0, none⟩) 128 c1) 128 (intsV (List.replicate 128 (-1))))
    (b1 : Below ((w.alloc (.cells #[.slice (some ⟨g, 0, none⟩) 128 128] 65)).alloc (.cells #[.int .i64 (-1)] 3)).heap.size ((w.alloc (.cells #[.slice (some ⟨g, 0, none⟩) 128 128] 65)).alloc (.cells #[.int .i64 (-1)] 3)) w1) :
    Mk w w.heap.size w.heap.size w1.heap.size (w1.heap.size + 1) gs c1 g F (List.replicate 128 (-1)) [] (.slice none 0 0) ((w1.alloc (.cells #[.slice (some ⟨gs, 0, none⟩) 128 c1] 24)).alloc (.cells #[.slice none 0 0] 24)) := by
  have e : ((w.alloc (.cells #[.slice (some ⟨g, 0, none⟩) 128 128] 65)).alloc (.cells #[.int .i64 (-1)] 3)).heap.size = w.heap.size + 2 := by rw [alloc_size, alloc_size]
  have hs := b1.size
  rw [e] at o1 hs
  have hb0 : Below w.heap.size w w1 := (((Below.refl w.heap.size w).alloc (Nat.le_refl _) _).alloc (by rw [alloc_size]; omega) _).trans (b1.mono (by omega))
  have hb1 := (hb0.alloc (by omega) (.cells #[.slice (some ⟨gs, 0, none⟩) 128 c1] 24)).alloc (by rw [alloc_size]; omega) (.cells #[.slice none 0 0] 24)
  have hbm := Blk.new (w1.alloc (.cells #[.slice (some ⟨gs, 0, none⟩) 128 c1] 24)) 24 #[.slice none 0 0]
  rw [alloc_size] at hbm
  exact ⟨((((Blk.new w 65 #[.slice (some ⟨g, 0, none⟩) 128 128]).alloc _).below b1 (by omega)).alloc _).alloc _, (Blk.new w1 24 #[.slice (some ⟨gs, 0, none⟩) 128 c1]).alloc _, hbm,
    ((own_less o1 (by omega)).alloc _).alloc _, World.ownsRow_nil _ _ _ _, apart_none _, hr.below hb1, hb1, Nat.le_refl _, by omega, by omega, by omega⟩

set_option maxHeartbeats 1600000 in
theorem implStepsTo (D : List Dep) (a : Nat) (ha : a < 128) (g : Nat) (hok : okD D = true) (hl : D.length ≤ 1000000000) (w : World) (h : LstsIn w w.heap.size g (fun c => waitD D (c : Int))) :
    Calls Try.prog 49 #[.slice (some ⟨g, 0, none⟩) 128 128, .int .i64 (a : Int)] w (NewI (toL D a) w) := by
  have HRR := Lib.hid h
  have HOK := Lib.hid hok
  have HREP := Lib.hid (fun b o w hx => libRepeat b o w hx)
  obtain ⟨B, hB⟩ : ∃ B, w.heap.size = B := ⟨_, rfl⟩
  have HMK := Lib.hid (fun (pw ps pm gs cs : Nat) (X M : List Int) (vm : Value) (c : Nat) (n : Int) (hc : c < 128) (hM : M.length ≤ 1000000000) (wr : World) (hx : Mk w B pw ps pm gs cs g (fun c => waitD D (c : Int)) X M vm wr) =>
    implMark w B pw ps pm gs cs g (fun c => waitD D (c : Int)) X M vm c n hc (fun x hx => by obtain ⟨t, h1, h2, _⟩ := wait_nat hok hx; exact ⟨t, h1, h2⟩) (by have := wait_length D (c : Int); omega) wr hx)
  have HB := Lib.hid hB
  have d0 : (0 : Int) ≤ (a : Int) := by omega
  have d1 : (a : Int) < 128 := by omega
  have HC0 := Lib.hid (show ((w.alloc (.cells #[.slice (some ⟨g, 0, none⟩) 128 128] 65)).alloc (.cells #[.int .i64 (-1)] 3)).cell? ⟨w.heap.size + 1, 0, none⟩ = some (.int .i64 (-1)) by
    have e : (w.alloc (.cells #[.slice (some ⟨g, 0, none⟩) 128 128] 65)).heap.size = w.heap.size + 1 := alloc_size _ _
    rw [← e]
    exact (Blk.new _ 3 #[.int .i64 (-1)]).cell 0)
  clear h hok hB
  go_enter Try.func49, Try.ntmps49
  go_wp2_with fail
  refine (HREP.out _ _ _ HC0.out).mono ?_
  rintro e w1 ⟨v1, rfl, o1, b1⟩
  obtain ⟨A1, c1, rfl, hA1⟩ := own_form o1
  obtain ⟨gs, rfl⟩ := hA1 (by omega)
  have X1 := Lib.hid (mk_start HRR.out o1 b1)
  clear o1 b1 hA1
  rw [HB.out] at X1
  go_wp2_with fail
  rw [HB.out]
  refine (HMK.out B w1.heap.size (w1.heap.size + 1) gs c1 _ [] _ a 1 ha (by simp) _ X1.out).mono ?_
  rintro e w2 ⟨rfl, X', M', vm, hm, hx⟩
  obtain ⟨M, hM, hq, hf⟩ := que_one HOK.out a
  rw [stepL_nil] at hM
  have hp := Prod.mk.inj (hm.symm.trans hM)
  obtain ⟨rfl, rfl⟩ := hp
  obtain ⟨ps, hps⟩ : ∃ ps, w1.heap.size = ps := ⟨_, rfl⟩
  rw [hps] at hx
  have X2 := Lib.hid hx
  have HQ := Lib.hid hq
  have HF := Lib.hid hf
  clear hm hM hx hq hf
  have eg : ∀ args w, (callFunc 59 args).run Try.prog w = .ok (.enter 59 args) w := fun args w => Try.call59 args w
  go_wp2_with fail
  (try rw [hps])
  clear hps
  go_loopw [8] (fun i wr => ∃ (k n : Nat) (M : List Nat) (vm : Value), i = .int .i64 (k : Int) ∧ Que D a k n M ∧ (∀ t, edgeB D t a = true → t ∈ M) ∧ (k < M.length → n ≤ distD D (M.getD k 0) a + 1) ∧ Mk w B B ps (ps + 1) gs c1 g (fun c => waitD D (c : Int)) (stepL D a M) (upI M) vm wr) (fun i _ => 200 - (intOf i).toNat)
  case atStart => exact ⟨0, 1, M, vm, rfl, HQ.out, HF.out, fun h => by omega, X2.out⟩
  case round =>
    obtain ⟨k, n, M, vm, rfl, hq, hf, hn, hx⟩ := hrel
    have hkM := hq.le
    have hM128 := que_few hq
    have e0 : wr.cell? ⟨ps, 0, none⟩ = some (.slice (some ⟨gs, 0, none⟩) 128 c1) := hx.bs.cell 0
    obtain ⟨Av, cv, hv, hAv⟩ := own_form hx.rm
    subst hv
    obtain ⟨m, hm⟩ : ∃ m, M.length = m := ⟨_, rfl⟩
    have hum : (upI M).length = m := (upI_len M).trans hm
    have e1 : wr.cell? ⟨ps + 1, 0, none⟩ = some (.slice Av m cv) := hum ▸ hx.bm.cell 0
    rw [hum] at hAv
    have HQ2 := Lib.hid hq
    have HF2 := Lib.hid hf
    have X3 := Lib.hid hx
    have HUM := Lib.hid hum
    by_cases hlt : k < m
    · obtain ⟨gm, hgm⟩ := hAv (by omega)
      subst hgm
      have hkM2 : k < M.length := by omega
      have hmem := getD_memN hkM2
      have hc := hq.rng _ hmem
      obtain ⟨M', hM', hq', hf', hn'⟩ := que_step HOK.out hq hf hkM2 (hn hkM2)
      have c0 := ints_get (hum ▸ hx.rm) hlt
      rw [upI_at hkM2] at c0
      have c2 := ints_get hx.rs hc
      rw [stepL_at hc, if_pos hmem] at c2
      have hdl := dist_le HOK.out (M.getD k 0) a
      obtain ⟨c, hcc⟩ : ∃ c, M.getD k 0 = c := ⟨_, rfl⟩
      rw [hcc] at c0 c2 hc hM' hq' hn' hdl
      obtain ⟨d, hd⟩ : ∃ d, distD D c a = d := ⟨_, rfl⟩
      rw [hd] at c2 hM' hq' hn' hdl
      have HC := Lib.hid (HMK.out B ps (ps + 1) gs c1 (stepL D a M) (upI M) (.slice (some ⟨gm, 0, none⟩) (upI M).length cv) c ((d : Int) + 1) hc (by omega))
      rw [show ((d + 1 : Nat) : Int) = (d : Int) + 1 by omega] at hM'
      have HM' := Lib.hid hM'
      have HQ' := Lib.hid hq'
      have HF' := Lib.hid hf'
      have HN' := Lib.hid (show k + 1 < M'.length → d + 1 ≤ distD D (M'.getD (k + 1) 0) a + 1 from hn')
      have hdw : IntKind.i64.wrap ((d : Int) + 1) = (d : Int) + 1 := IntWalk.i64_in _ (by omega)
      have k0 : (0 : Int) ≤ (k : Int) := by omega
      have k1 : (k : Int) < (m : Int) := by omega
      have g0 : (0 : Int) ≤ (c : Int) := by omega
      have g1 : (c : Int) < 128 := by omega
      have hk128 : k < 128 := by omega
      clear hq hf hn hx hum hm hkM hM128 hM' hq' hf' hn' hcc hd hmem hkM2 hAv hlt
      have X4 := Lib.hid (X3.out.gb (gb_drew (gb_refl wr none)))
      go_wp2_with fail
      go_still_tail 13, (by kernel_rfl)
      change wpList _ _ _ _ _ wr.drew
      go_wp2_with fail
      refine (HC.out _ X4.out).mono ?_
      rintro e w4 ⟨rfl, X', M'', vm', hm', hx'⟩
      obtain ⟨rfl, rfl⟩ := Prod.mk.inj (hm'.symm.trans HM'.out)
      have X5 := Lib.hid hx'
      clear hm' hx' e0 e1 c0 c2
      go_wp2_with fail
      go_roundw
      case rel => exact ⟨k + 1, d + 1, M', vm', by go_num, HQ'.out, HF'.out, HN'.out, X5.out⟩
      case measure => simp [intOf]; omega
    · have hkm : k = m := by omega
      subst hkm
      subst hm
      have HE := Lib.hid (que_end HOK.out hq hf)
      have k1 : ¬ ((M.length : Int) < (M.length : Int)) := by omega
      clear hq hf hn hx hum hkM hM128 hAv hlt
      go_wp2_with fail
      go_ret
      refine ⟨_, rfl, ?_, ?_⟩
      · rw [toL_len, ← HE.out, HB.out]
        exact X3.out.rs
      · rw [HB.out]
        exact X3.out.lb
end Go.Proofs.Ytnielgpcfgfioaa
