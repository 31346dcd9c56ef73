/- What is proved here: what the model's PortAt returns, for all arguments; only new blocks are written. -/
import Derived.Test.YtjffnncfgnhefaaSizedS
namespace Go.Proofs.Ytjffnncfgnhefaa
open Go.ChangeShapes Go.WideShapes Go.ChangeAt Go.RowKit
set_option linter.unusedVariables false

theorem specPortAt (W H : Int) (A A2 : Option Addr) (n cap n2 c2 : Nat) (L P : List Int) (a z : Int) (w : World) (h : IntAt w w.heap.size A n L) (h2 : IntAt w w.heap.size A2 n2 P) (hn : n ≤ 1000000000) (hn2 : n2 ≤ 1000000000) :
    Calls Try.prog 19 #[.agg #[.int .i64 W, .int .i64 H, .slice A n cap], .agg #[.slice A2 n2 c2], .int .i64 a, .int .i64 z] w (RetI (portAtG W H L P a z) none w) := by
  have hp := h2.1
  have HI := Lib.hid h
  have HP := Lib.hid h2
  clear h h2
  obtain ⟨k, hk⟩ : ∃ k, countG W H = k := ⟨_, rfl⟩
  obtain ⟨hk0, hk1⟩ := countG_le W H
  rw [hk] at hk0 hk1
  obtain ⟨m0, m1⟩ := sq_bounds hk0 hk1
  have hw : wrap64 (k * k) = k * k := IntWalk.wrap64_in _ (by omega)
  have HW := Lib.hid hw
  have HN := Lib.hid (fun w => specNodeCountV W H k hk w)
  have hres : portAtG W H L P a z = if (((meshG W H L = true ∧ (n2 : Int) = k * k) ∧ hasG W H a = true) ∧ hasG W H z = true) ∧ 0 ≤ tabG k P a z ∧ tabG k P a z ≤ 4 then tabG k P a z else -1 := by
    simp only [portAtG, askG, sizedG, hk, hp, Bool.and_eq_true, decide_eq_true_eq]
  have HR := Lib.hid hres
  have HK := Lib.hid hk
  clear hres hw hk
  cases hm : meshG W H L with
  | false =>
    have HM := Lib.hid (fun w h => specMeshOkV W H A n cap L false hm w h hn)
    have HF := Lib.hid (HR.out.trans (if_neg (by simp [hm])))
    clear hm m0 m1 hk0 hk1 hp
    go_enter Try.func19, Try.ntmps19
    go_wp2_with fail
    refine (HN.out _).mono ?_
    rintro e w1 ⟨rfl, hg⟩
    obtain ⟨k1, k2, g1⟩ := box2 hg
    have a0 : w1.cell? ⟨w.heap.size, 0, none⟩ = some (.int .i64 W) := k1.cell 0
    have a1 : w1.cell? ⟨w.heap.size, 1, none⟩ = some (.int .i64 H) := k1.cell 1
    have a2 : w1.cell? ⟨w.heap.size, 2, none⟩ = some (.slice A n cap) := k1.cell 2
    have hi := (HI.out.none (Nat.le_refl _) g1).more (B' := w1.heap.size) g1.size
    have K1 := Lib.hid k1
    have K2 := Lib.hid k2
    have G1 := Lib.hid g1
    clear hg k1 k2 g1
    go_wp2_with fail
    refine (HM.out _ hi).mono ?_
    rintro e w2 ⟨rfl, hg⟩
    have G2 := Lib.hid hg
    clear hg hi a0 a1 a2
    go_wp2_with fail
    go_ret
    exact ⟨ret_int64 HF.out.symm, gb_trans G1.out G2.out⟩
  | true =>
    have HM := Lib.hid (fun w h => specMeshOkV W H A n cap L true hm w h hn)
    cases ha : hasG W H a with
    | false =>
      have HA := Lib.hid (fun w => specHasV W H a false ha w)
      have HF := Lib.hid (HR.out.trans (if_neg (by simp [ha])))
      clear hm ha m0 m1 hk0 hk1 hp
      go_enter Try.func19, Try.ntmps19
      go_wp2_with fail
      refine (HN.out _).mono ?_
      rintro e w1 ⟨rfl, hg⟩
      obtain ⟨k1, k2, g1⟩ := box2 hg
      have a0 : w1.cell? ⟨w.heap.size, 0, none⟩ = some (.int .i64 W) := k1.cell 0
      have a1 : w1.cell? ⟨w.heap.size, 1, none⟩ = some (.int .i64 H) := k1.cell 1
      have a2 : w1.cell? ⟨w.heap.size, 2, none⟩ = some (.slice A n cap) := k1.cell 2
      have hi := (HI.out.none (Nat.le_refl _) g1).more (B' := w1.heap.size) g1.size
      have K1 := Lib.hid k1
      have K2 := Lib.hid k2
      have G1 := Lib.hid g1
      clear hg k1 k2 g1
      go_wp2_with fail
      refine (HM.out _ hi).mono ?_
      rintro e w2 ⟨rfl, hg⟩
      have G2 := Lib.hid hg
      clear hg hi a0 a1 a2
      have a0 : w2.cell? ⟨w.heap.size, 0, none⟩ = some (.int .i64 W) := (K1.out.grown G2.out (by simp)).cell 0
      have a1 : w2.cell? ⟨w.heap.size, 1, none⟩ = some (.int .i64 H) := (K1.out.grown G2.out (by simp)).cell 1
      go_wp2_with fail
      refine (HA.out _).mono ?_
      rintro e w3 ⟨rfl, hg⟩
      have G3 := Lib.hid hg
      clear hg a0 a1
      go_wp2_with fail
      go_ret
      exact ⟨ret_int64 HF.out.symm, gb_trans G1.out (gb_trans G2.out G3.out)⟩
    | true =>
      have HA := Lib.hid (fun w => specHasV W H a true ha w)
      cases hz : hasG W H z with
      | false =>
        have HZ := Lib.hid (fun w => specHasV W H z false hz w)
        have HF := Lib.hid (HR.out.trans (if_neg (by simp [hz])))
        clear hm ha hz m0 m1 hk0 hk1 hp
        go_enter Try.func19, Try.ntmps19
        go_wp2_with fail
        refine (HN.out _).mono ?_
        rintro e w1 ⟨rfl, hg⟩
        obtain ⟨k1, k2, g1⟩ := box2 hg
        have a0 : w1.cell? ⟨w.heap.size, 0, none⟩ = some (.int .i64 W) := k1.cell 0
        have a1 : w1.cell? ⟨w.heap.size, 1, none⟩ = some (.int .i64 H) := k1.cell 1
        have a2 : w1.cell? ⟨w.heap.size, 2, none⟩ = some (.slice A n cap) := k1.cell 2
        have hi := (HI.out.none (Nat.le_refl _) g1).more (B' := w1.heap.size) g1.size
        have K1 := Lib.hid k1
        have K2 := Lib.hid k2
        have G1 := Lib.hid g1
        clear hg k1 k2 g1
        go_wp2_with fail
        refine (HM.out _ hi).mono ?_
        rintro e w2 ⟨rfl, hg⟩
        have G2 := Lib.hid hg
        clear hg hi a0 a1 a2
        have a0 : w2.cell? ⟨w.heap.size, 0, none⟩ = some (.int .i64 W) := (K1.out.grown G2.out (by simp)).cell 0
        have a1 : w2.cell? ⟨w.heap.size, 1, none⟩ = some (.int .i64 H) := (K1.out.grown G2.out (by simp)).cell 1
        go_wp2_with fail
        refine (HA.out _).mono ?_
        rintro e w3 ⟨rfl, hg⟩
        have G3 := Lib.hid hg
        clear hg a0 a1
        have a0 : w3.cell? ⟨w.heap.size, 0, none⟩ = some (.int .i64 W) := (K1.out.grown (gb_trans G2.out G3.out) (by simp)).cell 0
        have a1 : w3.cell? ⟨w.heap.size, 1, none⟩ = some (.int .i64 H) := (K1.out.grown (gb_trans G2.out G3.out) (by simp)).cell 1
        go_wp2_with fail
        refine (HZ.out _).mono ?_
        rintro e w4 ⟨rfl, hg⟩
        have G4 := Lib.hid hg
        clear hg a0 a1
        go_wp2_with fail
        go_ret
        exact ⟨ret_int64 HF.out.symm, gb_trans G1.out (gb_trans G2.out (gb_trans G3.out G4.out))⟩
      | true =>
        have HZ := Lib.hid (fun w => specHasV W H z true hz w)
        by_cases hs : (n2 : Int) = k * k
        · obtain ⟨a0', a1'⟩ := hasG_iff.1 ha
          obtain ⟨z0', z1'⟩ := hasG_iff.1 hz
          rw [HK.out] at a1' z1'
          obtain ⟨t0, t1⟩ := tab_at hs a0' a1' z0' z1'
          obtain ⟨j, hj⟩ : ∃ j : Nat, a * k + z = (j : Int) := ⟨(a * k + z).toNat, (Int.toNat_of_nonneg t0).symm⟩
          have hjn : j < n2 := by omega
          have hak := Int.mul_nonneg a0' hk0
          have E1 := Lib.hid (show wrap64 (a * k) = a * k from IntWalk.wrap64_in _ (by omega))
          have E2 := Lib.hid (show wrap64 (a * k + z) = (j : Int) by rw [hj]; exact IntWalk.wrap64_in _ (by omega))
          obtain ⟨b, off, rfl, hbB, hcell⟩ := HP.out.at j hjn
          obtain ⟨p, hpp⟩ : ∃ p, P.getD j 0 = p := ⟨_, rfl⟩
          rw [hpp] at hcell
          have HC := Lib.hid hcell
          have htab : tabG k P a z = p := by unfold tabG; rw [hj, Int.toNat_natCast]; exact hpp
          have hq : ((n2 : Int) != k * k) = false := by simpa using hs
          have hr2 := HR.out
          rw [htab] at hr2
          have j0 : (0 : Int) ≤ (j : Int) := by omega
          have j1 : (j : Int) < (n2 : Int) := by omega
          by_cases hin : 0 ≤ p ∧ p ≤ 4
          · have HIN := Lib.hid (fun w => specInV p 0 4 true (decide_eq_true hin) w)
            have HF := Lib.hid (hr2.trans (if_pos ⟨⟨⟨⟨hm, hs⟩, ha⟩, hz⟩, hin⟩))
            clear hm ha hz m0 m1 hk0 hk1 hp a0' a1' z0' z1' t0 t1 hj hak hcell hpp htab hr2 hin hs
            go_enter Try.func19, Try.ntmps19
            go_wp2_with fail
            refine (HN.out _).mono ?_
            rintro e w1 ⟨rfl, hg⟩
            obtain ⟨k1, k2, g1⟩ := box2 hg
            have a0 : w1.cell? ⟨w.heap.size, 0, none⟩ = some (.int .i64 W) := k1.cell 0
            have a1 : w1.cell? ⟨w.heap.size, 1, none⟩ = some (.int .i64 H) := k1.cell 1
            have a2 : w1.cell? ⟨w.heap.size, 2, none⟩ = some (.slice A n cap) := k1.cell 2
            have hi := (HI.out.none (Nat.le_refl _) g1).more (B' := w1.heap.size) g1.size
            have K1 := Lib.hid k1
            have K2 := Lib.hid k2
            have G1 := Lib.hid g1
            clear hg k1 k2 g1
            go_wp2_with fail
            refine (HM.out _ hi).mono ?_
            rintro e w2 ⟨rfl, hg⟩
            have G2 := Lib.hid hg
            clear hg hi a0 a1 a2
            have a0 : w2.cell? ⟨w.heap.size, 0, none⟩ = some (.int .i64 W) := (K1.out.grown G2.out (by simp)).cell 0
            have a1 : w2.cell? ⟨w.heap.size, 1, none⟩ = some (.int .i64 H) := (K1.out.grown G2.out (by simp)).cell 1
            go_wp2_with fail
            refine (HA.out _).mono ?_
            rintro e w3 ⟨rfl, hg⟩
            have G3 := Lib.hid hg
            clear hg a0 a1
            have a0 : w3.cell? ⟨w.heap.size, 0, none⟩ = some (.int .i64 W) := (K1.out.grown (gb_trans G2.out G3.out) (by simp)).cell 0
            have a1 : w3.cell? ⟨w.heap.size, 1, none⟩ = some (.int .i64 H) := (K1.out.grown (gb_trans G2.out G3.out) (by simp)).cell 1
            go_wp2_with fail
            refine (HZ.out _).mono ?_
            rintro e w4 ⟨rfl, hg⟩
            have G4 := Lib.hid hg
            clear hg a0 a1
            have b0 : w4.cell? ⟨w.heap.size + 1, 0, none⟩ = some (.slice (some ⟨b, off, none⟩) n2 c2) := (K2.out.grown (gb_trans G2.out (gb_trans G3.out G4.out)) (by simp)).cell 0
            have hc : w4.cell? ⟨b, off + j, none⟩ = some (.int .i64 p) := (gb_trans G1.out (gb_trans G2.out (gb_trans G3.out G4.out))).cell HC.out (by simp)
            have hw := HW.out
            have e1 := E1.out
            have e2 := E2.out
            go_wp2_with fail
            refine (HIN.out _).mono ?_
            rintro e w5 ⟨rfl, rfl⟩
            go_wp2_with fail
            go_ret
            exact ⟨ret_int64 HF.out.symm, gb_trans G1.out (gb_trans G2.out (gb_trans G3.out G4.out))⟩
          · have HIN := Lib.hid (fun w => specInV p 0 4 false (decide_eq_false hin) w)
            have HF := Lib.hid (hr2.trans (if_neg (fun h => hin h.2)))
            clear hm ha hz m0 m1 hk0 hk1 hp a0' a1' z0' z1' t0 t1 hj hak hcell hpp htab hr2 hin hs
            go_enter Try.func19, Try.ntmps19
            go_wp2_with fail
            refine (HN.out _).mono ?_
            rintro e w1 ⟨rfl, hg⟩
            obtain ⟨k1, k2, g1⟩ := box2 hg
            have a0 : w1.cell? ⟨w.heap.size, 0, none⟩ = some (.int .i64 W) := k1.cell 0
            have a1 : w1.cell? ⟨w.heap.size, 1, none⟩ = some (.int .i64 H) := k1.cell 1
            have a2 : w1.cell? ⟨w.heap.size, 2, none⟩ = some (.slice A n cap) := k1.cell 2
            have hi := (HI.out.none (Nat.le_refl _) g1).more (B' := w1.heap.size) g1.size
            have K1 := Lib.hid k1
            have K2 := Lib.hid k2
            have G1 := Lib.hid g1
            clear hg k1 k2 g1
            go_wp2_with fail
            refine (HM.out _ hi).mono ?_
            rintro e w2 ⟨rfl, hg⟩
            have G2 := Lib.hid hg
            clear hg hi a0 a1 a2
            have a0 : w2.cell? ⟨w.heap.size, 0, none⟩ = some (.int .i64 W) := (K1.out.grown G2.out (by simp)).cell 0
            have a1 : w2.cell? ⟨w.heap.size, 1, none⟩ = some (.int .i64 H) := (K1.out.grown G2.out (by simp)).cell 1
            go_wp2_with fail
            refine (HA.out _).mono ?_
            rintro e w3 ⟨rfl, hg⟩
            have G3 := Lib.hid hg
            clear hg a0 a1
            have a0 : w3.cell? ⟨w.heap.size, 0, none⟩ = some (.int .i64 W) := (K1.out.grown (gb_trans G2.out G3.out) (by simp)).cell 0
            have a1 : w3.cell? ⟨w.heap.size, 1, none⟩ = some (.int .i64 H) := (K1.out.grown (gb_trans G2.out G3.out) (by simp)).cell 1
            go_wp2_with fail
            refine (HZ.out _).mono ?_
            rintro e w4 ⟨rfl, hg⟩
            have G4 := Lib.hid hg
            clear hg a0 a1
            have b0 : w4.cell? ⟨w.heap.size + 1, 0, none⟩ = some (.slice (some ⟨b, off, none⟩) n2 c2) := (K2.out.grown (gb_trans G2.out (gb_trans G3.out G4.out)) (by simp)).cell 0
            have hc : w4.cell? ⟨b, off + j, none⟩ = some (.int .i64 p) := (gb_trans G1.out (gb_trans G2.out (gb_trans G3.out G4.out))).cell HC.out (by simp)
            have hw := HW.out
            have e1 := E1.out
            have e2 := E2.out
            go_wp2_with fail
            refine (HIN.out _).mono ?_
            rintro e w5 ⟨rfl, rfl⟩
            go_wp2_with fail
            go_ret
            exact ⟨ret_int64 HF.out.symm, gb_trans G1.out (gb_trans G2.out (gb_trans G3.out G4.out))⟩
        · have hq : ((n2 : Int) != k * k) = true := by simpa using hs
          have HF := Lib.hid (HR.out.trans (if_neg (fun h => hs h.1.1.1.2)))
          clear hm ha hz m0 m1 hk0 hk1 hp hs
          go_enter Try.func19, Try.ntmps19
          go_wp2_with fail
          refine (HN.out _).mono ?_
          rintro e w1 ⟨rfl, hg⟩
          obtain ⟨k1, k2, g1⟩ := box2 hg
          have a0 : w1.cell? ⟨w.heap.size, 0, none⟩ = some (.int .i64 W) := k1.cell 0
          have a1 : w1.cell? ⟨w.heap.size, 1, none⟩ = some (.int .i64 H) := k1.cell 1
          have a2 : w1.cell? ⟨w.heap.size, 2, none⟩ = some (.slice A n cap) := k1.cell 2
          have hi := (HI.out.none (Nat.le_refl _) g1).more (B' := w1.heap.size) g1.size
          have K1 := Lib.hid k1
          have K2 := Lib.hid k2
          have G1 := Lib.hid g1
          clear hg k1 k2 g1
          go_wp2_with fail
          refine (HM.out _ hi).mono ?_
          rintro e w2 ⟨rfl, hg⟩
          have G2 := Lib.hid hg
          clear hg hi a0 a1 a2
          have a0 : w2.cell? ⟨w.heap.size, 0, none⟩ = some (.int .i64 W) := (K1.out.grown G2.out (by simp)).cell 0
          have a1 : w2.cell? ⟨w.heap.size, 1, none⟩ = some (.int .i64 H) := (K1.out.grown G2.out (by simp)).cell 1
          go_wp2_with fail
          refine (HA.out _).mono ?_
          rintro e w3 ⟨rfl, hg⟩
          have G3 := Lib.hid hg
          clear hg a0 a1
          have a0 : w3.cell? ⟨w.heap.size, 0, none⟩ = some (.int .i64 W) := (K1.out.grown (gb_trans G2.out G3.out) (by simp)).cell 0
          have a1 : w3.cell? ⟨w.heap.size, 1, none⟩ = some (.int .i64 H) := (K1.out.grown (gb_trans G2.out G3.out) (by simp)).cell 1
          go_wp2_with fail
          refine (HZ.out _).mono ?_
          rintro e w4 ⟨rfl, hg⟩
          have G4 := Lib.hid hg
          clear hg a0 a1
          have b0 : w4.cell? ⟨w.heap.size + 1, 0, none⟩ = some (.slice A2 n2 c2) := (K2.out.grown (gb_trans G2.out (gb_trans G3.out G4.out)) (by simp)).cell 0
          have hw := HW.out
          go_wp2_with fail
          go_ret
          exact ⟨ret_int64 HF.out.symm, gb_trans G1.out (gb_trans G2.out (gb_trans G3.out G4.out))⟩
end Go.Proofs.Ytjffnncfgnhefaa
