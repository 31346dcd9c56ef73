/- What is proved here: the law on neighbors answers true, for every draw; only new blocks are written. -/
import Derived.Test.YtidcmoflnimkiaaDrawGrid
import Derived.Test.YtidcmoflnimkiaaDrawPlaces
import Derived.Test.YtidcmoflnimkiaaBig
import Derived.Test.YtidcmoflnimkiaaDistI
import Derived.Test.YtidcmoflnimkiaaMeshI
import Derived.Test.YtidcmoflnimkiaaNeighM
namespace Go.Proofs.Ytidcmoflnimkiaa
open Go.ChangeShapes Go.WideShapes Go.ChangeAt Go.RowKit
set_option linter.unusedVariables false

theorem implOppositeV (p r : Int) (h : oppG p = r) (w : World) :
    Calls Try.prog 15 #[.int .i64 p] w fun e w' => e = .returned (.int .i64 r) ∧ w.grownBy w' none := h ▸ implOpposite p w
theorem implPortNameV (p : Int) (s : ByteArray) (h : portB p = s) (w : World) :
    Calls Try.prog 17 #[.int .i64 p] w (RetS s w) := h ▸ implPortName p w
theorem nodes_in {W H : Int} (hok : okG W H = true) : countG W H = W * H ∧ 1 ≤ W * H ∧ W * H ≤ 16 := by
  obtain ⟨hW, hH⟩ := okG_cases hok
  refine ⟨by simp [countG, hok], ?_⟩
  rcases hW with rfl | rfl | rfl | rfl <;> rcases hH with rfl | rfl | rfl | rfl <;> decide

set_option maxHeartbeats 1600000 in
theorem walk_FnNeighbors (A : Option Addr) (n cap : Nat) (w : World) (hr : ByteRow w w.heap.size A n) :
    Calls Try.prog 3 #[.slice A n cap] w fun e w' => e = .returned (.bool true) ∧ Below w.heap.size w w' := by
  by_cases hn : 1048576 < n
  · have hd : decide (1048576 < n) = true := by simpa using hn
    clear hr
    go_enter Try.func3, Try.ntmps3
    go_wp2_with fail
    refine (lawsBig _ _ _ _).mono ?_
    rintro e w' ⟨rfl, rfl⟩
    go_wp2_with fail
    go_ret
    exact ⟨rfl, Below.refl _ _⟩
  · have hd : decide (1048576 < n) = false := by simpa using hn
    have Hr := Lib.hid hr
    have Hn := Lib.hid hn
    clear hr hn
    go_enter Try.func3, Try.ntmps3
    go_wp2_with fail
    refine (lawsBig _ _ _ _).mono ?_
    rintro e w' ⟨rfl, rfl⟩
    go_wp2_with fail
    refine (drawGrid _ _ _ _ Hr.out (by have := Hn.out; omega)).mono ?_
    rintro e w1 ⟨W, H, rfl, hok, hb1⟩
    have HB1 := Lib.hid hb1
    obtain ⟨hcn, hn0, hn1⟩ := nodes_in hok
    have hwi : IntKind.i64.wrap (W * H) = W * H := IntWalk.i64_in _ (by omega)
    obtain ⟨m, hm⟩ : ∃ m, W * H = m := ⟨_, rfl⟩
    rw [hm] at hcn hn0 hn1
    have hwm : IntKind.i64.wrap (W * H) = m := hwi.trans hm
    have HWM := Lib.hid hwm
    have HMM := Lib.hid hm
    clear hwi hwm hm
    have HOK := Lib.hid hok
    have HCN := Lib.hid hcn
    have hr1 : ByteRow (w1.alloc (.cells #[.int .i64 W, .int .i64 H] 25)) (w1.alloc (.cells #[.int .i64 W, .int .i64 H] 25)).heap.size A n := by
      have hsz := hb1.size
      refine (Hr.out.keep fun p hp => ?_).more (by simp; omega)
      rw [World.cell?_of_block (Below.heap_alloc _ _ _ (by omega)), World.cell?_of_block (hb1.block p.block hp)]
    have HR1 := Lib.hid hr1
    have HBK := Lib.hid (Blk.new w1 25 #[.int .i64 W, .int .i64 H])
    clear hb1 hok hcn hr1
    go_wp2_with fail
    refine (drawPlaces _ _ _ _ HR1.out (by have := Hn.out; omega)).mono ?_
    rintro e w2 ⟨bp, cp, l, rfl, hl, hP, hcell, hb2⟩
    obtain ⟨q0, h0⟩ : ∃ x, l[0]? = some x := ⟨_, List.getElem?_eq_getElem (by omega)⟩
    have k0 := hcell 0 q0 h0
    obtain ⟨z0, z0'⟩ := hP q0 (List.mem_of_getElem? h0)
    have hbk2 := HBK.out.below hb2 (by simp)
    have c0 := hbk2.cell 0
    have c1 := hbk2.cell 1
    simp at c0 c1
    have HB2 := Lib.hid (show Below w.heap.size w w2 from by
      have h1 := HB1.out
      have hs := h1.size
      have h2 : Below w.heap.size w (w1.alloc (.cells #[.int .i64 W, .int .i64 H] 25)) := h1.alloc hs _
      exact ⟨hb2.os.trans h2.os, hb2.tape.trans h2.tape, hb2.output.trans h2.output, Nat.le_trans h2.size hb2.size, fun i hi => (hb2.block i (by simp; omega)).trans (h2.block i hi)⟩)
    have HK2 := Lib.hid hbk2
    obtain ⟨a, ha⟩ : ∃ x, q0 % m = x := ⟨_, rfl⟩
    have a1 : 0 ≤ a ∧ a < m := by rw [← ha]; exact ⟨Int.emod_nonneg _ (by omega), Int.emod_lt_of_pos _ (by omega)⟩
    have hA := Lib.hid (show hasG W H a = true by rw [hasG_iff, HCN.out]; exact a1)
    have hm0 : m ≠ 0 := by omega
    have htm : q0.tmod m = a := by rw [Int.tmod_eq_emod_of_nonneg z0]; exact ha
    have hwm := HWM.out
    clear hl hP hcell hb2 h0 hbk2 ha
    go_wp2_with fail
    go_quiet (fail)
    have HGn := Lib.hid (show w2.grownBy (w2.drewN nq) none from gb_drewN (gb_refl _ _) nq)
    clear k0 z0 z0' c0 c1 htm hwm hm0
    go_wp2_with fail
    go_loopw [6] (fun i wr => ∃ k : Nat, i = .int .i64 (k : Int) ∧ k ≤ 4 ∧ w2.grownBy wr none) (fun i _ => 4 - (intOf i).toNat)
    case atStart => exact ⟨0, rfl, by omega, HGn.out⟩
    case round =>
      obtain ⟨k, rfl, hk, hg⟩ := hrel
      have HG := Lib.hid hg
      have hbk := HK2.out.grown hg (by simp)
      have HBR := Lib.hid hbk
      have c0 := hbk.cell 0
      have c1 := hbk.cell 1
      simp at c0 c1
      clear hg hbk
      by_cases hk4 : k < 4
      · obtain ⟨b, o, e1, e2, o0, o1, o2, e3, e4, b0, b1⟩ := neigh_fact (q := (k : Int)) hA.out (by omega) (by omega)
        have hoe : (o == (k : Int)) = false := by simpa using o2
        have N1 := Lib.hid (fun w => implNextNodeV W H a k b e1 w)
        have P1 := Lib.hid (fun w => implOppositeV k o e2 w)
        have P2 := Lib.hid (fun w => implOppositeV o k e3 w)
        have E4 := Lib.hid e4
        clear e1 e2 e3 e4 o2
        go_wp2_with fail
        refine (N1.out _).mono ?_
        rintro e w3 ⟨rfl, hg3⟩
        have HG3 := Lib.hid (gb_trans HG.out hg3)
        have HK3 := Lib.hid (HBR.out.grown hg3 (by simp))
        clear hg3 c0 c1
        go_wp2_with fail
        refine (P1.out _).mono ?_
        rintro e w4 ⟨rfl, hg4⟩
        have HG4 := Lib.hid (gb_trans HG3.out hg4)
        have HK4 := Lib.hid (HK3.out.grown hg4 (by simp))
        clear hg4
        go_wp2_with fail
        refine (P2.out _).mono ?_
        rintro e w5 ⟨rfl, hg5⟩
        have HG5 := Lib.hid (gb_trans HG4.out hg5)
        have hb5 := HK4.out.grown hg5 (by simp)
        have HK5 := Lib.hid hb5
        have d0 := hb5.cell 0
        have d1 := hb5.cell 1
        simp at d0 d1
        clear hg5 hb5
        by_cases hb : b ≥ 0
        · obtain ⟨e5, e6⟩ := E4.out hb
          have N2 := Lib.hid (fun w => implNextNodeV W H b o a e5 w)
          have D2 := Lib.hid (fun w => implDistanceV W H a b 1 e6 w)
          clear e5 e6
          go_wp2_with fail
          refine (N2.out _).mono ?_
          rintro e w6 ⟨rfl, hg6⟩
          have HG6 := Lib.hid (gb_trans HG5.out hg6)
          have hb6 := HK5.out.grown hg6 (by simp)
          have f0 := hb6.cell 0
          have f1 := hb6.cell 1
          simp at f0 f1
          clear hg6 hb6 d0 d1
          go_wp2_with fail
          refine (D2.out _).mono ?_
          rintro e w7 ⟨rfl, hg7⟩
          have HG7 := Lib.hid (gb_trans HG6.out hg7)
          clear hg7 f0 f1
          go_wp2_with fail
          go_roundw
          case rel => exact ⟨k + 1, by go_num, by omega, HG7.out⟩
          case measure => simp [intOf] <;> omega
        · go_wp2_with fail
          go_roundw
          case rel => exact ⟨k + 1, by go_num, by omega, HG5.out⟩
          case measure => simp [intOf] <;> omega
      · obtain rfl : k = 4 := by omega
        go_wp2_with fail
        refine (implNextNodeV W H a 4 a (next4 hA.out) _).mono ?_
        rintro e w3 ⟨rfl, hg3⟩
        have HG3 := Lib.hid (gb_trans HG.out hg3)
        clear hg3 c0 c1
        go_wp2_with fail
        refine (implOppositeV 1 3 (by decide) _).mono ?_
        rintro e w4 ⟨rfl, hg4⟩
        have HG4 := Lib.hid (gb_trans HG3.out hg4)
        clear hg4
        go_wp2_with fail
        refine (implPortNameV 3 ⟨#[119, 101, 115, 116]⟩ (by decide) _).mono ?_
        rintro e w5 ⟨rfl, hg5⟩
        have HG5 := Lib.hid (gb_trans HG4.out hg5)
        clear hg5
        go_wp2_with fail
        go_ret
        exact ⟨rfl, HB2.out.trans (gb_below_none HG5.out HB2.out.size)⟩
end Go.Proofs.Ytidcmoflnimkiaa
