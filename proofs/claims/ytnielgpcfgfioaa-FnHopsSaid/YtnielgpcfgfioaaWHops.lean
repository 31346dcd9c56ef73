/- What is proved here: the law on hops answers true, for every draw; only new blocks are written. -/
import Derived.Test.YtnielgpcfgfioaaWRings
import Derived.Test.YtnielgpcfgfioaaRhS
import Derived.Test.YtnielgpcfgfioaaRhI
namespace Go.Proofs.Ytnielgpcfgfioaa
open Go.ChangeShapes Go.WideShapes Go.ChangeAt Go.RowKit
set_option linter.unusedVariables false
set_option maxRecDepth 20000

/-- Both lists of hops as they are. -/
structure HpAt (m a s : Nat) (v1 v2 : Value) (w wr : World) : Prop where
  o1 : wr.ownsRow w.heap.size 31 2 v1 s (depV (hopTo m a true s))
  o2 : wr.ownsRow w.heap.size 31 2 v2 s (depV (hopTo m a false s))
  lb : Below w.heap.size w wr
theorem HpAt.gb {m a s : Nat} {v1 v2 : Value} {w wr w' : World} (h : HpAt m a s v1 v2 w wr) (hg : wr.grownBy w' none) : HpAt m a s v1 v2 w w' := ⟨own_none h.o1 hg, own_none h.o2 hg, below_gb h.lb (Nat.le_refl _) hg⟩

set_option maxHeartbeats 1600000 in
theorem walk_FnHops (A : Option Addr) (n cap : Nat) (w : World) (hr : ByteRow w w.heap.size A n) :
    Calls Try.prog 4 #[.slice A n cap] w fun e w' => e = .returned (.bool true) ∧ Below w.heap.size w w' := by
  by_cases hbig : 1048576 < n
  · go_enter Try.func4, Try.ntmps4
    go_wp2_with fail
    refine (lawsBig A n cap _).mono ?_
    rintro e w1 ⟨rfl, rfl⟩
    rw [decide_eq_true hbig]
    go_wp2_with fail
    go_ret
    exact ⟨rfl, Below.refl _ _⟩
  · have HR := Lib.hid hr
    have hn : n ≤ 1048576 := by omega
    clear hr
    go_enter Try.func4, Try.ntmps4
    go_wp2_with fail
    refine (lawsBig A n cap _).mono ?_
    rintro e w1 ⟨rfl, rfl⟩
    rw [decide_eq_false hbig]
    go_wp2_with fail
    refine (drawPlaces A n cap _ HR.out hn).mono ?_
    rintro e w2 ⟨pb, c3, l, rfl, hl, hlb, hlc, hb2⟩
    obtain ⟨x0, hx0⟩ : ∃ x, l[0]? = some x := ⟨_, List.getElem?_eq_getElem (by omega)⟩
    obtain ⟨x1, hx1⟩ : ∃ x, l[1]? = some x := ⟨_, List.getElem?_eq_getElem (by omega)⟩
    obtain ⟨x2, hx2⟩ : ∃ x, l[2]? = some x := ⟨_, List.getElem?_eq_getElem (by omega)⟩
    obtain ⟨y0, hy0, hy1⟩ := modR (hlb x0 (List.mem_of_getElem? hx0)).1 (n := 11) (by omega)
    have p0 := hlc 0 x0 hx0
    have p1 := hlc 1 x1 hx1
    have p2 := hlc 2 x2 hx2
    have hy0' : Int.tmod x0 11 = (y0 : Int) := hy0
    obtain ⟨m, hm⟩ : ∃ m, 2 + y0 = m := ⟨_, rfl⟩
    have hm2 : 2 ≤ m := by omega
    have hm12 : m ≤ 12 := by omega
    obtain ⟨a, ha, ham⟩ := modR (hlb x1 (List.mem_of_getElem? hx1)).1 (n := m) (by omega)
    obtain ⟨b, hb, hbm⟩ := modR (hlb x2 (List.mem_of_getElem? hx2)).1 (n := m) (by omega)
    have e1 : IntKind.i64.wrap (2 + (y0 : Int)) = (m : Int) := by rw [IntWalk.i64_in _ (by omega)]; omega
    have e0 : IntKind.i64.wrap (y0 : Int) = (y0 : Int) := IntWalk.i64_in _ (by omega)
    have e2 : IntKind.i64.wrap (a : Int) = (a : Int) := IntWalk.i64_in _ (by omega)
    have e3 : IntKind.i64.wrap (b : Int) = (b : Int) := IntWalk.i64_in _ (by omega)
    have q0 : ((m : Int) == 0) = false := by simp; omega
    have q1 : ¬ (m : Int) = 0 := by omega
    have q2 : ¬ m = 0 := by omega
    have hok : ringOk (m : Int) (a : Int) (b : Int) = true := ringOk_iff.2 ⟨by omega, by omega, by omega⟩
    have HH1 := Lib.hid (fun w => implRingHops (m : Int) (a : Int) (b : Int) true w)
    have HH2 := Lib.hid (fun w => implRingHops (m : Int) (a : Int) (b : Int) false w)
    have HB1 := Lib.hid (fun w => implHopsBetween (m : Int) (a : Int) (b : Int) w)
    have HB2 := Lib.hid (fun w => specHopsBetween (m : Int) (a : Int) (b : Int) w)
    rw [hopG_nat hok] at HH1 HH2
    rw [betG_nat hok] at HB1 HB2
    obtain ⟨s, hs⟩ : ∃ s, hopN m a b = s := ⟨_, rfl⟩
    have hsm : s < m := by rw [← hs]; exact hopN_lt (by omega)
    rw [hs] at HH1 HH2 HB1 HB2
    have B2 := Lib.hid hb2
    clear hl hlb hlc hb2 hx0 hx1 hx2 hy0 hok hs
    go_wp2_with fail
    refine (HH1.out _).mono ?_
    rintro e w3 ⟨v3, rfl, o3, b3⟩
    rw [hopTo_length] at o3
    have O3 := Lib.hid (own_less o3 B2.out.size)
    have B3 := Lib.hid (B2.out.trans (b3.mono B2.out.size))
    obtain ⟨A3, c3, rfl, ha3⟩ := own_form o3
    have HA3 := Lib.hid ha3
    have K3 := Lib.hid b3
    clear o3 b3 ha3 p0 p1 p2
    go_wp2_with fail
    refine (HH2.out _).mono ?_
    rintro e w4 ⟨v4, rfl, o4, b4⟩
    rw [hopTo_length] at o4
    obtain ⟨A4, c4, rfl, ha4⟩ := own_form o4
    have HA4 := Lib.hid ha4
    have X4 := Lib.hid (show HpAt m a s (.slice A3 s c3) (.slice A4 s c4) w w4 from ⟨own_none O3.out (gb_of_below b4 none), own_less o4 B3.out.size, B3.out.trans (b4.mono B3.out.size)⟩)
    clear o4 b4 ha4
    go_wp2_with fail
    refine (HB1.out _).mono ?_
    rintro e w5 ⟨rfl, g5⟩
    have X5 := Lib.hid (X4.out.gb g5)
    clear g5
    go_wp2_with fail
    refine (HB2.out _).mono ?_
    rintro e w6 ⟨rfl, g6⟩
    have X6 := Lib.hid (X5.out.gb g6)
    clear g6
    go_wp2_with fail
    go_loopw [9] (fun i wr => ∃ k : Nat, i = .int .i64 (k : Int) ∧ k ≤ s ∧ HpAt m a s (.slice A3 s c3) (.slice A4 s c4) w wr) (fun i _ => s - (intOf i).toNat)
    case atStart => exact ⟨0, rfl, Nat.zero_le _, X6.out⟩
    case round =>
      obtain ⟨k, rfl, hk, hx⟩ := hrel
      have X7 := Lib.hid hx
      by_cases hlt : k < s
      · obtain ⟨g3, rfl⟩ := HA3.out (by omega)
        obtain ⟨g4, rfl⟩ := HA4.out (by omega)
        obtain ⟨r0, r1⟩ := hop_cell hx.o1 k (by rw [hopTo_length]; exact hlt)
        obtain ⟨s0, s1⟩ := hop_cell hx.o2 k (by rw [hopTo_length]; exact hlt)
        rw [hopTo_at hlt] at r0 r1 s0 s1
        have hcf : clsH m a false k = 0 := if_neg (by simp)
        simp only [hopAt, hcf] at r0 r1 s0 s1
        obtain ⟨z, hz⟩ : ∃ z, (a + k) % m = z := ⟨_, rfl⟩
        have hzm : z < m := by rw [← hz]; exact Nat.mod_lt _ (by omega)
        have t1 : IntKind.i64.wrap ((a : Int) + (k : Int)) = (a : Int) + (k : Int) := IntWalk.i64_in _ (by omega)
        have t2 : Int.tmod ((a : Int) + (k : Int)) (m : Int) = (z : Int) := by rw [show (a : Int) + (k : Int) = ((a + k : Nat) : Int) by omega, tmod_nat, hz]
        have t3 : IntKind.i64.wrap (z : Int) = (z : Int) := IntWalk.i64_in _ (by omega)
        have k0 : (0 : Int) ≤ (k : Int) := by omega
        have k1 : (k : Int) < (s : Int) := by omega
        rw [hz] at r0 s0
        by_cases hle : m ≤ a + k
        · have hct : clsH m a true k = 1 := if_pos ⟨rfl, hle⟩
          have hl1 : (m : Int) ≤ (a : Int) + (k : Int) := by omega
          rw [hct] at r1
          clear hx hz hcf hct
          go_wp2_with fail
          go_quiet (fail)
          go_wp2_with fail
          go_roundw
          case rel => exact ⟨k + 1, by go_num, by omega, X7.out.gb (by first | exact gb_refl _ _ | exact gb_drewN (gb_refl _ none) _)⟩
          case measure => simp [intOf]; omega
        · have hct : clsH m a true k = 0 := if_neg (fun h => hle h.2)
          have hl1 : ¬ (m : Int) ≤ (a : Int) + (k : Int) := by omega
          rw [hct] at r1
          clear hx hz hcf hct
          go_wp2_with fail
          go_quiet (fail)
          go_wp2_with fail
          go_roundw
          case rel => exact ⟨k + 1, by go_num, by omega, X7.out.gb (by first | exact gb_refl _ _ | exact gb_drewN (gb_refl _ none) _)⟩
          case measure => simp [intOf]; omega
      · have k1 : ¬ (k : Int) < (s : Int) := by omega
        clear hx
        go_wp2_with fail
        go_ret
        exact ⟨rfl, X7.out.lb⟩
end Go.Proofs.Ytnielgpcfgfioaa
