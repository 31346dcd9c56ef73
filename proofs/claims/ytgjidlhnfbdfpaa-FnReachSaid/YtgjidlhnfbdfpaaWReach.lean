/- What is proved here: the law on the numbers of steps answers true, for every draw; only new blocks are written. -/
import Derived.Test.YtgjidlhnfbdfpaaListD
import Derived.Test.YtgjidlhnfbdfpaaDrawPlaces
import Derived.Test.YtgjidlhnfbdfpaaBig
import Derived.Test.YtgjidlhnfbdfpaaPathM
import Derived.Test.YtgjidlhnfbdfpaaStepI
namespace Go.Proofs.Ytgjidlhnfbdfpaa
open Go.ChangeShapes Go.WideShapes Go.ChangeAt Go.RowKit
set_option linter.unusedVariables false
set_option maxRecDepth 20000

theorem steps_of {D : List Dep} (h : okD D = true) {a b : Nat} (ha : a < 128) (hb : b < 128) : stepsG D (a : Int) (b : Int) = if distD D a b = 0 then -1 else (distD D a b : Int) := by
  unfold stepsG
  rw [if_pos ⟨h, by omega, by omega⟩, Int.toNat_natCast, Int.toNat_natCast]
/-- The triangle inequality, with -1 for 'none'. -/
theorem reach_tri {D : List Dep} (h : okD D = true) {x y z : Nat} (hx : x < 128) (hy : y < 128) (hz : z < 128) {a b c : Int} (ea : stepsG D (x : Int) (y : Int) = a) (eb : stepsG D (y : Int) (z : Int) = b) (ec : stepsG D (x : Int) (z : Int) = c) :
    a ≠ 0 ∧ a ≤ 128 ∧ b ≤ 128 ∧ (a < 0 ∨ b < 0 ∨ (0 < c ∧ c ≤ a + b)) := by
  rw [steps_of h hx hy] at ea
  rw [steps_of h hy hz] at eb
  rw [steps_of h hx hz] at ec
  have h1 := dist_le h x y
  have h2 := dist_le h y z
  by_cases d1 : distD D x y = 0
  · rw [if_pos d1] at ea
    split at eb <;> exact ⟨by omega, by omega, by omega, .inl (by omega)⟩
  · rw [if_neg d1] at ea
    by_cases d2 : distD D y z = 0
    · rw [if_pos d2] at eb
      exact ⟨by omega, by omega, by omega, .inr (.inl (by omega))⟩
    · rw [if_neg d2] at eb
      have h3 := dist_tri h (a := x) (b := y) (c := z) (by omega) (by omega)
      rw [if_neg (by omega)] at ec
      exact ⟨by omega, by omega, by omega, .inr (.inr ⟨by omega, by omega⟩)⟩
/-- The drawn list. -/
def ReL (w : World) (D : List Dep) (N : Nat) (va : Value) (wr : World) : Prop := wr.ownsRow w.heap.size 55 2 va N (depV D) ∧ Below w.heap.size w wr
theorem ReL.gb {w wr w' : World} {D : List Dep} {N : Nat} {va : Value} (h : ReL w D N va wr) (hg : wr.grownBy w' none) : ReL w D N va w' := ⟨own_none h.1 hg, below_gb h.2 (Nat.le_refl _) hg⟩
theorem gb_drY {a b : World} {row : Option Nat} (h : a.drew.grownBy b row) : a.grownBy b row := ⟨h.os, h.tape, h.output, h.size, h.block⟩
theorem mod6 {x : Int} (h : 0 ≤ x) : ∃ y : Nat, Int.tmod x 6 = (y : Int) ∧ y < 6 := by
  refine ⟨(Int.tmod x 6).toNat, ?_, ?_⟩ <;> rw [Int.tmod_eq_emod_of_nonneg h] <;> omega

set_option maxHeartbeats 3200000 in
theorem walk_FnReach (A : Option Addr) (n cap : Nat) (w : World) (hr : ByteRow w w.heap.size A n) :
    Calls Try.prog 4 #[.slice A n cap] w fun e w' => e = .returned (.bool true) ∧ Below w.heap.size w w' := by
  by_cases hbig : 1048576 < n
  · go_enter Try.func4, Try.ntmps4
    go_wp2_with fail
    refine (lawsBig A n cap _).mono ?_
    rintro e w1 ⟨rfl, rfl⟩
    rw [decide_eq_true hbig]
    go_wp2_with fail
    go_ret
    exact ⟨rfl, Below.refl _ _⟩
  · have HR := Lib.hid hr
    have hn : n ≤ 1048576 := by omega
    clear hr
    go_enter Try.func4, Try.ntmps4
    go_wp2_with fail
    refine (lawsBig A n cap _).mono ?_
    rintro e w1 ⟨rfl, rfl⟩
    rw [decide_eq_false hbig]
    go_wp2_with fail
    refine (drawDepends A n cap _ HR.out hn).mono ?_
    rintro e w0 ⟨va, D, rfl, hDa, hDs, hDl, ho0, hb0⟩
    have HOK := Lib.hid (okD_of hDa fun d hd => by have := hDs d hd; exact inD_iff.2 (by omega))
    obtain ⟨Aa, ca, rfl, _⟩ := own_form ho0
    have HRW := Lib.hid (show ByteRow w0 w0.heap.size A n from (HR.out.keep fun p hp => World.cell?_of_block (hb0.block p.block hp)).more hb0.size)
    have HST := Lib.hid (fun (x y : Int) w h => implSteps Aa D.length ca D x y w h (by omega))
    obtain ⟨N, hN⟩ : ∃ N, D.length = N := ⟨_, rfl⟩
    have X0 := Lib.hid (show ReL w D D.length (.slice Aa D.length ca) w0 from ⟨ho0, hb0⟩)
    rw [hN] at X0 HST
    clear ho0 hb0 hDa hDs hDl
    go_wp2_with fail
    (try simp only [hN])
    clear hN
    refine (drawPlaces A n cap _ HRW.out hn).mono ?_
    rintro e w5 ⟨pb, c3, l, rfl, hl, hlb, hlc, hb5⟩
    have X5 := Lib.hid (X0.out.gb (gb_of_below hb5 none))
    obtain ⟨x0, hx0⟩ : ∃ x, l[0]? = some x := ⟨_, List.getElem?_eq_getElem (by omega)⟩
    obtain ⟨x1, hx1⟩ : ∃ x, l[1]? = some x := ⟨_, List.getElem?_eq_getElem (by omega)⟩
    obtain ⟨x2, hx2⟩ : ∃ x, l[2]? = some x := ⟨_, List.getElem?_eq_getElem (by omega)⟩
    obtain ⟨y0, hy0, hy06⟩ := mod6 (hlb x0 (List.mem_of_getElem? hx0)).1
    obtain ⟨y1, hy1, hy16⟩ := mod6 (hlb x1 (List.mem_of_getElem? hx1)).1
    obtain ⟨y2, hy2, hy26⟩ := mod6 (hlb x2 (List.mem_of_getElem? hx2)).1
    have p0 := hlc 0 x0 hx0
    have p1 := hlc 1 x1 hx1
    have p2 := hlc 2 x2 hx2
    obtain ⟨a, ha⟩ : ∃ a, stepsG D (y0 : Int) (y1 : Int) = a := ⟨_, rfl⟩
    obtain ⟨b, hb⟩ : ∃ b, stepsG D (y1 : Int) (y2 : Int) = b := ⟨_, rfl⟩
    obtain ⟨c, hc⟩ : ∃ c, stepsG D (y0 : Int) (y2 : Int) = c := ⟨_, rfl⟩
    have HTRI := Lib.hid (reach_tri HOK.out (by omega) (by omega) (by omega) ha hb hc)
    have C1 := Lib.hid (fun w h => show Calls Try.prog 14 #[.slice Aa N ca, .int .i64 (y0 : Int), .int .i64 (y1 : Int)] w (RetI a none w) from ha ▸ HST.out (y0 : Int) (y1 : Int) w h)
    have C2 := Lib.hid (fun w h => show Calls Try.prog 14 #[.slice Aa N ca, .int .i64 (y1 : Int), .int .i64 (y2 : Int)] w (RetI b none w) from hb ▸ HST.out (y1 : Int) (y2 : Int) w h)
    have C3 := Lib.hid (fun w h => show Calls Try.prog 14 #[.slice Aa N ca, .int .i64 (y0 : Int), .int .i64 (y2 : Int)] w (RetI c none w) from hc ▸ HST.out (y0 : Int) (y2 : Int) w h)
    have z0 : IntKind.i64.wrap (y0 : Int) = (y0 : Int) := IntWalk.i64_in _ (by omega)
    have z1 : IntKind.i64.wrap (y1 : Int) = (y1 : Int) := IntWalk.i64_in _ (by omega)
    have z2 : IntKind.i64.wrap (y2 : Int) = (y2 : Int) := IntWalk.i64_in _ (by omega)
    have D5 := Lib.hid (show DepAt w5.drew w5.drew.heap.size Aa N D from depAt_own (own_none X5.out.1 (gb_drew (gb_refl w5 none))) (Nat.le_refl _))
    clear hl hlb hlc hb5 hx0 hx1 hx2 ha hb hc
    go_wp2_with fail
    go_region_held3 (fun w' => w'.cell? ⟨pb, 0, none⟩ = some (.int .i64 x0) ∧ w'.cell? ⟨pb, 1, none⟩ = some (.int .i64 x1) ∧ w'.cell? ⟨pb, 2, none⟩ = some (.int .i64 x2))
      (first | exact ⟨p0, p1, p2⟩ | exact ⟨q0, q1, q2⟩ | fail)
      (first
        | (go_at_call 14; (with_reducible refine (C1.out _ D5.out).mono ?_); rintro e w6 ⟨rfl, g6⟩; have h6 := gb_drY g6; have q0 := h6.cell p0 (by simp); have q1 := h6.cell p1 (by simp); have q2 := h6.cell p2 (by simp); have X6 := Lib.hid (X5.out.gb h6); clear g6 h6)
        | fail)
    have D6 := Lib.hid (show DepAt w6.drew w6.drew.heap.size Aa N D from depAt_own (own_none X6.out.1 (gb_drew (gb_refl w6 none))) (Nat.le_refl _))
    clear p0 p1 p2
    go_wp2_with fail
    go_region_held3 (fun w' => w'.cell? ⟨pb, 0, none⟩ = some (.int .i64 x0) ∧ w'.cell? ⟨pb, 1, none⟩ = some (.int .i64 x1) ∧ w'.cell? ⟨pb, 2, none⟩ = some (.int .i64 x2))
      (first | exact ⟨q0, q1, q2⟩ | exact ⟨r0, r1, r2⟩ | fail)
      (first
        | (go_at_call 14; (with_reducible refine (C2.out _ D6.out).mono ?_); rintro e w7 ⟨rfl, g7⟩; have h7 := gb_drY g7; have r0 := h7.cell q0 (by simp); have r1 := h7.cell q1 (by simp); have r2 := h7.cell q2 (by simp); have X7 := Lib.hid (X6.out.gb h7); clear g7 h7)
        | fail)
    have D7 := Lib.hid (show DepAt w7.drew w7.drew.heap.size Aa N D from depAt_own (own_none X7.out.1 (gb_drew (gb_refl w7 none))) (Nat.le_refl _))
    clear q0 q1 q2
    go_wp2_with fail
    go_region_held3 (fun w' => w'.cell? ⟨pb, 0, none⟩ = some (.int .i64 x0) ∧ w'.cell? ⟨pb, 1, none⟩ = some (.int .i64 x1) ∧ w'.cell? ⟨pb, 2, none⟩ = some (.int .i64 x2))
      (first | exact ⟨r0, r1, r2⟩ | exact ⟨s0, s1, s2⟩ | fail)
      (first
        | (go_at_call 14; (with_reducible refine (C3.out _ D7.out).mono ?_); rintro e w8 ⟨rfl, g8⟩; have h8 := gb_drY g8; have s0 := h8.cell r0 (by simp); have s1 := h8.cell r1 (by simp); have s2 := h8.cell r2 (by simp); have X8 := Lib.hid (X7.out.gb h8); clear g8 h8)
        | fail)
    clear r0 r1 r2 s0 s1 s2
    obtain ⟨ha0, ha1, hb1, htri⟩ := HTRI.out
    have hab : (a != 0) = true := by simp; omega
    rcases htri with h1 | h1 | ⟨h1, h2⟩
    · go_wp2_with fail
      go_ret
      exact ⟨rfl, X8.out.2⟩
    · by_cases h3 : a < 0
      · go_wp2_with fail
        go_ret
        exact ⟨rfl, X8.out.2⟩
      · go_wp2_with fail
        go_ret
        exact ⟨rfl, X8.out.2⟩
    · by_cases h3 : a < 0
      · go_wp2_with fail
        go_ret
        exact ⟨rfl, X8.out.2⟩
      · by_cases h4 : b < 0
        · go_wp2_with fail
          go_ret
          exact ⟨rfl, X8.out.2⟩
        · have h5 : IntKind.i64.wrap (a + b) = a + b := IntWalk.i64_in _ (by omega)
          go_wp2_with fail
          go_ret
          exact ⟨rfl, X8.out.2⟩
end Go.Proofs.Ytgjidlhnfbdfpaa
