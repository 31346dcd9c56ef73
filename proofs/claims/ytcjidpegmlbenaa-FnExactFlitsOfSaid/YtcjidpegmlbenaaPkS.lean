/- What is proved here: what the model's PacketOk and FlitsOf return, for all arguments; only new blocks are written. -/
import Derived.Test.YtcjidpegmlbenaaFltE
import Derived.Test.YtcjidpegmlbenaaGridS
namespace Go.Proofs.Ytcjidpegmlbenaa
open Go.ChangeShapes Go.WideShapes Go.ChangeAt Go.RowKit
set_option linter.unusedVariables false
set_option maxRecDepth 20000

def pkB (W H : Int) (p : Pkt) (w : World) : World := (w.alloc (.cells #[.int .i64 W, .int .i64 H] 25)).alloc (.cells #[.int .i64 p.id, .int .i64 p.fr, .int .i64 p.to, .int .i64 p.cl, .int .i64 p.ln] 27)
/-- The boxes of a grid and a packet as they are. -/
structure PkAt (W H : Int) (p : Pkt) (w wr : World) : Prop where
  g : Blk wr w.heap.size 25 #[.int .i64 W, .int .i64 H]
  p : Blk wr (w.heap.size + 1) 27 #[.int .i64 p.id, .int .i64 p.fr, .int .i64 p.to, .int .i64 p.cl, .int .i64 p.ln]
  gb0 : w.grownBy wr none
section
variable {W H : Int} {p : Pkt} {w wr w' : World}
theorem pkAt_start : PkAt W H p w (pkB W H p w) := by
  have hp := Blk.new (w.alloc (.cells #[.int .i64 W, .int .i64 H] 25)) 27 #[.int .i64 p.id, .int .i64 p.fr, .int .i64 p.to, .int .i64 p.cl, .int .i64 p.ln]
  rw [alloc_size] at hp
  exact ⟨(Blk.new w 25 _).alloc _, hp, gb_alloc (gb_alloc (gb_refl w none) _) _⟩
theorem PkAt.gb (h : PkAt W H p w wr) (hg : wr.grownBy w' none) : PkAt W H p w w' := ⟨h.g.grown hg (by simp), h.p.grown hg (by simp), gb_trans h.gb0 hg⟩
theorem PkAt.cells (h : PkAt W H p w wr) : wr.cell? ⟨w.heap.size, 0, none⟩ = some (.int .i64 W) ∧ wr.cell? ⟨w.heap.size, 1, none⟩ = some (.int .i64 H) ∧ wr.cell? ⟨w.heap.size + 1, 0, none⟩ = some (.int .i64 p.id) ∧ wr.cell? ⟨w.heap.size + 1, 1, none⟩ = some (.int .i64 p.fr) ∧ wr.cell? ⟨w.heap.size + 1, 2, none⟩ = some (.int .i64 p.to) ∧ wr.cell? ⟨w.heap.size + 1, 3, none⟩ = some (.int .i64 p.cl) ∧ wr.cell? ⟨w.heap.size + 1, 4, none⟩ = some (.int .i64 p.ln) :=
  ⟨h.g.cell 0, h.g.cell 1, h.p.cell 0, h.p.cell 1, h.p.cell 2, h.p.cell 3, h.p.cell 4⟩
end

set_option maxHeartbeats 1600000 in
theorem specPacketOk (W H : Int) (p : Pkt) (w : World) :
    Calls Try.prog 17 #[.agg #[.int .i64 W, .int .i64 H], pktX p] w (RetB (pktOk W H p) w) := by
  have X0 := Lib.hid (pkAt_start (W := W) (H := H) (p := p) (w := w))
  obtain ⟨r, hr⟩ : ∃ r, pktOk W H p = r := ⟨_, rfl⟩
  rw [hr]
  have hr' := hr
  unfold pktOk at hr'
  unfold pktX
  have HIN := Lib.hid (fun (x lo hi : Int) (b : Bool) (hb : decide (lo ≤ x ∧ x ≤ hi) = b) w => specInV x lo hi b hb w)
  have HHS := Lib.hid (fun (n : Int) (b : Bool) (h : hasG W H n = b) w => specHasV W H n b h w)
  cases hb1 : decide (1 ≤ p.id ∧ p.id ≤ 9999) with
  | false =>
    rw [hb1, Bool.false_and] at hr'
    subst hr'
    have C0 := Lib.hid (HIN.out p.id 1 9999 false hb1)
    obtain ⟨a0, a1, a2, a3, a4, a5, a6⟩ := X0.out.cells
    clear hr hb1
    go_enter Try.func17, Try.ntmps17
    go_wp2_with fail
    refine (C0.out _).mono ?_
    rintro e w1 ⟨rfl, rfl⟩
    go_wp2_with fail
    go_ret
    exact ⟨rfl, X0.out.gb0⟩
  | true =>
    cases hb2 : hasG W H p.fr with
    | false =>
      rw [hb1, Bool.true_and, hb2, Bool.false_and] at hr'
      subst hr'
      have C0 := Lib.hid (HIN.out p.id 1 9999 true hb1)
      have C1 := Lib.hid (HHS.out p.fr false hb2)
      obtain ⟨a0, a1, a2, a3, a4, a5, a6⟩ := X0.out.cells
      clear hr hb1 hb2
      go_enter Try.func17, Try.ntmps17
      go_wp2_with fail
      refine (C0.out _).mono ?_
      rintro e w1 ⟨rfl, rfl⟩
      go_wp2_with fail
      refine (C1.out _).mono ?_
      rintro e w2 ⟨rfl, g2⟩
      have X2 := Lib.hid (X0.out.gb g2)
      clear g2 a0 a1 a2 a3 a4 a5 a6
      obtain ⟨a0, a1, a2, a3, a4, a5, a6⟩ := X2.out.cells
      go_wp2_with fail
      go_ret
      exact ⟨rfl, X2.out.gb0⟩
    | true =>
      cases hb3 : hasG W H p.to with
      | false =>
        rw [hb1, Bool.true_and, hb2, Bool.true_and, hb3, Bool.false_and] at hr'
        subst hr'
        have C0 := Lib.hid (HIN.out p.id 1 9999 true hb1)
        have C1 := Lib.hid (HHS.out p.fr true hb2)
        have C2 := Lib.hid (HHS.out p.to false hb3)
        obtain ⟨a0, a1, a2, a3, a4, a5, a6⟩ := X0.out.cells
        clear hr hb1 hb2 hb3
        go_enter Try.func17, Try.ntmps17
        go_wp2_with fail
        refine (C0.out _).mono ?_
        rintro e w1 ⟨rfl, rfl⟩
        go_wp2_with fail
        refine (C1.out _).mono ?_
        rintro e w2 ⟨rfl, g2⟩
        have X2 := Lib.hid (X0.out.gb g2)
        clear g2 a0 a1 a2 a3 a4 a5 a6
        obtain ⟨a0, a1, a2, a3, a4, a5, a6⟩ := X2.out.cells
        go_wp2_with fail
        refine (C2.out _).mono ?_
        rintro e w3 ⟨rfl, g3⟩
        have X3 := Lib.hid (X2.out.gb g3)
        clear g3 a0 a1 a2 a3 a4 a5 a6
        obtain ⟨a0, a1, a2, a3, a4, a5, a6⟩ := X3.out.cells
        go_wp2_with fail
        go_ret
        exact ⟨rfl, X3.out.gb0⟩
      | true =>
        cases hb4 : decide (p.fr ≠ p.to) with
        | false =>
          rw [hb1, Bool.true_and, hb2, Bool.true_and, hb3, Bool.true_and, hb4, Bool.false_and] at hr'
          subst hr'
          have C0 := Lib.hid (HIN.out p.id 1 9999 true hb1)
          have C1 := Lib.hid (HHS.out p.fr true hb2)
          have C2 := Lib.hid (HHS.out p.to true hb3)
          have hne : (p.fr != p.to) = false := by simpa using hb4
          obtain ⟨a0, a1, a2, a3, a4, a5, a6⟩ := X0.out.cells
          clear hr hb1 hb2 hb3 hb4
          go_enter Try.func17, Try.ntmps17
          go_wp2_with fail
          refine (C0.out _).mono ?_
          rintro e w1 ⟨rfl, rfl⟩
          go_wp2_with fail
          refine (C1.out _).mono ?_
          rintro e w2 ⟨rfl, g2⟩
          have X2 := Lib.hid (X0.out.gb g2)
          clear g2 a0 a1 a2 a3 a4 a5 a6
          obtain ⟨a0, a1, a2, a3, a4, a5, a6⟩ := X2.out.cells
          go_wp2_with fail
          refine (C2.out _).mono ?_
          rintro e w3 ⟨rfl, g3⟩
          have X3 := Lib.hid (X2.out.gb g3)
          clear g3 a0 a1 a2 a3 a4 a5 a6
          obtain ⟨a0, a1, a2, a3, a4, a5, a6⟩ := X3.out.cells
          go_wp2_with fail
          go_ret
          exact ⟨rfl, X3.out.gb0⟩
        | true =>
          cases hb5 : decide (0 ≤ p.cl ∧ p.cl ≤ 1) with
          | false =>
            rw [hb1, Bool.true_and, hb2, Bool.true_and, hb3, Bool.true_and, hb4, Bool.true_and, hb5, Bool.false_and] at hr'
            subst hr'
            have C0 := Lib.hid (HIN.out p.id 1 9999 true hb1)
            have C1 := Lib.hid (HHS.out p.fr true hb2)
            have C2 := Lib.hid (HHS.out p.to true hb3)
            have hne : (p.fr != p.to) = true := by simpa using hb4
            have C4 := Lib.hid (HIN.out p.cl 0 1 false hb5)
            obtain ⟨a0, a1, a2, a3, a4, a5, a6⟩ := X0.out.cells
            clear hr hb1 hb2 hb3 hb4 hb5
            go_enter Try.func17, Try.ntmps17
            go_wp2_with fail
            refine (C0.out _).mono ?_
            rintro e w1 ⟨rfl, rfl⟩
            go_wp2_with fail
            refine (C1.out _).mono ?_
            rintro e w2 ⟨rfl, g2⟩
            have X2 := Lib.hid (X0.out.gb g2)
            clear g2 a0 a1 a2 a3 a4 a5 a6
            obtain ⟨a0, a1, a2, a3, a4, a5, a6⟩ := X2.out.cells
            go_wp2_with fail
            refine (C2.out _).mono ?_
            rintro e w3 ⟨rfl, g3⟩
            have X3 := Lib.hid (X2.out.gb g3)
            clear g3 a0 a1 a2 a3 a4 a5 a6
            obtain ⟨a0, a1, a2, a3, a4, a5, a6⟩ := X3.out.cells
            go_wp2_with fail
            refine (C4.out _).mono ?_
            rintro e w5 ⟨rfl, rfl⟩
            go_wp2_with fail
            go_ret
            exact ⟨rfl, X3.out.gb0⟩
          | true =>
            obtain ⟨b6, hb6⟩ : ∃ b, decide (1 ≤ p.ln ∧ p.ln ≤ 5) = b := ⟨_, rfl⟩
            rw [hb1, Bool.true_and, hb2, Bool.true_and, hb3, Bool.true_and, hb4, Bool.true_and, hb5, Bool.true_and, hb6] at hr'
            subst hr'
            have C0 := Lib.hid (HIN.out p.id 1 9999 true hb1)
            have C1 := Lib.hid (HHS.out p.fr true hb2)
            have C2 := Lib.hid (HHS.out p.to true hb3)
            have hne : (p.fr != p.to) = true := by simpa using hb4
            have C4 := Lib.hid (HIN.out p.cl 0 1 true hb5)
            have C5 := Lib.hid (HIN.out p.ln 1 5 b6 hb6)
            obtain ⟨a0, a1, a2, a3, a4, a5, a6⟩ := X0.out.cells
            clear hr hb1 hb2 hb3 hb4 hb5 hb6
            go_enter Try.func17, Try.ntmps17
            go_wp2_with fail
            refine (C0.out _).mono ?_
            rintro e w1 ⟨rfl, rfl⟩
            go_wp2_with fail
            refine (C1.out _).mono ?_
            rintro e w2 ⟨rfl, g2⟩
            have X2 := Lib.hid (X0.out.gb g2)
            clear g2 a0 a1 a2 a3 a4 a5 a6
            obtain ⟨a0, a1, a2, a3, a4, a5, a6⟩ := X2.out.cells
            go_wp2_with fail
            refine (C2.out _).mono ?_
            rintro e w3 ⟨rfl, g3⟩
            have X3 := Lib.hid (X2.out.gb g3)
            clear g3 a0 a1 a2 a3 a4 a5 a6
            obtain ⟨a0, a1, a2, a3, a4, a5, a6⟩ := X3.out.cells
            go_wp2_with fail
            refine (C4.out _).mono ?_
            rintro e w5 ⟨rfl, rfl⟩
            go_wp2_with fail
            refine (C5.out _).mono ?_
            rintro e w6 ⟨rfl, rfl⟩
            go_wp2_with fail
            go_ret
            exact ⟨rfl, X3.out.gb0⟩
theorem specPacketOkV (W H : Int) (p : Pkt) (b : Bool) (h : pktOk W H p = b) (w : World) :
    Calls Try.prog 17 #[.agg #[.int .i64 W, .int .i64 H], pktX p] w (RetB b w) := h ▸ specPacketOk W H p w
/-- A new list of flits. -/
def NewF (D : List Flt) (w : World) (e : Ending) (w' : World) : Prop :=
  ∃ v, e = .returned v ∧ w'.ownsRow w.heap.size 39 5 v D.length (recV fltC D) ∧ Below w.heap.size w w'
def lenF : Value → Nat | .slice _ n _ => n | _ => 0

set_option maxHeartbeats 1600000 in
theorem specFlitsOf (W H : Int) (p : Pkt) (w : World) :
    Calls Try.prog 20 #[.agg #[.int .i64 W, .int .i64 H], pktX p] w (NewF (flitsG W H p) w) := by
  obtain ⟨i0, hi, hz0, hz1, hz2⟩ := info_parts info_flt
  have x0 := pkAt_start (W := W) (H := H) (p := p) (w := w)
  have X0 := Lib.hid (x0.gb (gb_alloc (gb_refl _ none) (.cells #[] 39)))
  have ho := World.ownsRow_made (base := w.heap.size) (e := 39) (size := 5) (pkB W H p w) #[] 0 x0.gb0.size (by decide) rfl
  have hs : (pkB W H p w).heap.size = w.heap.size + 2 := by unfold pkB; rw [alloc_size, alloc_size]
  rw [hs] at ho
  have HO0 := Lib.hid ho
  unfold pktX
  clear x0 ho hs
  cases hok : pktOk W H p with
  | false =>
    have HP := Lib.hid (fun w => specPacketOkV W H p false hok w)
    rw [flitsG_no hok]
    clear hok
    obtain ⟨a0, a1, a2, a3, a4, a5, a6⟩ := X0.out.cells
    go_enter Try.func20, Try.ntmps20
    go_wp2_with fail
    go_loopw [5, 6] (fun v i wr => v = .slice (some ⟨w.heap.size + 2, 0, none⟩) 0 0 ∧ i = .int .i64 0 ∧ wr = (pkB W H p w).alloc (.cells #[] 39)) (fun _ _ _ => 0)
    case atStart => exact ⟨rfl, rfl, rfl⟩
    case round =>
      obtain ⟨rfl, rfl, rfl⟩ := hrel
      by_cases hlt : (0 : Int) < p.ln
      · go_wp2_with fail
        refine (HP.out _).mono ?_
        rintro e w1 ⟨rfl, g1⟩
        have X1 := Lib.hid (X0.out.gb g1)
        have O1 := Lib.hid (own_none HO0.out g1)
        clear g1
        go_wp2_with fail
        go_ret
        exact ⟨_, rfl, O1.out, gb_below_none X1.out.gb0 (Nat.le_refl _)⟩
      · go_wp2_with fail
        go_ret
        exact ⟨_, rfl, HO0.out, gb_below_none X0.out.gb0 (Nat.le_refl _)⟩
  | true =>
    have HP := Lib.hid (fun w => specPacketOkV W H p true hok w)
    rw [flitsG_yes hok]
    have hln := (pktOk_iff.1 hok).2.2.2.2.2
    obtain ⟨m, hm⟩ : ∃ m : Nat, p.ln.toNat = m := ⟨_, rfl⟩
    have hmi : p.ln = (m : Int) := by omega
    have hm5 : m ≤ 5 := by omega
    have hm1 : 1 ≤ m := by omega
    have HFA := Lib.hid (fun k => show flitAt p k = ⟨p.id, p.to, p.cl, decide (k = 0), decide ((k : Int) = (m : Int) - 1)⟩ by rw [flitAt, hmi])
    rw [hm]
    obtain ⟨a0, a1, a2, a3, a4, a5, a6⟩ := X0.out.cells
    have HMI := Lib.hid hmi
    clear hok hln hm hmi
    go_enter Try.func20, Try.ntmps20
    go_wp2_with fail
    have X0' := Lib.hid (show PkAt W H p w ((pkB W H p w).alloc (.cells #[] 39)) from X0.out)
    clear a0 a1 a2 a3 a4 a5 a6
    go_loopw [5, 6] (fun v i wr => ∃ k : Nat, i = .int .i64 (k : Int) ∧ k ≤ m ∧ wr.ownsRow (w.heap.size) 39 5 v k (recV fltC (flitsTo p k)) ∧ (v.ownBlock ≠ some w.heap.size ∧ v.ownBlock ≠ some (w.heap.size + 1)) ∧ Blk wr w.heap.size 25 #[.int .i64 W, .int .i64 H] ∧ Blk wr (w.heap.size + 1) 27 #[.int .i64 p.id, .int .i64 p.fr, .int .i64 p.to, .int .i64 p.cl, .int .i64 p.ln] ∧ Below w.heap.size w wr) (fun v _ _ => 6 - lenF v)
    case atStart => exact ⟨0, rfl, Nat.zero_le _, HO0.out, ⟨by simp [Value.ownBlock] <;> omega, by simp [Value.ownBlock] <;> omega⟩, X0'.out.g, X0'.out.p, gb_below_none X0'.out.gb0 (Nat.le_refl _)⟩
    case round =>
      obtain ⟨k, rfl, hk, ho, hne, hbg, hbp, hbl⟩ := hrel
      have HO := Lib.hid ho
      have HBG := Lib.hid hbg
      have HBP := Lib.hid hbp
      have HB := Lib.hid hbl
      have HNE := Lib.hid hne
      have b0 : wr.cell? ⟨w.heap.size, 0, none⟩ = some (.int .i64 W) := hbg.cell 0
      have b1 : wr.cell? ⟨w.heap.size, 1, none⟩ = some (.int .i64 H) := hbg.cell 1
      have b2 : wr.cell? ⟨w.heap.size + 1, 0, none⟩ = some (.int .i64 p.id) := hbp.cell 0
      have b3 : wr.cell? ⟨w.heap.size + 1, 1, none⟩ = some (.int .i64 p.fr) := hbp.cell 1
      have b4 : wr.cell? ⟨w.heap.size + 1, 2, none⟩ = some (.int .i64 p.to) := hbp.cell 2
      have b5 : wr.cell? ⟨w.heap.size + 1, 3, none⟩ = some (.int .i64 p.cl) := hbp.cell 3
      have b6 : wr.cell? ⟨w.heap.size + 1, 4, none⟩ = some (.int .i64 p.ln) := hbp.cell 4
      obtain ⟨Av, cv, rfl, _⟩ := own_form ho
      have hsz := hbl.size
      have hlt2 := hbp.lt
      clear ho hne hbg hbp hbl
      by_cases hlt : k < m
      · have hl1 : (k : Int) < p.ln := by have := HMI.out; omega
        go_wp2_with fail
        refine (HP.out _).mono ?_
        rintro e w1 ⟨rfl, g1⟩
        have O1 := Lib.hid (own_none HO.out g1)
        have G1 := Lib.hid (HBG.out.grown g1 (by simp))
        have P1 := Lib.hid (HBP.out.grown g1 (by simp))
        have B1 := Lib.hid (below_gb HB.out (Nat.le_refl _) g1)
        have c2 : w1.cell? ⟨w.heap.size + 1, 0, none⟩ = some (.int .i64 p.id) := P1.out.cell 0
        have c4 : w1.cell? ⟨w.heap.size + 1, 2, none⟩ = some (.int .i64 p.to) := P1.out.cell 2
        have c5 : w1.cell? ⟨w.heap.size + 1, 3, none⟩ = some (.int .i64 p.cl) := P1.out.cell 3
        have c6 : w1.cell? ⟨w.heap.size + 1, 4, none⟩ = some (.int .i64 p.ln) := P1.out.cell 4
        have s1 := B1.out.size
        have e1 : IntKind.i64.wrap (p.ln - 1) = p.ln - 1 := IntWalk.i64_in _ (by have := HMI.out; omega)
        have u1 : ((k : Int) == 0) = decide (k = 0) := by by_cases h : k = 0 <;> simp [h]
        have u2 : ((k : Int) == p.ln - 1) = decide ((k : Int) = (m : Int) - 1) := by rw [HMI.out]; by_cases h : (k : Int) = (m : Int) - 1 <;> simp [h]
        obtain ⟨t1, ht1⟩ : ∃ t, decide (k = 0) = t := ⟨_, rfl⟩
        obtain ⟨t2, ht2⟩ : ∃ t, decide ((k : Int) = (m : Int) - 1) = t := ⟨_, rfl⟩
        rw [ht1] at u1
        rw [ht2] at u2
        have b3' := Lib.hid (show ∀ u ∈ [Value.int .i64 p.id, .int .i64 p.to, .int .i64 p.cl, .bool t1, .bool t2], u.oneCell' = true by simp [Value.oneCell'])
        have b4' := Lib.hid (show k + 1 ≤ maxLen by unfold maxLen; omega)
        have HTO := Lib.hid (show recV fltC (flitsTo p k) ++ [.int .i64 p.id, .int .i64 p.to, .int .i64 p.cl, .bool t1, .bool t2] = recV fltC (flitsTo p (k + 1)) by rw [flitsTo_next, recV_append, HFA.out, ht1, ht2]; rfl)
        have SZ := Lib.hid (show w.heap.size ≤ (w1.alloc (.cells #[.int .i64 p.id, .int .i64 p.to, .int .i64 p.cl, .bool t1, .bool t2] 39)).heap.size by rw [alloc_size]; omega)
        have W1 := Lib.hid P1.out.lt
        clear g1 b0 b1 b2 b3 b4 b5 b6 ht1 ht2
        go_wp2_with (at_builtin; refine wpList_append_own _ rfl _ _ 30 rfl w.heap.size 39 i0 (fltX flt0) 5 32 Try.underlying30 hi hz0 hz1 hz2 rfl (by decide) _ k _ rfl (O1.out.alloc _) ⟨w1.heap.size, 0, none⟩ 1 1 [.int .i64 p.id, .int .i64 p.to, .int .i64 p.cl, .bool t1, .bool t2] rfl rfl (World.news_of_block (cs := #[.int .i64 p.id, .int .i64 p.to, .int .i64 p.cl, .bool t1, .bool t2]) (t := 39) (fr := (0, 0)) (heap_alloc_new w1 _)) b3'.out b4'.out (by omega) SZ.out ?_; intro v' w4 hown4 hgrow4 hnb4; rw [HTO.out] at hown4; have O4 := Lib.hid hown4; have B4 := Lib.hid ((B1.out.alloc (B1.out.size) _).grown hgrow4 SZ.out (fun j hj => (O1.out.lt j hj).1)); have G4 := Lib.hid ((G1.out.alloc _).grown hgrow4 (fun e => HNE.out.1 e.symm)); have P4 := Lib.hid ((P1.out.alloc _).grown hgrow4 (fun e => HNE.out.2 e.symm)); have N4 := Lib.hid (show v'.ownBlock ≠ some w.heap.size ∧ v'.ownBlock ≠ some (w.heap.size + 1) from ⟨fun e => own_ne O4.out G4.out (by decide) e, fun e => own_ne O4.out P4.out (by decide) e⟩); obtain ⟨A4, c4', rfl, _⟩ := own_form hown4; clear hown4 hgrow4 hnb4)
        go_roundw
        case rel => exact ⟨k + 1, by go_num, by omega, O4.out, N4.out, G4.out, P4.out, B4.out⟩
        case measure => simp [lenF]; omega
      · have hkm : k = m := by omega
        have HKM := Lib.hid hkm
        have hl1 : ¬ (k : Int) < p.ln := by have := HMI.out; omega
        clear hkm
        go_wp2_with fail
        go_ret
        refine ⟨_, rfl, ?_, HB.out⟩
        have := HO.out
        rw [HKM.out] at this ⊢
        rw [flitsTo_length]
        exact this
end Go.Proofs.Ytcjidpegmlbenaa
