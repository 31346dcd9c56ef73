/- What is proved here: what the program's PacketOk and FlitsOf return, for all arguments; only new blocks are written. -/
import Derived.Test.YtcjidpegmlbenaaGkI
import Derived.Test.YtcjidpegmlbenaaPkS
import Derived.Test.YtcjidpegmlbenaaFltL
namespace Go.Proofs.Ytcjidpegmlbenaa
open Go.ChangeShapes Go.WideShapes Go.ChangeAt Go.RowKit
set_option linter.unusedVariables false
set_option maxRecDepth 20000

theorem implIsClass (c : Int) (b : Bool) (hb : decide (0 ≤ c ∧ c ≤ 1) = b) (w : World) :
    Calls Try.prog 34 #[.int .i64 c] w fun e w' => e = .returned (.bool b) ∧ w = w' := by
  have HB := Lib.hid hb
  clear hb
  by_cases h0 : c = 0
  · have HN := Lib.hid (show true = b by rw [← HB.out]; exact (decide_eq_true (by omega)).symm)
    subst h0
    go_enter Try.func34, Try.ntmps34
    go_wp2_with fail
    go_ret
    exact ⟨ret_bool HN.out, rfl⟩
  · have HN := Lib.hid (show (c == 1) = b by rw [← HB.out]; exact Bool.eq_iff_iff.2 (by simp; omega))
    have q0 : (c == 0) = false := by simpa using h0
    go_enter Try.func34, Try.ntmps34
    go_wp2_with fail
    go_ret
    exact ⟨ret_bool (by first | exact HN.out | (rw [← HN.out]; simp)), rfl⟩
theorem hasNV (W H n : Int) (b : Bool) (h : hasG W H n = b) (w : World) :
    Calls Try.prog 33 #[.agg #[.int .i64 W, .int .i64 H], .int .i64 n] w (RetB b w) := h ▸ implHasNode W H n w
theorem pk_bad {W H : Int} {p : Pkt} {b : Bool} (hb : pktOk W H p = b) (h : ¬ ((1 ≤ p.id ∧ p.id ≤ 9999) ∧ hasG W H p.fr = true ∧ hasG W H p.to = true ∧ p.fr ≠ p.to ∧ (0 ≤ p.cl ∧ p.cl ≤ 1) ∧ (1 ≤ p.ln ∧ p.ln ≤ 5))) : false = b := by
  subst hb
  cases hk : pktOk W H p with
  | false => rfl
  | true => exact absurd (pktOk_iff.1 hk) h

set_option maxHeartbeats 1600000 in
theorem implPacketOkV (W H : Int) (p : Pkt) (b : Bool) (hb : pktOk W H p = b) (w : World) :
    Calls Try.prog 13 #[.agg #[.int .i64 W, .int .i64 H], pktX p] w (RetB b w) := by
  have X0 := Lib.hid (pkAt_start (W := W) (H := H) (p := p) (w := w))
  unfold pktX
  have HHS := Lib.hid (fun (n : Int) (b : Bool) (h : hasG W H n = b) w => hasNV W H n b h w)
  have HBAD := Lib.hid (pk_bad hb)
  have HB := Lib.hid hb
  clear hb
  obtain ⟨a0, a1, a2, a3, a4, a5, a6⟩ := X0.out.cells
  cases hb2 : hasG W H p.fr with
  | false =>
    have C1 := Lib.hid (HHS.out p.fr false hb2)
    have R := Lib.hid (HBAD.out (by rw [hb2]; simp))
    clear hb2
    go_enter Try.func13, Try.ntmps13
    go_wp2_with fail
    refine (C1.out _).mono ?_
    rintro e w2 ⟨rfl, g2⟩
    have X2 := Lib.hid (X0.out.gb g2)
    clear g2 a0 a1 a2 a3 a4 a5 a6
    go_wp2_with fail
    go_ret
    exact ⟨ret_bool R.out, X2.out.gb0⟩
  | true =>
    have C1 := Lib.hid (HHS.out p.fr true hb2)
    cases hb3 : hasG W H p.to with
    | false =>
      have C2 := Lib.hid (HHS.out p.to false hb3)
      have R := Lib.hid (HBAD.out (by rw [hb3]; simp))
      clear hb2 hb3
      go_enter Try.func13, Try.ntmps13
      go_wp2_with fail
      refine (C1.out _).mono ?_
      rintro e w2 ⟨rfl, g2⟩
      have X2 := Lib.hid (X0.out.gb g2)
      clear g2 a0 a1 a2 a3 a4 a5 a6
      obtain ⟨a0, a1, a2, a3, a4, a5, a6⟩ := X2.out.cells
      go_wp2_with fail
      refine (C2.out _).mono ?_
      rintro e w3 ⟨rfl, g3⟩
      have X3 := Lib.hid (X2.out.gb g3)
      clear g3 a0 a1 a2 a3 a4 a5 a6
      go_wp2_with fail
      go_ret
      exact ⟨ret_bool R.out, X3.out.gb0⟩
    | true =>
      have C2 := Lib.hid (HHS.out p.to true hb3)
      by_cases hb4 : p.fr = p.to
      · have R := Lib.hid (HBAD.out (fun h => h.2.2.2.1 hb4))
        have q4 : (p.fr == p.to) = true := by simp [hb4]
        clear hb2 hb3 hb4
        go_enter Try.func13, Try.ntmps13
        go_wp2_with fail
        refine (C1.out _).mono ?_
        rintro e w2 ⟨rfl, g2⟩
        have X2 := Lib.hid (X0.out.gb g2)
        clear g2 a0 a1 a2 a3 a4 a5 a6
        obtain ⟨a0, a1, a2, a3, a4, a5, a6⟩ := X2.out.cells
        go_wp2_with fail
        refine (C2.out _).mono ?_
        rintro e w3 ⟨rfl, g3⟩
        have X3 := Lib.hid (X2.out.gb g3)
        clear g3 a0 a1 a2 a3 a4 a5 a6
        obtain ⟨a0, a1, a2, a3, a4, a5, a6⟩ := X3.out.cells
        go_wp2_with fail
        go_ret
        exact ⟨ret_bool R.out, X3.out.gb0⟩
      · have q4 : (p.fr == p.to) = false := by simpa using hb4
        obtain ⟨bc, hbc⟩ : ∃ bc, decide (0 ≤ p.cl ∧ p.cl ≤ 1) = bc := ⟨_, rfl⟩
        have C3 := Lib.hid (implIsClass p.cl bc hbc)
        have R := Lib.hid (show (decide (1 ≤ p.id) && (decide (p.id ≤ 9999) && (bc && (decide (1 ≤ p.ln) && decide (p.ln ≤ 5))))) = b by
          rw [← HB.out, pktOk, hb2, hb3, ← hbc, decide_eq_true hb4]
          exact Bool.eq_iff_iff.2 (by simp; omega))
        clear hb2 hb3 hb4 hbc
        by_cases i1 : p.id ≥ 1 <;> by_cases i2 : p.id ≤ 9999 <;> cases bc <;> by_cases i3 : p.ln ≥ 1 <;> by_cases i4 : p.ln ≤ 5
        all_goals first | (exfalso; omega) | skip
        all_goals
          have R2 := Lib.hid (show b = _ from by have h := R.out; simp [i1, i2, i3, i4] at h; exact h)
          clear R
          go_enter Try.func13, Try.ntmps13
          go_wp2_with fail
          refine (C1.out _).mono ?_
          rintro e w2 ⟨rfl, g2⟩
          have X2 := Lib.hid (X0.out.gb g2)
          clear g2 a0 a1 a2 a3 a4 a5 a6
          obtain ⟨a0, a1, a2, a3, a4, a5, a6⟩ := X2.out.cells
          go_wp2_with fail
          refine (C2.out _).mono ?_
          rintro e w3 ⟨rfl, g3⟩
          have X3 := Lib.hid (X2.out.gb g3)
          clear g3 a0 a1 a2 a3 a4 a5 a6
          obtain ⟨a0, a1, a2, a3, a4, a5, a6⟩ := X3.out.cells
          go_wp2_with fail
          try
            refine (C3.out _).mono ?_
            rintro e w4 ⟨rfl, rfl⟩
            go_wp2_with fail
          go_ret
          exact ⟨ret_bool (by rw [R2.out]; first | done | (simp; done) | (simp; omega)), X3.out.gb0⟩
theorem implPacketOk (W H : Int) (p : Pkt) (w : World) :
    Calls Try.prog 13 #[.agg #[.int .i64 W, .int .i64 H], pktX p] w (RetB (pktOk W H p) w) := implPacketOkV W H p _ rfl w

set_option maxHeartbeats 1600000 in
theorem implFlitsOf (W H : Int) (p : Pkt) (w : World) :
    Calls Try.prog 11 #[.agg #[.int .i64 W, .int .i64 H], pktX p] w (NewF (flitsG W H p) w) := by
  obtain ⟨i0, hi, hz0, hz1, hz2⟩ := info_parts info_flt
  have X0 := Lib.hid (pkAt_start (W := W) (H := H) (p := p) (w := w))
  unfold pktX
  obtain ⟨a0, a1, a2, a3, a4, a5, a6⟩ := X0.out.cells
  cases hok : pktOk W H p with
  | false =>
    have HP := Lib.hid (fun w => implPacketOkV W H p false hok w)
    rw [flitsG_no hok]
    clear hok
    go_enter Try.func11, Try.ntmps11
    go_wp2_with fail
    refine (HP.out _).mono ?_
    rintro e w1 ⟨rfl, g1⟩
    have X1 := Lib.hid (X0.out.gb g1)
    clear g1 a0 a1 a2 a3 a4 a5 a6
    go_wp2_with fail
    go_ret
    exact ⟨_, rfl, World.ownsRow_nil _ _ _ _, gb_below_none X1.out.gb0 (Nat.le_refl _)⟩
  | true =>
    have HP := Lib.hid (fun w => implPacketOkV W H p true hok w)
    rw [flitsG_yes hok]
    have hln := (pktOk_iff.1 hok).2.2.2.2.2
    obtain ⟨m, hm⟩ : ∃ m : Nat, p.ln.toNat = m := ⟨_, rfl⟩
    have hmi : p.ln = (m : Int) := by omega
    have hm5 : m ≤ 5 := by omega
    have hm1 : 1 ≤ m := by omega
    have HFA := Lib.hid (fun k => show flitAt p k = ⟨p.id, p.to, p.cl, decide (k = 0), decide ((k : Int) = (m : Int) - 1)⟩ by rw [flitAt, hmi])
    rw [hm]
    have HMI := Lib.hid hmi
    rw [hmi] at a6
    clear hok hln hm hmi
    go_enter Try.func11, Try.ntmps11
    go_wp2_with fail
    refine (HP.out _).mono ?_
    rintro e w1 ⟨rfl, g1⟩
    have X1 := Lib.hid (X0.out.gb g1)
    clear g1 a0 a1 a2 a3 a4 a5 a6
    obtain ⟨a0, a1, a2, a3, a4, a5, a6⟩ := X1.out.cells
    rw [HMI.out] at a6
    go_wp2_with (at_make; refine wpList_make_full _ rfl _ _ 30 rfl w.heap.size 39 i0 (fltX flt0) 5 Try.underlying30 hi hz0 hz1 .i64 .i64 _ _ m rfl rfl (by omega) (by omega) (by rw [hz2]; omega) (by unfold maxLen; omega) X1.out.gb0.size ?_; intro w2 hown2 hgrow2)
    have ho2 : w2.ownsRow w.heap.size 39 5 (.slice (some ⟨w1.heap.size, 0, none⟩) m m) m (recV fltC (fillF (flitsTo p m) m 0)) := by rw [fillF_zero, ← madeFlts m]; exact hown2
    have HO2 := Lib.hid ho2
    have X2 := Lib.hid (X1.out.gb hgrow2)
    have HF := Lib.hid (fun (k : Nat) (h : k < m) => show (fillF (flitsTo p m) m k).set k ⟨p.id, p.to, p.cl, decide (k = 0), decide ((k : Int) = (m : Int) - 1)⟩ = fillF (flitsTo p m) m (k + 1) by rw [← HFA.out]; exact fillF_next _ _ _ _ (flitsTo_at h))
    have HA := Lib.hid (show fillF (flitsTo p m) m m = flitsTo p m from fillF_all _ _ (flitsTo_length p m))
    obtain ⟨g, hgg⟩ : ∃ g, w1.heap.size = g := ⟨_, rfl⟩
    have hg2 : w.heap.size + 2 ≤ g := by have := X1.out.p.lt; omega
    rw [hgg] at HO2 ⊢
    have e1 : IntKind.i64.wrap ((m : Int) - 1) = (m : Int) - 1 := IntWalk.i64_in _ (by omega)
    clear hown2 hgrow2 ho2 a0 a1 a2 a3 a4 a5 a6 hgg HP
    go_loopw [6, 16] (fun _ i wr => ∃ k : Nat, k ≤ m ∧ i = .int .i64 (k : Int) ∧ wr.ownsRow w.heap.size 39 5 (.slice (some ⟨g, 0, none⟩) m m) m (recV fltC (fillF (flitsTo p m) m k)) ∧ Blk wr (w.heap.size + 1) 27 #[.int .i64 p.id, .int .i64 p.fr, .int .i64 p.to, .int .i64 p.cl, .int .i64 p.ln] ∧ Below w.heap.size w wr) (fun _ i _ => m - (intOf i).toNat)
    case atStart => exact ⟨0, Nat.zero_le _, rfl, HO2.out, X2.out.p, gb_below_none X2.out.gb0 (Nat.le_refl _)⟩
    case round =>
      obtain ⟨k, hk, rfl, hown, hp, hbel⟩ := hrel
      have HB := Lib.hid hbel
      have HO := Lib.hid hown
      have HP := Lib.hid hp
      by_cases hlt : k < m
      · have b2 : wr.cell? ⟨w.heap.size + 1, 0, none⟩ = some (.int .i64 p.id) := hp.cell 0
        have b4 : wr.cell? ⟨w.heap.size + 1, 2, none⟩ = some (.int .i64 p.to) := hp.cell 2
        have b5 : wr.cell? ⟨w.heap.size + 1, 3, none⟩ = some (.int .i64 p.cl) := hp.cell 3
        have b6 : wr.cell? ⟨w.heap.size + 1, 4, none⟩ = some (.int .i64 (m : Int)) := by rw [← HMI.out]; exact hp.cell 4
        have k0 : (0 : Int) ≤ (k : Int) := by omega
        have k1 : (k : Int) < (m : Int) := by omega
        obtain ⟨t1, ht1⟩ : ∃ t, decide (k = 0) = t := ⟨_, rfl⟩
        obtain ⟨t2, ht2⟩ : ∃ t, decide ((k : Int) = (m : Int) - 1) = t := ⟨_, rfl⟩
        have u1 : ((k : Int) == 0) = t1 := by rw [← ht1]; by_cases h : k = 0 <;> simp [h]
        have u2 : ((k : Int) == (m : Int) - 1) = t2 := by rw [← ht2]; by_cases h : (k : Int) = (m : Int) - 1 <;> simp [h]
        have HFk := Lib.hid (show (fillF (flitsTo p m) m k).set k ⟨p.id, p.to, p.cl, t1, t2⟩ = fillF (flitsTo p m) m (k + 1) by rw [← ht1, ← ht2]; exact HF.out k hlt)
        have hsz5 : (#[.int .i64 p.id, .int .i64 p.to, .int .i64 p.cl, .bool t1, .bool t2] : Array Value).size = 5 := rfl
        have HTH := Lib.hid (show wr.there g (k * 5) (#[.int .i64 p.id, .int .i64 p.to, .int .i64 p.cl, .bool t1, .bool t2] : Array Value).size by rw [hsz5]; exact there_ownF HO.out hlt)
        clear hown hbel hp hsz5 ht1 ht2
        go_wp2_with (refine wpList_store_mid rfl 39 (.tmp 35) (.tmp 34) rfl g (k * 5) #[.int .i64 p.id, .int .i64 p.to, .int .i64 p.cl, .bool t1, .bool t2] ?_ ?_ ?_ ?_ ?_ ?_; rfl; rfl; exact HTH.out; (rw [hi]; simp [hz1]); (simp [Value.oneCell']))
        have X5 := Lib.hid (stored_ownF HO.out k ⟨p.id, p.to, p.cl, t1, t2⟩)
        have O5 := Lib.hid (show (wr.setCells g (k * 5) [.int .i64 p.id, .int .i64 p.to, .int .i64 p.cl, .bool t1, .bool t2]).ownsRow w.heap.size 39 5 (.slice (some ⟨g, 0, none⟩) m m) m (recV fltC (fillF (flitsTo p m) m (k + 1))) by rw [← HFk.out]; exact X5.out.1)
        have P5 := Lib.hid (HP.out.grown X5.out.2 (by simp; omega))
        have B5 := Lib.hid (HB.out.grown X5.out.2 HB.out.size (fun j e => by cases e; omega))
        go_roundw
        case rel => exact ⟨k + 1, by omega, by go_num, O5.out, P5.out, B5.out⟩
        case measure => simp [intOf]; omega
      · obtain rfl : k = m := by omega
        have k1 : ¬ (k : Int) < (k : Int) := by omega
        clear hown hbel hp
        go_wp2_with fail
        go_ret
        have h3 := HO.out
        rw [HA.out] at h3
        exact ⟨_, rfl, by rw [flitsTo_length]; exact h3, HB.out⟩
end Go.Proofs.Ytcjidpegmlbenaa
