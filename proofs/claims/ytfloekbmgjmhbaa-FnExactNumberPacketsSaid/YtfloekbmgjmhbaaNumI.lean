/- What is proved here: the program's NumberPackets, for all arguments; only new blocks are written. -/
import Derived.Test.YtfloekbmgjmhbaaCopI
import Derived.Test.YtfloekbmgjmhbaaNumS
namespace Go.Proofs.Ytfloekbmgjmhbaa
open Go.ChangeShapes Go.WideShapes Go.ChangeAt Go.RowKit
set_option linter.unusedVariables false
set_option maxRecDepth 20000

set_option maxHeartbeats 1600000 in
theorem implCopyP (A : Option Addr) (n cap : Nat) (D : List Pkt) (w : World) (h : RecAt 5 pktC w w.heap.size A n D) (hn : n ≤ 1000000000) :
    Calls Try.prog 45 #[.slice A n cap] w (NewPL D w) := by
  obtain ⟨i0, hi, hz0, hz1, hz2⟩ := info_parts info_pkt
  have hsz : (Try.prog.info? 44).map (·.size) = some 5 := by rw [hi]; simp [hz1]
  have hl := h.1
  have HI := Lib.hid h
  have HL := Lib.hid (show (recV pktC D).length = n * 5 by rw [recV_length pktL, hl])
  have HONE := Lib.hid (recV_one pktL D)
  have HLN := Lib.hid hl
  clear h hl
  go_enter Try.func45, Try.ntmps45
  go_wp2_with (first
    | (at_make; refine wpList_make_full _ rfl _ _ 33 rfl w.heap.size 44 i0 (pktX pkt0) 5 Try.underlying33 hi hz0 hz1 .i64 .i64 _ _ n rfl rfl (by omega) (by omega) (by rw [hz2]; omega) (by unfold maxLen; omega) (Nat.le_refl _) ?_; intro w0 hown0 hgrow0; have O0 := Lib.hid hown0; have G0 := Lib.hid hgrow0; clear hown0 hgrow0)
    | (refine wpList_copy_whole rfl (.tmp 7) (.tmp 8) 33 33 rfl 44 Try.underlying33 5 hsz w.heap.size w.heap.size n cap A rfl rfl _ (recV pktC D) O0.out HL.out (fun h0 => by
        obtain ⟨b, off, e, _⟩ := HI.out.2 h0
        subst e
        exact ⟨_, rfl, recAt_news pktL (by decide) (HI.out.none (Nat.le_refl _) G0.out)⟩) HONE.out ?_; intro w2 hown2 hgrow2; have O2 := Lib.hid hown2; have G2 := Lib.hid hgrow2; clear hown2 hgrow2))
  go_ret
  refine ⟨_, rfl, ?_, ?_⟩
  · rw [HLN.out]; exact O2.out
  · exact (gb_below_none G0.out (Nat.le_refl _)).grown G2.out G0.out.size (fun j hj => by cases hj; exact Nat.le_refl _)
set_option maxHeartbeats 1600000 in
theorem implNumberPackets (A : Option Addr) (n cap : Nat) (D : List Pkt) (w : World) (h : RecAt 5 pktC w w.heap.size A n D) (hn : n ≤ 1000000000) :
    Calls Try.prog 15 #[.slice A n cap] w (NewPL (numG D) w) := by
  have hl := h.1
  have HL := Lib.hid hl
  have HCP := Lib.hid (implCopyP A n cap D w h hn)
  clear h
  go_enter Try.func15, Try.ntmps15
  go_wp2_with fail
  refine HCP.out.mono ?_
  rintro e w1 ⟨v, rfl, o1, b1⟩
  rw [HL.out] at o1
  obtain ⟨A1, c1, rfl, ha1⟩ := own_form o1
  have O2 := Lib.hid (show w1.ownsRow w.heap.size 44 5 (.slice A1 n c1) n (recV pktC (numTo D 0)) by rw [numTo_zero]; exact o1)
  have B1 := Lib.hid b1
  clear o1 b1
  go_wp2_with fail
  go_loopw [9] (fun i wr => ∃ k : Nat, i = .int .i64 (k : Int) ∧ k ≤ n ∧ wr.ownsRow w.heap.size 44 5 (.slice A1 n c1) n (recV pktC (numTo D k)) ∧ Below w.heap.size w wr) (fun i _ => n - (intOf i).toNat)
  case atStart => exact ⟨0, rfl, Nat.zero_le _, O2.out, B1.out⟩
  case round =>
    obtain ⟨k, rfl, hk, ho, hb⟩ := hrel
    have HO := Lib.hid ho
    have HB := Lib.hid hb
    by_cases hlt : k < n
    · obtain ⟨g, rfl⟩ := ha1 (by omega)
      have k0 : (0 : Int) ≤ (k : Int) := by omega
      have k1 : (k : Int) < (n : Int) := by omega
      have e1 : IntKind.i64.wrap ((k : Int) + 1) = ((k + 1 : Nat) : Int) := by rw [IntWalk.i64_in _ (by omega)]; omega
      have hkD : k < D.length := by omega
      have hlen : (recV pktC (numTo D k)).length = n * 5 := by rw [recV_length pktL, numTo_length]; omega
      have hc := ho.cellAt (k * 5) (by omega)
      have hx := recV_at pktL (numTo D k) k 0 (atP D k) (.int .i64 (atP D k).id) (numTo_at D hkD) rfl
      rw [Nat.add_zero] at hx
      rw [hx] at hc
      have hf := ho.frozenAt (k * 5)
      obtain ⟨o2, g2⟩ := ho.stored (k * 5) (.int .i64 ((k + 1 : Nat) : Int))
      rw [pktV_id _ _ _ _ (numTo_at D hkD), show (⟨((k + 1 : Nat) : Int), (atP D k).fr, (atP D k).to, (atP D k).cl, (atP D k).ln⟩ : Pkt) = numP (atP D k) k from rfl, numTo_next D k hkD] at o2
      have O2 := Lib.hid o2
      have B2 := Lib.hid (hb.grown g2 hb.size (fun j e => by cases e; exact (ho.lt _ rfl).1))
      clear ho hb hx hlen o2 g2 hkD
      go_wp2_with fail
      go_roundw
      case rel => exact ⟨k + 1, by go_num, by omega, O2.out, B2.out⟩
      case measure => simp [intOf]; omega
    · obtain rfl : k = n := by omega
      clear ho hb
      go_wp2_with fail
      go_ret
      exact ⟨_, rfl, by rw [numG_length, HL.out]; have := HO.out; rw [numG, HL.out]; exact this, HB.out⟩
end Go.Proofs.Ytfloekbmgjmhbaa
