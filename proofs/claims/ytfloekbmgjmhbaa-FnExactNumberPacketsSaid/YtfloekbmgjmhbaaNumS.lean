/- What is proved here: packets that are numbered and whether the numbers of packets differ, as the model says it, for all arguments; only new blocks are written. -/
import Derived.Test.YtfloekbmgjmhbaaPksL
import Derived.Test.YtfloekbmgjmhbaaAppR
import Derived.Deep.RegionLaw
namespace Go.Proofs.Ytfloekbmgjmhbaa
open Go.ChangeShapes Go.WideShapes Go.ChangeAt Go.RowKit
set_option linter.unusedVariables false
set_option maxRecDepth 20000

def numP (p : Pkt) (i : Nat) : Pkt := ⟨((i + 1 : Nat) : Int), p.fr, p.to, p.cl, p.ln⟩
def numTo (D : List Pkt) (k : Nat) : List Pkt := (List.range D.length).map fun t => if t < k then numP (atP D t) t else atP D t
def numG (D : List Pkt) : List Pkt := numTo D D.length
theorem numTo_length (D : List Pkt) (k : Nat) : (numTo D k).length = D.length := by simp [numTo]
theorem numG_length (D : List Pkt) : (numG D).length = D.length := numTo_length _ _
theorem numTo_zero (D : List Pkt) : numTo D 0 = D := by
  refine List.ext_getElem (by simp [numTo]) fun i h1 h2 => ?_
  simp only [numTo, List.getElem_map, List.getElem_range, Nat.not_lt_zero, if_false]
  have := atP_get h2
  rw [List.getElem?_eq_getElem h2] at this
  exact (Option.some.inj this).symm
theorem numTo_next (D : List Pkt) (k : Nat) (hk : k < D.length) : (numTo D k).set k (numP (atP D k) k) = numTo D (k + 1) := by
  refine List.ext_getElem (by simp [numTo]) fun i h1 h2 => ?_
  rw [List.getElem_set]
  by_cases e : k = i
  · subst e; simp [numTo]
  · simp only [e, if_false, numTo, List.getElem_map, List.getElem_range]
    by_cases hi : i < k
    · rw [if_pos hi, if_pos (by omega)]
    · rw [if_neg hi, if_neg (by omega)]
theorem numTo_at (D : List Pkt) {k : Nat} (hk : k < D.length) : (numTo D k)[k]? = some (atP D k) := by simp [numTo, hk]
theorem pktV_id : ∀ (D : List Pkt) (k : Nat) (p : Pkt) (x : Int), D[k]? = some p → (recV pktC D).set (k * 5) (.int .i64 x) = recV pktC (D.set k ⟨x, p.fr, p.to, p.cl, p.ln⟩)
  | [], k, p, x, h => by simp at h
  | q :: D, 0, p, x, h => by
    have e : q = p := by simpa using h
    subst e
    rw [recV_cons, List.set_cons_zero, recV_cons]
    rfl
  | q :: D, k + 1, p, x, h => by
    have ih := pktV_id D k p x (by simpa using h)
    rw [recV_cons, List.set_cons_succ, recV_cons, ← ih, show (k + 1) * 5 = (pktC q).length + k * 5 by rw [pktL.len]; omega, List.set_append_right _ _ (by omega)]
    simp
/-- A new list of packets. -/
def NewPL (D : List Pkt) (w : World) (e : Ending) (w' : World) : Prop :=
  ∃ v, e = .returned v ∧ w'.ownsRow w.heap.size 44 5 v D.length (recV pktC D) ∧ Below w.heap.size w w'
set_option maxHeartbeats 1600000 in
theorem specNumberPackets (A : Option Addr) (n cap : Nat) (D : List Pkt) (w : World) (h : RecAt 5 pktC w w.heap.size A n D) (hn : n ≤ 1000000000) :
    Calls Try.prog 25 #[.slice A n cap] w (NewPL (numG D) w) := by
  obtain ⟨j0, hj, jz0, jz1, jz2⟩ := info_parts info_pkt
  have hl := h.1
  have hg1 := gb_alloc (gb_refl w none) (.cells #[] 44)
  have HR1 := Lib.hid (h.none (Nat.le_refl _) hg1)
  have HO1 := Lib.hid (World.ownsRow_made (base := w.heap.size) (e := 44) (size := 5) w #[] 0 (Nat.le_refl _) (by decide) rfl)
  have N1 := Lib.hid (show 0 + n ≤ 1000000000 by omega)
  have SZ1 := Lib.hid (show w.heap.size ≤ (w.alloc (.cells #[] 44)).heap.size by rw [alloc_size]; omega)
  have HB1 := Lib.hid ((Below.refl w.heap.size w).alloc (Nat.le_refl _) (.cells #[] 44))
  have HL := Lib.hid hl
  clear h hg1
  go_enter Try.func25, Try.ntmps25
  go_wp2_with (at_builtin; refine wpList_app_ownR pktL (by decide) Try.underlying33 _ rfl _ _ rfl j0 hj jz0 jz1 jz2 rfl (by decide) w.heap.size 0 n cap _ _ [] D (.slice (some ⟨w.heap.size, 0, none⟩) 0 0) rfl rfl HO1.out HR1.out N1.out SZ1.out ?_; intro v1 w1 hown1 hgrow1; rw [Nat.zero_add, List.nil_append] at hown1; obtain ⟨A1, c1, rfl, ha1⟩ := own_form hown1; have O1 := Lib.hid hown1; have B1 := Lib.hid (HB1.out.grown hgrow1 SZ1.out (fun j e1 => by simp [Value.ownBlock] at e1; omega)); clear hown1 hgrow1)
  have O2 := Lib.hid (show w1.ownsRow w.heap.size 44 5 (.slice A1 n c1) n (recV pktC (numTo D 0)) by rw [numTo_zero]; exact O1.out)
  clear O1
  go_loopw [4] (fun i wr => ∃ k : Nat, i = .int .i64 (k : Int) ∧ k ≤ n ∧ wr.ownsRow w.heap.size 44 5 (.slice A1 n c1) n (recV pktC (numTo D k)) ∧ Below w.heap.size w wr) (fun i _ => n - (intOf i).toNat)
  case atStart => exact ⟨0, rfl, Nat.zero_le _, O2.out, B1.out⟩
  case round =>
    obtain ⟨k, rfl, hk, ho, hb⟩ := hrel
    have HO := Lib.hid ho
    have HB := Lib.hid hb
    by_cases hlt : k < n
    · obtain ⟨g, rfl⟩ := ha1 (by omega)
      have k0 : (0 : Int) ≤ (k : Int) := by omega
      have k1 : (k : Int) < (n : Int) := by omega
      have e1 : IntKind.i64.wrap ((k : Int) + 1) = ((k + 1 : Nat) : Int) := by rw [IntWalk.i64_in _ (by omega)]; omega
      have hkD : k < D.length := by omega
      have hlen : (recV pktC (numTo D k)).length = n * 5 := by rw [recV_length pktL, numTo_length]; omega
      have hc := ho.cellAt (k * 5) (by omega)
      have hx := recV_at pktL (numTo D k) k 0 (atP D k) (.int .i64 (atP D k).id) (numTo_at D hkD) rfl
      rw [Nat.add_zero] at hx
      rw [hx] at hc
      have hf := ho.frozenAt (k * 5)
      obtain ⟨o2, g2⟩ := ho.stored (k * 5) (.int .i64 ((k + 1 : Nat) : Int))
      rw [pktV_id _ _ _ _ (numTo_at D hkD), show (⟨((k + 1 : Nat) : Int), (atP D k).fr, (atP D k).to, (atP D k).cl, (atP D k).ln⟩ : Pkt) = numP (atP D k) k from rfl, numTo_next D k hkD] at o2
      have O2 := Lib.hid o2
      have B2 := Lib.hid (hb.grown g2 hb.size (fun j e => by cases e; exact (ho.lt _ rfl).1))
      clear ho hb hx hlen o2 g2 hkD
      go_wp2_with fail
      go_roundw
      case rel => exact ⟨k + 1, by go_num, by omega, O2.out, B2.out⟩
      case measure => simp [intOf]; omega
    · obtain rfl : k = n := by omega
      clear ho hb
      go_wp2_with fail
      go_ret
      exact ⟨_, rfl, by rw [numG_length, HL.out]; have := HO.out; rw [numG, HL.out]; exact this, HB.out⟩
end Go.Proofs.Ytfloekbmgjmhbaa
