/- What is proved here: the laws' copies of lists of packets; only new blocks are written. -/
import Derived.Test.YtfloekbmgjmhbaaPksE
namespace Go.Proofs.Ytfloekbmgjmhbaa
open Go.ChangeShapes Go.WideShapes Go.ChangeAt Go.RowKit
set_option linter.unusedVariables false
set_option maxRecDepth 20000

theorem pktV_set5 : ∀ (D : List Pkt) (k : Nat) (x : Pkt), ((((((recV pktC D).set (k * 5) (.int .i64 x.id)).set (k * 5 + 1) (.int .i64 x.fr)).set (k * 5 + 2) (.int .i64 x.to)).set (k * 5 + 3) (.int .i64 x.cl)).set (k * 5 + 4) (.int .i64 x.ln)) = recV pktC (D.set k x)
  | [], k, x => by simp [recV]
  | d :: D, 0, x => rfl
  | d :: D, k + 1, x => by
    have ih := pktV_set5 D k x
    have e0 : (k + 1) * 5 = k * 5 + 1 + 1 + 1 + 1 + 1 := by omega
    have e1 : (k + 1) * 5 + 1 = k * 5 + 1 + 1 + 1 + 1 + 1 + 1 := by omega
    have e2 : (k + 1) * 5 + 2 = k * 5 + 2 + 1 + 1 + 1 + 1 + 1 := by omega
    have e3 : (k + 1) * 5 + 3 = k * 5 + 3 + 1 + 1 + 1 + 1 + 1 := by omega
    have e4 : (k + 1) * 5 + 4 = k * 5 + 4 + 1 + 1 + 1 + 1 + 1 := by omega
    rw [e4, e3, e2, e1, e0, recV_cons, List.set_cons_succ, recV_cons, ← ih]
    simp only [pktC, List.cons_append, List.nil_append, List.set_cons_succ]
theorem rep_appendP {α : Type} (n : Nat) (x : α) : List.replicate (n + 1) x = x :: List.replicate n x := rfl
theorem madePkts (n : Nat) : (madeCells (pktX pkt0).cells (n * 5)).toList = recV pktC (List.replicate n pkt0) := by
  apply List.ext_getElem?
  intro j
  by_cases hj : j < n * 5
  · have hk : j / 5 < n := Nat.div_lt_of_lt_mul (by omega)
    have h1 : (List.replicate n pkt0)[j / 5]? = some pkt0 := by simp [hk]
    have hm : j % 5 < 5 := Nat.mod_lt _ (by decide)
    have h2 : (pktC pkt0)[j % 5]? = some ((pktC pkt0)[j % 5]'(by simpa [pktC] using hm)) := List.getElem?_eq_getElem _
    have h3 := recV_at pktL (List.replicate n pkt0) (j / 5) (j % 5) pkt0 _ h1 h2
    rw [show j / 5 * 5 + j % 5 = j by omega] at h3
    rw [h3]
    have hc : j % 5 = 0 ∨ j % 5 = 1 ∨ j % 5 = 2 ∨ j % 5 = 3 ∨ j % 5 = 4 := by omega
    rcases hc with h | h | h | h | h <;> simp [madeCells, pkt0, Value.cells, pktC, hj, h]
  · rw [List.getElem?_eq_none (by simp [madeCells]; omega), List.getElem?_eq_none (by rw [recV_length pktL]; simp; omega)]
/-- The first k records of D, then zeros. -/
def fillP (D : List Pkt) (n k : Nat) : List Pkt := (List.range n).map fun t => if t < k then atP D t else pkt0
theorem fillP_zero (D : List Pkt) (n : Nat) : fillP D n 0 = List.replicate n pkt0 := by
  refine List.ext_getElem (by simp [fillP]) fun i h1 h2 => ?_
  simp [fillP]
theorem fillP_next (D : List Pkt) (n k : Nat) (x : Pkt) (h : D[k]? = some x) : (fillP D n k).set k x = fillP D n (k + 1) := by
  have hx := atP_of h
  refine List.ext_getElem (by simp [fillP]) fun i h1 h2 => ?_
  rw [List.getElem_set]
  by_cases e : k = i
  · subst e; simp [fillP, hx]
  · simp only [e, if_false, fillP, List.getElem_map, List.getElem_range]
    by_cases hi : i < k
    · rw [if_pos hi, if_pos (by omega)]
    · rw [if_neg hi, if_neg (by omega)]
theorem fillP_length (D : List Pkt) (n k : Nat) : (fillP D n k).length = n := by simp [fillP]
theorem fillP_all (D : List Pkt) (n : Nat) (h : D.length = n) : fillP D n n = D := by
  refine List.ext_getElem? fun i => ?_
  by_cases hi : i < n
  · rw [List.getElem?_eq_getElem (by rw [fillP_length]; exact hi), atP_get (by omega)]
    simp [fillP, hi]
  · rw [List.getElem?_eq_none (by rw [fillP_length]; omega), List.getElem?_eq_none (by omega)]
/-- A new row that holds the records of D. -/
def NewPks (D : List Pkt) (w : World) (e : Ending) (w' : World) : Prop :=
  ∃ g, e = .returned (.slice (some ⟨g, 0, none⟩) D.length D.length) ∧ w'.ownsRow w.heap.size 44 5 (.slice (some ⟨g, 0, none⟩) D.length D.length) D.length (recV pktC D) ∧ Below w.heap.size w w'
def FillP (w : World) (n : Nat) (D : List Pkt) (k : Nat) (v : Value) (wr : World) : Prop := wr.ownsRow w.heap.size 44 5 v n (recV pktC (fillP D n k)) ∧ Below w.heap.size w wr
theorem there_ownP {w : World} {base g n cap : Nat} {D : List Pkt} (h : w.ownsRow base 44 5 (.slice (some ⟨g, 0, none⟩) n cap) n (recV pktC D)) {k : Nat} (hk : k < n) : w.there g (k * 5) 5 := fun j hj => by
  have hl := h.1
  refine ⟨?_, h.frozenAt _⟩
  rw [h.cellAt (k * 5 + j) (by omega), List.getElem?_eq_getElem (by omega)]
  rfl
theorem stored_ownP {w : World} {base g n cap : Nat} {D : List Pkt} (h : w.ownsRow base 44 5 (.slice (some ⟨g, 0, none⟩) n cap) n (recV pktC D)) (k : Nat) (x : Pkt) :
    (w.setCells g (k * 5) [.int .i64 x.id, .int .i64 x.fr, .int .i64 x.to, .int .i64 x.cl, .int .i64 x.ln]).ownsRow base 44 5 (.slice (some ⟨g, 0, none⟩) n cap) n (recV pktC (D.set k x)) ∧ w.grownBy (w.setCells g (k * 5) [.int .i64 x.id, .int .i64 x.fr, .int .i64 x.to, .int .i64 x.cl, .int .i64 x.ln]) (some g) := by
  obtain ⟨h1, g1⟩ := h.stored (k * 5) (.int .i64 x.id)
  obtain ⟨h2, g2⟩ := h1.stored (k * 5 + 1) (.int .i64 x.fr)
  obtain ⟨h3, g3⟩ := h2.stored (k * 5 + 2) (.int .i64 x.to)
  obtain ⟨h4, g4⟩ := h3.stored (k * 5 + 3) (.int .i64 x.cl)
  obtain ⟨h5, g5⟩ := h4.stored (k * 5 + 4) (.int .i64 x.ln)
  rw [pktV_set5] at h5
  exact ⟨h5, gb_trans g1 (gb_trans g2 (gb_trans g3 (gb_trans g4 g5)))⟩

set_option maxHeartbeats 1600000 in
theorem lawsToPktS (A : Option Addr) (n cap : Nat) (D : List Pkt) (w : World) (h : RecAt 5 pktC w w.heap.size A n D) (hn : n ≤ 1048576) :
    Calls Try.prog 26 #[.slice A n cap] w (NewPks D w) := by
  obtain ⟨i0, hi, hz0, hz1, hz2⟩ := info_parts info_pkt
  have hl := h.1
  have HI := Lib.hid h
  have HT := Lib.hid (fun (x : Pkt) w => show Calls Try.prog 19 #[.agg #[.int .i64 x.id, .int .i64 x.fr, .int .i64 x.to, .int .i64 x.cl, .int .i64 x.ln]] w (fun e w' => e = .returned (.agg #[.int .i64 x.id, .int .i64 x.fr, .int .i64 x.to, .int .i64 x.cl, .int .i64 x.ln]) ∧ w.grownBy w' none) from lawsToPacket x w)
  clear h
  go_enter Try.func26, Try.ntmps26
  go_wp2_with (at_make; refine wpList_make_full _ rfl _ _ 33 rfl w.heap.size 44 i0 (pktX pkt0) 5 Try.underlying33 hi hz0 hz1 .i64 .i64 _ _ n rfl rfl (by omega) (by omega) (by rw [hz2]; omega) (by unfold maxLen; omega) (Nat.le_refl _) ?_; intro w0 hown0 hgrow0)
  have hz : (madeCells (pktX pkt0).cells (n * 5)).toList = recV pktC (fillP D n 0) := by rw [fillP_zero]; exact madePkts n
  have X : FillP w n D 0 (.slice (some ⟨w.heap.size, 0, none⟩) n n) w0 := ⟨by rw [← hz]; exact hown0, gb_below_none hgrow0 (Nat.le_refl _)⟩
  have HX := Lib.hid X
  clear X hz hown0 hgrow0
  go_loopw [4] (fun i wr => ∃ k : Nat, k ≤ n ∧ i = .int .i64 (k : Int) ∧ FillP w n D k (.slice (some ⟨w.heap.size, 0, none⟩) n n) wr) (fun i _ => n - (intOf i).toNat)
  case atStart => exact ⟨0, Nat.zero_le _, rfl, HX.out⟩
  case round =>
    obtain ⟨k, hk, rfl, hown, hbel⟩ := hrel
    have HB := Lib.hid hbel
    have HO := Lib.hid hown
    by_cases hlt : k < n
    · obtain ⟨b, off, x, rfl, hbB, hx, hc⟩ := (HI.out.below hbel).at k hlt
      obtain ⟨c0, c1, c2, c3, c4⟩ := pkt_five hc
      have k0 : (0 : Int) ≤ (k : Int) := by omega
      have k1 : (k : Int) < (n : Int) := by omega
      have HF := Lib.hid (fillP_next D n k x hx)
      clear hown hbel hx hc
      go_wp2_with fail
      refine (HT.out x _).mono ?_
      rintro e w4 ⟨rfl, hg4⟩
      have O4 := Lib.hid (own_none HO.out hg4)
      have B4 := Lib.hid (below_gb HB.out (Nat.le_refl _) hg4)
      have hsz5 : (#[.int .i64 x.id, .int .i64 x.fr, .int .i64 x.to, .int .i64 x.cl, .int .i64 x.ln] : Array Value).size = 5 := rfl
      have HTH := Lib.hid (show w4.there w.heap.size (k * 5) (#[.int .i64 x.id, .int .i64 x.fr, .int .i64 x.to, .int .i64 x.cl, .int .i64 x.ln] : Array Value).size by rw [hsz5]; exact there_ownP O4.out hlt)
      clear hg4 c0 c1 c2 c3 c4 hsz5
      go_wp2_with (refine wpList_store_mid rfl 44 (.tmp 21) (.tmp 20) rfl w.heap.size (k * 5) #[.int .i64 x.id, .int .i64 x.fr, .int .i64 x.to, .int .i64 x.cl, .int .i64 x.ln] ?_ ?_ ?_ ?_ ?_ ?_; rfl; rfl; exact HTH.out; (rw [hi]; simp [hz1]); (simp [Value.oneCell']))
      have X5 := Lib.hid (show FillP w n D (k + 1) (.slice (some ⟨w.heap.size, 0, none⟩) n n) (w4.setCells w.heap.size (k * 5) [.int .i64 x.id, .int .i64 x.fr, .int .i64 x.to, .int .i64 x.cl, .int .i64 x.ln]) from by
        obtain ⟨h1, h2⟩ := stored_ownP O4.out k x
        rw [HF.out] at h1
        exact ⟨h1, B4.out.grown h2 B4.out.size (fun j e => by cases e; exact Nat.le_refl _)⟩)
      go_roundw
      case rel => exact ⟨k + 1, by omega, by go_num, X5.out⟩
      case measure => simp [intOf]; omega
    · obtain rfl : k = n := by omega
      have HO := Lib.hid hown
      clear hown hbel
      go_wp2_with fail
      go_ret
      refine ⟨w.heap.size, by rw [hl]; rfl, ?_, HB.out⟩
      have h3 := HO.out
      rw [fillP_all D k hl] at h3
      rw [hl]
      exact h3
end Go.Proofs.Ytfloekbmgjmhbaa
