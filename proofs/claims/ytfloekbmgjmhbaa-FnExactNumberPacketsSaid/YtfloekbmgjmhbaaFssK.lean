/- What is proved here: the laws' marks in lists of lists of flits: set, and looked for; only the marked rows are written. -/
import Derived.Test.YtfloekbmgjmhbaaFssE
import Derived.Test.YtfloekbmgjmhbaaFltH
import Derived.Test.YtfloekbmgjmhbaaChgW
namespace Go.Proofs.Ytfloekbmgjmhbaa
open Go.ChangeShapes Go.WideShapes Go.ChangeAt Go.RowKit
set_option linter.unusedVariables false
set_option maxRecDepth 20000

/-- A row hangs on its own block alone. -/
theorem own_heap {w w' : World} {base z n : Nat} {e : TypeId} {v : Value} {xs : List Value} (h : w.ownsRow base e z v n xs) (hk : ∀ g, v.ownBlock = some g → w'.heap[g]? = w.heap[g]?) : w'.ownsRow base e z v n xs := by
  obtain ⟨hl, h1 | ⟨g, cap, cur, hv, hb, hg, hn, hm, hs, ht⟩⟩ := h
  · exact ⟨hl, .inl h1⟩
  · exact ⟨hl, .inr ⟨g, cap, cur, hv, hb, (hk g (by rw [hv]; rfl)).trans hg, hn, hm, hs, ht⟩⟩
/-- Only the rows vs and new blocks were written. -/
structure Stp (vs : List Value) (w w' : World) : Prop where
  os : w'.os = w.os
  tape : w'.tape = w.tape
  output : w'.output = w.output
  size : w.heap.size ≤ w'.heap.size
  block : ∀ k, k < w.heap.size → (∀ (i : Nat) v, vs[i]? = some v → v.ownBlock ≠ some k) → w'.heap[k]? = w.heap[k]?
section
variable {vs : List Value} {w a b : World}
theorem Stp.refl (vs : List Value) (w : World) : Stp vs w w := ⟨rfl, rfl, rfl, Nat.le_refl _, fun _ _ _ => rfl⟩
theorem Stp.one {i : Nat} {v : Value} (h : Stp vs w a) (hv : vs[i]? = some v) (hg : a.grownBy b v.ownBlock) : Stp vs w b :=
  ⟨hg.os.trans h.os, hg.tape.trans h.tape, hg.output.trans h.output, Nat.le_trans h.size hg.size, fun k hk hn => (hg.block k (Nat.lt_of_lt_of_le hk h.size) (fun e => hn i v hv e.symm)).trans (h.block k hk hn)⟩
theorem Stp.gb (h : Stp vs w a) (hg : a.grownBy b none) : Stp vs w b :=
  ⟨hg.os.trans h.os, hg.tape.trans h.tape, hg.output.trans h.output, Nat.le_trans h.size hg.size, fun k hk hn => (hg.block k (Nat.lt_of_lt_of_le hk h.size) (by simp)).trans (h.block k hk hn)⟩
theorem Stp.trans (h : Stp vs w a) (k : Stp vs a b) : Stp vs w b :=
  ⟨k.os.trans h.os, k.tape.trans h.tape, k.output.trans h.output, Nat.le_trans h.size k.size, fun j hj hn => (k.block j (Nat.lt_of_lt_of_le hj h.size) hn).trans (h.block j hj hn)⟩
theorem Stp.own {base z n : Nat} {e : TypeId} {u : Value} {xs : List Value} (h : Stp vs w a) (ho : w.ownsRow base e z u n xs) (hne : ∀ (i : Nat) v k, vs[i]? = some v → v.ownBlock = some k → u.ownBlock ≠ some k) : a.ownsRow base e z u n xs :=
  own_heap ho fun g hg => h.block g (ho.lt g hg).2 (fun i v hv hv2 => hne i v g hv hv2 hg)
theorem Stp.chg {lo hi : Nat} (h : Stp vs w a) (hin : ∀ (i : Nat) v k, vs[i]? = some v → v.ownBlock = some k → lo ≤ k ∧ k < hi) : Chg lo hi w a :=
  ⟨h.os, h.tape, h.output, h.size, fun k hk hn => h.block k hk (fun i v hv e => hn (hin i v k hv e))⟩
end
theorem own_typesG {w : World} {b1 b2 s1 s2 n1 n2 : Nat} {e1 e2 : TypeId} {v1 v2 : Value} {x1 x2 : List Value} (h1 : w.ownsRow b1 e1 s1 v1 n1 x1) (h2 : w.ownsRow b2 e2 s2 v2 n2 x2) (hne : e1 ≠ e2) {k : Nat} (hk : v1.ownBlock = some k) : v2.ownBlock ≠ some k := by
  intro hk2
  obtain ⟨_, h1 | ⟨g, cap, cur, hv, _, hg, _⟩⟩ := h1
  · obtain ⟨h1, _⟩ := h1
    rw [h1] at hk; cases hk
  · obtain ⟨_, h2 | ⟨g2, cap2, cur2, hv2, _, hg2, _⟩⟩ := h2
    · obtain ⟨h2, _⟩ := h2
      rw [h2] at hk2; cases hk2
    · rw [hv] at hk
      rw [hv2] at hk2
      cases hk; cases hk2
      rw [hg] at hg2
      injection hg2 with e
      injection e with e1 e2
      exact hne e2
/-- The marks of lists of flits. -/
def markFF (k0 : Nat) (DD : List (List Flt)) (j : Nat) : List (List Flt) := (List.range DD.length).map fun i => if i < j then marksF (k0 + sumL (DD.take i) * 5) (DD.getD i []).length else DD.getD i []
theorem markFF_length (k0 : Nat) (DD : List (List Flt)) (j : Nat) : (markFF k0 DD j).length = DD.length := by simp [markFF]
theorem markFF_zero (k0 : Nat) (DD : List (List Flt)) : markFF k0 DD 0 = DD := by
  refine List.ext_getElem (by simp [markFF]) fun i h1 h2 => ?_
  simp [markFF, List.getD_eq_getElem?_getD, h2]
theorem markFF_next {k0 : Nat} {DD : List (List Flt)} {j : Nat} {D : List Flt} (h : DD[j]? = some D) : (markFF k0 DD j).set j (marksF (k0 + sumL (DD.take j) * 5) D.length) = markFF k0 DD (j + 1) := by
  have hD : DD.getD j [] = D := by rw [List.getD_eq_getElem?_getD, h]; rfl
  refine List.ext_getElem (by simp [markFF]) fun i h1 h2 => ?_
  rw [List.getElem_set]
  by_cases e : j = i
  · subst e; simp only [if_true, markFF, List.getElem_map, List.getElem_range, if_pos (Nat.lt_succ_self j), hD]
  · simp only [e, if_false, markFF, List.getElem_map, List.getElem_range]
    by_cases hi : i < j
    · rw [if_pos hi, if_pos (by omega)]
    · rw [if_neg hi, if_neg (by omega)]
theorem markFF_at {k0 : Nat} {DD : List (List Flt)} {j : Nat} {D : List Flt} (h : DD[j]? = some D) : (markFF k0 DD j)[j]? = some D := by
  have hj := (List.getElem?_eq_some_iff.1 h).1
  rw [markFF, List.getElem?_map, List.getElem?_range hj]
  simp [h]
def marksFF (k0 : Nat) (DD : List (List Flt)) : List (List Flt) := markFF k0 DD DD.length
theorem marksFF_at {k0 : Nat} {DD : List (List Flt)} {j : Nat} {D : List Flt} (h : DD[j]? = some D) : (marksFF k0 DD)[j]? = some (marksF (k0 + sumL (DD.take j) * 5) D.length) := by
  have hj := (List.getElem?_eq_some_iff.1 h).1
  have e : DD[j] = D := (List.getElem?_eq_some_iff.1 h).2
  rw [marksFF, markFF, List.getElem?_map, List.getElem?_range hj]
  simp [e, hj]
theorem set_same {α : Type} {l : List α} {i : Nat} {x : α} (h : l[i]? = some x) : l.set i x = l := by
  refine List.ext_getElem? fun j => ?_
  by_cases e : i = j
  · subst e
    rw [List.getElem?_set_self (List.getElem?_eq_some_iff.1 h).1, h]
  · rw [List.getElem?_set_ne e]

set_option maxHeartbeats 1600000 in
theorem lawsMarkFSS (v : Value) (base k0 : Nat) (vs : List Value) (DD : List (List Flt)) (w : World) (h : Fams 91 120 5 fltC w base v vs DD) (hk : k0 + sumL DD * 5 ≤ 1000000000) :
    Calls Try.prog 64 #[v, .int .i64 (k0 : Int)] w fun e w' => e = .returned (.int .i64 ((k0 + sumL DD * 5 : Nat) : Int)) ∧ Fams 91 120 5 fltC w' base v vs (marksFF k0 DD) ∧ Stp vs w w' := by
  have h' := h
  rw [← markFF_zero k0 DD] at h'
  have H0 := Lib.hid h'
  have HZ := Lib.hid (sumL_zero DD)
  obtain ⟨A, cap, rfl, ha⟩ := own_form h.hd
  obtain ⟨n, hn⟩ : ∃ n, DD.length = n := ⟨_, rfl⟩
  have HN := Lib.hid hn
  rw [hn] at H0 ha ⊢
  clear h h' hn
  go_enter Try.func64, Try.ntmps64
  go_wp2_with fail
  go_loopw [1, 5] (fun q i wr => ∃ j : Nat, j ≤ n ∧ q = .int .i64 ((k0 + sumL (DD.take j) * 5 : Nat) : Int) ∧ i = .int .i64 (j : Int) ∧ Fams 91 120 5 fltC wr base (.slice A n cap) vs (markFF k0 DD j) ∧ Stp vs w wr) (fun _ i _ => n - (intOf i).toNat)
  case atStart => exact ⟨0, Nat.zero_le _, by rw [HZ.out]; simp, rfl, H0.out, Stp.refl _ _⟩
  case round =>
    obtain ⟨j, hj, rfl, rfl, hf, hst⟩ := hrel
    have HF := Lib.hid hf
    have HST := Lib.hid hst
    clear hst
    by_cases hlt : j < n
    · obtain ⟨g, rfl⟩ := ha (by omega)
      have hjD : j < DD.length := by have := HN.out; omega
      obtain ⟨D, hD⟩ : ∃ D, DD[j]? = some D := ⟨_, List.getElem?_eq_getElem hjD⟩
      have hat := sumL_at hD
      have hm := markFF_at (k0 := k0) hD
      obtain ⟨u, hu, ho⟩ := hf.fam.get (i := j) (by rw [markFF_length]; exact hjD)
      have e1 : (markFF k0 DD j)[j]'(by rw [markFF_length]; exact hjD) = D := (List.getElem?_eq_some_iff.1 hm).2
      rw [e1] at ho
      obtain ⟨A2, c2, rfl, _⟩ := own_form ho
      have hh := hf.hd
      rw [markFF_length, HN.out] at hh
      have hn9 : n ≤ 9223372036854775807 := by have h1 := own_cap hh; unfold maxLen at h1; omega
      have hc := hh.cellAt j (by omega)
      rw [hu] at hc
      obtain ⟨y, hy⟩ : ∃ y : Nat, k0 + sumL (DD.take j) * 5 = y := ⟨_, rfl⟩
      have HMK := Lib.hid (lawsMarkF (.slice A2 D.length c2) base D.length y D wr ho (by omega))
      have HNX := Lib.hid (show k0 + sumL (DD.take (j + 1)) * 5 = y + D.length * 5 by rw [sumL_next hD]; omega)
      have HU := Lib.hid hu
      have HO := Lib.hid ho
      have HMF := Lib.hid (show (markFF k0 DD j).set j (marksF y D.length) = markFF k0 DD (j + 1) by rw [← hy]; exact markFF_next hD)
      have j0 : (0 : Int) ≤ (j : Int) := by omega
      have j1 : (j : Int) < (n : Int) := by omega
      rw [hy]
      clear hf ha hD hat hm hu ho e1 hy hh
      go_wp2_with fail
      refine HMK.out.mono ?_
      rintro e w4 ⟨rfl, o4, g4⟩
      have hfam := HF.out.fam.set (i := j) HU.out g4 (D' := marksF y D.length) (by rw [marksF_length]; exact o4) (fun k hk => .inl hk)
      rw [set_same HU.out, HMF.out] at hfam
      have hhd := row_keptR HF.out.hd g4 (fun k e1 e2 => own_typesG HF.out.hd HO.out (by decide) e2 e1)
      rw [markFF_length] at hhd
      have X4 := Lib.hid (show Fams 91 120 5 fltC w4 base (.slice (some ⟨g, 0, none⟩) n cap) vs (markFF k0 DD (j + 1)) from ⟨by rw [markFF_length]; exact hhd, hfam⟩)
      have S4 := Lib.hid (HST.out.one HU.out g4)
      clear hfam hhd o4 g4 hc
      go_wp2_with fail
      go_roundw
      case rel => exact ⟨j + 1, by omega, by rw [HNX.out]; simp, by go_num, X4.out, S4.out⟩
      case measure => simp [intOf]; omega
    · have hjn : j = n := by omega
      have HR := Lib.hid (show sumL (DD.take j) = sumL DD by rw [hjn, ← HN.out, sumL_all])
      have HM := Lib.hid (show markFF k0 DD j = marksFF k0 DD by rw [hjn, marksFF, HN.out])
      clear hjn hf ha
      go_wp2_with fail
      go_ret
      exact ⟨by rw [HR.out]; rfl, by rw [← HM.out]; exact HF.out, HST.out⟩
end Go.Proofs.Ytfloekbmgjmhbaa
