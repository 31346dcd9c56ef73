/- What is proved here: the laws' copies of lists of lists of flits; only new blocks are written. -/
import Derived.Test.YtfloekbmgjmhbaaFssK
import Derived.Test.YtfloekbmgjmhbaaFltL
namespace Go.Proofs.Ytfloekbmgjmhbaa
open Go.ChangeShapes Go.WideShapes Go.ChangeAt Go.RowKit
set_option linter.unusedVariables false
set_option maxRecDepth 20000

theorem info_fss : (Try.prog.info? 91).map (fun i => (i.zero, i.size, i.bytes)) = some (some (.slice none 0 0), 1, 24) := by kernel_rfl
theorem made_nils (n : Nat) : (madeCells (Value.slice none 0 0).cells (n * 1)).toList = List.replicate n (.slice none 0 0) := by
  apply List.ext_getElem?
  intro j
  by_cases hj : j < n
  · simp [madeCells, Value.cells, hj, Nat.mod_one]
  · rw [List.getElem?_eq_none (by simp [madeCells]; omega), List.getElem?_eq_none (by simp; omega)]
theorem set_rep {α : Type} (vs : List α) (x u : α) (n : Nat) (h : vs.length < n) : (vs ++ List.replicate (n - vs.length) x).set vs.length u = (vs ++ [u]) ++ List.replicate (n - (vs ++ [u]).length) x := by
  obtain ⟨m, hm⟩ : ∃ m, n - vs.length = m + 1 := ⟨n - vs.length - 1, by omega⟩
  rw [List.set_append_right _ _ (Nat.le_refl _), Nat.sub_self, hm, List.replicate_succ, List.set_cons_zero, List.length_append, List.length_singleton, show n - (vs.length + 1) = m by omega, List.append_assoc]
  rfl
/-- A new list of lists. -/
def NewFSS (DD : List (List Flt)) (w : World) (e : Ending) (w' : World) : Prop :=
  ∃ g vs, e = .returned (.slice (some ⟨g, 0, none⟩) DD.length DD.length) ∧ Fams 91 120 5 fltC w' w.heap.size (.slice (some ⟨g, 0, none⟩) DD.length DD.length) vs DD ∧ Below w.heap.size w w'

set_option maxHeartbeats 3200000 in
theorem lawsToFSS (A : Option Addr) (n cap : Nat) (DD : List (List Flt)) (w : World) (h : RecsAt 5 fltC w w.heap.size A n DD) (hn : n ≤ 1048576) (hs : sumL DD ≤ 1048576) :
    Calls Try.prog 56 #[.slice A n cap] w (NewFSS DD w) := by
  obtain ⟨i0, hi, hz0, hz1, hz2⟩ := info_parts info_fss
  have hl := h.1
  have HI := Lib.hid h
  clear h
  go_enter Try.func56, Try.ntmps56
  go_wp2_with (at_make; refine wpList_make_full _ rfl _ _ 36 rfl w.heap.size 91 i0 (.slice none 0 0) 1 Try.underlying36 hi hz0 hz1 .i64 .i64 _ _ n rfl rfl (by omega) (by omega) (by rw [hz2]; omega) (by unfold maxLen; omega) (Nat.le_refl _) ?_; intro w0 hown0 hgrow0)
  rw [made_nils] at hown0
  have HO := Lib.hid hown0
  have HB := Lib.hid (gb_below_none hgrow0 (Nat.le_refl _))
  clear hown0 hgrow0
  go_loopw [4] (fun i wr => ∃ (k : Nat) (vs : List Value), k ≤ n ∧ i = .int .i64 (k : Int) ∧ vs.length = k ∧ wr.ownsRow w.heap.size 91 1 (.slice (some ⟨w.heap.size, 0, none⟩) n n) n (vs ++ List.replicate (n - vs.length) (.slice none 0 0)) ∧ Fam 120 5 fltC wr w.heap.size vs (DD.take k) ∧ Below w.heap.size w wr) (fun i _ => n - (intOf i).toNat)
  case atStart => exact ⟨0, [], Nat.zero_le _, rfl, rfl, by simpa using HO.out, by rw [List.take_zero]; exact Fam.nil _ _, HB.out⟩
  case round =>
    obtain ⟨k, vs, hk, rfl, hvl, ho, hf, hbel⟩ := hrel
    have HO1 := Lib.hid ho
    have HF1 := Lib.hid hf
    have HB1 := Lib.hid hbel
    by_cases hlt : k < n
    · obtain ⟨b, off, D, A', c', rfl, hb, hD, hc, _, hr⟩ := (HI.out.below hbel).at k hlt
      have hat := sumL_at hD
      have hsz := hbel.size
      have HT := Lib.hid (lawsToFltS A' D.length c' D wr (hr.more hsz) (by omega))
      have k0 : (0 : Int) ≤ (k : Int) := by omega
      have k1 : (k : Int) < (n : Int) := by omega
      have HDD := Lib.hid (show DD.take (k + 1) = DD.take k ++ [D] by
        have hkD := (List.getElem?_eq_some_iff.1 hD).1
        have e : DD[k] = D := (List.getElem?_eq_some_iff.1 hD).2
        rw [List.take_succ_eq_append_getElem hkD, e])
      have HVL := Lib.hid hvl
      have HS := Lib.hid hsz
      clear ho hf hbel hD hat hr hvl
      go_wp2_with fail
      refine HT.out.mono ?_
      rintro e w4 ⟨g4, rfl, o4, b4⟩
      have hb4 := gb_of_below b4 none
      have hoh := own_none HO1.out hb4
      have HF4 := Lib.hid (HF1.out.gb hb4)
      have HR4 := Lib.hid (own_less o4 HS.out)
      have HA4 := Lib.hid (show ∀ (i : Nat) u, vs[i]? = some u → Apart u (.slice (some ⟨g4, 0, none⟩) D.length D.length) from fun i u hu j h1 h2 => by
        have h3 := (HF1.out.lt hu h1).2
        have h4 := (o4.lt j h2).1
        omega)
      have HB4 := Lib.hid (HB1.out.trans (b4.mono HS.out))
      have hcell := hoh.cellAt k (by omega)
      have hlen : k < (vs ++ List.replicate (n - vs.length) (Value.slice none 0 0)).length := by have := HVL.out; simp; omega
      obtain ⟨x, hx⟩ : ∃ x, (vs ++ List.replicate (n - vs.length) (Value.slice none 0 0))[k]? = some x := ⟨_, List.getElem?_eq_getElem hlen⟩
      rw [hx] at hcell
      have hfz := hoh.frozenAt k
      obtain ⟨o5, g5⟩ := hoh.stored k (.slice (some ⟨g4, 0, none⟩) D.length D.length)
      have hset := set_rep vs (Value.slice none 0 0) (.slice (some ⟨g4, 0, none⟩) D.length D.length) n (by have := HVL.out; omega)
      rw [HVL.out] at hset
      have HRW := Lib.hid hoh
      rw [HVL.out, hset] at o5
      have HO5 := Lib.hid o5
      have HF5 := Lib.hid ((HF4.out.kept g5 (fun i v j hv hj e => by
        have hi := (List.getElem?_eq_some_iff.1 hv).1
        obtain ⟨u, hu, hou⟩ := HF4.out.get (i := i) (by rw [← HF4.out.len]; exact hi)
        rw [hv] at hu
        obtain rfl := Option.some.inj hu
        exact own_typesG HRW.out hou (by decide) (k := j) (by rw [← e]; rfl) hj)).snoc (row_keptR HR4.out g5 (fun j e1 e2 => own_typesG HRW.out HR4.out (by decide) (k := j) (by rw [← e1]; rfl) e2)) HA4.out)
      have HB5 := Lib.hid (HB4.out.grown g5 HB4.out.size (fun j e => by cases e; exact Nat.le_refl _))
      clear hb4 hoh hlen hx o4 b4 o5 g5 hset hc
      go_wp2_with fail
      go_roundw
      case rel => exact ⟨k + 1, vs ++ [.slice (some ⟨g4, 0, none⟩) D.length D.length], by omega, by go_num, by rw [List.length_append, HVL.out]; rfl, HO5.out, by rw [HDD.out]; exact HF5.out, HB5.out⟩
      case measure => simp [intOf]; omega
    · have hkn : k = n := by omega
      have HKN := Lib.hid hkn
      have HVL := Lib.hid hvl
      clear ho hf hbel hkn hvl
      go_wp2_with fail
      go_ret
      refine ⟨w.heap.size, vs, by rw [hl]; rfl, ⟨?_, ?_⟩, HB1.out⟩
      · have h9 := HO1.out
        rw [HVL.out, HKN.out, Nat.sub_self, List.replicate_zero, List.append_nil] at h9
        rw [hl]
        exact h9
      · have h9 := HF1.out
        rw [HKN.out, ← hl, List.take_length] at h9
        exact h9
end Go.Proofs.Ytfloekbmgjmhbaa
