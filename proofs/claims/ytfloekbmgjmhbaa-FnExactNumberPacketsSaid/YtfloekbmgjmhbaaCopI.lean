/- What is proved here: the built-in copy of a whole slice into a row that was just made, and the program's copies of slices of numbers, of flits and of slices of flits; only new blocks are written. -/
import Derived.Test.YtfloekbmgjmhbaaFltL
import Derived.Test.YtfloekbmgjmhbaaNwL
import Derived.Test.YtfloekbmgjmhbaaFssL
import Derived.Test.YtfloekbmgjmhbaaAppI
import Derived.Test.YtfloekbmgjmhbaaNewI
import Derived.Laws.CopyOwn
namespace Go.Proofs.Ytfloekbmgjmhbaa
open Go.ChangeShapes Go.WideShapes Go.ChangeAt Go.RowKit
set_option linter.unusedVariables false
set_option maxRecDepth 20000

theorem run_copy_rec {P : Program} (w : World) (dT sT ty elem : TypeId) (z g n dCap : Nat) (ad : Addr) (sCap : Nat) (cur : Array Value) (t : TypeId) (cs : List Value)
    (hu : P.underlying dT = some (.slice elem)) (hs : (P.info? elem).map (·.size) = some z) (hg : w.heap[g]? = some (.cells cur t (0, 0))) (hn : cs.length = n * z)
    (hsrc : ∀ j v, cs[j]? = some v → w.cell? (ad.add j) = some v) (hfit : cs.length ≤ cur.size) (h1 : ∀ v ∈ cs, v.oneCell' = true) :
    (Builtin.copy_ #[dT, sT] ty #[.slice (some ⟨g, 0, none⟩) n dCap, .slice (some ad) n sCap]).run P w =
      .ok (goInt n) (w.setRow g (cur.toList.take (0 + 0) ++ cs ++ cur.toList.drop (0 + 0 + cs.length)).toArray) := by
  have hl := run_loadCells_list (P := P) w ad cs hsrc
  have hst := run_storeCells_at P g 0 t cs 0 cur w hg (by simpa using hfit) h1
  cases hq : P.info? elem with
  | none => simp [hq] at hs
  | some i =>
    have hi : i.size = z := by simpa [hq] using hs
    have hm : Nat.min n n = n := Nat.min_self n
    simp only [Nat.zero_add, List.take_zero, List.nil_append] at hst ⊢
    simp [Builtin.copy_, run_underlying hu, Builtin.lenOf, Builtin.firstCells, sizeOf, typeInfo, hq, hi, hm, ← hn, hl, hst]
theorem run_copy_zero {P : Program} (w : World) (dT sT ty elem : TypeId) (z : Nat) (d a : Option Addr) (dCap sCap : Nat) (hu : P.underlying dT = some (.slice elem)) (hs : (P.info? elem).map (·.size) = some z) :
    (Builtin.copy_ #[dT, sT] ty #[.slice d 0 dCap, .slice a 0 sCap]).run P w = .ok (goInt 0) w := by
  cases hq : P.info? elem with
  | none => simp [hq] at hs
  | some i =>
    have hl : ∀ (x : Addr), (loadCells x 0).run P w = .ok #[] w := fun x => by simpa using run_loadCells_list (P := P) w x [] (by simp)
    cases d <;> cases a <;> simp [Builtin.copy_, run_underlying hu, Builtin.lenOf, Builtin.firstCells, sizeOf, typeInfo, hq, storeCells, hl]
theorem gb_setRowC {w : World} {g : Nat} (cs : Array Value) (hg : g < w.heap.size) : w.grownBy (w.setRow g cs) (some g) :=
  ⟨rfl, rfl, rfl, by simp [World.setRow], fun k hk hne => setRow_other w g k cs (fun e => hne (by rw [e]))⟩
/-- A whole slice is copied into a row of the same length. -/
theorem wpList_copy_whole {P : Program} {w : World} {ops : Array Oper} {rest : List Oper} {o : Oper} {a : Act} {Q : Exit → Act → World → Prop} (hgd : o.guard = none) (d s : Operand) (dT sT : TypeId)
    (ho : o.op = .call { callee := .builtin .copy, args := #[d, s], argTypes := #[dT, sT] }) (elem : TypeId) (hu : P.underlying dT = some (.slice elem)) (z : Nat) (hsz : (P.info? elem).map (·.size) = some z)
    (base g n sCap : Nat) (sp : Option Addr) (hd : a.eval d = .slice (some ⟨g, 0, none⟩) n n) (hs : a.eval s = .slice sp n sCap) (xs cs : List Value)
    (hown : w.ownsRow base elem z (.slice (some ⟨g, 0, none⟩) n n) n xs) (hcs : cs.length = n * z) (hsrc : 0 < n → ∃ ad, sp = some ad ∧ ∀ j v, cs[j]? = some v → w.cell? (ad.add j) = some v) (h1 : ∀ v ∈ cs, v.oneCell' = true)
    (h : ∀ w', w'.ownsRow base elem z (.slice (some ⟨g, 0, none⟩) n n) n cs → w.grownBy w' (some g) → wpList P ops Q rest (a.put o.dst (goInt n)) w') :
    wpList P ops Q (o :: rest) a w := by
  rcases Nat.eq_zero_or_pos n with h0 | h0
  · subst h0
    have e1 : cs = [] := List.eq_nil_of_length_eq_zero (by simpa using hcs)
    have e2 : xs = [] := List.eq_nil_of_length_eq_zero (by simpa using hown.1)
    subst e1 e2
    refine wpList_plain hgd fun K hK => ?_
    have hrun := run_copy_zero (P := P) w dT sT o.type elem z (some ⟨g, 0, none⟩) sp 0 sCap hu hsz
    unfold Oper.wp
    simp [execOp, ho, resolve, invoke, builtin, hd, hs, hrun, Result.andThen]
    exact hK _ _ (h w hown ⟨rfl, rfl, rfl, Nat.le_refl _, fun _ _ _ => rfl⟩)
  · obtain ⟨ad, rfl, hsr⟩ := hsrc h0
    obtain ⟨hx, hv | ⟨g', cap, cur, hv, hb, hg, hnc, hm, hsc, ht⟩⟩ := hown
    · exact absurd hv.1 (by simp)
    · obtain ⟨rfl, rfl⟩ : g = g' ∧ n = cap := by injection hv with a1 a2 a3; injection a1 with a4; injection a4 with a5; exact ⟨a5, a3⟩
      have hlt : g < w.heap.size := (Array.getElem?_eq_some_iff.1 hg).1
      refine wpList_plain hgd fun K hK => ?_
      have hrun := run_copy_rec (P := P) w dT sT o.type elem z g n n ad sCap cur elem cs hu hsz hg hcs hsr (by omega) h1
      have e3 : cur.toList.take (0 + 0) ++ cs ++ cur.toList.drop (0 + 0 + cs.length) = cs := by
        rw [List.drop_eq_nil_of_le (by rw [Array.length_toList]; omega)]; simp
      rw [e3] at hrun
      unfold Oper.wp
      simp [execOp, ho, resolve, invoke, builtin, hd, hs, hrun, Result.andThen]
      exact hK _ _ (h _ ⟨hcs, .inr ⟨g, n, cs.toArray, rfl, hb, setRow_heap w g cur _ elem _ hg, hnc, hm, by simpa using hcs, by simp [← hcs]⟩⟩ (gb_setRowC _ hlt))

theorem implCopyI (A : Option Addr) (n cap : Nat) (L : List Int) (w : World) (h : IntAt w w.heap.size A n L) (hn : n ≤ 1000000000) :
    Calls Try.prog 78 #[.slice A n cap] w (NewI L w) := by
  obtain ⟨i0, hi, hz0, hz1, hz2⟩ := info_parts info_int
  have hsz : (Try.prog.info? 3).map (·.size) = some 1 := by rw [hi]; simp [hz1]
  have hl := h.1
  have HI := Lib.hid h
  have HL := Lib.hid (show (intsV L).length = n * 1 by rw [Nat.mul_one, ← hl]; simp [intsV])
  have HONE := Lib.hid (intsV_one L)
  have HLN := Lib.hid hl
  clear h hl
  go_enter Try.func78, Try.ntmps78
  go_wp2_with (first
    | (at_make; refine wpList_make_full _ rfl _ _ 26 rfl w.heap.size 3 i0 (.int .i64 0) 1 Try.underlying26 hi hz0 hz1 .i64 .i64 _ _ n rfl rfl (by omega) (by omega) (by rw [hz2]; omega) (by unfold maxLen; omega) (Nat.le_refl _) ?_; intro w0 hown0 hgrow0; have O0 := Lib.hid hown0; have G0 := Lib.hid hgrow0; clear hown0 hgrow0)
    | (refine wpList_copy_whole rfl (.tmp 7) (.tmp 8) 26 26 rfl 3 Try.underlying26 1 hsz w.heap.size w.heap.size n cap A rfl rfl _ (intsV L) O0.out HL.out (fun h0 => by
        obtain ⟨b, off, e, _⟩ := HI.out.2 h0
        subst e
        exact ⟨_, rfl, intAt_news (HI.out.none (Nat.le_refl _) G0.out)⟩) HONE.out ?_; intro w2 hown2 hgrow2; have O2 := Lib.hid hown2; have G2 := Lib.hid hgrow2; clear hown2 hgrow2))
  go_ret
  refine ⟨_, rfl, ?_, ?_⟩
  · rw [HLN.out]; exact O2.out
  · exact (gb_below_none G0.out (Nat.le_refl _)).grown G2.out G0.out.size (fun j hj => by cases hj; exact Nat.le_refl _)
theorem implCopyF (A : Option Addr) (n cap : Nat) (D : List Flt) (w : World) (h : RecAt 5 fltC w w.heap.size A n D) (hn : n ≤ 1000000000) :
    Calls Try.prog 108 #[.slice A n cap] w (fun e w' => ∃ v, e = .returned v ∧ w'.ownsRow w.heap.size 120 5 v D.length (recV fltC D) ∧ Below w.heap.size w w') := by
  obtain ⟨i0, hi, hz0, hz1, hz2⟩ := info_parts info_flt
  have hsz : (Try.prog.info? 120).map (·.size) = some 5 := by rw [hi]; simp [hz1]
  have hl := h.1
  have HI := Lib.hid h
  have HL := Lib.hid (show (recV fltC D).length = n * 5 by rw [recV_length fltL, hl])
  have HONE := Lib.hid (recV_one fltL D)
  have HLN := Lib.hid hl
  clear h hl
  go_enter Try.func108, Try.ntmps108
  go_wp2_with (first
    | (at_make; refine wpList_make_full _ rfl _ _ 91 rfl w.heap.size 120 i0 (fltX flt0) 5 Try.underlying91 hi hz0 hz1 .i64 .i64 _ _ n rfl rfl (by omega) (by omega) (by rw [hz2]; omega) (by unfold maxLen; omega) (Nat.le_refl _) ?_; intro w0 hown0 hgrow0; have O0 := Lib.hid hown0; have G0 := Lib.hid hgrow0; clear hown0 hgrow0)
    | (refine wpList_copy_whole rfl (.tmp 7) (.tmp 8) 91 91 rfl 120 Try.underlying91 5 hsz w.heap.size w.heap.size n cap A rfl rfl _ (recV fltC D) O0.out HL.out (fun h0 => by
        obtain ⟨b, off, e, _⟩ := HI.out.2 h0
        subst e
        exact ⟨_, rfl, recAt_news fltL (by decide) (HI.out.none (Nat.le_refl _) G0.out)⟩) HONE.out ?_; intro w2 hown2 hgrow2; have O2 := Lib.hid hown2; have G2 := Lib.hid hgrow2; clear hown2 hgrow2))
  go_ret
  refine ⟨_, rfl, ?_, ?_⟩
  · rw [HLN.out]; exact O2.out
  · exact (gb_below_none G0.out (Nat.le_refl _)).grown G2.out G0.out.size (fun j hj => by cases hj; exact Nat.le_refl _)
set_option maxHeartbeats 3200000 in
theorem implCopies (A : Option Addr) (n cap : Nat) (DD : List (List Flt)) (w : World) (h : RecsAt 5 fltC w w.heap.size A n DD) (hn : n ≤ 1000000000) (hs : sumL DD ≤ 1000000000) :
    Calls Try.prog 79 #[.slice A n cap] w (NewLL DD w) := by
  obtain ⟨i0, hi, hz0, hz1, hz2⟩ := info_parts info_fss
  have hl := h.1
  have HI := Lib.hid h
  have HCF := Lib.hid (fun A n cap D w h hn => implCopyF A n cap D w h hn)
  clear h
  go_enter Try.func79, Try.ntmps79
  go_wp2_with (at_make; refine wpList_make_full _ rfl _ _ 36 rfl w.heap.size 91 i0 (.slice none 0 0) 1 Try.underlying36 hi hz0 hz1 .i64 .i64 _ _ n rfl rfl (by omega) (by omega) (by rw [hz2]; omega) (by unfold maxLen; omega) (Nat.le_refl _) ?_; intro w0 hown0 hgrow0; rw [made_nils] at hown0; have HO := Lib.hid hown0; have HB := Lib.hid (gb_below_none hgrow0 (Nat.le_refl _)); clear hown0 hgrow0)
  go_loopw [11] (fun i wr => ∃ (k : Nat) (vs : List Value), k ≤ n ∧ i = .int .i64 (k : Int) ∧ vs.length = k ∧ wr.ownsRow w.heap.size 91 1 (.slice (some ⟨w.heap.size, 0, none⟩) n n) n (vs ++ List.replicate (n - vs.length) (.slice none 0 0)) ∧ Fam 120 5 fltC wr w.heap.size vs (DD.take k) ∧ Below w.heap.size w wr) (fun i _ => n - (intOf i).toNat)
  case atStart => exact ⟨0, [], Nat.zero_le _, rfl, rfl, by simpa using HO.out, by rw [List.take_zero]; exact Fam.nil _ _, HB.out⟩
  case round =>
    obtain ⟨k, vs, hk, rfl, hvl, ho, hf, hbel⟩ := hrel
    have HO1 := Lib.hid ho
    have HF1 := Lib.hid hf
    have HB1 := Lib.hid hbel
    by_cases hlt : k < n
    · obtain ⟨b, off, D, A', c', rfl, hb, hD, hc, _, hr⟩ := (HI.out.below hbel).at k hlt
      have hat := sumL_at hD
      have hsz := hbel.size
      have HT := Lib.hid (HCF.out A' D.length c' D wr (hr.more hsz) (by omega))
      have k0 : (0 : Int) ≤ (k : Int) := by omega
      have k1 : (k : Int) < (n : Int) := by omega
      have HDD := Lib.hid (show DD.take (k + 1) = DD.take k ++ [D] by
        have hkD := (List.getElem?_eq_some_iff.1 hD).1
        have e : DD[k] = D := (List.getElem?_eq_some_iff.1 hD).2
        rw [List.take_succ_eq_append_getElem hkD, e])
      have HVL := Lib.hid hvl
      have HS := Lib.hid hsz
      clear ho hf hbel hD hat hr hvl
      go_wp2_with fail
      refine HT.out.mono ?_
      rintro e w4 ⟨v4, rfl, o4, b4⟩
      obtain ⟨A4, c4, rfl, _⟩ := own_form o4
      have hb4 := gb_of_below b4 none
      have hoh := own_none HO1.out hb4
      have HF4 := Lib.hid (HF1.out.gb hb4)
      have HR4 := Lib.hid (own_less o4 HS.out)
      have HA4 := Lib.hid (show ∀ (i : Nat) u, vs[i]? = some u → Apart u (.slice A4 D.length c4) from fun i u hu j h1 h2 => by
        have h3 := (HF1.out.lt hu h1).2
        have h4 := (o4.lt j h2).1
        omega)
      have HB4 := Lib.hid (HB1.out.trans (b4.mono HS.out))
      have hcell := hoh.cellAt k (by omega)
      have hlen : k < (vs ++ List.replicate (n - vs.length) (Value.slice none 0 0)).length := by have := HVL.out; simp; omega
      obtain ⟨x, hx⟩ : ∃ x, (vs ++ List.replicate (n - vs.length) (Value.slice none 0 0))[k]? = some x := ⟨_, List.getElem?_eq_getElem hlen⟩
      rw [hx] at hcell
      have hfz := hoh.frozenAt k
      obtain ⟨o5, g5⟩ := hoh.stored k (.slice A4 D.length c4)
      have hset := set_rep vs (Value.slice none 0 0) (.slice A4 D.length c4) n (by have := HVL.out; omega)
      rw [HVL.out] at hset
      have HRW := Lib.hid hoh
      rw [HVL.out, hset] at o5
      have HO5 := Lib.hid o5
      have HF5 := Lib.hid ((HF4.out.kept g5 (fun i v j hv hj e => by
        have hi := (List.getElem?_eq_some_iff.1 hv).1
        obtain ⟨u, hu, hou⟩ := HF4.out.get (i := i) (by rw [← HF4.out.len]; exact hi)
        rw [hv] at hu
        obtain rfl := Option.some.inj hu
        exact own_typesG HRW.out hou (by decide) (k := j) (by rw [← e]; rfl) hj)).snoc (row_keptR HR4.out g5 (fun j e1 e2 => own_typesG HRW.out HR4.out (by decide) (k := j) (by rw [← e1]; rfl) e2)) HA4.out)
      have HB5 := Lib.hid (HB4.out.grown g5 HB4.out.size (fun j e => by cases e; exact Nat.le_refl _))
      clear hb4 hoh hlen hx o4 b4 o5 g5 hset hc
      go_wp2_with fail
      go_roundw
      case rel => exact ⟨k + 1, vs ++ [.slice A4 D.length c4], by omega, by go_num, by rw [List.length_append, HVL.out]; rfl, HO5.out, by rw [HDD.out]; exact HF5.out, HB5.out⟩
      case measure => simp [intOf]; omega
    · have hkn : k = n := by omega
      have HKN := Lib.hid hkn
      have HVL := Lib.hid hvl
      clear ho hf hbel hkn hvl
      go_wp2_with fail
      go_ret
      refine ⟨_, vs, rfl, ⟨?_, ?_⟩, HB1.out⟩
      · have h9 := HO1.out
        rw [HVL.out, HKN.out, Nat.sub_self] at h9
        rw [hl]
        simpa using h9
      · have h9 := HF1.out
        rw [HKN.out, ← hl, List.take_length] at h9
        exact h9
end Go.Proofs.Ytfloekbmgjmhbaa
