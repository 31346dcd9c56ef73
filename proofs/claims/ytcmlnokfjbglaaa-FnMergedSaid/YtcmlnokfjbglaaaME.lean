/- What is proved here: what 'append' yields where a whole slice of numbers is appended: onto a row of the call's own, and onto a slice without spare memory; nothing of the program; the contract of a function that returns a new table and whether there is one; nothing of the program; the table of a class as mathematics, and what a function that returns a table and whether there is one gives; nothing of the program; the model's table of a class; only new blocks are written; the program's table of a class, and the library's copy of a slice of numbers; only new blocks are written; the exact law on TableFor answers true, for every argument; only new blocks are written; the laws' marks on a mesh; only the marked row and new blocks are written; the model's dependencies of two classes; only new blocks are written; the program's dependencies of two classes; only new blocks are written; the exact law on ClassDepends answers true, for every argument; only new blocks are written; small facts on a mesh, a table and a verdict in boxes of a call's own, and what a function that returns a verdict gives; nothing of the program; what the laws' helpers on verdicts return: equal verdicts are equal, marks and what is held; nothing of the program; the laws' marks on a verdict and what is held of them; nothing of the program; small facts on a verdict that is written into a box of a call's own; nothing of the program; what the model's OrderOf and IsOrder return, for all arguments; only new blocks are written; the search level by level as mathematics: what is known of the numbers of steps while a level is gone through, and that they are the least ones at the end; nothing of the program; the model's least numbers of steps from a channel to all others; only new blocks are written; what the model's ShortestCycle and HasCycle return, for all arguments; only new blocks are written; the model's verdict on two classes; only new blocks are written; what the program's search of the next channel returns; only new blocks are written; what the library's Repeat of one number, 128 times, returns: a row of its own of 128 such numbers; only new blocks are written; what the program's OrderOf returns, for all arguments; only new blocks are written. -/
import Derived.Test.YtcmlnokfjbglaaaMD
import Derived.Deep.AppendSrc
import Derived.Lib.SliceRun
import Derived.Deep.Cut
import Derived.Deep.AppendLies
import Derived.Laws.CopyOwn
section
namespace Go.Proofs.Ytcmlnokfjbglaaa
open Go.ChangeShapes Go.WideShapes Go.ChangeAt Go.RowKit
set_option linter.unusedVariables false

theorem intsV_at {L : List Int} {j : Nat} {u : Value} (h : (intsV L)[j]? = some u) : ∃ x, L[j]? = some x ∧ u = .int .i64 x := by
  unfold intsV at h
  rw [List.getElem?_map] at h
  cases hx : L[j]? with
  | none => rw [hx] at h; cases h
  | some x => rw [hx] at h; exact ⟨x, rfl, (Option.some.inj h).symm⟩
theorem intsV_one (L : List Int) : ∀ u ∈ intsV L, u.oneCell' = true := fun u hu => by
  obtain ⟨x, _, rfl⟩ := List.mem_map.1 hu
  rfl
theorem intAt_news {w : World} {B n b off : Nat} {L : List Int} (h : IntAt w B (some ⟨b, off, none⟩) n L) : ∀ j u, (intsV L)[j]? = some u → w.cell? ((⟨b, off, none⟩ : Addr).add j) = some u := fun j u hu => by
  obtain ⟨x, hx, rfl⟩ := intsV_at hu
  have hj : j < L.length := by
    rcases Nat.lt_or_ge j L.length with h1 | h1
    · exact h1
    · rw [List.getElem?_eq_none h1] at hx; cases hx
  have hl := h.1
  obtain ⟨b', off', hA, _, hc⟩ := h.2 (by omega)
  obtain ⟨rfl, rfl⟩ : b = b' ∧ off = off' := by injection hA with h1; injection h1 with h2 h3; exact ⟨h2, h3⟩
  rw [Addr.add_lit]
  exact hc j x hx
theorem src_ints {w : World} {B n : Nat} {A : Option Addr} {L : List Int} (h : IntAt w B A n L) (c : Nat) : Src Try.prog 1 28 (.slice A n c) n (intsV L) w := by
  have hl := h.1
  rcases Nat.eq_zero_or_pos n with h0 | h0
  · subst h0
    obtain rfl : L = [] := List.eq_nil_of_length_eq_zero hl
    cases A with
    | none => exact Src.ofNil w Try.underlying28 c
    | some a => exact Src.ofSlice w Try.underlying28 a 0 c [] rfl (fun j u hu => by cases hu) (fun u hu => by cases hu)
  · obtain ⟨b, off, rfl, _⟩ := h.2 h0
    exact Src.ofSlice w Try.underlying28 _ n c (intsV L) (by rw [intsV_length, hl]; omega) (intAt_news h) (intsV_one L)
theorem run_app_nothing (w : World) (ty : TypeId) (base : Option Addr) (sLen sCap : Nat) (hle : sLen ≤ sCap) (x : Value) (i0 : TypeInfo) (hi : Try.prog.info? 3 = some i0) (h1 : i0.size = 1) (hs : Src Try.prog 1 28 x 0 [] w) :
    (Builtin.append_ #[28, 28] ty #[.slice base sLen sCap, x]).run Try.prog w = .ok (.slice base sLen sCap) w := by
  have hc := hs.cells
  rw [← h1] at hc
  cases base <;> simp [Builtin.append_, run_underlying Try.underlying28, sizeOf, typeInfo, hi, hs.len, hle, hc, storeCells]

/-- Onto a row of the call's own. -/
theorem run_app_own (w : World) (ty : TypeId) (i0 : TypeInfo) (hi : Try.prog.info? 3 = some i0) (hz0 : i0.zero = some (.int .i64 0)) (hz1 : i0.size = 1) (hz2 : i0.bytes = 8)
    (base n m c B : Nat) (A : Option Addr) (X L : List Int) (v : Value) (hown : w.ownsRow base 3 1 v n (intsV X)) (h : IntAt w B A m L) (hm : n + m ≤ 1000000000) (hb : base ≤ w.heap.size) :
    ∃ v' w', (Builtin.append_ #[28, 28] ty #[v, .slice A m c]).run Try.prog w = .ok v' w' ∧ w'.ownsRow base 3 1 v' (n + m) (intsV (X ++ L)) ∧ w.grownBy w' v.ownBlock := by
  have hl := h.1
  rcases Nat.eq_zero_or_pos m with h0 | h0
  · subst h0
    obtain rfl : L = [] := List.eq_nil_of_length_eq_zero hl
    obtain ⟨A', c', rfl, _⟩ := own_form hown
    exact ⟨_, _, run_app_nothing w ty A' n c' (own_cap hown).1 _ i0 hi hz1 (src_ints h c), by rw [List.append_nil]; exact hown, gb_refl _ _⟩
  · obtain ⟨b, off, rfl, _⟩ := h.2 h0
    obtain ⟨v', w', h1, h2, h3, _⟩ := run_append_own (P := Try.prog) w base 28 ty 3 i0 (.int .i64 0) 1 8 Try.underlying28 hi hz0 hz1 hz2 rfl (by decide) v n (intsV X) hown ⟨b, off, none⟩ m c (intsV L)
      (by rw [intsV_length, hl]; omega) (intAt_news h) (intsV_one L) (by unfold maxLen; omega) (by omega) hb
    exact ⟨v', w', h1, by rw [intsV_append]; exact h2, h3⟩
theorem wpList_app_own {ops : Array Oper} {rest : List Oper} {o : Oper} {a : Act} {Q : Exit → Act → World → Prop} (w : World) (hgd : o.guard = none) (s x : Operand)
    (ho : o.op = .call { callee := .builtin .append, args := #[s, x], argTypes := #[28, 28] })
    (i0 : TypeInfo) (hi : Try.prog.info? 3 = some i0) (hz0 : i0.zero = some (.int .i64 0)) (hz1 : i0.size = 1) (hz2 : i0.bytes = 8)
    (base n m c B : Nat) (A : Option Addr) (X L : List Int) (v : Value) (hs : a.eval s = v) (hx : a.eval x = .slice A m c) (hown : w.ownsRow base 3 1 v n (intsV X)) (h : IntAt w B A m L) (hm : n + m ≤ 1000000000) (hb : base ≤ w.heap.size)
    (hk : ∀ v' w', w'.ownsRow base 3 1 v' (n + m) (intsV (X ++ L)) → w.grownBy w' v.ownBlock → wpList Try.prog ops Q rest (a.put o.dst v') w') : wpList Try.prog ops Q (o :: rest) a w := by
  refine wpList_plain hgd fun K hK => ?_
  obtain ⟨v', w', hr, h2, h3⟩ := run_app_own w o.type i0 hi hz0 hz1 hz2 base n m c B A X L v hown h hm hb
  unfold Oper.wp execOp
  simp only [ho, resolve, invoke, builtin, Sem.run_bind, Sem.run_pure, Result.andThen_ok, List.map_toArray, List.map_cons, List.map_nil, hs, hx, hr]
  exact hK _ _ (hk v' w' h2 h3)

/-- Onto a slice that has no spare memory. -/
theorem run_app_cut (w : World) (ty : TypeId) (i0 : TypeInfo) (hi : Try.prog.info? 3 = some i0) (hz0 : i0.zero = some (.int .i64 0)) (hz1 : i0.size = 1) (hz2 : i0.bytes = 8)
    (n m c B B2 : Nat) (A A2 : Option Addr) (X L : List Int) (hX : IntAt w B A n X) (h : IntAt w B2 A2 m L) (hm : n + m ≤ 1000000000) (hB : B ≤ w.heap.size) :
    ∃ A' c' w', (Builtin.append_ #[28, 28] ty #[.slice A n n, .slice A2 m c]).run Try.prog w = .ok (.slice A' (n + m) c') w' ∧ IntAt w' w'.heap.size A' (n + m) (X ++ L) ∧ w.grownBy w' none := by
  have hl := h.1
  have hlX := hX.1
  rcases Nat.eq_zero_or_pos m with h0 | h0
  · subst h0
    obtain rfl : L = [] := List.eq_nil_of_length_eq_zero hl
    exact ⟨A, n, w, run_app_nothing w ty A n n (Nat.le_refl _) _ i0 hi hz1 (src_ints h c), by rw [List.append_nil]; exact hX.more hB, gb_refl _ _⟩
  · have hold : (Builtin.firstCells i0.size n (.slice A n n)).run Try.prog w.drew = .ok (intsV X).toArray w.drew := by
      have := (src_ints hX n).cellsD
      rwa [← hz1] at this
    have hsrc := src_ints h c
    rw [← hz1] at hsrc
    have hr := run_append_grow_src (P := Try.prog) w 28 28 ty 3 i0 (.int .i64 0) Try.underlying28 hi hz0 A n n (intsV X) hold (.slice A2 m c) m (intsV L) hsrc (by omega) (by omega) (growslice_fits (by omega) (by rw [hz2]; omega))
    have hge := grownCap_ge w (n + m) n 3
    have hcm : grownCap w (n + m) n 3 ≤ maxLen := grownCap_le_maxLen w (n + m) n 3 (by unfold maxLen; omega)
    refine ⟨_, _, _, hr, ⟨by rw [List.length_append]; omega, fun _ => ⟨w.heap.size, 0, rfl, by simp, fun k x hx => ?_⟩⟩, ⟨rfl, rfl, rfl, by simp, fun k hk _ => Below.heap_alloc w.drew _ k hk⟩⟩
    have hk : k < (X ++ L).length := by
      rcases Nat.lt_or_ge k (X ++ L).length with h1 | h1
      · exact h1
      · rw [List.getElem?_eq_none h1] at hx; cases hx
    have hcell : (intsV X ++ intsV L)[k]? = some (.int .i64 x) := by rw [← intsV_append]; unfold intsV; rw [List.getElem?_map, hx]; rfl
    rw [Nat.zero_add]
    refine (World.cell?_alloc_new w.drew _ _ k).trans ?_
    rw [Array.getElem?_append_left (by simp [intsV_length] at hk ⊢; exact hk), List.getElem?_toArray]
    exact hcell
theorem wpList_app_cut {ops : Array Oper} {rest : List Oper} {o : Oper} {a : Act} {Q : Exit → Act → World → Prop} (w : World) (hgd : o.guard = none) (s x : Operand)
    (ho : o.op = .call { callee := .builtin .append, args := #[s, x], argTypes := #[28, 28] })
    (i0 : TypeInfo) (hi : Try.prog.info? 3 = some i0) (hz0 : i0.zero = some (.int .i64 0)) (hz1 : i0.size = 1) (hz2 : i0.bytes = 8)
    (n m c B B2 : Nat) (A A2 : Option Addr) (X L : List Int) (hs : a.eval s = .slice A n n) (hx : a.eval x = .slice A2 m c) (hX : IntAt w B A n X) (h : IntAt w B2 A2 m L) (hm : n + m ≤ 1000000000) (hB : B ≤ w.heap.size)
    (hk : ∀ A' c' w', IntAt w' w'.heap.size A' (n + m) (X ++ L) → w.grownBy w' none → wpList Try.prog ops Q rest (a.put o.dst (.slice A' (n + m) c')) w') : wpList Try.prog ops Q (o :: rest) a w := by
  refine wpList_plain hgd fun K hK => ?_
  obtain ⟨A', c', w', hr, h2, h3⟩ := run_app_cut w o.type i0 hi hz0 hz1 hz2 n m c B B2 A A2 X L hX h hm hB
  unfold Oper.wp execOp
  simp only [ho, resolve, invoke, builtin, Sem.run_bind, Sem.run_pure, Result.andThen_ok, List.map_toArray, List.map_cons, List.map_nil, hs, hx, hr]
  exact hK _ _ (hk A' c' w' h2 h3)
end Go.Proofs.Ytcmlnokfjbglaaa
end

section
namespace Go.Proofs.Ytcmlnokfjbglaaa
open Go.ChangeShapes Go.WideShapes Go.ChangeAt Go.RowKit
set_option linter.unusedVariables false

/-- A new table and whether there is one. -/
def RetTab (P : List Int) (b : Bool) (w : World) (e : Ending) (w' : World) : Prop :=
  ∃ v, e = .returned (.tuple #[.agg #[v], .bool b]) ∧ w'.ownsRow w.heap.size 3 1 v P.length (intsV P) ∧ Below w.heap.size w w'
end Go.Proofs.Ytcmlnokfjbglaaa
end

section
namespace Go.Proofs.Ytcmlnokfjbglaaa
open Go.ChangeShapes Go.WideShapes Go.ChangeAt Go.RowKit
set_option linter.unusedVariables false

def tabF (P Q : List Int) (c : Int) : List Int := if c = 0 then P else if c = 1 then Q else []
def tabFok (c : Int) : Bool := decide (c = 0 ∨ c = 1)
theorem tabF_0 {P Q : List Int} {c : Int} (h : c = 0) : tabF P Q c = P ∧ tabFok c = true := ⟨if_pos h, decide_eq_true (.inl h)⟩
theorem tabF_1 {P Q : List Int} {c : Int} (h : c = 1) : tabF P Q c = Q ∧ tabFok c = true := ⟨by rw [tabF, if_neg (by omega), if_pos h], decide_eq_true (.inr h)⟩
theorem tabF_no {P Q : List Int} {c : Int} (h0 : c ≠ 0) (h1 : c ≠ 1) : tabF P Q c = [] ∧ tabFok c = false := ⟨by rw [tabF, if_neg h0, if_neg h1], decide_eq_false (by omega)⟩
theorem tabF_len {P Q : List Int} {c : Int} : (tabF P Q c).length ≤ P.length + Q.length := by
  unfold tabF
  split
  · omega
  · split <;> simp
end Go.Proofs.Ytcmlnokfjbglaaa
end

section
namespace Go.Proofs.Ytcmlnokfjbglaaa
open Go.ChangeShapes Go.WideShapes Go.ChangeAt Go.RowKit
set_option linter.unusedVariables false
set_option maxRecDepth 20000

/-- A table with ports of its own. -/
theorem specCopy (A : Option Addr) (n cap : Nat) (P : List Int) (w : World) (h : IntAt w w.heap.size A n P) (hn : n ≤ 1000000000) :
    Calls Try.prog 73 #[.agg #[.slice A n cap]] w fun e w' => ∃ v, e = .returned (.agg #[v]) ∧ w'.ownsRow w.heap.size 3 1 v P.length (intsV P) ∧ Below w.heap.size w w' := by
  obtain ⟨i0, hi, hz0, hz1, hz2⟩ := info_parts info_int
  have hl := h.1
  have hg := gb_alloc (gb_alloc (gb_alloc (gb_refl w none) (.cells #[.slice A n cap] 32)) (.cells #[.slice none 0 0] 32)) (.cells #[] 3)
  have H1 := Lib.hid (h.none (Nat.le_refl _) hg)
  have ho := World.ownsRow_made (base := w.heap.size + 2) (e := 3) (size := 1) ((w.alloc (.cells #[.slice A n cap] 32)).alloc (.cells #[.slice none 0 0] 32)) #[] 0 (by rw [alloc_size, alloc_size]; omega) (by decide) rfl
  have kb := (Blk.new (w.alloc (.cells #[.slice A n cap] 32)) 32 #[.slice none 0 0]).alloc (.cells #[] 3)
  rw [alloc_size, alloc_size] at ho
  rw [alloc_size] at kb
  have HO := Lib.hid ho
  have KB := Lib.hid kb
  have HG := Lib.hid hg
  have HS := Lib.hid (show w.heap.size + 2 ≤ (((w.alloc (.cells #[.slice A n cap] 32)).alloc (.cells #[.slice none 0 0] 32)).alloc (.cells #[] 3)).heap.size by simp only [alloc_size]; omega)
  have N1 := Lib.hid (show 0 + n ≤ 1000000000 by omega)
  have HL := Lib.hid hl
  clear h hl hn hg ho kb
  go_enter Try.func73, Try.ntmps73
  go_wp2_with (at_builtin; refine wpList_app_own _ rfl _ _ rfl i0 hi hz0 hz1 hz2 (w.heap.size + 2) 0 n cap _ _ [] P _ rfl rfl HO.out H1.out N1.out HS.out ?_; intro v' w1 hown1 hgrow1; rw [Nat.zero_add, List.nil_append] at hown1; obtain ⟨A1, c1, rfl, _⟩ := own_form hown1; have O1 := Lib.hid hown1; have K1 := Lib.hid (KB.out.grown hgrow1 (fun e => own_ne HO.out KB.out (by decide) e.symm)); have B1 := Lib.hid ((gb_below_none HG.out (Nat.le_refl _)).grown hgrow1 HG.out.size (fun j hj => by have := (HO.out.lt j hj).1; omega)); have e0 : w1.cell? ⟨w.heap.size + 1, 0, none⟩ = some (.slice none 0 0) := K1.out.cell 0; have f0 := K1.out.frozen 0; clear hown1 hgrow1)
  have hb := K1.out.set_ 0 (.slice A1 n c1)
  have r0 := hb.cell 0
  simp at r0
  refine bodyPost_ret (v := .agg #[.slice A1 n c1]) (by simp [results, Try.results73, go_sem, r0]) rfl ⟨_, rfl, ?_, ?_⟩
  · rw [HL.out]
    exact own_less (row_kept O1.out (gb_setCell (gb_refl w1 (some (w.heap.size + 1))) (.inl rfl) _) (fun j e e2 => by cases e; exact own_ne O1.out K1.out (by decide) e2)) (by omega)
  · exact B1.out.setCell (by show w.heap.size ≤ w.heap.size + 1; omega) _
theorem specTableFor (AP AQ : Option Addr) (nP cP nQ cQ : Nat) (P Q : List Int) (c : Int) (w : World) (hP : IntAt w w.heap.size AP nP P) (hQ : IntAt w w.heap.size AQ nQ Q) (hnP : nP ≤ 1000000000) (hnQ : nQ ≤ 1000000000) :
    Calls Try.prog 35 #[.agg #[.slice AP nP cP, .slice AQ nQ cQ], .int .i64 c] w (RetTab (tabF P Q c) (tabFok c) w) := by
  have hg := gb_alloc (gb_alloc (gb_refl w none) (.cells #[.slice AP nP cP, .slice AQ nQ cQ] 43)) (.cells #[.slice none 0 0] 32)
  have H1 := Lib.hid ((hP.none (Nat.le_refl _) hg).more hg.size)
  have H2 := Lib.hid ((hQ.none (Nat.le_refl _) hg).more hg.size)
  have kb := Blk.new (w.alloc (.cells #[.slice AP nP cP, .slice AQ nQ cQ] 43)) 32 #[.slice none 0 0]
  rw [alloc_size] at kb
  have KB := Lib.hid kb
  have HG := Lib.hid hg
  clear hP hQ hg kb
  by_cases c0 : c = 0
  · have HF := Lib.hid (tabF_0 (P := P) (Q := Q) c0)
    subst c0
    go_enter Try.func35, Try.ntmps35
    go_wp2_with fail
    refine (specCopy AP nP cP P _ H1.out hnP).mono ?_
    rintro e w1 ⟨v, rfl, o1, b1⟩
    obtain ⟨A1, c1, rfl, _⟩ := own_form o1
    have K1 := Lib.hid (KB.out.grown (gb_of_below b1 none) (by simp))
    have O1 := Lib.hid (own_less o1 HG.out.size)
    have B1 := Lib.hid ((gb_below_none HG.out (Nat.le_refl _)).trans (b1.mono HG.out.size))
    have e0 : w1.cell? ⟨w.heap.size + 1, 0, none⟩ = some (.slice none 0 0) := K1.out.cell 0
    have f0 := K1.out.frozen 0
    clear o1 b1
    go_wp2_with fail
    have hb := K1.out.set_ 0 (.slice A1 P.length c1)
    have r0 := hb.cell 0
    simp at r0
    refine bodyPost_ret (v := .tuple #[.agg #[.slice A1 P.length c1], .bool true]) (by simp [results, Try.results35, go_sem, r0]) rfl ⟨_, by rw [HF.out.2], ?_, ?_⟩
    · rw [HF.out.1]
      exact row_kept O1.out (gb_setCell (gb_refl w1 (some (w.heap.size + 1))) (.inl rfl) _) (fun j e e2 => by cases e; exact own_ne O1.out K1.out (by decide) e2)
    · exact B1.out.setCell (by show w.heap.size ≤ w.heap.size + 1; omega) _
  · by_cases c1 : c = 1
    · have HF := Lib.hid (tabF_1 (P := P) (Q := Q) c1)
      subst c1
      have kc := (Blk.new w 43 #[.slice AP nP cP, .slice AQ nQ cQ]).alloc (.cells #[.slice none 0 0] 32)
      go_enter Try.func35, Try.ntmps35
      go_wp2_with fail
      refine (specCopy AQ nQ cQ Q _ H2.out hnQ).mono ?_
      rintro e w1 ⟨v, rfl, o1, b1⟩
      obtain ⟨A1, c1, rfl, _⟩ := own_form o1
      have K1 := Lib.hid (KB.out.grown (gb_of_below b1 none) (by simp))
      have O1 := Lib.hid (own_less o1 HG.out.size)
      have B1 := Lib.hid ((gb_below_none HG.out (Nat.le_refl _)).trans (b1.mono HG.out.size))
      have e0 : w1.cell? ⟨w.heap.size + 1, 0, none⟩ = some (.slice none 0 0) := K1.out.cell 0
      have f0 := K1.out.frozen 0
      clear o1 b1 kc
      go_wp2_with fail
      have hb := K1.out.set_ 0 (.slice A1 Q.length c1)
      have r0 := hb.cell 0
      simp at r0
      refine bodyPost_ret (v := .tuple #[.agg #[.slice A1 Q.length c1], .bool true]) (by simp [results, Try.results35, go_sem, r0]) rfl ⟨_, by rw [HF.out.2], ?_, ?_⟩
      · rw [HF.out.1]
        exact row_kept O1.out (gb_setCell (gb_refl w1 (some (w.heap.size + 1))) (.inl rfl) _) (fun j e e2 => by cases e; exact own_ne O1.out K1.out (by decide) e2)
      · exact B1.out.setCell (by show w.heap.size ≤ w.heap.size + 1; omega) _
    · have HF := Lib.hid (tabF_no (P := P) (Q := Q) c0 c1)
      have b0 : (c == 0) = false := beq_eq_false_iff_ne.2 c0
      have b1 : (c == 1) = false := beq_eq_false_iff_ne.2 c1
      go_enter Try.func35, Try.ntmps35
      go_wp2_with fail
      refine bodyPost_ret (v := .tuple #[.agg #[.slice none 0 0], .bool false]) (by simp [results, Try.results35, go_sem]) rfl ⟨_, by rw [HF.out.2], ?_, ?_⟩
      · rw [HF.out.1]; exact World.ownsRow_nil _ _ _ _
      · exact gb_below_none HG.out (Nat.le_refl _)
end Go.Proofs.Ytcmlnokfjbglaaa
end

section
namespace Go.Proofs.Ytcmlnokfjbglaaa
open Go.ChangeShapes Go.WideShapes Go.ChangeAt Go.RowKit
set_option linter.unusedVariables false
set_option maxRecDepth 20000

/-- A copy of a slice of numbers; nil of nil. -/
theorem libCloneI (A : Option Addr) (n cap : Nat) (L : List Int) (w : World) (h : IntAt w w.heap.size A n L) (hn : n ≤ 1000000000) :
    Calls Try.prog 74 #[.slice A n cap] w (NewI L w) := by
  obtain ⟨i0, hi, hz0, hz1, hz2⟩ := info_parts info_int
  have hl := h.1
  cases A with
  | none =>
    have hn0 : n = 0 := by
      rcases Nat.eq_zero_or_pos n with h0 | h0
      · exact h0
      · obtain ⟨b, off, e, _⟩ := h.2 h0; cases e
    subst hn0
    have HL := Lib.hid (List.eq_nil_of_length_eq_zero hl)
    have he : (binOp .eql 28 (.slice none 0 cap) (.slice none 0 0)).run Try.prog w = .ok (.bool true) w := Go.Lib.run_eql_slice_nil w 28 3 none 0 cap 0 0 Try.underlying28
    clear h hl hn
    go_enter Try.func74, Try.ntmps74
    go_wp2_with fail
    go_ret
    exact ⟨_, rfl, own_nil HL.out _ _, Below.refl _ _⟩
  | some a =>
    have H1 := Lib.hid ((h.none (Nat.le_refl _) (gb_alloc (gb_refl w none) (.cells #[] 3))))
    have HO := Lib.hid (own_empty (L := []) rfl (Below.refl w.heap.size w))
    have N1 := Lib.hid (show 0 + n ≤ 1000000000 by omega)
    have HL := Lib.hid hl
    have he : (binOp .eql 28 (.slice (some a) n cap) (.slice none 0 0)).run Try.prog w = .ok (.bool false) w := Go.Lib.run_eql_slice_nil w 28 3 (some a) n cap 0 0 Try.underlying28
    clear h hl hn
    go_enter Try.func74, Try.ntmps74
    go_wp2_with (at_builtin; refine wpList_app_own _ rfl _ _ rfl i0 hi hz0 hz1 hz2 w.heap.size 0 n cap _ _ [] L _ rfl rfl HO.out.1 H1.out N1.out (by rw [alloc_size]; omega) ?_; intro v' w1 hown1 hgrow1)
    go_ret
    rw [Nat.zero_add, List.nil_append] at hown1
    exact ⟨_, rfl, by rw [HL.out]; exact hown1, (HO.out.2.grown hgrow1 (by rw [alloc_size]; omega) (fun j hj => by have := (HO.out.1.lt j hj).1; exact this))⟩
theorem implTableFor (AP AQ : Option Addr) (nP cP nQ cQ : Nat) (P Q : List Int) (c : Int) (w : World) (hP : IntAt w w.heap.size AP nP P) (hQ : IntAt w w.heap.size AQ nQ Q) (hnP : nP ≤ 1000000000) (hnQ : nQ ≤ 1000000000) :
    Calls Try.prog 36 #[.agg #[.slice AP nP cP, .slice AQ nQ cQ], .int .i64 c] w (RetTab (tabF P Q c) (tabFok c) w) := by
  have hg := gb_alloc (gb_alloc (gb_refl w none) (.cells #[.slice AP nP cP, .slice AQ nQ cQ] 43)) (.cells #[.slice none 0 0] 32)
  have H1 := Lib.hid ((hP.none (Nat.le_refl _) hg).more hg.size)
  have H2 := Lib.hid ((hQ.none (Nat.le_refl _) hg).more hg.size)
  have kb := Blk.new (w.alloc (.cells #[.slice AP nP cP, .slice AQ nQ cQ] 43)) 32 #[.slice none 0 0]
  rw [alloc_size] at kb
  have KB := Lib.hid kb
  have HG := Lib.hid hg
  clear hP hQ hg kb
  by_cases c0 : c = 0
  · have HF := Lib.hid (tabF_0 (P := P) (Q := Q) c0)
    subst c0
    go_enter Try.func36, Try.ntmps36
    go_wp2_with fail
    refine (libCloneI AP nP cP P _ H1.out hnP).mono ?_
    rintro e w1 ⟨v, rfl, o1, b1⟩
    obtain ⟨A1, c1, rfl, _⟩ := own_form o1
    have K1 := Lib.hid (KB.out.grown (gb_of_below b1 none) (by simp))
    have O1 := Lib.hid (own_less o1 HG.out.size)
    have B1 := Lib.hid ((gb_below_none HG.out (Nat.le_refl _)).trans (b1.mono HG.out.size))
    have e0 : w1.cell? ⟨w.heap.size + 1, 0, none⟩ = some (.slice none 0 0) := K1.out.cell 0
    have f0 := K1.out.frozen 0
    clear o1 b1
    go_wp2_with fail
    have hb := K1.out.set_ 0 (.slice A1 P.length c1)
    have r0 := hb.cell 0
    simp at r0
    refine bodyPost_ret (v := .tuple #[.agg #[.slice A1 P.length c1], .bool true]) (by simp [results, Try.results36, go_sem, r0]) rfl ⟨_, by rw [HF.out.2], ?_, ?_⟩
    · rw [HF.out.1]
      exact row_kept O1.out (gb_setCell (gb_refl w1 (some (w.heap.size + 1))) (.inl rfl) _) (fun j e e2 => by cases e; exact own_ne O1.out K1.out (by decide) e2)
    · exact B1.out.setCell (by show w.heap.size ≤ w.heap.size + 1; omega) _
  · by_cases c1 : c = 1
    · have HF := Lib.hid (tabF_1 (P := P) (Q := Q) c1)
      subst c1
      have kc := (Blk.new w 43 #[.slice AP nP cP, .slice AQ nQ cQ]).alloc (.cells #[.slice none 0 0] 32)
      go_enter Try.func36, Try.ntmps36
      go_wp2_with fail
      refine (libCloneI AQ nQ cQ Q _ H2.out hnQ).mono ?_
      rintro e w1 ⟨v, rfl, o1, b1⟩
      obtain ⟨A1, c1, rfl, _⟩ := own_form o1
      have K1 := Lib.hid (KB.out.grown (gb_of_below b1 none) (by simp))
      have O1 := Lib.hid (own_less o1 HG.out.size)
      have B1 := Lib.hid ((gb_below_none HG.out (Nat.le_refl _)).trans (b1.mono HG.out.size))
      have e0 : w1.cell? ⟨w.heap.size + 1, 0, none⟩ = some (.slice none 0 0) := K1.out.cell 0
      have f0 := K1.out.frozen 0
      clear o1 b1 kc
      go_wp2_with fail
      have hb := K1.out.set_ 0 (.slice A1 Q.length c1)
      have r0 := hb.cell 0
      simp at r0
      refine bodyPost_ret (v := .tuple #[.agg #[.slice A1 Q.length c1], .bool true]) (by simp [results, Try.results36, go_sem, r0]) rfl ⟨_, by rw [HF.out.2], ?_, ?_⟩
      · rw [HF.out.1]
        exact row_kept O1.out (gb_setCell (gb_refl w1 (some (w.heap.size + 1))) (.inl rfl) _) (fun j e e2 => by cases e; exact own_ne O1.out K1.out (by decide) e2)
      · exact B1.out.setCell (by show w.heap.size ≤ w.heap.size + 1; omega) _
    · have HF := Lib.hid (tabF_no (P := P) (Q := Q) c0 c1)
      have b0 : (c == 0) = false := beq_eq_false_iff_ne.2 c0
      have b1 : (c == 1) = false := beq_eq_false_iff_ne.2 c1
      go_enter Try.func36, Try.ntmps36
      go_wp2_with fail
      refine bodyPost_ret (v := .tuple #[.agg #[.slice none 0 0], .bool false]) (by simp [results, Try.results36, go_sem]) rfl ⟨_, by rw [HF.out.2], ?_, ?_⟩
      · rw [HF.out.1]; exact World.ownsRow_nil _ _ _ _
      · exact gb_below_none HG.out (Nat.le_refl _)
end Go.Proofs.Ytcmlnokfjbglaaa
end

section
namespace Go.Proofs.Ytcmlnokfjbglaaa
open Go.ChangeShapes Go.WideShapes Go.ChangeAt Go.RowKit
set_option linter.unusedVariables false
set_option maxRecDepth 20000

set_option maxHeartbeats 6400000 in
theorem walk_FnExactTableFor (A0a : Option Addr) (n0a c0a : Nat) (L0a : List Int) (A0b : Option Addr) (n0b c0b : Nat) (L0b : List Int) (S1a : Int) (w : World) (hncA0a : n0a ≤ c0a) (hcmA0a : c0a ≤ maxLen) (hA0a : IntAt w w.heap.size A0a n0a L0a) (hlA0a : ∀ x ∈ L0a, (Lit.int .i64 x).wf = true) (hncA0b : n0b ≤ c0b) (hcmA0b : c0b ≤ maxLen) (hA0b : IntAt w w.heap.size A0b n0b L0b) (hlA0b : ∀ x ∈ L0b, (Lit.int .i64 x).wf = true) (hwS1a : (Lit.int .i64 S1a).wf = true) :
    Calls Try.prog 7 #[.agg #[.slice A0a n0a c0a, .slice A0b n0b c0b], .int .i64 S1a] w fun e w' => e = .returned (.bool true) ∧ Below w.heap.size w w' := by
  have h9A0a : n0a ≤ 9223372036854775807 := Nat.le_trans hncA0a (Nat.le_trans hcmA0a (by decide))
  have hLA0a := hA0a.1
  have HA0a := Lib.hid (hA0a)
  have HWXA0a := Lib.hid (hlA0a)
  have h9A0b : n0b ≤ 9223372036854775807 := Nat.le_trans hncA0b (Nat.le_trans hcmA0b (by decide))
  have hLA0b := hA0b.1
  have HA0b := Lib.hid (hA0b)
  have HWXA0b := Lib.hid (hlA0b)
  have HWS1a := Lib.hid (hwS1a)
  clear hncA0a hcmA0a hA0a hlA0a hncA0b hcmA0b hA0b hlA0b hwS1a
  subst hLA0a
  subst hLA0b
  by_cases hbig0 : (1048576 : Int) < (L0a.length : Int) + (L0b.length : Int)
  · skip
    go_enter Try.func7, Try.ntmps7
    go_wp2_with fail
    have ke0 := Blk.new w 61 #[.slice A0a L0a.length c0a, .slice A0b L0b.length c0b]
    have ge := gb_alloc (gb_refl w none) (.cells #[.slice A0a L0a.length c0a, .slice A0b L0b.length c0b] 61)
    generalize (w.alloc (.cells #[.slice A0a L0a.length c0a, .slice A0b L0b.length c0b] 61)) = we at *
    have KE0 : Hid (Blk we (w.heap.size) 61 #[.slice A0a L0a.length c0a, .slice A0b L0b.length c0b]) := Lib.hid (ke0)
    have GE := Lib.hid (ge)
    have RZ0 := Lib.hid (Chg.refl 0 0 we)
    clear ge ke0
    have a0_0 : we.cell? ⟨w.heap.size, 0, none⟩ = some (.slice A0a L0a.length c0a) := (KE0.out.nx (RZ0.out)).cell 0
    have a0_1 : we.cell? ⟨w.heap.size, 1, none⟩ = some (.slice A0b L0b.length c0b) := (KE0.out.nx (RZ0.out)).cell 1
    refine (lawsSzClasses _ _ _ _ _ _ _ _ h9A0a h9A0b (by omega) (by omega)).mono ?_
    rintro e wz1 ⟨rfl, hg⟩
    rw [if_pos hbig0]
    have RZ1 := Lib.hid (RZ0.out.gb hg)
    clear hg a0_0 a0_1
    go_wp2_with fail
    go_ret
    exact ⟨rfl, (gb_below_none GE.out (Nat.le_refl _)).trans (RZ1.out.below (.inr (Nat.le_refl _)) GE.out.size)⟩
  have hnA0a : L0a.length ≤ 1048576 := by omega
  have hnA0b : L0b.length ≤ 1048576 := by omega
  obtain ⟨q1, hq1⟩ : ∃ q : Int, (1048576 : Int) - (L0a.length : Int) - (L0b.length : Int) = q := ⟨_, rfl⟩
  have hqa1 : ¬ q1 < 0 := by omega
  have hqb1 : q1 ≤ 1048576 := by omega
  go_enter Try.func7, Try.ntmps7
  go_wp2_with fail
  have ke0 := Blk.new w 61 #[.slice A0a L0a.length c0a, .slice A0b L0b.length c0b]
  have ge := gb_alloc (gb_refl w none) (.cells #[.slice A0a L0a.length c0a, .slice A0b L0b.length c0b] 61)
  generalize (w.alloc (.cells #[.slice A0a L0a.length c0a, .slice A0b L0b.length c0b] 61)) = we at *
  have KE0 : Hid (Blk we (w.heap.size) 61 #[.slice A0a L0a.length c0a, .slice A0b L0b.length c0b]) := Lib.hid (ke0)
  have GE := Lib.hid (ge)
  have RZ0 := Lib.hid (Chg.refl 0 0 we)
  clear ge ke0
  have a0_0 : we.cell? ⟨w.heap.size, 0, none⟩ = some (.slice A0a L0a.length c0a) := (KE0.out.nx (RZ0.out)).cell 0
  have a0_1 : we.cell? ⟨w.heap.size, 1, none⟩ = some (.slice A0b L0b.length c0b) := (KE0.out.nx (RZ0.out)).cell 1
  refine (lawsSzClasses _ _ _ _ _ _ _ _ h9A0a h9A0b (by omega) (by omega)).mono ?_
  rintro e wz1 ⟨rfl, hg⟩
  rw [if_neg (by omega), hq1]
  have RZ1 := Lib.hid (RZ0.out.gb hg)
  clear hg a0_0 a0_1 hq1
  obtain ⟨R, hR⟩ : ∃ R, tabF L0a L0b S1a = R := ⟨_, rfl⟩
  obtain ⟨bb, hbb⟩ : ∃ b, tabFok S1a = b := ⟨_, rfl⟩
  have hrl : R.length ≤ 2097152 := by rw [← hR]; have := tabF_len (P := L0a) (Q := L0b) (c := S1a); omega
  have HSP := Lib.hid (fun (A0a : Option Addr) (n0a c0a : Nat) (A0b : Option Addr) (n0b c0b : Nat) (w : World) (hA0a : IntAt w w.heap.size A0a n0a L0a) (hA0b : IntAt w w.heap.size A0b n0b L0b) (hnA0a : n0a ≤ 1000000000) (hnA0b : n0b ≤ 1000000000) (hcA0a : n0a ≤ c0a) (hcA0b : n0b ≤ c0b) => show Calls Try.prog 35 #[.agg #[.slice A0a n0a c0a, .slice A0b n0b c0b], .int .i64 S1a] w (RetTab R bb w) from hR ▸ hbb ▸ specTableFor A0a A0b n0a c0a n0b c0b L0a L0b S1a w hA0a hA0b hnA0a hnA0b)
  have HIM := Lib.hid (fun (A0a : Option Addr) (n0a c0a : Nat) (A0b : Option Addr) (n0b c0b : Nat) (w : World) (hA0a : IntAt w w.heap.size A0a n0a L0a) (hA0b : IntAt w w.heap.size A0b n0b L0b) (hnA0a : n0a ≤ 1000000000) (hnA0b : n0b ≤ 1000000000) (hcA0a : n0a ≤ c0a) (hcA0b : n0b ≤ c0b) => show Calls Try.prog 36 #[.agg #[.slice A0a n0a c0a, .slice A0b n0b c0b], .int .i64 S1a] w (RetTab R bb w) from hR ▸ hbb ▸ implTableFor A0a A0b n0a c0a n0b c0b L0a L0b S1a w hA0a hA0b hnA0a hnA0b)
  clear hR hbb
  have BE := Lib.hid (gb_below_none GE.out (Nat.le_refl _))
  have RDA0a := Lib.hid (fun (w' : World) (hq : Chg 0 0 we w') => HA0a.out.chg BE.out hq (.inr (Nat.le_refl _)))
  have RDA0b := Lib.hid (fun (w' : World) (hq : Chg 0 0 we w') => HA0b.out.chg BE.out hq (.inr (Nat.le_refl _)))
  have a0_0 : wz1.cell? ⟨w.heap.size, 0, none⟩ = some (.slice A0a L0a.length c0a) := (KE0.out.nx (RZ1.out)).cell 0
  have a0_1 : wz1.cell? ⟨w.heap.size, 1, none⟩ = some (.slice A0b L0b.length c0b) := (KE0.out.nx (RZ1.out)).cell 1
  go_wp2_with fail
  refine (lawsToClasses _ _ _ _ _ _ _ _ _ (RDA0a.out _ (RZ1.out)) (RDA0b.out _ (RZ1.out)) hnA0a hnA0b).mono ?_
  rintro e w1 ⟨pw0, qw0, rfl, ow0, bw0⟩
  obtain ⟨Arw0, crw0, rfl, _⟩ := own_form ow0.r
  obtain ⟨Acw0, ccw0, rfl, _⟩ := own_form ow0.c
  have R1 : Hid (Chg 0 0 we w1) := Lib.hid ((RZ1.out).bl bw0)
  have Q1 := Lib.hid (chg_gb 0 0 (gb_of_below bw0 none))
  have F1 := Lib.hid (fix_vrow ow0)
  clear bw0 ow0 a0_0 a0_1
  go_wp2_with fail
  refine (HSP.out _ _ _ _ _ _ _ (intAt_own (F1.out.here.r) rfl (Nat.le_refl _)) (intAt_own (F1.out.here.c) rfl (Nat.le_refl _)) (by omega) (by omega) (own_cap (F1.out.here.r)).1 (own_cap (F1.out.here.c)).1).mono ?_
  rintro e w2 ⟨pw, rfl, ow, bw⟩
  obtain ⟨Arw, crw, rfl, _⟩ := own_form ow
  have R2 : Hid (Chg 0 0 we w2) := Lib.hid ((R1.out).bl bw)
  have Q2 := Lib.hid (chg_gb 0 0 (gb_of_below bw none))
  have F2 := Lib.hid (fix_row ow)
  have HLw := Lib.hid (F2.out.here.lt)
  clear bw ow
  have KCw := Lib.hid (Blk.new w2 32 #[.slice Arw R.length crw])
  have FCw := Lib.hid (F2.out.al (.cells #[.slice Arw R.length crw] 32))
  have RCw := Lib.hid (R2.out.al (.cells #[.slice Arw R.length crw] 32))
  have FW := Lib.hid (FCw.out)
  have KW := Lib.hid (KCw.out)
  have HE0 := Lib.hid (FW.out.1)
  have HW0 := Lib.hid (KW.out.lt)
  have HS0 := Lib.hid ((RCw.out).size)
  have a0_0 : (w2.alloc (.cells #[.slice Arw R.length crw] 32)).cell? ⟨w.heap.size, 0, none⟩ = some (.slice A0a L0a.length c0a) := (KE0.out.nx (RCw.out)).cell 0
  have a0_1 : (w2.alloc (.cells #[.slice Arw R.length crw] 32)).cell? ⟨w.heap.size, 1, none⟩ = some (.slice A0b L0b.length c0b) := (KE0.out.nx (RCw.out)).cell 1
  go_wp2_with fail
  refine (lawsToClasses _ _ _ _ _ _ _ _ _ (RDA0a.out _ (RCw.out)) (RDA0b.out _ (RCw.out)) hnA0a hnA0b).mono ?_
  rintro e w3 ⟨px0, qx0, rfl, ox0, bx0⟩
  obtain ⟨Arx0, crx0, rfl, _⟩ := own_form ox0.r
  obtain ⟨Acx0, ccx0, rfl, _⟩ := own_form ox0.c
  have HLX0 := Lib.hid ((fix_vrow ox0).here.lt)
  have FX0 := Lib.hid (fix_vrow ox0)
  have Q3 := Lib.hid (chg_gb 0 0 (gb_of_below bx0 none))
  have R3 := Lib.hid ((RCw.out).bl bx0)
  clear bx0 ox0 a0_0 a0_1
  replace FW := Lib.hid (FW.out.nx Q3.out)
  replace KW := Lib.hid (KW.out.nx Q3.out)
  replace FW := Lib.hid ((FW.out).al (.cells #[.slice Arx0 L0a.length crx0, .slice Acx0 L0b.length ccx0] 43))
  replace KW := Lib.hid ((KW.out).alloc (.cells #[.slice Arx0 L0a.length crx0, .slice Acx0 L0b.length ccx0] 43))
  replace FX0 := Lib.hid ((FX0.out).al (.cells #[.slice Arx0 L0a.length crx0, .slice Acx0 L0b.length ccx0] 43))
  have KX0 := Lib.hid (Blk.new w3 43 #[.slice Arx0 L0a.length crx0, .slice Acx0 L0b.length ccx0])
  have x0_0 : (w3.alloc (.cells #[.slice Arx0 L0a.length crx0, .slice Acx0 L0b.length ccx0] 43)).cell? ⟨w3.heap.size, 0, none⟩ = some (.slice Arx0 L0a.length crx0) := KX0.out.cell 0
  have x0_1 : (w3.alloc (.cells #[.slice Arx0 L0a.length crx0, .slice Acx0 L0b.length ccx0] 43)).cell? ⟨w3.heap.size, 1, none⟩ = some (.slice Acx0 L0b.length ccx0) := KX0.out.cell 1
  go_wp2_with fail
  refine (HIM.out _ _ _ _ _ _ _ (intAt_own (FX0.out.here.r) rfl (Nat.le_refl _)) (intAt_own (FX0.out.here.c) rfl (Nat.le_refl _)) (by omega) (by omega) (own_cap (FX0.out.here.r)).1 (own_cap (FX0.out.here.c)).1).mono ?_
  rintro e w4 ⟨pg, rfl, og, bg⟩
  obtain ⟨Arg, crg, rfl, _⟩ := own_form og
  have R4 : Hid (Chg 0 0 we w4) := Lib.hid (((R3.out.al (.cells #[.slice Arx0 L0a.length crx0, .slice Acx0 L0b.length ccx0] 43))).bl bg)
  have Q4 := Lib.hid (chg_gb 0 0 (gb_of_below bg none))
  have F4 := Lib.hid (fix_row og)
  have HLg := Lib.hid (F4.out.here.lt)
  clear bg og
  have KCg := Lib.hid (Blk.new w4 32 #[.slice Arg R.length crg])
  have FCg := Lib.hid (F4.out.al (.cells #[.slice Arg R.length crg] 32))
  have RCg := Lib.hid (R4.out.al (.cells #[.slice Arg R.length crg] 32))
  clear x0_0 x0_1
  replace FW := Lib.hid ((FW.out.nx Q4.out).al (.cells #[.slice Arg R.length crg] 32))
  replace KW := Lib.hid ((KW.out.nx Q4.out).alloc (.cells #[.slice Arg R.length crg] 32))
  replace FX0 := Lib.hid ((FX0.out.nx Q4.out).al (.cells #[.slice Arg R.length crg] 32))
  replace KX0 := Lib.hid ((KX0.out.nx Q4.out).alloc (.cells #[.slice Arg R.length crg] 32))
  have FG := Lib.hid (FCg.out)
  have KG := Lib.hid (KCg.out)
  obtain ⟨B0, E0, Bg, Eg, Bv, Ev, bg, bv, eE0, ebg, ebv, fx0, kx0, hx0, fg, hg, fw, kg, kw, hn⟩ : ∃ B0 E0 Bg Eg Bv Ev bg bv : Nat, w3.heap.size = E0 ∧ w4.heap.size = bg ∧ w2.heap.size = bv ∧ Fix B0 E0 (fun w => VRow w B0 (.slice Arx0 L0a.length crx0) (.slice Acx0 L0b.length ccx0) L0a.length L0b.length L0a L0b) (w4.alloc (.cells #[.slice Arg R.length crg] 32)) ∧ Blk (w4.alloc (.cells #[.slice Arg R.length crg] 32)) E0 43 #[.slice Arx0 L0a.length crx0, .slice Acx0 L0b.length ccx0] ∧ (∀ k, (Value.ownBlock (.slice Arx0 L0a.length crx0) = some k ∨ Value.ownBlock (.slice Acx0 L0b.length ccx0) = some k) → B0 ≤ k ∧ k < E0) ∧ Fix Bg Eg (fun w => w.ownsRow Bg 3 1 (.slice Arg R.length crg) R.length (intsV R)) (w4.alloc (.cells #[.slice Arg R.length crg] 32)) ∧ (∀ k, Value.ownBlock (.slice Arg R.length crg) = some k → Bg ≤ k ∧ k < Eg) ∧ Fix Bv Ev (fun w => w.ownsRow Bv 3 1 (.slice Arw R.length crw) R.length (intsV R)) (w4.alloc (.cells #[.slice Arg R.length crg] 32)) ∧ Blk (w4.alloc (.cells #[.slice Arg R.length crg] 32)) bg 32 #[.slice Arg R.length crg] ∧ Blk (w4.alloc (.cells #[.slice Arg R.length crg] 32)) bv 32 #[.slice Arw R.length crw] ∧ we.heap.size ≤ B0 ∧ B0 ≤ E0 ∧ E0 + 1 ≤ Bg ∧ Bg ≤ Eg ∧ Ev ≤ B0 ∧ bv < B0 ∧ Eg ≤ bg ∧ E0 < bg := ⟨_, _, _, _, _, _, _, _, rfl, rfl, rfl, FX0.out, KX0.out, HLX0.out, FG.out, HLg.out, FW.out, KG.out, KW.out, (by have hsQ3 := Q3.out.size; have hsQ4 := Q4.out.size; have h0 := HS0.out; have h1 := HE0.out; have h2 := HW0.out; (try simp only [alloc_size] at *); omega)⟩
  (try simp only [eE0])
  (try simp only [ebg])
  (try simp only [ebv])
  have Zfx0 := Lib.hid (fx0)
  have Zkx0 := Lib.hid (kx0)
  have Zhx0 := Lib.hid (hx0)
  have Zfg := Lib.hid (fg)
  have Zhg := Lib.hid (hg)
  have Zfw := Lib.hid (fw)
  have Zkg := Lib.hid (kg)
  have Zkw := Lib.hid (kw)
  have Zhn := Lib.hid (hn)
  clear fx0 kx0 hx0 fg hg fw kg kw hn
  have RS := Lib.hid (RCg.out)
  have T0 := Lib.hid (Chg.refl 0 0 (w4.alloc (.cells #[.slice Arg R.length crg] 32)))
  have rg_0 : (w4.alloc (.cells #[.slice Arg R.length crg] 32)).cell? ⟨bg, 0, none⟩ = some (.slice Arg R.length crg) := (Zkg.out.nx (T0.out)).cell 0
  have rw_0 : (w4.alloc (.cells #[.slice Arg R.length crg] 32)).cell? ⟨bv, 0, none⟩ = some (.slice Arw R.length crw) := (Zkw.out.nx (T0.out)).cell 0
  go_wp2_with fail
  refine (lawsEqTable _ _ R.length _ _ _ _ R _ (intAt_own Zfg.out.here rfl (Nat.le_refl _)) (intAt_own Zfw.out.here rfl (Nat.le_refl _)) (Nat.le_refl _) (Nat.le_refl _) (by omega)).mono ?_
  rintro e w5 ⟨rfl, hg⟩
  have T5 := Lib.hid (T0.out.gb hg)
  clear hg rg_0 rw_0
  have KPc0 := Lib.hid (fun (w' : World) (hq : Chg 0 0 (w4.alloc (.cells #[.slice Arg R.length crg] 32)) w') => (show w'.cell? ⟨w.heap.size, 0, none⟩ = some (.slice A0a L0a.length c0a) ∧ w'.cell? ⟨w.heap.size, 1, none⟩ = some (.slice A0b L0b.length c0b) ∧ w'.cell? ⟨E0, 0, none⟩ = some (.slice Arx0 L0a.length crx0) ∧ w'.cell? ⟨E0, 1, none⟩ = some (.slice Acx0 L0b.length ccx0) from ⟨(KE0.out.nx (RS.out.trans hq)).cell 0, (KE0.out.nx (RS.out.trans hq)).cell 1, (Zkx0.out.nx hq).cell 0, (Zkx0.out.nx hq).cell 1⟩))
  go_wp2_with fail
  go_region_held3 (fun w' => w'.cell? ⟨w.heap.size, 0, none⟩ = some (.slice A0a L0a.length c0a) ∧ w'.cell? ⟨w.heap.size, 1, none⟩ = some (.slice A0b L0b.length c0b) ∧ w'.cell? ⟨E0, 0, none⟩ = some (.slice Arx0 L0a.length crx0) ∧ w'.cell? ⟨E0, 1, none⟩ = some (.slice Acx0 L0b.length ccx0))
    (first | with_reducible exact KPc0.out _ (T5.out) | with_reducible exact KPc0.out _ (T5.out.dr) | with_reducible exact KPc0.out _ (T6.out) | with_reducible exact KPc0.out _ (T7.out) | fail)
    (first
      | (go_at_call 32; (with_reducible refine (lawsToClasses _ _ _ _ _ _ _ _ _ (RDA0a.out _ (RS.out.trans T5.out.dr)) (RDA0b.out _ (RS.out.trans T5.out.dr)) hnA0a hnA0b).mono ?_); rintro e w6 ⟨py0, qy0, rfl, oy0, by0⟩; obtain ⟨Ary0, cry0, rfl, _⟩ := own_form oy0.r; obtain ⟨Acy0, ccy0, rfl, _⟩ := own_form oy0.c; have T6 : Hid (Chg 0 0 (w4.alloc (.cells #[.slice Arg R.length crg] 32)) w6) := Lib.hid (T5.out.dr.bl by0); have F6 := Lib.hid (fix_vrow oy0); clear by0 oy0)
      | (go_at_call 34; (with_reducible refine (lawsEqClasses _ _ _ _ _ _ L0a L0b _ (Zfx0.out.nx T6.out).here F6.out.here (by omega) (by omega)).mono ?_); rintro e w7 ⟨rfl, hg⟩; have T7 : Hid (Chg 0 0 (w4.alloc (.cells #[.slice Arg R.length crg] 32)) w7) := Lib.hid (T6.out.gb hg); clear hg)
      | fail)
  all_goals
    have M0 := Lib.hid (T7.out.mono (lo' := 0) (hi' := 0) (Nat.le_refl _) (Nat.le_refl _))
    have n0_0 : w7.cell? ⟨E0, 0, none⟩ = some (.slice Arx0 L0a.length crx0) := (Zkx0.out.nx T7.out).cell 0
    have n0_1 : w7.cell? ⟨E0, 1, none⟩ = some (.slice Acx0 L0b.length ccx0) := (Zkx0.out.nx T7.out).cell 1
    go_wp2_with fail
    refine (lawsMarkClasses _ _ _ L0a.length L0b.length 1 L0a L0b _ (Zfx0.out.nx T7.out).here (by omega)).mono ?_
    rintro e w8 ⟨rfl, om0, wmm0, omm0, ggm0, ghm0⟩
    have M8 := Lib.hid ((((chg_none_to T7.out : Chg B0 E0 (w4.alloc (.cells #[.slice Arg R.length crg] 32)) w7)).row ggm0 (fun j hj => by have hx := Zhx0.out j (.inl hj); have hn := Zhn.out; omega)).row ghm0 (fun j hj => by have hx := Zhx0.out j (.inr hj); have hn := Zhn.out; omega))
    obtain ⟨k8, hk8⟩ : ∃ k : Nat, 1 + L0a.length + L0b.length = k := ⟨_, rfl⟩
    rw [hk8]
    have hkb8 : k8 ≤ 10000000 := by omega
    clear om0 ggm0 ghm0 hk8 n0_0 n0_1 omm0
    have hk0 : ¬ (k8 : Int) < 0 := by omega
    have rg_0 : w8.cell? ⟨bg, 0, none⟩ = some (.slice Arg R.length crg) := (Zkg.out.chg M8.out (by have hn := Zhn.out; omega)).cell 0
    have rw_0 : w8.cell? ⟨bv, 0, none⟩ = some (.slice Arw R.length crw) := (Zkw.out.chg M8.out (by have hn := Zhn.out; omega)).cell 0
    go_wp2_with fail
    refine (lawsEqTable _ _ R.length _ _ _ _ R _ (intAt_own (Zfg.out.chg M8.out (by have hn := Zhn.out; omega)).here rfl (Nat.le_refl _)) (intAt_own (Zfw.out.chg M8.out (by have hn := Zhn.out; omega)).here rfl (Nat.le_refl _)) (Nat.le_refl _) (Nat.le_refl _) (by omega)).mono ?_
    rintro e w9 ⟨rfl, hg⟩
    have M9 := Lib.hid (M8.out.gb hg)
    clear hg hk0 rg_0 rw_0
    have r_0 : w9.cell? ⟨bg, 0, none⟩ = some (.slice Arg R.length crg) := (Zkg.out.chg M9.out (by have hn := Zhn.out; omega)).cell 0
    go_wp2_with fail
    refine (lawsMarkTable _ _ R.length 1 R _ (Zfg.out.chg M9.out (by have hn := Zhn.out; omega)).here (by omega)).mono ?_
    rintro e w10 ⟨rfl, omg, ggmg⟩
    have MG := Lib.hid (((M9.out.mono (lo' := B0) (hi' := Eg) (Nat.le_refl _) (by have hn := Zhn.out; omega))).row ggmg (fun j hj => by have hx := Zhg.out j hj; have hn := Zhn.out; omega))
    obtain ⟨km, hkm⟩ : ∃ k : Nat, 1 + R.length = k := ⟨_, rfl⟩
    rw [hkm]
    have hkb : km ≤ 100000000 := by omega
    have HKM := Lib.hid (hkm)
    have hkn : ¬ (km : Int) < 0 := by omega
    have FM := Lib.hid (fix_row omg)
    clear omg ggmg hkm r_0
    have KE0m := Lib.hid ((KE0.out.nx RS.out).chg MG.out (by have hb := KE0.out.lt; have hn := Zhn.out; omega))
    have BEm := Lib.hid ((BE.out.trans (RS.out.below (.inr (Nat.le_refl _)) BE.out.size)).trans (MG.out.below (.inl (by have hb := GE.out.size; have hn := Zhn.out; omega)) (by have hb := BE.out.size; have hc := RS.out.size; omega)))
    have FWm := Lib.hid (Zfw.out.chg MG.out (by have hn := Zhn.out; omega))
    have KWm := Lib.hid (Zkw.out.chg MG.out (by have hn := Zhn.out; omega))
    have KGm := Lib.hid (Zkg.out.chg MG.out (by have hn := Zhn.out; omega))
    have RDA0am := Lib.hid (fun (w' : World) (hq : Chg 0 0 w10 w') => HA0a.out.chg BEm.out hq (.inr (Nat.le_refl _)))
    have RDA0bm := Lib.hid (fun (w' : World) (hq : Chg 0 0 w10 w') => HA0b.out.chg BEm.out hq (.inr (Nat.le_refl _)))
    have U0 := Lib.hid (Chg.refl 0 0 w10)
    have r_0 : w10.cell? ⟨bg, 0, none⟩ = some (.slice Arg R.length crg) := (KGm.out.nx (U0.out)).cell 0
    go_wp2_with fail
    refine (lawsHeldTable _ _ R.length 1 _ (FM.out.nx (U0.out)).here (by omega)).mono ?_
    rintro e w11 ⟨rfl, hg⟩
    rw [HKM.out]
    have U11 := Lib.hid ((U0.out).gb hg)
    clear hg r_0
    have a0_0 : w11.cell? ⟨w.heap.size, 0, none⟩ = some (.slice A0a L0a.length c0a) := (KE0m.out.nx (U11.out)).cell 0
    have a0_1 : w11.cell? ⟨w.heap.size, 1, none⟩ = some (.slice A0b L0b.length c0b) := (KE0m.out.nx (U11.out)).cell 1
    go_wp2_with fail
    refine (lawsToClasses _ _ _ _ _ _ _ _ _ (RDA0am.out _ (U11.out)) (RDA0bm.out _ (U11.out)) hnA0a hnA0b).mono ?_
    rintro e w12 ⟨ph0, qh0, rfl, oh0, bh0⟩
    obtain ⟨Arh0, crh0, rfl, _⟩ := own_form oh0.r
    obtain ⟨Ach0, cch0, rfl, _⟩ := own_form oh0.c
    have R12 : Hid (Chg 0 0 w10 w12) := Lib.hid ((U11.out).bl bh0)
    have Q12 := Lib.hid (chg_gb 0 0 (gb_of_below bh0 none))
    have F12 := Lib.hid (fix_vrow oh0)
    clear bh0 oh0 a0_0 a0_1
    go_wp2_with fail
    refine (HIM.out _ _ _ _ _ _ _ (intAt_own (F12.out.here.r) rfl (Nat.le_refl _)) (intAt_own (F12.out.here.c) rfl (Nat.le_refl _)) (by omega) (by omega) (own_cap (F12.out.here.r)).1 (own_cap (F12.out.here.c)).1).mono ?_
    rintro e w13 ⟨ph, rfl, oh, bh⟩
    obtain ⟨Arh, crh, rfl, _⟩ := own_form oh
    have R13 : Hid (Chg 0 0 w10 w13) := Lib.hid ((R12.out).bl bh)
    have Q13 := Lib.hid (chg_gb 0 0 (gb_of_below bh none))
    have F13 := Lib.hid (fix_row oh)
    have HLh := Lib.hid (F13.out.here.lt)
    clear bh oh
    have KCh := Lib.hid (Blk.new w13 32 #[.slice Arh R.length crh])
    have FCh := Lib.hid (F13.out.al (.cells #[.slice Arh R.length crh] 32))
    have RCh := Lib.hid (R13.out.al (.cells #[.slice Arh R.length crh] 32))
    have rh_0 : (w13.alloc (.cells #[.slice Arh R.length crh] 32)).cell? ⟨w13.heap.size, 0, none⟩ = some (.slice Arh R.length crh) := KCh.out.cell 0
    have rw_0 : (w13.alloc (.cells #[.slice Arh R.length crh] 32)).cell? ⟨bv, 0, none⟩ = some (.slice Arw R.length crw) := (KWm.out.nx (RCh.out)).cell 0
    go_wp2_with fail
    refine (lawsEqTable _ _ R.length _ _ _ _ R _ (intAt_own FCh.out.here rfl (Nat.le_refl _)) (intAt_own (FWm.out.nx (RCh.out)).here rfl (Nat.le_refl _)) (Nat.le_refl _) (Nat.le_refl _) (by omega)).mono ?_
    rintro e w14 ⟨rfl, hg⟩
    have U14 := Lib.hid ((RCh.out).gb hg)
    clear hg rh_0 rw_0
    have r_0 : w14.cell? ⟨bg, 0, none⟩ = some (.slice Arg R.length crg) := (KGm.out.nx (U14.out)).cell 0
    go_wp2_with fail
    refine (lawsHeldTable _ _ R.length 1 _ (FM.out.nx (U14.out)).here (by omega)).mono ?_
    rintro e w15 ⟨rfl, hg⟩
    rw [HKM.out]
    have U15 := Lib.hid ((U14.out).gb hg)
    clear hg r_0
    go_wp2_with fail
    go_ret
    exact ⟨rfl, BEm.out.trans ((U15.out).below (.inr (Nat.le_refl _)) BEm.out.size)⟩
end Go.Proofs.Ytcmlnokfjbglaaa
end

section
namespace Go.Proofs.Ytcmlnokfjbglaaa
open Go.ChangeShapes Go.WideShapes Go.ChangeAt Go.RowKit
set_option linter.unusedVariables false

theorem lawsMarkMesh (W H : Int) (v : Value) (base n k0 : Nat) (l : List Int) (w : World) (h : w.ownsRow base 3 1 v n (intsV l)) (hk : k0 + n ≤ 1000000000) :
    Calls Try.prog 43 #[.agg #[.int .i64 W, .int .i64 H, v], .int .i64 (k0 : Int)] w fun e w' => e = .returned (.int .i64 ((k0 + n : Nat) : Int)) ∧ w'.ownsRow base 3 1 v n (intsV (marksI k0 n)) ∧ w.grownBy w' v.ownBlock := by
  obtain ⟨A, cap, rfl, ha⟩ := own_form h
  have h' := h.alloc (.cells #[.int .i64 W, .int .i64 H, .slice A n cap] 30)
  have HO := Lib.hid h'
  clear h h' ha
  go_enter Try.func43, Try.ntmps43
  go_wp2_with fail
  refine (lawsMarkI _ base n k0 l _ HO.out hk).mono ?_
  rintro e w1 ⟨rfl, o1, g1⟩
  have O1 := Lib.hid o1
  have G1 := Lib.hid (gb_trans (gb_alloc (gb_refl w _) _) g1)
  clear o1 g1
  go_wp2_with fail
  go_ret
  exact ⟨rfl, O1.out, G1.out⟩
end Go.Proofs.Ytcmlnokfjbglaaa
end

section
namespace Go.Proofs.Ytcmlnokfjbglaaa
open Go.ChangeShapes Go.WideShapes Go.ChangeAt Go.RowKit
set_option linter.unusedVariables false
set_option maxRecDepth 20000

set_option maxHeartbeats 1600000 in
theorem specClassDepends (W H : Int) (A AP AQ : Option Addr) (n cap nP cP nQ cQ : Nat) (L P Q : List Int) (w : World) (h : IntAt w w.heap.size A n L) (hP : IntAt w w.heap.size AP nP P) (hQ : IntAt w w.heap.size AQ nQ Q) (hn : n ≤ 1000000000) (hnP : nP ≤ 1000000000) (hnQ : nQ ≤ 1000000000) :
    Calls Try.prog 41 #[.agg #[.int .i64 W, .int .i64 H, .slice A n cap], .agg #[.slice AP nP cP, .slice AQ nQ cQ]] w (NewD (clsD W H L P Q) w) := by
  have X0 := Lib.hid (clAt_start (W := W) (H := H) (A := A) (AP := AP) (AQ := AQ) (n := n) (cap := cap) (nP := nP) (cP := cP) (nQ := nQ) (cQ := cQ) (w := w))
  have HI := Lib.hid h
  have HP := Lib.hid hP
  have HQ := Lib.hid hQ
  cases hc : clsOk W H L P Q with
  | false =>
    have HA := Lib.hid (specClassesOkV W H A AP AQ n cap nP cP nQ cQ L P Q false hc _ (X0.out.at h) (X0.out.at hP) (X0.out.at hQ) hn hnP hnQ)
    have HN := Lib.hid (clsD_no hc)
    clear h hP hQ hc
    go_enter Try.func41, Try.ntmps41
    go_wp2_with fail
    refine HA.out.mono ?_
    rintro e w1 ⟨rfl, hg⟩
    have X1 := Lib.hid (X0.out.gb hg)
    clear hg
    go_wp2_with fail
    go_ret
    exact ⟨_, rfl, by rw [HN.out]; exact World.ownsRow_made (base := w.heap.size) (e := 39) (size := 2) w1 #[] 0 X1.out.g.size (by decide) rfl, gb_below_none (gb_alloc X1.out.g _) (Nat.le_refl _)⟩
  | true =>
    have HA := Lib.hid (specClassesOkV W H A AP AQ n cap nP cP nQ cQ L P Q true hc _ (X0.out.at h) (X0.out.at hP) (X0.out.at hQ) hn hnP hnQ)
    have HN := Lib.hid (clsD_yes hc)
    have HDA := Lib.hid (fun w h hP => specDependsOf W H A AP n cap nP cP L P w h hP hn hnP)
    have HDB := Lib.hid (fun w h hQ => specDependsOf W H A AQ n cap nQ cQ L Q w h hQ hn hnQ)
    have HL1 := Lib.hid (depG_len (W := W) (H := H) (L := L) (P := P))
    have HL2 := Lib.hid (depG_len (W := W) (H := H) (L := L) (P := Q))
    obtain ⟨D, hD⟩ : ∃ D, depG W H L P = D := ⟨_, rfl⟩
    obtain ⟨E, hE⟩ : ∃ E, depG W H L Q = E := ⟨_, rfl⟩
    rw [hD] at HDA HL1 HN
    rw [hE] at HDB HL2 HN
    have HSH := Lib.hid (fun A cap w h => specShift A E.length cap E 64 w h (by have := HL2.out; omega))
    have HSL := Lib.hid (shift_length E 64)
    obtain ⟨F, hF⟩ : ∃ F, shiftD E 64 = F := ⟨_, rfl⟩
    rw [hF] at HSH HSL HN
    have HMG := Lib.hid (fun A A2 cap c2 w h h2 => specMerge A A2 D.length cap F.length c2 D F w h h2 (by have := HL1.out; omega) (by have h1 := HL2.out; have h2 := HSL.out; omega))
    clear h hP hQ hc hD hE hF
    go_enter Try.func41, Try.ntmps41
    go_wp2_with fail
    refine HA.out.mono ?_
    rintro e w1 ⟨rfl, hg⟩
    have X1 := Lib.hid (X0.out.gb hg)
    have X1d := Lib.hid (X1.out.gb (gb_drew (gb_refl w1 none)))
    clear hg
    have a0 : w1.cell? ⟨w.heap.size, 0, none⟩ = some (.int .i64 W) := X1.out.m.cell 0
    have a1 : w1.cell? ⟨w.heap.size, 1, none⟩ = some (.int .i64 H) := X1.out.m.cell 1
    have a2 : w1.cell? ⟨w.heap.size, 2, none⟩ = some (.slice A n cap) := X1.out.m.cell 2
    have a3 : w1.cell? ⟨w.heap.size + 1, 0, none⟩ = some (.slice AP nP cP) := X1.out.t.cell 0
    have a4 : w1.cell? ⟨w.heap.size + 1, 1, none⟩ = some (.slice AQ nQ cQ) := X1.out.t.cell 1
    go_wp2_with fail
    go_region_held3 (fun w' => w'.cell? ⟨w.heap.size, 0, none⟩ = some (.int .i64 W) ∧ w'.cell? ⟨w.heap.size, 1, none⟩ = some (.int .i64 H) ∧ w'.cell? ⟨w.heap.size, 2, none⟩ = some (.slice A n cap) ∧ w'.cell? ⟨w.heap.size + 1, 0, none⟩ = some (.slice AP nP cP) ∧ w'.cell? ⟨w.heap.size + 1, 1, none⟩ = some (.slice AQ nQ cQ))
      (first | exact ⟨a0, a1, a2, a3, a4⟩ | exact ⟨bb0, bb1, bb2, bb3, bb4⟩ | exact ⟨cc0, cc1, cc2, cc3, cc4⟩ | exact ⟨d0, d1, d2, d3, d4⟩ | exact ⟨e0, e1, e2, e3, e4⟩ | fail)
      (first
        | (go_at_call 77; (with_reducible refine (HDA.out _ (X1d.out.at HI.out) (X1d.out.at HP.out)).mono ?_); rintro e w2 ⟨v2, rfl, o2, b2⟩; obtain ⟨A2, c2, rfl, _⟩ := own_form o2; have X2 := Lib.hid (X1d.out.bl b2); have O2 := Lib.hid o2; have bb0 : w2.cell? ⟨w.heap.size, 0, none⟩ = some (.int .i64 W) := X2.out.m.cell 0; have bb1 : w2.cell? ⟨w.heap.size, 1, none⟩ = some (.int .i64 H) := X2.out.m.cell 1; have bb2 : w2.cell? ⟨w.heap.size, 2, none⟩ = some (.slice A n cap) := X2.out.m.cell 2; have bb3 : w2.cell? ⟨w.heap.size + 1, 0, none⟩ = some (.slice AP nP cP) := X2.out.t.cell 0; have bb4 : w2.cell? ⟨w.heap.size + 1, 1, none⟩ = some (.slice AQ nQ cQ) := X2.out.t.cell 1; clear o2 b2)
        | (go_at_call 77; (with_reducible refine (HDB.out _ (X2.out.at HI.out) (X2.out.at HQ.out)).mono ?_); rintro e w3 ⟨v3, rfl, o3, b3⟩; obtain ⟨A3, c3, rfl, _⟩ := own_form o3; have X3 := Lib.hid (X2.out.bl b3); have O23 := Lib.hid (own_below O2.out b3); have O3 := Lib.hid o3; have cc0 : w3.cell? ⟨w.heap.size, 0, none⟩ = some (.int .i64 W) := X3.out.m.cell 0; have cc1 : w3.cell? ⟨w.heap.size, 1, none⟩ = some (.int .i64 H) := X3.out.m.cell 1; have cc2 : w3.cell? ⟨w.heap.size, 2, none⟩ = some (.slice A n cap) := X3.out.m.cell 2; have cc3 : w3.cell? ⟨w.heap.size + 1, 0, none⟩ = some (.slice AP nP cP) := X3.out.t.cell 0; have cc4 : w3.cell? ⟨w.heap.size + 1, 1, none⟩ = some (.slice AQ nQ cQ) := X3.out.t.cell 1; clear o3 b3)
        | (go_at_call 78; (with_reducible refine (HSH.out A3 c3 _ (depAt_own O3.out (Nat.le_refl _))).mono ?_); rintro e w4 ⟨v4, rfl, o4, b4⟩; obtain ⟨A4, c4, rfl, _⟩ := own_form o4; have X4 := Lib.hid (X3.out.bl b4); have O24 := Lib.hid (own_below O23.out b4); have O4 := Lib.hid o4; have d0 : w4.cell? ⟨w.heap.size, 0, none⟩ = some (.int .i64 W) := X4.out.m.cell 0; have d1 : w4.cell? ⟨w.heap.size, 1, none⟩ = some (.int .i64 H) := X4.out.m.cell 1; have d2 : w4.cell? ⟨w.heap.size, 2, none⟩ = some (.slice A n cap) := X4.out.m.cell 2; have d3 : w4.cell? ⟨w.heap.size + 1, 0, none⟩ = some (.slice AP nP cP) := X4.out.t.cell 0; have d4 : w4.cell? ⟨w.heap.size + 1, 1, none⟩ = some (.slice AQ nQ cQ) := X4.out.t.cell 1; clear o4 b4)
        | (go_at_call 23; (with_reducible refine (HMG.out A2 A4 c2 c4 _ (depAt_own O24.out (Nat.le_refl _)) (depAt_own O4.out (Nat.le_refl _))).mono ?_); rintro e w5 ⟨v5, rfl, o5, b5⟩; obtain ⟨A5, c5, rfl, _⟩ := own_form o5; have X5 := Lib.hid (X4.out.bl b5); have O5 := Lib.hid (own_less o5 X4.out.g.size); have e0 : w5.cell? ⟨w.heap.size, 0, none⟩ = some (.int .i64 W) := X5.out.m.cell 0; have e1 : w5.cell? ⟨w.heap.size, 1, none⟩ = some (.int .i64 H) := X5.out.m.cell 1; have e2 : w5.cell? ⟨w.heap.size, 2, none⟩ = some (.slice A n cap) := X5.out.m.cell 2; have e3 : w5.cell? ⟨w.heap.size + 1, 0, none⟩ = some (.slice AP nP cP) := X5.out.t.cell 0; have e4 : w5.cell? ⟨w.heap.size + 1, 1, none⟩ = some (.slice AQ nQ cQ) := X5.out.t.cell 1; clear o5 b5)
        | fail)
    all_goals
      go_wp2_with fail
      go_ret
      exact ⟨_, rfl, by rw [HN.out]; exact O5.out, gb_below_none X5.out.g (Nat.le_refl _)⟩
end Go.Proofs.Ytcmlnokfjbglaaa
end

section
namespace Go.Proofs.Ytcmlnokfjbglaaa
open Go.ChangeShapes Go.WideShapes Go.ChangeAt Go.RowKit
set_option linter.unusedVariables false
set_option maxRecDepth 20000

set_option maxHeartbeats 1600000 in
theorem implClassDepends (W H : Int) (A AP AQ : Option Addr) (n cap nP cP nQ cQ : Nat) (L P Q : List Int) (hL : WfL L) (w : World) (h : IntAt w w.heap.size A n L) (hP : IntAt w w.heap.size AP nP P) (hQ : IntAt w w.heap.size AQ nQ Q) (hn : n ≤ 1000000000) (hnP : nP ≤ 1000000000) (hnQ : nQ ≤ 1000000000) :
    Calls Try.prog 42 #[.agg #[.int .i64 W, .int .i64 H, .slice A n cap], .agg #[.slice AP nP cP, .slice AQ nQ cQ]] w (NewD (clsD W H L P Q) w) := by
  have X0 := Lib.hid (clAt_start (W := W) (H := H) (A := A) (AP := AP) (AQ := AQ) (n := n) (cap := cap) (nP := nP) (cP := cP) (nQ := nQ) (cQ := cQ) (w := w))
  have HI := Lib.hid h
  have HP := Lib.hid hP
  have HQ := Lib.hid hQ
  cases hc : clsOk W H L P Q with
  | false =>
    have HA := Lib.hid (implClassesOkV W H A AP AQ n cap nP cP nQ cQ L P Q hL false hc _ (X0.out.at h) (X0.out.at hP) (X0.out.at hQ) hn hnP hnQ)
    have HN := Lib.hid (clsD_no hc)
    clear h hP hQ hc hL
    go_enter Try.func42, Try.ntmps42
    go_wp2_with fail
    refine HA.out.mono ?_
    rintro e w1 ⟨rfl, hg⟩
    have X1 := Lib.hid (X0.out.gb hg)
    clear hg
    go_wp2_with fail
    go_ret
    exact ⟨_, rfl, own_nilD HN.out _ _, gb_below_none X1.out.g (Nat.le_refl _)⟩
  | true =>
    have HA := Lib.hid (implClassesOkV W H A AP AQ n cap nP cP nQ cQ L P Q hL true hc _ (X0.out.at h) (X0.out.at hP) (X0.out.at hQ) hn hnP hnQ)
    have HN := Lib.hid (clsD_yes hc)
    have HDA := Lib.hid (fun w h hP => implDependsOf W H A AP n cap nP cP L P hL w h hP hn hnP)
    have HDB := Lib.hid (fun w h hQ => implDependsOf W H A AQ n cap nQ cQ L Q hL w h hQ hn hnQ)
    have HL1 := Lib.hid (depG_len (W := W) (H := H) (L := L) (P := P))
    have HL2 := Lib.hid (depG_len (W := W) (H := H) (L := L) (P := Q))
    obtain ⟨D, hD⟩ : ∃ D, depG W H L P = D := ⟨_, rfl⟩
    obtain ⟨E, hE⟩ : ∃ E, depG W H L Q = E := ⟨_, rfl⟩
    rw [hD] at HDA HL1 HN
    rw [hE] at HDB HL2 HN
    have HSH := Lib.hid (fun A cap w h => implShift A E.length cap E 64 w h (by have := HL2.out; omega))
    have HSL := Lib.hid (shift_length E 64)
    obtain ⟨F, hF⟩ : ∃ F, shiftD E 64 = F := ⟨_, rfl⟩
    rw [hF] at HSH HSL HN
    have HMG := Lib.hid (fun A A2 cap c2 w h h2 k k2 => implMerge A A2 D.length cap F.length c2 D F w h h2 (by have := HL1.out; omega) (by have h1 := HL2.out; have h2 := HSL.out; omega) k k2)
    clear h hP hQ hc hD hE hF hL
    go_enter Try.func42, Try.ntmps42
    go_wp2_with fail
    refine HA.out.mono ?_
    rintro e w1 ⟨rfl, hg⟩
    have X1 := Lib.hid (X0.out.gb hg)
    have X1d := Lib.hid (X1.out.gb (gb_drew (gb_refl w1 none)))
    clear hg
    have a0 : w1.cell? ⟨w.heap.size, 0, none⟩ = some (.int .i64 W) := X1.out.m.cell 0
    have a1 : w1.cell? ⟨w.heap.size, 1, none⟩ = some (.int .i64 H) := X1.out.m.cell 1
    have a2 : w1.cell? ⟨w.heap.size, 2, none⟩ = some (.slice A n cap) := X1.out.m.cell 2
    have a3 : w1.cell? ⟨w.heap.size + 1, 0, none⟩ = some (.slice AP nP cP) := X1.out.t.cell 0
    have a4 : w1.cell? ⟨w.heap.size + 1, 1, none⟩ = some (.slice AQ nQ cQ) := X1.out.t.cell 1
    go_wp2_with fail
    go_region_held3 (fun w' => w'.cell? ⟨w.heap.size, 0, none⟩ = some (.int .i64 W) ∧ w'.cell? ⟨w.heap.size, 1, none⟩ = some (.int .i64 H) ∧ w'.cell? ⟨w.heap.size, 2, none⟩ = some (.slice A n cap) ∧ w'.cell? ⟨w.heap.size + 1, 0, none⟩ = some (.slice AP nP cP) ∧ w'.cell? ⟨w.heap.size + 1, 1, none⟩ = some (.slice AQ nQ cQ))
      (first | exact ⟨a0, a1, a2, a3, a4⟩ | exact ⟨bb0, bb1, bb2, bb3, bb4⟩ | exact ⟨cc0, cc1, cc2, cc3, cc4⟩ | exact ⟨d0, d1, d2, d3, d4⟩ | exact ⟨e0, e1, e2, e3, e4⟩ | fail)
      (first
        | (go_at_call 14; (with_reducible refine (HDA.out _ (X1d.out.at HI.out) (X1d.out.at HP.out)).mono ?_); rintro e w2 ⟨v2, rfl, o2, b2⟩; obtain ⟨A2, c2, rfl, _⟩ := own_form o2; have X2 := Lib.hid (X1d.out.bl b2); have O2 := Lib.hid o2; have bb0 : w2.cell? ⟨w.heap.size, 0, none⟩ = some (.int .i64 W) := X2.out.m.cell 0; have bb1 : w2.cell? ⟨w.heap.size, 1, none⟩ = some (.int .i64 H) := X2.out.m.cell 1; have bb2 : w2.cell? ⟨w.heap.size, 2, none⟩ = some (.slice A n cap) := X2.out.m.cell 2; have bb3 : w2.cell? ⟨w.heap.size + 1, 0, none⟩ = some (.slice AP nP cP) := X2.out.t.cell 0; have bb4 : w2.cell? ⟨w.heap.size + 1, 1, none⟩ = some (.slice AQ nQ cQ) := X2.out.t.cell 1; clear o2 b2)
        | (go_at_call 14; (with_reducible refine (HDB.out _ (X2.out.at HI.out) (X2.out.at HQ.out)).mono ?_); rintro e w3 ⟨v3, rfl, o3, b3⟩; obtain ⟨A3, c3, rfl, _⟩ := own_form o3; have X3 := Lib.hid (X2.out.bl b3); have O23 := Lib.hid (own_below O2.out b3); have O3 := Lib.hid o3; have cc0 : w3.cell? ⟨w.heap.size, 0, none⟩ = some (.int .i64 W) := X3.out.m.cell 0; have cc1 : w3.cell? ⟨w.heap.size, 1, none⟩ = some (.int .i64 H) := X3.out.m.cell 1; have cc2 : w3.cell? ⟨w.heap.size, 2, none⟩ = some (.slice A n cap) := X3.out.m.cell 2; have cc3 : w3.cell? ⟨w.heap.size + 1, 0, none⟩ = some (.slice AP nP cP) := X3.out.t.cell 0; have cc4 : w3.cell? ⟨w.heap.size + 1, 1, none⟩ = some (.slice AQ nQ cQ) := X3.out.t.cell 1; clear o3 b3)
        | (go_at_call 16; (with_reducible refine (HSH.out A3 c3 _ (depAt_own O3.out (Nat.le_refl _))).mono ?_); rintro e w4 ⟨v4, rfl, o4, b4⟩; obtain ⟨A4, c4, rfl, _⟩ := own_form o4; have X4 := Lib.hid (X3.out.bl b4); have O24 := Lib.hid (own_below O23.out b4); have O4 := Lib.hid o4; have d0 : w4.cell? ⟨w.heap.size, 0, none⟩ = some (.int .i64 W) := X4.out.m.cell 0; have d1 : w4.cell? ⟨w.heap.size, 1, none⟩ = some (.int .i64 H) := X4.out.m.cell 1; have d2 : w4.cell? ⟨w.heap.size, 2, none⟩ = some (.slice A n cap) := X4.out.m.cell 2; have d3 : w4.cell? ⟨w.heap.size + 1, 0, none⟩ = some (.slice AP nP cP) := X4.out.t.cell 0; have d4 : w4.cell? ⟨w.heap.size + 1, 1, none⟩ = some (.slice AQ nQ cQ) := X4.out.t.cell 1; clear o4 b4)
        | (go_at_call 15; (with_reducible refine (HMG.out A2 A4 c2 c4 _ (depAt_own O24.out (Nat.le_refl _)) (depAt_own O4.out (Nat.le_refl _)) (own_cap O24.out).1 (own_cap O4.out).1).mono ?_); rintro e w5 ⟨v5, rfl, o5, b5⟩; obtain ⟨A5, c5, rfl, _⟩ := own_form o5; have X5 := Lib.hid (X4.out.bl b5); have O5 := Lib.hid (own_less o5 X4.out.g.size); have e0 : w5.cell? ⟨w.heap.size, 0, none⟩ = some (.int .i64 W) := X5.out.m.cell 0; have e1 : w5.cell? ⟨w.heap.size, 1, none⟩ = some (.int .i64 H) := X5.out.m.cell 1; have e2 : w5.cell? ⟨w.heap.size, 2, none⟩ = some (.slice A n cap) := X5.out.m.cell 2; have e3 : w5.cell? ⟨w.heap.size + 1, 0, none⟩ = some (.slice AP nP cP) := X5.out.t.cell 0; have e4 : w5.cell? ⟨w.heap.size + 1, 1, none⟩ = some (.slice AQ nQ cQ) := X5.out.t.cell 1; clear o5 b5)
        | fail)
    all_goals
      go_wp2_with fail
      go_ret
      exact ⟨_, rfl, by rw [HN.out]; exact O5.out, gb_below_none X5.out.g (Nat.le_refl _)⟩
end Go.Proofs.Ytcmlnokfjbglaaa
end

section
namespace Go.Proofs.Ytcmlnokfjbglaaa
open Go.ChangeShapes Go.WideShapes Go.ChangeAt Go.RowKit
set_option linter.unusedVariables false
set_option maxRecDepth 20000

set_option maxHeartbeats 6400000 in
theorem walk_FnExactClassDepends (S0a : Int) (S0b : Int) (A0a : Option Addr) (n0a c0a : Nat) (L0a : List Int) (A1a : Option Addr) (n1a c1a : Nat) (L1a : List Int) (A1b : Option Addr) (n1b c1b : Nat) (L1b : List Int) (w : World) (hwS0a : (Lit.int .i64 S0a).wf = true) (hwS0b : (Lit.int .i64 S0b).wf = true) (hncA0a : n0a ≤ c0a) (hcmA0a : c0a ≤ maxLen) (hA0a : IntAt w w.heap.size A0a n0a L0a) (hlA0a : ∀ x ∈ L0a, (Lit.int .i64 x).wf = true) (hncA1a : n1a ≤ c1a) (hcmA1a : c1a ≤ maxLen) (hA1a : IntAt w w.heap.size A1a n1a L1a) (hlA1a : ∀ x ∈ L1a, (Lit.int .i64 x).wf = true) (hncA1b : n1b ≤ c1b) (hcmA1b : c1b ≤ maxLen) (hA1b : IntAt w w.heap.size A1b n1b L1b) (hlA1b : ∀ x ∈ L1b, (Lit.int .i64 x).wf = true) :
    Calls Try.prog 8 #[.agg #[.int .i64 S0a, .int .i64 S0b, .slice A0a n0a c0a], .agg #[.slice A1a n1a c1a, .slice A1b n1b c1b]] w fun e w' => e = .returned (.bool true) ∧ Below w.heap.size w w' := by
  have h9A0a : n0a ≤ 9223372036854775807 := Nat.le_trans hncA0a (Nat.le_trans hcmA0a (by decide))
  have hLA0a := hA0a.1
  have HA0a := Lib.hid (hA0a)
  have HWF0 := Lib.hid (show WfL L0a from hlA0a)
  have HWS0a := Lib.hid (hwS0a)
  have HWS0b := Lib.hid (hwS0b)
  have h9A1a : n1a ≤ 9223372036854775807 := Nat.le_trans hncA1a (Nat.le_trans hcmA1a (by decide))
  have hLA1a := hA1a.1
  have HA1a := Lib.hid (hA1a)
  have HWXA1a := Lib.hid (hlA1a)
  have h9A1b : n1b ≤ 9223372036854775807 := Nat.le_trans hncA1b (Nat.le_trans hcmA1b (by decide))
  have hLA1b := hA1b.1
  have HA1b := Lib.hid (hA1b)
  have HWXA1b := Lib.hid (hlA1b)
  clear hncA0a hcmA0a hA0a hlA0a hwS0a hwS0b hncA1a hcmA1a hA1a hlA1a hncA1b hcmA1b hA1b hlA1b
  subst hLA0a
  subst hLA1a
  subst hLA1b
  by_cases hbig0 : (1048576 : Int) < (L0a.length : Int)
  · skip
    go_enter Try.func8, Try.ntmps8
    go_wp2_with fail
    have ke0 := (Blk.new w 58 #[.int .i64 S0a, .int .i64 S0b, .slice A0a L0a.length c0a]).alloc (.cells #[.slice A1a L1a.length c1a, .slice A1b L1b.length c1b] 61)
    have ke1 := Blk.new (w.alloc (.cells #[.int .i64 S0a, .int .i64 S0b, .slice A0a L0a.length c0a] 58)) 61 #[.slice A1a L1a.length c1a, .slice A1b L1b.length c1b]
    have ge := gb_alloc (gb_alloc (gb_refl w none) (.cells #[.int .i64 S0a, .int .i64 S0b, .slice A0a L0a.length c0a] 58)) (.cells #[.slice A1a L1a.length c1a, .slice A1b L1b.length c1b] 61)
    simp only [alloc_size] at ke1
    generalize ((w.alloc (.cells #[.int .i64 S0a, .int .i64 S0b, .slice A0a L0a.length c0a] 58)).alloc (.cells #[.slice A1a L1a.length c1a, .slice A1b L1b.length c1b] 61)) = we at *
    have KE0 : Hid (Blk we (w.heap.size) 58 #[.int .i64 S0a, .int .i64 S0b, .slice A0a L0a.length c0a]) := Lib.hid (ke0)
    have KE1 : Hid (Blk we (w.heap.size + 1) 61 #[.slice A1a L1a.length c1a, .slice A1b L1b.length c1b]) := Lib.hid (ke1)
    have GE := Lib.hid (ge)
    have RZ0 := Lib.hid (Chg.refl 0 0 we)
    clear ge ke0 ke1
    have a0_0 : we.cell? ⟨w.heap.size, 0, none⟩ = some (.int .i64 S0a) := (KE0.out.nx (RZ0.out)).cell 0
    have a0_1 : we.cell? ⟨w.heap.size, 1, none⟩ = some (.int .i64 S0b) := (KE0.out.nx (RZ0.out)).cell 1
    have a0_2 : we.cell? ⟨w.heap.size, 2, none⟩ = some (.slice A0a L0a.length c0a) := (KE0.out.nx (RZ0.out)).cell 2
    refine (lawsSzMesh _ _ _ _ _ _ _ h9A0a (by omega) (by omega)).mono ?_
    rintro e wz1 ⟨rfl, hg⟩
    rw [if_pos hbig0]
    have RZ1 := Lib.hid (RZ0.out.gb hg)
    clear hg a0_0 a0_1 a0_2
    go_wp2_with fail
    go_ret
    exact ⟨rfl, (gb_below_none GE.out (Nat.le_refl _)).trans (RZ1.out.below (.inr (Nat.le_refl _)) GE.out.size)⟩
  have hnA0a : L0a.length ≤ 1048576 := by omega
  obtain ⟨q1, hq1⟩ : ∃ q : Int, (1048576 : Int) - (L0a.length : Int) = q := ⟨_, rfl⟩
  have hqa1 : ¬ q1 < 0 := by omega
  have hqb1 : q1 ≤ 1048576 := by omega
  by_cases hbig1 : q1 < (L1a.length : Int) + (L1b.length : Int)
  · skip
    go_enter Try.func8, Try.ntmps8
    go_wp2_with fail
    have ke0 := (Blk.new w 58 #[.int .i64 S0a, .int .i64 S0b, .slice A0a L0a.length c0a]).alloc (.cells #[.slice A1a L1a.length c1a, .slice A1b L1b.length c1b] 61)
    have ke1 := Blk.new (w.alloc (.cells #[.int .i64 S0a, .int .i64 S0b, .slice A0a L0a.length c0a] 58)) 61 #[.slice A1a L1a.length c1a, .slice A1b L1b.length c1b]
    have ge := gb_alloc (gb_alloc (gb_refl w none) (.cells #[.int .i64 S0a, .int .i64 S0b, .slice A0a L0a.length c0a] 58)) (.cells #[.slice A1a L1a.length c1a, .slice A1b L1b.length c1b] 61)
    simp only [alloc_size] at ke1
    generalize ((w.alloc (.cells #[.int .i64 S0a, .int .i64 S0b, .slice A0a L0a.length c0a] 58)).alloc (.cells #[.slice A1a L1a.length c1a, .slice A1b L1b.length c1b] 61)) = we at *
    have KE0 : Hid (Blk we (w.heap.size) 58 #[.int .i64 S0a, .int .i64 S0b, .slice A0a L0a.length c0a]) := Lib.hid (ke0)
    have KE1 : Hid (Blk we (w.heap.size + 1) 61 #[.slice A1a L1a.length c1a, .slice A1b L1b.length c1b]) := Lib.hid (ke1)
    have GE := Lib.hid (ge)
    have RZ0 := Lib.hid (Chg.refl 0 0 we)
    clear ge ke0 ke1
    have a0_0 : we.cell? ⟨w.heap.size, 0, none⟩ = some (.int .i64 S0a) := (KE0.out.nx (RZ0.out)).cell 0
    have a0_1 : we.cell? ⟨w.heap.size, 1, none⟩ = some (.int .i64 S0b) := (KE0.out.nx (RZ0.out)).cell 1
    have a0_2 : we.cell? ⟨w.heap.size, 2, none⟩ = some (.slice A0a L0a.length c0a) := (KE0.out.nx (RZ0.out)).cell 2
    refine (lawsSzMesh _ _ _ _ _ _ _ h9A0a (by omega) (by omega)).mono ?_
    rintro e wz1 ⟨rfl, hg⟩
    rw [if_neg (by omega), hq1]
    have RZ1 := Lib.hid (RZ0.out.gb hg)
    clear hg a0_0 a0_1 a0_2 hq1
    have a1_0 : wz1.cell? ⟨w.heap.size + 1, 0, none⟩ = some (.slice A1a L1a.length c1a) := (KE1.out.nx (RZ1.out)).cell 0
    have a1_1 : wz1.cell? ⟨w.heap.size + 1, 1, none⟩ = some (.slice A1b L1b.length c1b) := (KE1.out.nx (RZ1.out)).cell 1
    go_wp2_with fail
    refine (lawsSzClasses _ _ _ _ _ _ _ _ h9A1a h9A1b (by omega) (by omega)).mono ?_
    rintro e wz2 ⟨rfl, hg⟩
    rw [if_pos hbig1]
    have RZ2 := Lib.hid (RZ1.out.gb hg)
    clear hg a1_0 a1_1
    go_wp2_with fail
    go_ret
    exact ⟨rfl, (gb_below_none GE.out (Nat.le_refl _)).trans (RZ2.out.below (.inr (Nat.le_refl _)) GE.out.size)⟩
  have hnA1a : L1a.length ≤ 1048576 := by omega
  have hnA1b : L1b.length ≤ 1048576 := by omega
  obtain ⟨q2, hq2⟩ : ∃ q : Int, q1 - (L1a.length : Int) - (L1b.length : Int) = q := ⟨_, rfl⟩
  have hqa2 : ¬ q2 < 0 := by omega
  have hqb2 : q2 ≤ 1048576 := by omega
  go_enter Try.func8, Try.ntmps8
  go_wp2_with fail
  have ke0 := (Blk.new w 58 #[.int .i64 S0a, .int .i64 S0b, .slice A0a L0a.length c0a]).alloc (.cells #[.slice A1a L1a.length c1a, .slice A1b L1b.length c1b] 61)
  have ke1 := Blk.new (w.alloc (.cells #[.int .i64 S0a, .int .i64 S0b, .slice A0a L0a.length c0a] 58)) 61 #[.slice A1a L1a.length c1a, .slice A1b L1b.length c1b]
  have ge := gb_alloc (gb_alloc (gb_refl w none) (.cells #[.int .i64 S0a, .int .i64 S0b, .slice A0a L0a.length c0a] 58)) (.cells #[.slice A1a L1a.length c1a, .slice A1b L1b.length c1b] 61)
  simp only [alloc_size] at ke1
  generalize ((w.alloc (.cells #[.int .i64 S0a, .int .i64 S0b, .slice A0a L0a.length c0a] 58)).alloc (.cells #[.slice A1a L1a.length c1a, .slice A1b L1b.length c1b] 61)) = we at *
  have KE0 : Hid (Blk we (w.heap.size) 58 #[.int .i64 S0a, .int .i64 S0b, .slice A0a L0a.length c0a]) := Lib.hid (ke0)
  have KE1 : Hid (Blk we (w.heap.size + 1) 61 #[.slice A1a L1a.length c1a, .slice A1b L1b.length c1b]) := Lib.hid (ke1)
  have GE := Lib.hid (ge)
  have RZ0 := Lib.hid (Chg.refl 0 0 we)
  clear ge ke0 ke1
  have a0_0 : we.cell? ⟨w.heap.size, 0, none⟩ = some (.int .i64 S0a) := (KE0.out.nx (RZ0.out)).cell 0
  have a0_1 : we.cell? ⟨w.heap.size, 1, none⟩ = some (.int .i64 S0b) := (KE0.out.nx (RZ0.out)).cell 1
  have a0_2 : we.cell? ⟨w.heap.size, 2, none⟩ = some (.slice A0a L0a.length c0a) := (KE0.out.nx (RZ0.out)).cell 2
  refine (lawsSzMesh _ _ _ _ _ _ _ h9A0a (by omega) (by omega)).mono ?_
  rintro e wz1 ⟨rfl, hg⟩
  rw [if_neg (by omega), hq1]
  have RZ1 := Lib.hid (RZ0.out.gb hg)
  clear hg a0_0 a0_1 a0_2 hq1
  have a1_0 : wz1.cell? ⟨w.heap.size + 1, 0, none⟩ = some (.slice A1a L1a.length c1a) := (KE1.out.nx (RZ1.out)).cell 0
  have a1_1 : wz1.cell? ⟨w.heap.size + 1, 1, none⟩ = some (.slice A1b L1b.length c1b) := (KE1.out.nx (RZ1.out)).cell 1
  go_wp2_with fail
  refine (lawsSzClasses _ _ _ _ _ _ _ _ h9A1a h9A1b (by omega) (by omega)).mono ?_
  rintro e wz2 ⟨rfl, hg⟩
  rw [if_neg (by omega), hq2]
  have RZ2 := Lib.hid (RZ1.out.gb hg)
  clear hg a1_0 a1_1 hq2
  go_wp2_with fail
  clear hqa1 hqb1 hbig0 hqa2 hqb2 hbig1
  obtain ⟨R, hR⟩ : ∃ R, clsD S0a S0b L0a L1a L1b = R := ⟨_, rfl⟩
  have hrl : R.length ≤ 8192 := by rw [← hR]; exact clsD_len
  have HSP := Lib.hid (fun (A0a : Option Addr) (n0a c0a : Nat) (A1a : Option Addr) (n1a c1a : Nat) (A1b : Option Addr) (n1b c1b : Nat) (w : World) (hA0a : IntAt w w.heap.size A0a n0a L0a) (hA1a : IntAt w w.heap.size A1a n1a L1a) (hA1b : IntAt w w.heap.size A1b n1b L1b) (hnA0a : n0a ≤ 1000000000) (hnA1a : n1a ≤ 1000000000) (hnA1b : n1b ≤ 1000000000) (hcA0a : n0a ≤ c0a) (hcA1a : n1a ≤ c1a) (hcA1b : n1b ≤ c1b) => show Calls Try.prog 41 #[.agg #[.int .i64 S0a, .int .i64 S0b, .slice A0a n0a c0a], .agg #[.slice A1a n1a c1a, .slice A1b n1b c1b]] w (NewD R w) from hR ▸ specClassDepends S0a S0b A0a A1a A1b n0a c0a n1a c1a n1b c1b L0a L1a L1b w hA0a hA1a hA1b hnA0a hnA1a hnA1b)
  have HIM := Lib.hid (fun (A0a : Option Addr) (n0a c0a : Nat) (A1a : Option Addr) (n1a c1a : Nat) (A1b : Option Addr) (n1b c1b : Nat) (w : World) (hA0a : IntAt w w.heap.size A0a n0a L0a) (hA1a : IntAt w w.heap.size A1a n1a L1a) (hA1b : IntAt w w.heap.size A1b n1b L1b) (hnA0a : n0a ≤ 1000000000) (hnA1a : n1a ≤ 1000000000) (hnA1b : n1b ≤ 1000000000) (hcA0a : n0a ≤ c0a) (hcA1a : n1a ≤ c1a) (hcA1b : n1b ≤ c1b) => show Calls Try.prog 42 #[.agg #[.int .i64 S0a, .int .i64 S0b, .slice A0a n0a c0a], .agg #[.slice A1a n1a c1a, .slice A1b n1b c1b]] w (NewD R w) from hR ▸ implClassDepends S0a S0b A0a A1a A1b n0a c0a n1a c1a n1b c1b L0a L1a L1b HWF0.out w hA0a hA1a hA1b hnA0a hnA1a hnA1b)
  clear hR
  have BE := Lib.hid (gb_below_none GE.out (Nat.le_refl _))
  have RDA0a := Lib.hid (fun (w' : World) (hq : Chg 0 0 we w') => HA0a.out.chg BE.out hq (.inr (Nat.le_refl _)))
  have RDA1a := Lib.hid (fun (w' : World) (hq : Chg 0 0 we w') => HA1a.out.chg BE.out hq (.inr (Nat.le_refl _)))
  have RDA1b := Lib.hid (fun (w' : World) (hq : Chg 0 0 we w') => HA1b.out.chg BE.out hq (.inr (Nat.le_refl _)))
  have KPw := Lib.hid (fun (w' : World) (hq : Chg 0 0 we w') => (show w'.cell? ⟨w.heap.size, 0, none⟩ = some (.int .i64 S0a) ∧ w'.cell? ⟨w.heap.size, 1, none⟩ = some (.int .i64 S0b) ∧ w'.cell? ⟨w.heap.size, 2, none⟩ = some (.slice A0a L0a.length c0a) ∧ w'.cell? ⟨w.heap.size + 1, 0, none⟩ = some (.slice A1a L1a.length c1a) ∧ w'.cell? ⟨w.heap.size + 1, 1, none⟩ = some (.slice A1b L1b.length c1b) from ⟨(KE0.out.nx hq).cell 0, (KE0.out.nx hq).cell 1, (KE0.out.nx hq).cell 2, (KE1.out.nx hq).cell 0, (KE1.out.nx hq).cell 1⟩))
  go_region_held3 (fun w' => w'.cell? ⟨w.heap.size, 0, none⟩ = some (.int .i64 S0a) ∧ w'.cell? ⟨w.heap.size, 1, none⟩ = some (.int .i64 S0b) ∧ w'.cell? ⟨w.heap.size, 2, none⟩ = some (.slice A0a L0a.length c0a) ∧ w'.cell? ⟨w.heap.size + 1, 0, none⟩ = some (.slice A1a L1a.length c1a) ∧ w'.cell? ⟨w.heap.size + 1, 1, none⟩ = some (.slice A1b L1b.length c1b))
    (first | with_reducible exact KPw.out _ (RZ2.out) | with_reducible exact KPw.out _ (RZ2.out.dr) | with_reducible exact KPw.out _ (R1.out) | with_reducible exact KPw.out _ (R2.out) | with_reducible exact KPw.out _ (R3.out) | fail)
    (first
      | (go_at_call 31; (with_reducible refine (lawsToMesh _ _ _ _ _ _ _ (RDA0a.out _ (RZ2.out.dr)) hnA0a).mono ?_); rintro e w1 ⟨gw0, rfl, ow0, bw0⟩; have R1 : Hid (Chg 0 0 we w1) := Lib.hid ((RZ2.out.dr).bl bw0); have Q1 := Lib.hid (chg_gb 0 0 (gb_of_below bw0 none)); have F1 := Lib.hid (fix_row ow0); clear bw0 ow0)
      | (go_at_call 32; (with_reducible refine (lawsToClasses _ _ _ _ _ _ _ _ _ (RDA1a.out _ (R1.out)) (RDA1b.out _ (R1.out)) hnA1a hnA1b).mono ?_); rintro e w2 ⟨pw1, qw1, rfl, ow1, bw1⟩; obtain ⟨Arw1, crw1, rfl, _⟩ := own_form ow1.r; obtain ⟨Acw1, ccw1, rfl, _⟩ := own_form ow1.c; have R2 : Hid (Chg 0 0 we w2) := Lib.hid ((R1.out).bl bw1); have Q2 := Lib.hid (chg_gb 0 0 (gb_of_below bw1 none)); have F2 := Lib.hid (fix_vrow ow1); clear bw1 ow1)
      | (go_at_call 41; (with_reducible refine (HSP.out _ _ _ _ _ _ _ _ _ _ (intAt_own ((F1.out.nx Q2.out).here) rfl (Nat.le_refl _)) (intAt_own (F2.out.here.r) rfl (Nat.le_refl _)) (intAt_own (F2.out.here.c) rfl (Nat.le_refl _)) (by omega) (by omega) (by omega) (own_cap ((F1.out.nx Q2.out).here)).1 (own_cap (F2.out.here.r)).1 (own_cap (F2.out.here.c)).1).mono ?_); rintro e w3 ⟨pw, rfl, ow, bw⟩; obtain ⟨Arw, crw, rfl, _⟩ := own_form ow; have R3 : Hid (Chg 0 0 we w3) := Lib.hid ((R2.out).bl bw); have Q3 := Lib.hid (chg_gb 0 0 (gb_of_below bw none)); have F3 := Lib.hid (fix_row ow); have HLw := Lib.hid (F3.out.here.lt); clear bw ow)
      | fail)
  all_goals
    have FW := Lib.hid (F3.out)
    have HE0 := Lib.hid (FW.out.1)
    have HS0 := Lib.hid ((R3.out).size)
    have a0_0 : w3.cell? ⟨w.heap.size, 0, none⟩ = some (.int .i64 S0a) := (KE0.out.nx (R3.out)).cell 0
    have a0_1 : w3.cell? ⟨w.heap.size, 1, none⟩ = some (.int .i64 S0b) := (KE0.out.nx (R3.out)).cell 1
    have a0_2 : w3.cell? ⟨w.heap.size, 2, none⟩ = some (.slice A0a L0a.length c0a) := (KE0.out.nx (R3.out)).cell 2
    go_wp2_with fail
    refine (lawsToMesh _ _ _ _ _ _ _ (RDA0a.out _ (R3.out)) hnA0a).mono ?_
    rintro e w4 ⟨gx0, rfl, ox0, bx0⟩
    have HLX0 := Lib.hid ((fix_row ox0).here.lt)
    have FX0 := Lib.hid (fix_row ox0)
    have Q4 := Lib.hid (chg_gb 0 0 (gb_of_below bx0 none))
    have R4 := Lib.hid ((R3.out).bl bx0)
    clear bx0 ox0 a0_0 a0_1 a0_2
    replace FW := Lib.hid (FW.out.nx Q4.out)
    replace FW := Lib.hid ((FW.out).al (.cells #[.int .i64 S0a, .int .i64 S0b, .slice (some ⟨gx0, 0, none⟩) L0a.length L0a.length] 30))
    replace FX0 := Lib.hid ((FX0.out).al (.cells #[.int .i64 S0a, .int .i64 S0b, .slice (some ⟨gx0, 0, none⟩) L0a.length L0a.length] 30))
    have KX0 := Lib.hid (Blk.new w4 30 #[.int .i64 S0a, .int .i64 S0b, .slice (some ⟨gx0, 0, none⟩) L0a.length L0a.length])
    have a1_0 : (w4.alloc (.cells #[.int .i64 S0a, .int .i64 S0b, .slice (some ⟨gx0, 0, none⟩) L0a.length L0a.length] 30)).cell? ⟨w.heap.size + 1, 0, none⟩ = some (.slice A1a L1a.length c1a) := (KE1.out.nx ((R4.out.al (.cells #[.int .i64 S0a, .int .i64 S0b, .slice (some ⟨gx0, 0, none⟩) L0a.length L0a.length] 30)))).cell 0
    have a1_1 : (w4.alloc (.cells #[.int .i64 S0a, .int .i64 S0b, .slice (some ⟨gx0, 0, none⟩) L0a.length L0a.length] 30)).cell? ⟨w.heap.size + 1, 1, none⟩ = some (.slice A1b L1b.length c1b) := (KE1.out.nx ((R4.out.al (.cells #[.int .i64 S0a, .int .i64 S0b, .slice (some ⟨gx0, 0, none⟩) L0a.length L0a.length] 30)))).cell 1
    go_wp2_with fail
    refine (lawsToClasses _ _ _ _ _ _ _ _ _ (RDA1a.out _ ((R4.out.al (.cells #[.int .i64 S0a, .int .i64 S0b, .slice (some ⟨gx0, 0, none⟩) L0a.length L0a.length] 30)))) (RDA1b.out _ ((R4.out.al (.cells #[.int .i64 S0a, .int .i64 S0b, .slice (some ⟨gx0, 0, none⟩) L0a.length L0a.length] 30)))) hnA1a hnA1b).mono ?_
    rintro e w5 ⟨px1, qx1, rfl, ox1, bx1⟩
    obtain ⟨Arx1, crx1, rfl, _⟩ := own_form ox1.r
    obtain ⟨Acx1, ccx1, rfl, _⟩ := own_form ox1.c
    have HLX1 := Lib.hid ((fix_vrow ox1).here.lt)
    have FX1 := Lib.hid (fix_vrow ox1)
    have Q5 := Lib.hid (chg_gb 0 0 (gb_of_below bx1 none))
    have R5 := Lib.hid (((R4.out.al (.cells #[.int .i64 S0a, .int .i64 S0b, .slice (some ⟨gx0, 0, none⟩) L0a.length L0a.length] 30))).bl bx1)
    clear bx1 ox1 a1_0 a1_1
    replace FW := Lib.hid (FW.out.nx Q5.out)
    replace FX0 := Lib.hid (FX0.out.nx Q5.out)
    replace KX0 := Lib.hid (KX0.out.nx Q5.out)
    replace FW := Lib.hid ((FW.out).al (.cells #[.slice Arx1 L1a.length crx1, .slice Acx1 L1b.length ccx1] 43))
    replace FX0 := Lib.hid ((FX0.out).al (.cells #[.slice Arx1 L1a.length crx1, .slice Acx1 L1b.length ccx1] 43))
    replace KX0 := Lib.hid ((KX0.out).alloc (.cells #[.slice Arx1 L1a.length crx1, .slice Acx1 L1b.length ccx1] 43))
    replace FX1 := Lib.hid ((FX1.out).al (.cells #[.slice Arx1 L1a.length crx1, .slice Acx1 L1b.length ccx1] 43))
    have KX1 := Lib.hid (Blk.new w5 43 #[.slice Arx1 L1a.length crx1, .slice Acx1 L1b.length ccx1])
    have x0_0 : (w5.alloc (.cells #[.slice Arx1 L1a.length crx1, .slice Acx1 L1b.length ccx1] 43)).cell? ⟨w4.heap.size, 0, none⟩ = some (.int .i64 S0a) := KX0.out.cell 0
    have x0_1 : (w5.alloc (.cells #[.slice Arx1 L1a.length crx1, .slice Acx1 L1b.length ccx1] 43)).cell? ⟨w4.heap.size, 1, none⟩ = some (.int .i64 S0b) := KX0.out.cell 1
    have x0_2 : (w5.alloc (.cells #[.slice Arx1 L1a.length crx1, .slice Acx1 L1b.length ccx1] 43)).cell? ⟨w4.heap.size, 2, none⟩ = some (.slice (some ⟨gx0, 0, none⟩) L0a.length L0a.length) := KX0.out.cell 2
    have x1_0 : (w5.alloc (.cells #[.slice Arx1 L1a.length crx1, .slice Acx1 L1b.length ccx1] 43)).cell? ⟨w5.heap.size, 0, none⟩ = some (.slice Arx1 L1a.length crx1) := KX1.out.cell 0
    have x1_1 : (w5.alloc (.cells #[.slice Arx1 L1a.length crx1, .slice Acx1 L1b.length ccx1] 43)).cell? ⟨w5.heap.size, 1, none⟩ = some (.slice Acx1 L1b.length ccx1) := KX1.out.cell 1
    go_wp2_with fail
    refine (HIM.out _ _ _ _ _ _ _ _ _ _ (intAt_own (FX0.out.here) rfl (Nat.le_refl _)) (intAt_own (FX1.out.here.r) rfl (Nat.le_refl _)) (intAt_own (FX1.out.here.c) rfl (Nat.le_refl _)) (by omega) (by omega) (by omega) (own_cap (FX0.out.here)).1 (own_cap (FX1.out.here.r)).1 (own_cap (FX1.out.here.c)).1).mono ?_
    rintro e w6 ⟨pg, rfl, og, bg⟩
    obtain ⟨Arg, crg, rfl, _⟩ := own_form og
    have R6 : Hid (Chg 0 0 we w6) := Lib.hid (((R5.out.al (.cells #[.slice Arx1 L1a.length crx1, .slice Acx1 L1b.length ccx1] 43))).bl bg)
    have Q6 := Lib.hid (chg_gb 0 0 (gb_of_below bg none))
    have F6 := Lib.hid (fix_row og)
    have HLg := Lib.hid (F6.out.here.lt)
    clear bg og
    clear x0_0 x0_1 x0_2 x1_0 x1_1
    replace FW := Lib.hid (FW.out.nx Q6.out)
    replace FX0 := Lib.hid (FX0.out.nx Q6.out)
    replace KX0 := Lib.hid (KX0.out.nx Q6.out)
    replace FX1 := Lib.hid (FX1.out.nx Q6.out)
    replace KX1 := Lib.hid (KX1.out.nx Q6.out)
    have FG := Lib.hid (F6.out)
    obtain ⟨B0, E0, B1, E1, Bg, Eg, Bv, Ev, eE0, eE1, fx0, kx0, hx0, fx1, kx1, hx1, fg, hg, fw, hn⟩ : ∃ B0 E0 B1 E1 Bg Eg Bv Ev : Nat, w4.heap.size = E0 ∧ w5.heap.size = E1 ∧ Fix B0 E0 (fun w => w.ownsRow B0 3 1 (.slice (some ⟨gx0, 0, none⟩) L0a.length L0a.length) L0a.length (intsV L0a)) w6 ∧ Blk w6 E0 30 #[.int .i64 S0a, .int .i64 S0b, .slice (some ⟨gx0, 0, none⟩) L0a.length L0a.length] ∧ (∀ k, Value.ownBlock (.slice (some ⟨gx0, 0, none⟩) L0a.length L0a.length) = some k → B0 ≤ k ∧ k < E0) ∧ Fix B1 E1 (fun w => VRow w B1 (.slice Arx1 L1a.length crx1) (.slice Acx1 L1b.length ccx1) L1a.length L1b.length L1a L1b) w6 ∧ Blk w6 E1 43 #[.slice Arx1 L1a.length crx1, .slice Acx1 L1b.length ccx1] ∧ (∀ k, (Value.ownBlock (.slice Arx1 L1a.length crx1) = some k ∨ Value.ownBlock (.slice Acx1 L1b.length ccx1) = some k) → B1 ≤ k ∧ k < E1) ∧ Fix Bg Eg (fun w => w.ownsRow Bg 39 2 (.slice Arg R.length crg) R.length (depV R)) w6 ∧ (∀ k, Value.ownBlock (.slice Arg R.length crg) = some k → Bg ≤ k ∧ k < Eg) ∧ Fix Bv Ev (fun w => w.ownsRow Bv 39 2 (.slice Arw R.length crw) R.length (depV R)) w6 ∧ we.heap.size ≤ B0 ∧ B0 ≤ E0 ∧ E0 + 1 ≤ B1 ∧ B1 ≤ E1 ∧ E1 + 1 ≤ Bg ∧ Bg ≤ Eg ∧ Ev ≤ B0 := ⟨_, _, _, _, _, _, _, _, rfl, rfl, FX0.out, KX0.out, HLX0.out, FX1.out, KX1.out, HLX1.out, FG.out, HLg.out, FW.out, (by have hsQ4 := Q4.out.size; have hsQ5 := Q5.out.size; have hsQ6 := Q6.out.size; have h0 := HS0.out; have h1 := HE0.out; (try simp only [alloc_size] at *); omega)⟩
    (try simp only [eE0])
    (try simp only [eE1])
    have Zfx0 := Lib.hid (fx0)
    have Zkx0 := Lib.hid (kx0)
    have Zhx0 := Lib.hid (hx0)
    have Zfx1 := Lib.hid (fx1)
    have Zkx1 := Lib.hid (kx1)
    have Zhx1 := Lib.hid (hx1)
    have Zfg := Lib.hid (fg)
    have Zhg := Lib.hid (hg)
    have Zfw := Lib.hid (fw)
    have Zhn := Lib.hid (hn)
    clear fx0 kx0 hx0 fx1 kx1 hx1 fg hg fw hn
    have RS := Lib.hid (R6.out)
    have T0 := Lib.hid (Chg.refl 0 0 w6)
    go_wp2_with fail
    refine (lawsEqOwnD _ _ _ _ R _ Zfg.out.here Zfw.out.here (by omega)).mono ?_
    rintro e w7 ⟨rfl, hg⟩
    have T7 := Lib.hid (T0.out.gb hg)
    clear hg
    have KPc0 := Lib.hid (fun (w' : World) (hq : Chg 0 0 w6 w') => (show w'.cell? ⟨w.heap.size, 0, none⟩ = some (.int .i64 S0a) ∧ w'.cell? ⟨w.heap.size, 1, none⟩ = some (.int .i64 S0b) ∧ w'.cell? ⟨w.heap.size, 2, none⟩ = some (.slice A0a L0a.length c0a) ∧ w'.cell? ⟨E0, 0, none⟩ = some (.int .i64 S0a) ∧ w'.cell? ⟨E0, 1, none⟩ = some (.int .i64 S0b) ∧ w'.cell? ⟨E0, 2, none⟩ = some (.slice (some ⟨gx0, 0, none⟩) L0a.length L0a.length) from ⟨(KE0.out.nx (RS.out.trans hq)).cell 0, (KE0.out.nx (RS.out.trans hq)).cell 1, (KE0.out.nx (RS.out.trans hq)).cell 2, (Zkx0.out.nx hq).cell 0, (Zkx0.out.nx hq).cell 1, (Zkx0.out.nx hq).cell 2⟩))
    go_wp2_with fail
    go_region_held3 (fun w' => w'.cell? ⟨w.heap.size, 0, none⟩ = some (.int .i64 S0a) ∧ w'.cell? ⟨w.heap.size, 1, none⟩ = some (.int .i64 S0b) ∧ w'.cell? ⟨w.heap.size, 2, none⟩ = some (.slice A0a L0a.length c0a) ∧ w'.cell? ⟨E0, 0, none⟩ = some (.int .i64 S0a) ∧ w'.cell? ⟨E0, 1, none⟩ = some (.int .i64 S0b) ∧ w'.cell? ⟨E0, 2, none⟩ = some (.slice (some ⟨gx0, 0, none⟩) L0a.length L0a.length))
      (first | with_reducible exact KPc0.out _ (T7.out) | with_reducible exact KPc0.out _ (T7.out.dr) | with_reducible exact KPc0.out _ (T8.out) | with_reducible exact KPc0.out _ (T9.out) | fail)
      (first
        | (go_at_call 31; (with_reducible refine (lawsToMesh _ _ _ _ _ _ _ (RDA0a.out _ (RS.out.trans T7.out.dr)) hnA0a).mono ?_); rintro e w8 ⟨gy0, rfl, oy0, by0⟩; have T8 : Hid (Chg 0 0 w6 w8) := Lib.hid (T7.out.dr.bl by0); have F8 := Lib.hid (fix_row oy0); clear by0 oy0)
        | (go_at_call 33; (with_reducible refine (lawsEqMesh _ _ _ _ L0a.length _ _ _ _ L0a _ (intAt_own (Zfx0.out.nx T8.out).here rfl (Nat.le_refl _)) (intAt_own F8.out.here rfl (Nat.le_refl _)) (Nat.le_refl _) (Nat.le_refl _) (by omega)).mono ?_); rintro e w9 ⟨rfl, hg⟩; have T9 : Hid (Chg 0 0 w6 w9) := Lib.hid (T8.out.gb hg); clear hg)
        | fail)
    all_goals
      have KPc1 := Lib.hid (fun (w' : World) (hq : Chg 0 0 w6 w') => (show w'.cell? ⟨w.heap.size + 1, 0, none⟩ = some (.slice A1a L1a.length c1a) ∧ w'.cell? ⟨w.heap.size + 1, 1, none⟩ = some (.slice A1b L1b.length c1b) ∧ w'.cell? ⟨E1, 0, none⟩ = some (.slice Arx1 L1a.length crx1) ∧ w'.cell? ⟨E1, 1, none⟩ = some (.slice Acx1 L1b.length ccx1) from ⟨(KE1.out.nx (RS.out.trans hq)).cell 0, (KE1.out.nx (RS.out.trans hq)).cell 1, (Zkx1.out.nx hq).cell 0, (Zkx1.out.nx hq).cell 1⟩))
      go_wp2_with fail
      go_region_held3 (fun w' => w'.cell? ⟨w.heap.size + 1, 0, none⟩ = some (.slice A1a L1a.length c1a) ∧ w'.cell? ⟨w.heap.size + 1, 1, none⟩ = some (.slice A1b L1b.length c1b) ∧ w'.cell? ⟨E1, 0, none⟩ = some (.slice Arx1 L1a.length crx1) ∧ w'.cell? ⟨E1, 1, none⟩ = some (.slice Acx1 L1b.length ccx1))
        (first | with_reducible exact KPc1.out _ (T9.out) | with_reducible exact KPc1.out _ (T9.out.dr) | with_reducible exact KPc1.out _ (T10.out) | with_reducible exact KPc1.out _ (T11.out) | fail)
        (first
          | (go_at_call 32; (with_reducible refine (lawsToClasses _ _ _ _ _ _ _ _ _ (RDA1a.out _ (RS.out.trans T9.out.dr)) (RDA1b.out _ (RS.out.trans T9.out.dr)) hnA1a hnA1b).mono ?_); rintro e w10 ⟨py1, qy1, rfl, oy1, by1⟩; obtain ⟨Ary1, cry1, rfl, _⟩ := own_form oy1.r; obtain ⟨Acy1, ccy1, rfl, _⟩ := own_form oy1.c; have T10 : Hid (Chg 0 0 w6 w10) := Lib.hid (T9.out.dr.bl by1); have F10 := Lib.hid (fix_vrow oy1); clear by1 oy1)
          | (go_at_call 34; (with_reducible refine (lawsEqClasses _ _ _ _ _ _ L1a L1b _ (Zfx1.out.nx T10.out).here F10.out.here (by omega) (by omega)).mono ?_); rintro e w11 ⟨rfl, hg⟩; have T11 : Hid (Chg 0 0 w6 w11) := Lib.hid (T10.out.gb hg); clear hg)
          | fail)
      all_goals
        have M0 := Lib.hid (T11.out.mono (lo' := 0) (hi' := 0) (Nat.le_refl _) (Nat.le_refl _))
        have n0_0 : w11.cell? ⟨E0, 0, none⟩ = some (.int .i64 S0a) := (Zkx0.out.nx T11.out).cell 0
        have n0_1 : w11.cell? ⟨E0, 1, none⟩ = some (.int .i64 S0b) := (Zkx0.out.nx T11.out).cell 1
        have n0_2 : w11.cell? ⟨E0, 2, none⟩ = some (.slice (some ⟨gx0, 0, none⟩) L0a.length L0a.length) := (Zkx0.out.nx T11.out).cell 2
        go_wp2_with fail
        refine (lawsMarkMesh _ _ _ _ L0a.length 1 L0a _ (Zfx0.out.nx T11.out).here (by omega)).mono ?_
        rintro e w12 ⟨rfl, om0, ggm0⟩
        have M12 := Lib.hid (((chg_none_to T11.out : Chg B0 E0 w6 w11)).row ggm0 (fun j hj => by have hx := Zhx0.out j hj; have hn := Zhn.out; omega))
        obtain ⟨k12, hk12⟩ : ∃ k : Nat, 1 + L0a.length = k := ⟨_, rfl⟩
        rw [hk12]
        have hkb12 : k12 ≤ 10000000 := by omega
        clear om0 ggm0 hk12 n0_0 n0_1 n0_2
        have n1_0 : w12.cell? ⟨E1, 0, none⟩ = some (.slice Arx1 L1a.length crx1) := (Zkx1.out.chg M12.out (by have hn := Zhn.out; omega)).cell 0
        have n1_1 : w12.cell? ⟨E1, 1, none⟩ = some (.slice Acx1 L1b.length ccx1) := (Zkx1.out.chg M12.out (by have hn := Zhn.out; omega)).cell 1
        go_wp2_with fail
        refine (lawsMarkClasses _ _ _ L1a.length L1b.length k12 L1a L1b _ (Zfx1.out.chg M12.out (by have hn := Zhn.out; omega)).here (by omega)).mono ?_
        rintro e w13 ⟨rfl, om1, wmm1, omm1, ggm1, ghm1⟩
        have M13 := Lib.hid ((((M12.out.mono (lo' := B0) (hi' := E1) (Nat.le_refl _) (by have hn := Zhn.out; omega))).row ggm1 (fun j hj => by have hx := Zhx1.out j (.inl hj); have hn := Zhn.out; omega)).row ghm1 (fun j hj => by have hx := Zhx1.out j (.inr hj); have hn := Zhn.out; omega))
        obtain ⟨k13, hk13⟩ : ∃ k : Nat, k12 + L1a.length + L1b.length = k := ⟨_, rfl⟩
        rw [hk13]
        have hkb13 : k13 ≤ 20000000 := by omega
        clear om1 ggm1 ghm1 hk13 n1_0 n1_1 omm1
        have hk0 : ¬ (k13 : Int) < 0 := by omega
        go_wp2_with fail
        refine (lawsEqOwnD _ _ _ _ R _ (Zfg.out.chg M13.out (by have hn := Zhn.out; omega)).here (Zfw.out.chg M13.out (by have hn := Zhn.out; omega)).here (by omega)).mono ?_
        rintro e w14 ⟨rfl, hg⟩
        have M14 := Lib.hid (M13.out.gb hg)
        clear hg hk0
        go_wp2_with fail
        refine (lawsMarkD _ _ R.length 1 R _ (Zfg.out.chg M14.out (by have hn := Zhn.out; omega)).here (by omega)).mono ?_
        rintro e w15 ⟨rfl, omg, ggmg⟩
        have MG := Lib.hid (((M14.out.mono (lo' := B0) (hi' := Eg) (Nat.le_refl _) (by have hn := Zhn.out; omega))).row ggmg (fun j hj => by have hx := Zhg.out j hj; have hn := Zhn.out; omega))
        obtain ⟨km, hkm⟩ : ∃ k : Nat, 1 + R.length * 2 = k := ⟨_, rfl⟩
        rw [hkm]
        have hkb : km ≤ 100000000 := by omega
        have HKM := Lib.hid (hkm)
        have hkn : ¬ (km : Int) < 0 := by omega
        have FM := Lib.hid (fix_row omg)
        clear omg ggmg hkm
        have KE0m := Lib.hid ((KE0.out.nx RS.out).chg MG.out (by have hb := KE0.out.lt; have hn := Zhn.out; omega))
        have KE1m := Lib.hid ((KE1.out.nx RS.out).chg MG.out (by have hb := KE1.out.lt; have hn := Zhn.out; omega))
        have BEm := Lib.hid ((BE.out.trans (RS.out.below (.inr (Nat.le_refl _)) BE.out.size)).trans (MG.out.below (.inl (by have hb := GE.out.size; have hn := Zhn.out; omega)) (by have hb := BE.out.size; have hc := RS.out.size; omega)))
        have FWm := Lib.hid (Zfw.out.chg MG.out (by have hn := Zhn.out; omega))
        have RDA0am := Lib.hid (fun (w' : World) (hq : Chg 0 0 w15 w') => HA0a.out.chg BEm.out hq (.inr (Nat.le_refl _)))
        have RDA1am := Lib.hid (fun (w' : World) (hq : Chg 0 0 w15 w') => HA1a.out.chg BEm.out hq (.inr (Nat.le_refl _)))
        have RDA1bm := Lib.hid (fun (w' : World) (hq : Chg 0 0 w15 w') => HA1b.out.chg BEm.out hq (.inr (Nat.le_refl _)))
        have U0 := Lib.hid (Chg.refl 0 0 w15)
        go_wp2_with fail
        refine (lawsHeldOwnD _ _ R.length 1 _ (FM.out.nx (U0.out)).here (by omega)).mono ?_
        rintro e w16 ⟨rfl, hg⟩
        rw [HKM.out]
        have U16 := Lib.hid ((U0.out).gb hg)
        clear hg
        go_wp2_with fail
        have KPh := Lib.hid (fun (w' : World) (hq : Chg 0 0 w15 w') => (show w'.cell? ⟨w.heap.size, 0, none⟩ = some (.int .i64 S0a) ∧ w'.cell? ⟨w.heap.size, 1, none⟩ = some (.int .i64 S0b) ∧ w'.cell? ⟨w.heap.size, 2, none⟩ = some (.slice A0a L0a.length c0a) ∧ w'.cell? ⟨w.heap.size + 1, 0, none⟩ = some (.slice A1a L1a.length c1a) ∧ w'.cell? ⟨w.heap.size + 1, 1, none⟩ = some (.slice A1b L1b.length c1b) from ⟨(KE0m.out.nx hq).cell 0, (KE0m.out.nx hq).cell 1, (KE0m.out.nx hq).cell 2, (KE1m.out.nx hq).cell 0, (KE1m.out.nx hq).cell 1⟩))
        go_region_held3 (fun w' => w'.cell? ⟨w.heap.size, 0, none⟩ = some (.int .i64 S0a) ∧ w'.cell? ⟨w.heap.size, 1, none⟩ = some (.int .i64 S0b) ∧ w'.cell? ⟨w.heap.size, 2, none⟩ = some (.slice A0a L0a.length c0a) ∧ w'.cell? ⟨w.heap.size + 1, 0, none⟩ = some (.slice A1a L1a.length c1a) ∧ w'.cell? ⟨w.heap.size + 1, 1, none⟩ = some (.slice A1b L1b.length c1b))
          (first | with_reducible exact KPh.out _ (U16.out) | with_reducible exact KPh.out _ (U16.out.dr) | with_reducible exact KPh.out _ (R17.out) | with_reducible exact KPh.out _ (R18.out) | with_reducible exact KPh.out _ (R19.out) | fail)
          (first
            | (go_at_call 31; (with_reducible refine (lawsToMesh _ _ _ _ _ _ _ (RDA0am.out _ (U16.out.dr)) hnA0a).mono ?_); rintro e w17 ⟨gh0, rfl, oh0, bh0⟩; have R17 : Hid (Chg 0 0 w15 w17) := Lib.hid ((U16.out.dr).bl bh0); have Q17 := Lib.hid (chg_gb 0 0 (gb_of_below bh0 none)); have F17 := Lib.hid (fix_row oh0); clear bh0 oh0)
            | (go_at_call 32; (with_reducible refine (lawsToClasses _ _ _ _ _ _ _ _ _ (RDA1am.out _ (R17.out)) (RDA1bm.out _ (R17.out)) hnA1a hnA1b).mono ?_); rintro e w18 ⟨ph1, qh1, rfl, oh1, bh1⟩; obtain ⟨Arh1, crh1, rfl, _⟩ := own_form oh1.r; obtain ⟨Ach1, cch1, rfl, _⟩ := own_form oh1.c; have R18 : Hid (Chg 0 0 w15 w18) := Lib.hid ((R17.out).bl bh1); have Q18 := Lib.hid (chg_gb 0 0 (gb_of_below bh1 none)); have F18 := Lib.hid (fix_vrow oh1); clear bh1 oh1)
            | (go_at_call 42; (with_reducible refine (HIM.out _ _ _ _ _ _ _ _ _ _ (intAt_own ((F17.out.nx Q18.out).here) rfl (Nat.le_refl _)) (intAt_own (F18.out.here.r) rfl (Nat.le_refl _)) (intAt_own (F18.out.here.c) rfl (Nat.le_refl _)) (by omega) (by omega) (by omega) (own_cap ((F17.out.nx Q18.out).here)).1 (own_cap (F18.out.here.r)).1 (own_cap (F18.out.here.c)).1).mono ?_); rintro e w19 ⟨ph, rfl, oh, bh⟩; obtain ⟨Arh, crh, rfl, _⟩ := own_form oh; have R19 : Hid (Chg 0 0 w15 w19) := Lib.hid ((R18.out).bl bh); have Q19 := Lib.hid (chg_gb 0 0 (gb_of_below bh none)); have F19 := Lib.hid (fix_row oh); have HLh := Lib.hid (F19.out.here.lt); clear bh oh)
            | fail)
        all_goals
          go_wp2_with fail
          refine (lawsEqOwnD _ _ _ _ R _ F19.out.here (FWm.out.nx (R19.out)).here (by omega)).mono ?_
          rintro e w20 ⟨rfl, hg⟩
          have U20 := Lib.hid ((R19.out).gb hg)
          clear hg
          go_wp2_with fail
          refine (lawsHeldOwnD _ _ R.length 1 _ (FM.out.nx (U20.out)).here (by omega)).mono ?_
          rintro e w21 ⟨rfl, hg⟩
          rw [HKM.out]
          have U21 := Lib.hid ((U20.out).gb hg)
          clear hg
          go_wp2_with fail
          go_ret
          exact ⟨rfl, BEm.out.trans ((U21.out).below (.inr (Nat.le_refl _)) BEm.out.size)⟩
end Go.Proofs.Ytcmlnokfjbglaaa
end

section
namespace Go.Proofs.Ytcmlnokfjbglaaa
open Go.ChangeShapes Go.WideShapes Go.ChangeAt Go.RowKit
set_option linter.unusedVariables false

/-- A new verdict: two new rows apart from each other. -/
def NewV (v : Verd) (w : World) (e : Ending) (w' : World) : Prop :=
  ∃ vr vc, e = .returned (.agg #[.int .i64 v.code, vr, vc]) ∧ VRow w' w.heap.size vr vc v.ranks.length v.cycle.length v.ranks v.cycle ∧ Below w.heap.size w w'
/-- The boxes: a mesh, a table, a verdict. -/
def vdB (W H : Int) (A A2 : Option Addr) (n cap n2 c2 : Nat) (cs : Array Value) (w : World) : World := (twoI W H A A2 n cap n2 c2 w).alloc (.cells cs 48)
section
variable {W H : Int} {A A2 : Option Addr} {n cap n2 c2 : Nat} {cs : Array Value} {w wr w' : World}
theorem vdB_size : (vdB W H A A2 n cap n2 c2 cs w).heap.size = w.heap.size + 3 := by unfold vdB; rw [alloc_size, twoI_size]
theorem vdB_gb : w.grownBy (vdB W H A A2 n cap n2 c2 cs w) none := gb_alloc twoI_gb _
/-- The boxes as they are. -/
structure VdAt (W H : Int) (A A2 : Option Addr) (n cap n2 c2 : Nat) (cs : Array Value) (w wr : World) : Prop where
  m : Blk wr w.heap.size 30 (meshC W H A n cap)
  t : Blk wr (w.heap.size + 1) 32 #[.slice A2 n2 c2]
  v : Blk wr (w.heap.size + 2) 48 cs
  g : w.grownBy wr none
theorem vdAt_start (cs : Array Value) (w : World) : VdAt W H A A2 n cap n2 c2 cs w (vdB W H A A2 n cap n2 c2 cs w) := by
  have hv := Blk.new (twoI W H A A2 n cap n2 c2 w) 48 cs
  rw [twoI_size] at hv
  exact ⟨(twoI_mesh (gb_refl _ _)).alloc _, (twoI_table (gb_refl _ _)).alloc _, hv, vdB_gb⟩
theorem VdAt.gb (h : VdAt W H A A2 n cap n2 c2 cs w wr) (hg : wr.grownBy w' none) : VdAt W H A A2 n cap n2 c2 cs w w' := ⟨h.m.grown hg (by simp), h.t.grown hg (by simp), h.v.grown hg (by simp), gb_trans h.g hg⟩
theorem VdAt.sz (h : VdAt W H A A2 n cap n2 c2 cs w wr) : w.heap.size + 3 ≤ wr.heap.size := by have := h.v.lt; omega
theorem vd_gb (wr : World) (g : Nat) (c : Int) (vr vc : Value) : wr.grownBy (((wr.setCell ⟨g, 0, none⟩ (.int .i64 c)).setCell ⟨g, 1, none⟩ vr).setCell ⟨g, 2, none⟩ vc) (some g) := by
  have g1 := gb_setCell (gb_refl wr (some g)) (p := ⟨g, 0, none⟩) (.inl rfl) (.int .i64 c)
  have g2 := gb_setCell g1 (p := ⟨g, 1, none⟩) (.inl rfl) vr
  exact gb_setCell g2 (p := ⟨g, 2, none⟩) (.inl rfl) vc
/-- The verdict is written. -/
theorem vd_put {c : Int} {vr vc : Value} (h : VdAt W H A A2 n cap n2 c2 cs w wr) : Below w.heap.size w (((wr.setCell ⟨w.heap.size + 2, 0, none⟩ (.int .i64 c)).setCell ⟨w.heap.size + 2, 1, none⟩ vr).setCell ⟨w.heap.size + 2, 2, none⟩ vc) := by
  have h0 : Below w.heap.size w wr := gb_below_none h.g (Nat.le_refl _)
  have hg : wr.grownBy (((wr.setCell ⟨w.heap.size + 2, 0, none⟩ (.int .i64 c)).setCell ⟨w.heap.size + 2, 1, none⟩ vr).setCell ⟨w.heap.size + 2, 2, none⟩ vc) (some (w.heap.size + 2)) := vd_gb wr (w.heap.size + 2) c vr vc
  exact h0.grown hg (by have := h.sz; omega) (fun j e => by cases e; omega)
theorem vd_row {c : Int} {vr vc v : Value} {k B : Nat} {xs : List Value} (h : VdAt W H A A2 n cap n2 c2 cs w wr) (ho : wr.ownsRow B 3 1 v k xs) : (((wr.setCell ⟨w.heap.size + 2, 0, none⟩ (.int .i64 c)).setCell ⟨w.heap.size + 2, 1, none⟩ vr).setCell ⟨w.heap.size + 2, 2, none⟩ vc).ownsRow B 3 1 v k xs := by
  have hg : wr.grownBy (((wr.setCell ⟨w.heap.size + 2, 0, none⟩ (.int .i64 c)).setCell ⟨w.heap.size + 2, 1, none⟩ vr).setCell ⟨w.heap.size + 2, 2, none⟩ vc) (some (w.heap.size + 2)) := vd_gb wr (w.heap.size + 2) c vr vc
  exact row_kept ho hg (fun j e => by cases e; exact own_ne ho h.v (by decide))
/-- The cells of the verdict that was written. -/
theorem vd_cells {c : Int} {vr vc a b d : Value} (h : VdAt W H A A2 n cap n2 c2 #[a, b, d] w wr) : Blk (((wr.setCell ⟨w.heap.size + 2, 0, none⟩ (.int .i64 c)).setCell ⟨w.heap.size + 2, 1, none⟩ vr).setCell ⟨w.heap.size + 2, 2, none⟩ vc) (w.heap.size + 2) 48 #[.int .i64 c, vr, vc] := by
  have := ((h.v.set_ 0 (.int .i64 c)).set_ 1 vr).set_ 2 vc
  simpa using this
end
end Go.Proofs.Ytcmlnokfjbglaaa
end

section
namespace Go.Proofs.Ytcmlnokfjbglaaa
open Go.ChangeShapes Go.WideShapes Go.ChangeAt Go.RowKit
set_option linter.unusedVariables false
set_option maxRecDepth 20000

theorem new_at2 (w : World) (o o2 : Obj) (t : TypeId) (cs : Array Value) : Blk ((w.alloc o).alloc (.cells cs t)) (w.heap.size + 1) t cs := by
  have h := Blk.new (w.alloc o) t cs
  rw [alloc_size] at h
  exact h
theorem lawsEqVerdict (z : Int) (vr1 vc1 vr2 vc2 : Value) (b1 b2 : Nat) (R C : List Int) (w : World) (h1 : VRow w b1 vr1 vc1 R.length C.length R C) (h2 : VRow w b2 vr2 vc2 R.length C.length R C) (hR : R.length ≤ 1000000000) (hC : C.length ≤ 1000000000) :
    Calls Try.prog 45 #[.agg #[.int .i64 z, vr1, vc1], .agg #[.int .i64 z, vr2, vc2]] w (RetB true w) := by
  obtain ⟨A1, c1, rfl, _⟩ := own_form h1.r
  obtain ⟨A2, c2, rfl, _⟩ := own_form h1.c
  obtain ⟨A3, c3, rfl, _⟩ := own_form h2.r
  obtain ⟨A4, c4, rfl, _⟩ := own_form h2.c
  have hg := gb_alloc (gb_alloc (gb_refl w none) (.cells #[.int .i64 z, .slice A1 R.length c1, .slice A2 C.length c2] 48)) (.cells #[.int .i64 z, .slice A3 R.length c3, .slice A4 C.length c4] 48)
  have H1 := Lib.hid (h1.gb hg)
  have H2 := Lib.hid (h2.gb hg)
  have HB1 := Lib.hid ((Blk.new w 48 #[.int .i64 z, .slice A1 R.length c1, .slice A2 C.length c2]).alloc (.cells #[.int .i64 z, .slice A3 R.length c3, .slice A4 C.length c4] 48))
  have HB2 := Lib.hid (new_at2 w (.cells #[.int .i64 z, .slice A1 R.length c1, .slice A2 C.length c2] 48) (.cells #[] 3) 48 #[.int .i64 z, .slice A3 R.length c3, .slice A4 C.length c4])
  have HG := Lib.hid hg
  clear h1 h2 hg
  go_enter Try.func45, Try.ntmps45
  go_wp2_with fail
  refine (lawsEqOwn _ _ b1 b2 R _ H1.out.r H2.out.r hR).mono ?_
  rintro e w2 ⟨rfl, hg2⟩
  have HG2 := Lib.hid (gb_trans HG.out hg2)
  have H12 := Lib.hid (H1.out.gb hg2)
  have H22 := Lib.hid (H2.out.gb hg2)
  have e0 : w2.cell? ⟨w.heap.size, 2, none⟩ = some (.slice A2 C.length c2) := (HB1.out.grown hg2 (by simp)).cell 2
  have e1 : w2.cell? ⟨w.heap.size + 1, 2, none⟩ = some (.slice A4 C.length c4) := (HB2.out.grown hg2 (by simp)).cell 2
  clear hg2
  go_wp2_with fail
  refine (lawsEqOwn _ _ b1 b2 C _ H12.out.c H22.out.c hC).mono ?_
  rintro e w3 ⟨rfl, hg3⟩
  have HG3 := Lib.hid (gb_trans HG2.out hg3)
  clear hg3 e0 e1
  go_wp2_with fail
  go_ret
  exact ⟨rfl, HG3.out⟩
end Go.Proofs.Ytcmlnokfjbglaaa
end

section
namespace Go.Proofs.Ytcmlnokfjbglaaa
open Go.ChangeShapes Go.WideShapes Go.ChangeAt Go.RowKit
set_option linter.unusedVariables false
set_option maxRecDepth 20000

/-- The rows are marked; a world between. -/
theorem lawsMarkVerdict (z : Int) (vr vc : Value) (base a b k0 : Nat) (R C : List Int) (w : World) (h : VRow w base vr vc a b R C) (hk : k0 + a + b ≤ 1000000000) :
    Calls Try.prog 46 #[.agg #[.int .i64 z, vr, vc], .int .i64 (k0 : Int)] w fun e w' => e = .returned (.int .i64 ((k0 + a + b : Nat) : Int)) ∧ VRow w' base vr vc a b (marksI k0 a) (marksI (k0 + a) b) ∧ ∃ w1, w1.ownsRow base 3 1 vr a (intsV (marksI k0 a)) ∧ w.grownBy w1 vr.ownBlock ∧ w1.grownBy w' vc.ownBlock := by
  obtain ⟨A1, c1, rfl, _⟩ := own_form h.r
  obtain ⟨A2, c2, rfl, _⟩ := own_form h.c
  have hg := gb_alloc (gb_refl w none) (.cells #[.int .i64 z, .slice A1 a c1, .slice A2 b c2] 48)
  have H1 := Lib.hid (h.gb hg)
  have HB1 := Lib.hid (Blk.new w 48 #[.int .i64 z, .slice A1 a c1, .slice A2 b c2])
  clear h hg
  go_enter Try.func46, Try.ntmps46
  go_wp2_with fail
  refine (lawsMarkI _ base a k0 R _ H1.out.r (by omega)).mono ?_
  rintro e w1 ⟨rfl, o1, g1⟩
  have O1 := Lib.hid o1
  have OC := Lib.hid (row_kept H1.out.c g1 (fun j e => H1.out.ap j e))
  have e0 : w1.cell? ⟨w.heap.size, 2, none⟩ = some (.slice A2 b c2) := (HB1.out.grown g1 (fun e => own_ne H1.out.r HB1.out (by decide) e.symm)).cell 2
  have G1 := Lib.hid (gb_trans (gb_alloc (gb_refl w _) (.cells #[.int .i64 z, .slice A1 a c1, .slice A2 b c2] 48)) g1)
  clear o1 g1
  go_wp2_with fail
  refine (lawsMarkI _ base b (k0 + a) C _ OC.out hk).mono ?_
  rintro e w2 ⟨rfl, o2, g2⟩
  have O2 := Lib.hid o2
  have OR := Lib.hid (row_kept O1.out g2 (fun j e e2 => H1.out.ap j e2 e))
  have G2 := Lib.hid g2
  clear o2 g2 e0
  go_wp2_with fail
  go_ret
  exact ⟨rfl, ⟨OR.out, O2.out, H1.out.ap⟩, w1, O1.out, G1.out, G2.out⟩
theorem lawsHeldVerdict (z : Int) (vr vc : Value) (base a b k0 : Nat) (w : World) (h : VRow w base vr vc a b (marksI k0 a) (marksI (k0 + a) b)) (hk : k0 + a + b ≤ 1000000000) :
    Calls Try.prog 47 #[.agg #[.int .i64 z, vr, vc], .int .i64 (k0 : Int)] w fun e w' => e = .returned (.int .i64 ((k0 + a + b : Nat) : Int)) ∧ w.grownBy w' none := by
  obtain ⟨A1, c1, rfl, _⟩ := own_form h.r
  obtain ⟨A2, c2, rfl, _⟩ := own_form h.c
  have hg := gb_alloc (gb_refl w none) (.cells #[.int .i64 z, .slice A1 a c1, .slice A2 b c2] 48)
  have H1 := Lib.hid (h.gb hg)
  have HB1 := Lib.hid (Blk.new w 48 #[.int .i64 z, .slice A1 a c1, .slice A2 b c2])
  have HG := Lib.hid hg
  have k1 : (0 : Int) ≤ ((k0 + a : Nat) : Int) := by omega
  have k2 : (0 : Int) ≤ ((k0 + a + b : Nat) : Int) := by omega
  have k3 : ¬ ((k0 + a : Nat) : Int) < 0 := by omega
  have k4 : ¬ ((k0 + a + b : Nat) : Int) < 0 := by omega
  clear h hg
  go_enter Try.func47, Try.ntmps47
  go_wp2_with fail
  refine (lawsHeldOwn _ base a k0 _ H1.out.r (by omega)).mono ?_
  rintro e w1 ⟨rfl, g1⟩
  have H2 := Lib.hid (H1.out.gb g1)
  have e0 : w1.cell? ⟨w.heap.size, 2, none⟩ = some (.slice A2 b c2) := (HB1.out.grown g1 (by simp)).cell 2
  have G1 := Lib.hid (gb_trans HG.out g1)
  clear g1
  go_wp2_with fail
  refine (lawsHeldOwn _ base b (k0 + a) _ H2.out.c hk).mono ?_
  rintro e w2 ⟨rfl, g2⟩
  have G2 := Lib.hid (gb_trans G1.out g2)
  clear g2 e0
  go_wp2_with fail
  go_ret
  exact ⟨rfl, G2.out⟩
end Go.Proofs.Ytcmlnokfjbglaaa
end

section
namespace Go.Proofs.Ytcmlnokfjbglaaa
open Go.ChangeShapes Go.WideShapes Go.ChangeAt Go.RowKit
set_option linter.unusedVariables false

section
variable {w wr w' : World} {g : Nat} {c : Int} {vr vc : Value}
theorem box_put (hb : Blk wr g 48 #[.int .i64 0, .slice none 0 0, .slice none 0 0]) (hg : w.grownBy wr none) (hw : w.heap.size ≤ g) : Below w.heap.size w (((wr.setCell ⟨g, 0, none⟩ (.int .i64 c)).setCell ⟨g, 1, none⟩ vr).setCell ⟨g, 2, none⟩ vc) := by
  have h0 : Below w.heap.size w wr := gb_below_none hg (Nat.le_refl _)
  have h1 : wr.grownBy (((wr.setCell ⟨g, 0, none⟩ (.int .i64 c)).setCell ⟨g, 1, none⟩ vr).setCell ⟨g, 2, none⟩ vc) (some g) := vd_gb wr g c vr vc
  exact h0.grown h1 (by have := hb.lt; omega) (fun j e => by cases e; omega)
theorem box_row {v : Value} {k B : Nat} {xs : List Value} (hb : Blk wr g 48 #[.int .i64 0, .slice none 0 0, .slice none 0 0]) (ho : wr.ownsRow B 3 1 v k xs) : (((wr.setCell ⟨g, 0, none⟩ (.int .i64 c)).setCell ⟨g, 1, none⟩ vr).setCell ⟨g, 2, none⟩ vc).ownsRow B 3 1 v k xs := by
  have hg : wr.grownBy (((wr.setCell ⟨g, 0, none⟩ (.int .i64 c)).setCell ⟨g, 1, none⟩ vr).setCell ⟨g, 2, none⟩ vc) (some g) := vd_gb wr g c vr vc
  exact row_kept ho hg (fun j e => by cases e; exact own_ne ho hb (by decide))
theorem box_cells {a b d : Value} (h : Blk wr g 48 #[a, b, d]) : Blk (((wr.setCell ⟨g, 0, none⟩ (.int .i64 c)).setCell ⟨g, 1, none⟩ vr).setCell ⟨g, 2, none⟩ vc) g 48 #[.int .i64 c, vr, vc] := by
  have := ((h.set_ 0 (.int .i64 c)).set_ 1 vr).set_ 2 vc
  simpa using this
end
end Go.Proofs.Ytcmlnokfjbglaaa
end

section
namespace Go.Proofs.Ytcmlnokfjbglaaa
open Go.ChangeShapes Go.WideShapes Go.ChangeAt Go.RowKit
set_option linter.unusedVariables false
set_option maxRecDepth 20000

theorem specFree (A AR : Option Addr) (n cap cR B B2 : Nat) (D : List Dep) (R : List Int) (c : Nat) (b : Bool) (hb : freeO D R c = b) (w : World) (h : DepAt w B A n D) (hR : IntAt w B2 AR 128 R) (hok : okD D = true) (hn : n ≤ 1000000000) :
    Calls Try.prog 101 #[.slice A n cap, .slice AR 128 cR, .int .i64 (c : Int)] w fun e w' => e = .returned (.bool b) ∧ w = w' := by
  have hl := h.1
  have HI := Lib.hid h
  have HR := Lib.hid hR
  have HIN := Lib.hid (fun k (hk : k < D.length) => inD_iff.1 (okD_in hok (atD_mem hk)))
  have HYES := Lib.hid (fun (h : ∀ i, i < D.length → holdO R (atD D i) c = false) => hb.symm.trans (freeO_iff.2 h))
  have HNO := Lib.hid (fun i (hi : i < D.length) (h : holdO R (atD D i) c = true) => hb.symm.trans (freeO_no hi h))
  clear h hR hok hb
  go_enter Try.func101, Try.ntmps101
  go_wp2_with fail
  go_loop [7] (fun i => ∃ k : Nat, i = .int .i64 (k : Int) ∧ k ≤ n ∧ ∀ j, j < k → holdO R (atD D j) c = false) (fun i => n - (intOf i).toNat)
  case atStart => exact ⟨0, rfl, Nat.zero_le _, fun j h => by omega⟩
  case round =>
    obtain ⟨k, rfl, hk, hne⟩ := hrel
    have HNE := Lib.hid hne
    clear hne
    by_cases hlt : k < n
    · obtain ⟨b1, off, rfl, hb1, c0, c1⟩ := HI.out.at k hlt
      obtain ⟨x, hx⟩ : ∃ x, atD D k = x := ⟨_, rfl⟩
      obtain ⟨x0, x1, x2, x3⟩ := HIN.out k (by omega)
      rw [hx] at c0 c1 x0 x1 x2 x3
      obtain ⟨m, hm⟩ : ∃ m : Nat, x.1 = (m : Int) := ⟨x.1.toNat, by omega⟩
      obtain ⟨q, hq⟩ : ∃ q : Nat, x.2 = (q : Int) := ⟨x.2.toNat, by omega⟩
      rw [hm] at c0 x0 x1
      rw [hq] at c1 x2 x3
      obtain ⟨b2, off2, rfl, hb2, hc2⟩ := HR.out.at m (by omega)
      obtain ⟨y, hy⟩ : ∃ y, R.getD m 0 = y := ⟨_, rfl⟩
      rw [hy] at hc2
      have hh : holdO R (atD D k) c = (decide ((q : Int) = (c : Int)) && decide (y < 0)) := by unfold holdO; rw [hx, hm, hq, Int.toNat_natCast, hy]
      have k0 : (0 : Int) ≤ (k : Int) := by omega
      have k1 : (k : Int) < (n : Int) := by omega
      have m0 : (0 : Int) ≤ (m : Int) := by omega
      have m1 : (m : Int) < 128 := by omega
      clear hx hm hq hy
      by_cases hqc : (q : Int) = (c : Int)
      · by_cases hyn : y < 0
        · have HB := Lib.hid (HNO.out k (by omega) (by rw [hh, decide_eq_true hqc, decide_eq_true hyn]; rfl))
          clear hh
          go_wp2_with fail
          go_ret
          exact ⟨ret_bool HB.out.symm, rfl⟩
        · have HB := Lib.hid (show holdO R (atD D k) c = false by rw [hh, decide_eq_false hyn, Bool.and_false])
          clear hh
          go_wp2_with fail
          go_round
          case rel => exact ⟨k + 1, by go_num, by omega, fun j hj => by rcases Nat.lt_succ_iff_lt_or_eq.1 hj with h | h; exact HNE.out j h; rw [h]; exact HB.out⟩
          case measure => simp [intOf]; omega
      · have HB := Lib.hid (show holdO R (atD D k) c = false by rw [hh, decide_eq_false hqc, Bool.false_and])
        have hqb : ((q : Int) == (c : Int)) = false := by simpa using hqc
        clear hh
        go_wp2_with fail
        go_round
        case rel => exact ⟨k + 1, by go_num, by omega, fun j hj => by rcases Nat.lt_succ_iff_lt_or_eq.1 hj with h | h; exact HNE.out j h; rw [h]; exact HB.out⟩
        case measure => simp [intOf]; omega
    · obtain rfl : k = n := by omega
      have HB := Lib.hid (HYES.out (fun j hj => HNE.out j (by omega)))
      go_wp2_with fail
      go_ret
      exact ⟨ret_bool HB.out.symm, rfl⟩

theorem new_none {D : List Dep} {w wr : World} (h : orderO D = none) (hb : Below w.heap.size w wr) : NewR (ranksO D) (canO D) w (.returned (.tuple #[.slice (some ⟨wr.heap.size, 0, none⟩) 0 0, .bool false])) (wr.alloc (.cells #[] 3)) := by
  obtain ⟨e1, e2⟩ := order_none h
  rw [e2]
  obtain ⟨h1, h2⟩ := own_empty e1 hb
  exact ⟨_, rfl, h1, h2⟩

/-- None of the first c channels can be ranked next; or the last one of them is the least that can. -/
def seekO (D : List Dep) (R : List Int) (z : Int) (c : Nat) : Prop :=
  (z = -1 ∧ c ≤ 128 ∧ ∀ j, j < c → candO D R j = false) ∨ (∃ c0 : Nat, z = (c0 : Int) ∧ c = c0 + 1 ∧ c0 < 128 ∧ bestO D R = some c0)
theorem seek_next {D : List Dep} {R : List Int} {z : Int} {c : Nat} (hz : z = -1) (hc : c < 128) (h : ∀ j, j < c → candO D R j = false) (hn : candO D R c = false) : seekO D R z (c + 1) :=
  .inl ⟨hz, hc, fun j hj => by rcases Nat.lt_succ_iff_lt_or_eq.1 hj with h1 | h1; exact h j h1; rw [h1]; exact hn⟩
set_option maxHeartbeats 1600000 in
theorem specOrderOf (A : Option Addr) (n cap : Nat) (D : List Dep) (w : World) (h : DepAt w w.heap.size A n D) (hn : n ≤ 1000000000) :
    Calls Try.prog 79 #[.slice A n cap] w (NewR (ranksO D) (canO D) w) := by
  obtain ⟨i0, hi, hz0, hz1, hz2⟩ := info_parts info_int
  have HI := Lib.hid h
  have HB0 := Lib.hid (show Below w.heap.size w (w.alloc (.cells #[] 3)) from (Below.refl _ _).alloc (Nat.le_refl _) _)
  have HOK := Lib.hid (fun (w' : World) (hb : Below w.heap.size w w') => specDependsOk A n cap D w' ((h.below hb).more hb.size) (by omega))
  clear h
  cases hok : okD D with
  | false =>
    have HN := Lib.hid (orderO_bad hok)
    have HRE := Lib.hid (own_empty (L := ranksO D) (order_none HN.out).1 (Below.refl w.heap.size w))
    have HC := Lib.hid (order_none HN.out).2
    rw [hok] at HOK
    clear hok
    go_enter Try.func79, Try.ntmps79
    go_wp2_with fail
    refine (HOK.out _ HB0.out).mono ?_
    rintro e w1 ⟨rfl, hg1⟩
    have O1 := Lib.hid (own_none HRE.out.1 hg1)
    have B1 := Lib.hid (below_gb HRE.out.2 (Nat.le_refl _) hg1)
    clear hg1
    go_wp2_with fail
    go_ret2
    exact ⟨_, ret_pair HC.out.symm, O1.out, B1.out⟩
  | true =>
    have HORD := Lib.hid (orderO_ok hok)
    have HOKD := Lib.hid hok
    rw [hok] at HOK
    clear hok
    go_enter Try.func79, Try.ntmps79
    go_wp2_with fail
    refine (HOK.out _ HB0.out).mono ?_
    rintro e w1 ⟨rfl, hg1⟩
    have X1 := Lib.hid (show RkAt w 0 (List.replicate 0 (-1)) (.slice (some ⟨w.heap.size, 0, none⟩) 0 0) w1 from ⟨own_none (World.ownsRow_made (base := w.heap.size) (e := 3) (size := 1) w #[] 0 (Nat.le_refl _) (by decide) rfl) hg1, below_gb HB0.out (Nat.le_refl _) hg1⟩)
    clear hg1
    go_wp2_with fail
    go_loopw [4, 5] (fun v i wr => ∃ k : Nat, i = .int .i64 (k : Int) ∧ k ≤ 128 ∧ RkAt w k (List.replicate k (-1)) v wr) (fun _ i _ => 128 - (intOf i).toNat)
    case atStart => exact ⟨0, rfl, Nat.zero_le _, X1.out⟩
    case round =>
      obtain ⟨k, rfl, hk, hx⟩ := hrel
      have X2 := Lib.hid hx
      obtain ⟨Av, cv, rfl, hav⟩ := own_form hx.1
      have HAV := Lib.hid hav
      clear hx hav
      by_cases hlt : k < 128
      · have b3 := Lib.hid (show ∀ u ∈ [Value.int .i64 (-1)], u.oneCell' = true by simp [Value.oneCell'])
        have b4 := Lib.hid (show k + 1 ≤ maxLen by unfold maxLen; omega)
        go_wp2_with (at_builtin; refine wpList_append_own _ rfl _ _ 28 rfl w.heap.size 3 i0 (.int .i64 0) 1 8 Try.underlying28 hi hz0 hz1 hz2 rfl (by decide) _ k _ rfl (X2.out.1.alloc _) ⟨wr.heap.size, 0, none⟩ 1 1 [.int .i64 (-1)] rfl rfl (World.news_of_block (cs := #[.int .i64 (-1)]) (t := 3) (fr := (0, 0)) (heap_alloc_new wr _)) b3.out b4.out (by omega) (by have := X2.out.2.size; simp; omega) ?_; intro v' w4 hown4 hgrow4 _)
        have X4 := Lib.hid (show RkAt w (k + 1) (List.replicate (k + 1) (-1)) v' w4 from by
          refine ⟨by rw [List.replicate_succ', intsV_append]; exact hown4, ?_⟩
          exact (X2.out.2.alloc X2.out.2.size _).grown hgrow4 (by have := X2.out.2.size; simp; omega) (fun j hj => (X2.out.1.lt j hj).1))
        clear hown4 hgrow4
        go_wp2_with fail
        go_roundw
        case rel => exact ⟨k + 1, by go_num, by omega, X4.out⟩
        case measure => simp [intOf]; omega
      · obtain rfl : k = 128 := by omega
        obtain ⟨g, hg⟩ := HAV.out (by omega)
        subst hg
        go_wp2_with fail
        simp only [show ((128 : Nat) : Int) = 128 from rfl]
        go_loopw [6] (fun i wr => ∃ (r : Nat) (R : List Int), i = .int .i64 (r : Int) ∧ r ≤ 128 ∧ ordTo D r = some R ∧ RkAt w 128 R (.slice (some ⟨g, 0, none⟩) 128 cv) wr) (fun i _ => 128 - (intOf i).toNat)
        case atStart => exact ⟨0, _, rfl, Nat.zero_le _, rfl, X2.out⟩
        case round =>
          obtain ⟨r, R, rfl, hr, hord, hx⟩ := hrel
          have X5 := Lib.hid hx
          have HO := Lib.hid hord
          clear hx hord
          by_cases hlt : r < 128
          · have hRl := ordTo_len HO.out
            have HLT := Lib.hid hlt
            go_wp2_with fail
            simp only [show ((r : Int) < 128) = True from eq_true (by have := HLT.out; omega), decide_true]
            clear hlt
            go_loopw [7, 8] (fun b i ws => ∃ (z : Int) (c : Nat), b = .int .i64 z ∧ i = .int .i64 (c : Int) ∧ RkAt w 128 R (.slice (some ⟨g, 0, none⟩) 128 cv) ws ∧ seekO D R z c) (fun _ i _ => 129 - (intOf i).toNat)
            case atStart => exact ⟨-1, 0, rfl, rfl, X5.out, .inl ⟨rfl, Nat.zero_le _, fun j h => by omega⟩⟩
            case round =>
              obtain ⟨z, c, rfl, rfl, hx, hseek⟩ := hrel
              have X7 := Lib.hid hx
              clear hx
              rcases hseek with ⟨hz, hc, hall⟩ | ⟨c0', hz, hcc, hc, hbest⟩
              · have HALL := Lib.hid hall
                have HZ := Lib.hid hz
                have hzn : z < 0 := by omega
                clear hall hz
                by_cases hlt2 : c < 128
                · have c0 := ints_cell X7.out.1 c (R.getD c 0) (by rw [List.getD, List.getElem?_eq_getElem (by omega)]; rfl) hRl
                  obtain ⟨y, hy⟩ : ∃ y, R.getD c 0 = y := ⟨_, rfl⟩
                  rw [hy] at c0
                  have k0 : (0 : Int) ≤ (c : Int) := by omega
                  have k1 : (c : Int) < 128 := by omega
                  have hcand : candO D R c = (decide (y < 0) && freeO D R c) := by unfold candO; rw [hy]
                  by_cases hyn : y < 0
                  · cases hf : freeO D R c with
                    | false =>
                      have HF := Lib.hid (fun B B2 w h hR => specFree A (some ⟨g, 0, none⟩) n cap cv B B2 D R c false hf w h hR HOKD.out hn)
                      have HCN := Lib.hid (show candO D R c = false by rw [hcand, hf, Bool.and_false])
                      clear hy hcand hf
                      go_wp2_with fail
                      refine (HF.out _ _ _ (HI.out.below X7.out.2) (intAt_own X7.out.1 hRl (Nat.le_refl _))).mono ?_
                      rintro e w6 ⟨rfl, rfl⟩
                      go_wp2_with fail
                      go_roundw
                      case rel => exact ⟨z, c + 1, rfl, by go_num, X7.out, seek_next HZ.out hlt2 HALL.out HCN.out⟩
                      case measure => simp [intOf]; omega
                    | true =>
                      have HF := Lib.hid (fun B B2 w h hR => specFree A (some ⟨g, 0, none⟩) n cap cv B B2 D R c true hf w h hR HOKD.out hn)
                      have HCN := Lib.hid (bestO_some hlt2 (by rw [hcand, hf, decide_eq_true hyn]; rfl) HALL.out)
                      clear hy hcand hf
                      go_wp2_with fail
                      refine (HF.out _ _ _ (HI.out.below X7.out.2) (intAt_own X7.out.1 hRl (Nat.le_refl _))).mono ?_
                      rintro e w6 ⟨rfl, rfl⟩
                      go_wp2_with fail
                      go_roundw
                      case rel => exact ⟨(c : Int), c + 1, rfl, by go_num, X7.out, .inr ⟨c, rfl, rfl, hlt2, HCN.out⟩⟩
                      case measure => simp [intOf]; omega
                  · have HCN := Lib.hid (show candO D R c = false by rw [hcand, decide_eq_false hyn, Bool.false_and])
                    clear hy hcand
                    go_wp2_with fail
                    go_roundw
                    case rel => exact ⟨z, c + 1, rfl, by go_num, X7.out, seek_next HZ.out hlt2 HALL.out HCN.out⟩
                    case measure => simp [intOf]; omega
                · obtain rfl : c = 128 := by omega
                  have HE := Lib.hid (HORD.out.trans (ordTo_dead (ordTo_stop HO.out (bestO_none HALL.out)) (by have := HLT.out; omega)))
                  go_wp2_with fail
                  go_ret2
                  exact new_none HE.out X7.out.2
              · have HNX := Lib.hid (ordTo_next HO.out hbest)
                have X6 := Lib.hid (X7.out.set c0' (r : Int))
                have c0 := ints_cell X7.out.1 c0' (R.getD c0' 0) (by rw [List.getD, List.getElem?_eq_getElem (by omega)]; rfl) hRl
                have f0 := X7.out.1.frozenAt c0'
                have k0 : (0 : Int) ≤ (c0' : Int) := by omega
                have k1 : (c0' : Int) < 128 := by omega
                have k2 : ¬ (c0' : Int) < 0 := by omega
                subst hz
                clear hbest
                by_cases h9 : c < 128
                · have h8 : (c : Int) < 128 := by omega
                  clear hcc
                  go_wp2_with fail
                  go_roundw
                  case rel => exact ⟨r + 1, _, by go_num, by have := HLT.out; omega, HNX.out, X6.out⟩
                  case measure => have := HLT.out; simp [intOf]; omega
                · have h8 : ¬ (c : Int) < 128 := by omega
                  clear hcc
                  go_wp2_with fail
                  go_roundw
                  case rel => exact ⟨r + 1, _, by go_num, by have := HLT.out; omega, HNX.out, X6.out⟩
                  case measure => have := HLT.out; simp [intOf]; omega
          · obtain rfl : r = 128 := by omega
            have HE := Lib.hid (order_some (HORD.out.trans HO.out))
            have hRl := ordTo_len HO.out
            go_wp2_with fail
            go_ret2
            refine ⟨_, ret_pair HE.out.2.symm, ?_, X5.out.2⟩
            have h3 := X5.out.1
            rw [HE.out.1, hRl]
            exact h3
end Go.Proofs.Ytcmlnokfjbglaaa
end

section
namespace Go.Proofs.Ytcmlnokfjbglaaa
open Go.ChangeShapes Go.WideShapes Go.ChangeAt Go.RowKit
set_option linter.unusedVariables false

/-- X: the numbers found (0: none), N: the channels found at level n, P: the successors that were looked at. -/
structure Bfs (D : List Dep) (a n : Nat) (P : Nat → Prop) (X N : List Int) : Prop where
  len : X.length = 128
  old : ∀ t, t < 128 → X.getD t 0 ≠ 0 → ∃ m : Nat, X.getD t 0 = (m : Int) ∧ 1 ≤ m ∧ m ≤ n ∧ fstB D a m t ∧ (m = n → (t : Int) ∈ N)
  zer : ∀ t, t < 128 → X.getD t 0 = 0 → ¬ P t ∧ ∀ m, 1 ≤ m → m < n → wayB D a m t = false
  nxt : ∀ x ∈ N, 0 ≤ x ∧ x < 128 ∧ X.getD x.toNat 0 = (n : Int)
  nod : N.Nodup
theorem Bfs.congr {D : List Dep} {a n : Nat} {P Q : Nat → Prop} {X N : List Int} (h : Bfs D a n P X N) (hq : ∀ t, t < 128 → Q t → P t) : Bfs D a n Q X N :=
  ⟨h.len, h.old, fun t ht h0 => ⟨fun hp => (h.zer t ht h0).1 (hq t ht hp), (h.zer t ht h0).2⟩, h.nxt, h.nod⟩
theorem Bfs.few {D : List Dep} {a n : Nat} {P : Nat → Prop} {X N : List Int} (h : Bfs D a n P X N) : N.length ≤ 128 := by
  have h1 : (N.map Int.toNat).Nodup := by
    rw [List.nodup_iff_pairwise_ne, List.pairwise_map]
    refine List.Pairwise.imp_of_mem ?_ (List.nodup_iff_pairwise_ne.1 h.nod)
    intro x y hx hy hne he
    have := h.nxt x hx
    have := h.nxt y hy
    exact hne (by omega)
  have := pigeon 128 _ h1 (fun x hx => by
    obtain ⟨y, hy, rfl⟩ := List.mem_map.1 hx
    have := h.nxt y hy
    omega)
  rwa [List.length_map] at this
theorem Bfs.miss {D : List Dep} {a n s : Nat} {P : Nat → Prop} {X N : List Int} (h : Bfs D a n P X N) (hs : X.getD s 0 ≠ 0) : Bfs D a n (fun t => P t ∨ t = s) X N :=
  ⟨h.len, h.old, fun t ht h0 => ⟨fun hp => by
    rcases hp with hp | rfl
    · exact (h.zer t ht h0).1 hp
    · exact hs h0, (h.zer t ht h0).2⟩, h.nxt, h.nod⟩
theorem Bfs.hit {D : List Dep} {a n s : Nat} {P : Nat → Prop} {X N : List Int} (h : Bfs D a n P X N) (hn : 1 ≤ n) (hs : s < 128) (h0 : X.getD s 0 = 0) (hw : wayB D a n s = true) : Bfs D a n (fun t => P t ∨ t = s) (X.set s (n : Int)) (N ++ [(s : Int)]) := by
  have hsl : s < X.length := by rw [h.len]; exact hs
  have hnew : (s : Int) ∉ N := fun hm => by
    have := (h.nxt _ hm).2.2
    rw [Int.toNat_natCast, h0] at this
    omega
  refine ⟨by rw [List.length_set]; exact h.len, fun t ht hx => ?_, fun t ht hx => ?_, fun x hx => ?_, ?_⟩
  · by_cases e : s = t
    · subst e
      rw [set_getD hsl, if_pos rfl]
      exact ⟨n, rfl, hn, Nat.le_refl _, ⟨hw, (h.zer s hs h0).2⟩, fun _ => List.mem_append_right _ (List.mem_singleton.2 rfl)⟩
    · rw [set_getD hsl, if_neg e] at hx ⊢
      obtain ⟨m, h1, h2, h3, h4, h5⟩ := h.old t ht hx
      exact ⟨m, h1, h2, h3, h4, fun e => List.mem_append_left _ (h5 e)⟩
  · by_cases e : s = t
    · subst e
      rw [set_getD hsl, if_pos rfl] at hx
      omega
    · rw [set_getD hsl, if_neg e] at hx
      refine ⟨fun hp => ?_, (h.zer t ht hx).2⟩
      rcases hp with hp | hp
      · exact (h.zer t ht hx).1 hp
      · exact e hp.symm
  · rcases List.mem_append.1 hx with hx | hx
    · obtain ⟨h1, h2, h3⟩ := h.nxt x hx
      refine ⟨h1, h2, ?_⟩
      rw [set_getD hsl]
      split
      · rfl
      · exact h3
    · rw [List.mem_singleton.1 hx]
      refine ⟨by omega, by omega, ?_⟩
      rw [set_getD hsl, Int.toNat_natCast, if_pos rfl]
  · rw [List.nodup_append]
    refine ⟨h.nod, by simp, fun x hx y hy e => ?_⟩
    rw [List.mem_singleton] at hy
    subst hy
    subst e
    exact hnew hx
/-- The successors of a whole level. -/
def allP (D : List Dep) (a n : Nat) (t : Nat) : Prop := ∃ u, levB D a (n - 1) u ∧ edgeB D u t = true
/-- The front of level n. -/
structure Front (D : List Dep) (a n : Nat) (F : List Int) : Prop where
  lev : ∀ v : Nat, (v : Int) ∈ F ↔ levB D a (n - 1) v
  rng : ∀ x ∈ F, 0 ≤ x ∧ x < 128
theorem front_one (D : List Dep) {a : Nat} (ha : a < 128) : Front D a 1 [(a : Int)] :=
  ⟨fun v => by rw [List.mem_singleton]; exact ⟨fun e => by have : v = a := by omega
                                                           exact this, fun e => by have : v = a := e
                                                                                   rw [this]⟩, fun x hx => by rw [List.mem_singleton] at hx; omega⟩
theorem bfs_start (D : List Dep) (a : Nat) {X : List Int} (hX : X.length = 128) (h0 : ∀ t, t < 128 → X.getD t 0 = 0) : Bfs D a 1 (fun _ => False) X [] :=
  ⟨hX, fun t ht h => absurd (h0 t ht) h, fun t ht _ => ⟨fun h => h, fun m h1 h2 => by omega⟩, fun x hx => (by cases hx), List.nodup_nil⟩
theorem Bfs.found {D : List Dep} (hD : okD D = true) {a n : Nat} {X N : List Int} (h : Bfs D a n (allP D a n) X N) (hn : 1 ≤ n) {t : Nat} (ht : t < 128) (h0 : X.getD t 0 = 0) {m : Nat} (h1 : 1 ≤ m) (h2 : m ≤ n) : wayB D a m t = false := by
  cases hw : wayB D a m t with
  | false => rfl
  | true =>
    obtain ⟨k, k1, k2, k3⟩ := fst_ex h1 hw
    by_cases hk : k < n
    · have k4 := k3.1
      rw [(h.zer t ht h0).2 k k1 hk] at k4
      cases k4
    · obtain rfl : k = n := by omega
      obtain ⟨q, rfl⟩ : ∃ q, k = q + 1 := ⟨k - 1, by omega⟩
      obtain ⟨u, h3, h4⟩ := fst_back hD k3
      exact absurd ⟨u, h3, h4⟩ (h.zer t ht h0).1
theorem bfs_next {D : List Dep} (hD : okD D = true) {a n : Nat} {X N : List Int} (h : Bfs D a n (allP D a n) X N) (hn : 1 ≤ n) : Front D a (n + 1) N ∧ Bfs D a (n + 1) (fun _ => False) X [] := by
  constructor
  · refine ⟨fun v => ?_, fun x hx => ⟨(h.nxt x hx).1, (h.nxt x hx).2.1⟩⟩
    unfold levB
    rw [if_neg (by omega), Nat.add_sub_cancel]
    constructor
    · intro hv
      obtain ⟨h1, h2, h3⟩ := h.nxt _ hv
      rw [Int.toNat_natCast] at h3
      obtain ⟨m, h4, h5, h6, h7, _⟩ := h.old v (by omega) (by omega)
      have : m = n := by omega
      rwa [this] at h7
    · intro hf
      have hv := way_lt hD hn hf.1
      by_cases h0 : X.getD v 0 = 0
      · have hf4 := hf.1
        rw [h.found hD hn hv h0 hn (Nat.le_refl _)] at hf4
        cases hf4
      · obtain ⟨m, h4, h5, h6, h7, h8⟩ := h.old v hv h0
        exact h8 (dist_uniq (.inr ⟨h5, h7⟩) (.inr ⟨hn, hf⟩))
  · refine ⟨h.len, fun t ht hx => ?_, fun t ht hx => ⟨fun e => e, fun m h1 h2 => h.found hD hn ht hx h1 (by omega)⟩, fun x hx => (by cases hx), List.nodup_nil⟩
    obtain ⟨m, h1, h2, h3, h4, _⟩ := h.old t ht hx
    exact ⟨m, h1, h2, by omega, h4, fun e => by omega⟩
theorem lev_chain {D : List Dep} (hD : okD D = true) {a : Nat} : ∀ {k m t : Nat}, fstB D a (m + k) t → 1 ≤ m + k → ∃ v, levB D a m v
  | 0, m, t, h, h1 => ⟨t, by unfold levB; rw [if_neg (by omega)]; exact h⟩
  | k + 1, m, t, h, h1 => by
    obtain ⟨u, hu, _⟩ := fst_back hD (n := m + k) h
    by_cases h0 : m + k = 0
    · obtain rfl : m = 0 := by omega
      exact ⟨a, by unfold levB; rw [if_pos rfl]⟩
    · unfold levB at hu
      rw [if_neg h0] at hu
      exact lev_chain hD hu (by omega)
/-- All the least numbers of steps from a channel. -/
def distL (D : List Dep) (a : Nat) : List Int := (List.range 128).map fun t => (distD D a t : Int)
theorem distL_len (D : List Dep) (a : Nat) : (distL D a).length = 128 := by simp [distL]
theorem distL_at {D : List Dep} {a t : Nat} (h : t < 128) : (distL D a).getD t 0 = (distD D a t : Int) := by
  rw [List.getD_eq_getElem?_getD, distL, List.getElem?_map, List.getElem?_range h]; rfl
theorem list_extD {X Y : List Int} {n : Nat} (hX : X.length = n) (hY : Y.length = n) (h : ∀ t, t < n → X.getD t 0 = Y.getD t 0) : X = Y := by
  apply List.ext_getElem (by rw [hX, hY])
  intro i h1 h2
  have := h i (by omega)
  rw [List.getD_eq_getElem?_getD, List.getD_eq_getElem?_getD, List.getElem?_eq_getElem h1, List.getElem?_eq_getElem h2] at this
  exact this
theorem bfs_end {D : List Dep} (hD : okD D = true) {a n : Nat} {X : List Int} (h : Bfs D a n (fun _ => False) X []) (hf : Front D a n []) (hn : 1 ≤ n) : X = distL D a := by
  refine list_extD h.len (distL_len D a) fun t ht => ?_
  rw [distL_at ht]
  by_cases h0 : X.getD t 0 = 0
  · rw [h0]
    have : isDist D a t 0 := .inl ⟨rfl, fun m h1 => by
      cases hw : wayB D a m t with
      | false => rfl
      | true =>
        obtain ⟨k, k1, k2, k3⟩ := fst_ex h1 hw
        by_cases hk : k < n
        · have k4 := k3.1
          rw [(h.zer t ht h0).2 k k1 hk] at k4
          cases k4
        · obtain ⟨v, hv⟩ := lev_chain hD (k := k - (n - 1)) (m := n - 1) (t := t) (by rw [show n - 1 + (k - (n - 1)) = k by omega]; exact k3) (by omega)
          have := (hf.lev v).2 hv
          cases this⟩
    rw [dist_of hD this]
    rfl
  · obtain ⟨m, h1, h2, h3, h4, _⟩ := h.old t ht h0
    rw [h1, dist_of hD (.inr ⟨h2, h4⟩)]
/-- A front that is not empty is at a level of at most 129. -/
theorem front_le {D : List Dep} (hD : okD D = true) {a n : Nat} {F : List Int} (h : Front D a n F) (hF : 0 < F.length) : n ≤ 129 := by
  cases F with
  | nil => simp at hF
  | cons x F =>
    have hr := h.rng x (List.mem_cons_self ..)
    have h1 := (h.lev x.toNat).1 (by rw [Int.toNat_of_nonneg hr.1]; exact List.mem_cons_self ..)
    unfold levB at h1
    by_cases h0 : n - 1 = 0
    · omega
    · rw [if_neg h0] at h1
      have := fst_le hD h1
      omega
/-- What was looked at behind i channels of the front and k successors of the next one. -/
def seenP (D : List Dep) (F : List Int) (i : Nat) (S : List Int) (k : Nat) (t : Nat) : Prop := (∃ j, j < i ∧ edgeB D (F.getD j 0).toNat t = true) ∨ (∃ j, j < k ∧ S.getD j 0 = (t : Int))
theorem seen_one {D : List Dep} {F : List Int} {i : Nat} {S : List Int} {k s : Nat} (hs : S.getD k 0 = (s : Int)) : ∀ t, t < 128 → seenP D F i S (k + 1) t → (seenP D F i S k t ∨ t = s) := fun t _ h => by
  rcases h with h | ⟨j, hj, he⟩
  · exact .inl (.inl h)
  · rcases Nat.lt_succ_iff_lt_or_eq.1 hj with hj | rfl
    · exact .inl (.inr ⟨j, hj, he⟩)
    · right; omega
theorem seen_row {D : List Dep} {F : List Int} {i : Nat} {x : Nat} (hx : F.getD i 0 = (x : Int)) : ∀ t, t < 128 → seenP D F (i + 1) [] 0 t → seenP D F i (succD D (x : Int)) (succD D (x : Int)).length t := fun t _ h => by
  rcases h with ⟨j, hj, he⟩ | ⟨j, hj, _⟩
  · rcases Nat.lt_succ_iff_lt_or_eq.1 hj with hj | rfl
    · exact .inl ⟨j, hj, he⟩
    · rw [hx, Int.toNat_natCast, edge_succ] at he
      obtain ⟨q, hq, e⟩ := List.getElem_of_mem he
      refine .inr ⟨q, hq, ?_⟩
      rw [List.getD_eq_getElem?_getD, List.getElem?_eq_getElem hq, e]
      rfl
  · omega
theorem seen_begin {D : List Dep} {F : List Int} {i : Nat} {S : List Int} : ∀ t, t < 128 → seenP D F i S 0 t → seenP D F i [] 0 t := fun t _ h => by
  rcases h with h | ⟨j, hj, _⟩
  · exact .inl h
  · omega
theorem seen_zero {D : List Dep} {F : List Int} : ∀ t, t < 128 → seenP D F 0 [] 0 t → False := fun t _ h => by
  rcases h with ⟨j, hj, _⟩ | ⟨j, hj, _⟩ <;> omega
theorem seen_all {D : List Dep} {a n : Nat} {F : List Int} (hF : Front D a n F) : ∀ t, t < 128 → allP D a n t → seenP D F F.length [] 0 t := fun t _ h => by
  obtain ⟨u, h1, h2⟩ := h
  obtain ⟨q, hq, e⟩ := List.getElem_of_mem ((hF.lev u).2 h1)
  refine .inl ⟨q, hq, ?_⟩
  rw [List.getD_eq_getElem?_getD, List.getElem?_eq_getElem hq, e]
  simpa using h2
/-- A successor of a channel of the front is reached at its level. -/
theorem front_way {D : List Dep} (hD : okD D = true) {a n : Nat} {F : List Int} (hF : Front D a n F) (hn : 1 ≤ n) {x s : Nat} (hx : (x : Int) ∈ F) (hs : (s : Int) ∈ succD D (x : Int)) : wayB D a n s = true := by
  obtain ⟨m, rfl⟩ : ∃ m, n = m + 1 := ⟨n - 1, by omega⟩
  refine (wayB_next hD).2 ⟨x, ?_, edge_succ.2 hs⟩
  have h1 := (hF.lev x).1 hx
  rw [Nat.add_sub_cancel] at h1
  unfold levB at h1
  split at h1
  · rename_i h0
    rw [h0]
    exact wayB_zero.2 h1
  · exact h1.1
end Go.Proofs.Ytcmlnokfjbglaaa
end

section
namespace Go.Proofs.Ytcmlnokfjbglaaa
open Go.ChangeShapes Go.WideShapes Go.ChangeAt Go.RowKit
set_option linter.unusedVariables false
set_option maxRecDepth 20000

/-- A new row of 128 zeros. -/
theorem made_zeros : ∃ Z : List Int, Z.length = 128 ∧ (∀ t, t < 128 → Z.getD t 0 = 0) ∧ ∃ c : Array Value, (∀ w : World, (Instr.makeSlice 28 (.int .i64 128) (.int .i64 128)).run Try.prog w = .ok (.slice (some ⟨w.heap.size, 0, none⟩) 128 128) (w.alloc (.cells c 3))) ∧
    ∀ w : World, (w.alloc (.cells c 3)).ownsRow w.heap.size 3 1 (.slice (some ⟨w.heap.size, 0, none⟩) 128 128) 128 (intsV Z) := by
  obtain ⟨i0, hi, hz0, hz1, hz2⟩ := info_parts info_int
  refine ⟨List.replicate 128 0, List.length_replicate, fun t ht => ?_, madeCells #[Value.int .i64 0] 128, fun w => ?_, fun w => ?_⟩
  · rw [List.getD_eq_getElem?_getD, List.getElem?_replicate, if_pos ht]; rfl
  · have := run_make (P := Try.prog) w 28 3 i0 (.int .i64 0) Try.underlying28 hi hz0 .i64 .i64 128 128 (by decide) (by decide) (by rw [hz2]; decide) (by decide)
    rw [hz1] at this
    simpa [Value.cells] using this
  · have := World.ownsRow_lit (base := w.heap.size) (e := 3) (size := 1) w (madeCells #[Value.int .i64 0] 128) 128 (Nat.le_refl _) (by decide) (by simp [madeCells])
    rw [toList_madeCells_one] at this
    unfold intsV
    rw [List.map_replicate]
    exact this
theorem ints_at {w : World} {base g cap n : Nat} {L : List Int} (h : w.ownsRow base 3 1 (.slice (some ⟨g, 0, none⟩) n cap) n (intsV L)) (hn : L.length = n) {k : Nat} (hk : k < n) : w.cell? ⟨g, k, none⟩ = some (.int .i64 (L.getD k 0)) :=
  ints_cell h k (L.getD k 0) (by rw [List.getD, List.getElem?_eq_getElem (by omega)]; rfl) hn
theorem getD_memI {L : List Int} {k : Nat} (h : k < L.length) : L.getD k 0 ∈ L := by
  rw [List.getD_eq_getElem?_getD, List.getElem?_eq_getElem h]
  exact List.getElem_mem h

set_option maxHeartbeats 3200000 in
theorem specDepths (A : Option Addr) (n cap : Nat) (D : List Dep) (a : Nat) (ha : a < 128) (hok : okD D = true) (w : World) (h : DepAt w w.heap.size A n D) (hn : n ≤ 1000000000) :
    Calls Try.prog 103 #[.slice A n cap, .int .i64 (a : Int)] w (NewI (distL D a) w) := by
  obtain ⟨i0, hi, hz0, hz1, hz2⟩ := info_parts info_int
  have HI := Lib.hid h
  have HD := Lib.hid hok
  have HSU := Lib.hid (fun (x : Int) w h => specSuccessors A n cap D x w h (by omega))
  have hl := h.1
  have HSL := Lib.hid (fun x => (show (succD D x).length ≤ n from hl ▸ succ_length D x))
  obtain ⟨Z, hZl, hZ0, cz, hmk, hown⟩ := made_zeros
  have X0 := Lib.hid (show Dp w (.slice (some ⟨w.heap.size, 0, none⟩) 128 128) Z (.slice (some ⟨w.heap.size + 1, 0, none⟩) 1 1) [(a : Int)] (.slice none 0 0) [] (.slice none 0 0) [] ((w.alloc (.cells cz 3)).alloc (.cells #[.int .i64 (a : Int)] 3)) from by
    have e : (w.alloc (.cells cz 3)).heap.size = w.heap.size + 1 := alloc_size _ _
    have h2 := World.ownsRow_lit (base := w.heap.size) (e := 3) (size := 1) (w.alloc (.cells cz 3)) #[.int .i64 (a : Int)] 1 (by omega) (by decide) rfl
    rw [e] at h2
    refine ⟨(hown w).alloc _, h2, World.ownsRow_nil _ _ _ _, World.ownsRow_nil _ _ _ _, ((Below.refl _ _).alloc (Nat.le_refl _) _).alloc (by omega) _, fun g hg e => ?_, apart_none _, apart_none _, none_apart _, none_apart _⟩
    have h3 : w.heap.size = g := Option.some.inj hg
    have h4 : w.heap.size + 1 = g := Option.some.inj e
    omega)
  have HF1 := Lib.hid (front_one D ha)
  have HB1 := Lib.hid (bfs_start D a hZl hZ0)
  obtain ⟨G, hG⟩ : ∃ G, w.heap.size = G := ⟨_, rfl⟩
  have HG := Lib.hid hG
  clear h hok hown hZl hZ0 hl
  go_enter Try.func103, Try.ntmps103
  go_wp2_with fail
  simp only [hG] at X0 ⊢
  clear hG
  go_loopw [6, 7] (fun f i wr => ∃ (m : Nat) (X F : List Int), i = .int .i64 (m : Int) ∧ 1 ≤ m ∧ F.length ≤ 128 ∧ Front D a m F ∧ Bfs D a m (fun _ => False) X [] ∧ Dp w (.slice (some ⟨G, 0, none⟩) 128 128) X f F (.slice none 0 0) [] (.slice none 0 0) [] wr) (fun _ i _ => 200 - (intOf i).toNat)
  case atStart => exact ⟨1, Z, _, rfl, Nat.le_refl _, by simp, HF1.out, HB1.out, X0.out⟩
  case round =>
    obtain ⟨m, X, F, rfl, hm, hf128, hf, hb, hx⟩ := hrel
    have HM := Lib.hid hm
    have HF := Lib.hid hf
    have HB := Lib.hid hb
    have X2 := Lib.hid hx
    obtain ⟨Af, cf, rfl, haf⟩ := own_form hx.rf
    have HAF := Lib.hid haf
    obtain ⟨nF, hnF⟩ : ∃ nF, F.length = nF := ⟨_, rfl⟩
    have HNF := Lib.hid hnF
    have hnF128 : nF ≤ 128 := by omega
    clear hf128
    clear hm hf hb hx haf
    by_cases h0 : 0 < nF
    · have HM2 := Lib.hid (front_le HD.out HF.out (by omega))
      have hp : (0 : Int) < (nF : Int) := by omega
      simp only [hnF] at X2 ⊢
      clear hnF
      go_wp2_with fail
      have X3 := Lib.hid X2.out.begin
      go_loopw [8, 9] (fun q i wr => ∃ (j : Nat) (X N : List Int), i = .int .i64 (j : Int) ∧ j ≤ nF ∧ Bfs D a m (seenP D F j [] 0) X N ∧ Dp w (.slice (some ⟨G, 0, none⟩) 128 128) X (.slice Af nF cf) F q N (.slice none 0 0) [] wr) (fun _ i _ => nF - (intOf i).toNat)
      case atStart => exact ⟨0, X, [], rfl, Nat.zero_le _, HB.out.congr seen_zero, X3.out⟩
      case round =>
        obtain ⟨j, X, N, rfl, hj, hb, hx⟩ := hrel
        have HB2 := Lib.hid hb
        have X4 := Lib.hid hx
        clear hb hx
        by_cases hlt : j < nF
        · obtain ⟨gf, hgf⟩ := HAF.out (by have := HNF.out; omega)
          subst hgf
          have hjF : j < F.length := by have := HNF.out; omega
          have hmem := getD_memI hjF
          have hrg := HF.out.rng _ hmem
          obtain ⟨x, hxx⟩ : ∃ x : Nat, F.getD j 0 = (x : Int) := ⟨(F.getD j 0).toNat, by omega⟩
          have HX := Lib.hid hxx
          have c0 := ints_at (by have := X4.out.rf; rw [HNF.out] at this; exact this) HNF.out hlt
          rw [hxx] at hmem c0
          have HME := Lib.hid hmem
          have HLT := Lib.hid hlt
          have j0 : (0 : Int) ≤ (j : Int) := by omega
          have j1 : (j : Int) < (nF : Int) := by omega
          clear hmem hrg hxx hjF hlt
          go_wp2_with fail
          refine (HSU.out (x : Int) _ ((HI.out.below X4.out.lb).more X4.out.lb.size)).mono ?_
          rintro e w5 ⟨v5, rfl, o5, b5⟩
          have X5 := Lib.hid (X4.out.succ o5 b5)
          obtain ⟨As, cs, rfl, has⟩ := own_form o5
          have HAS := Lib.hid has
          obtain ⟨S, hS⟩ : ∃ S, succD D (x : Int) = S := ⟨_, rfl⟩
          have HSE := Lib.hid hS
          rw [hS] at X5 HAS
          obtain ⟨nS, hnS⟩ : ∃ nS, S.length = nS := ⟨_, rfl⟩
          have HNS := Lib.hid hnS
          have hnl : nS ≤ n := (by rw [← hnS, ← hS]; exact HSL.out (x : Int))
          clear o5 b5 has c0
          go_wp2_with fail
          simp only [hnS] at X5 ⊢
          clear hS hnS
          go_loopw [8, 11] (fun q i wr => ∃ (k : Nat) (X N : List Int), i = .int .i64 (k : Int) ∧ k ≤ nS ∧ Bfs D a m (seenP D F j S k) X N ∧ Dp w (.slice (some ⟨G, 0, none⟩) 128 128) X (.slice (some ⟨gf, 0, none⟩) nF cf) F q N (.slice As nS cs) S wr) (fun _ i _ => nS - (intOf i).toNat)
          case atStart => exact ⟨0, X, N, rfl, Nat.zero_le _, HB2.out.congr seen_begin, X5.out⟩
          case round =>
            obtain ⟨k, X, N, rfl, hk, hb, hx⟩ := hrel
            have HB3 := Lib.hid hb
            have X6 := Lib.hid hx
            clear hb hx
            by_cases hlt : k < nS
            · have hkS : k < S.length := by have := HNS.out; omega
              have hmS := getD_memI hkS
              have hrg : 0 ≤ S.getD k 0 ∧ S.getD k 0 < 128 := succ_in HD.out (by rw [HSE.out]; exact hmS)
              obtain ⟨t, ht⟩ : ∃ t : Nat, S.getD k 0 = (t : Int) := ⟨(S.getD k 0).toNat, by omega⟩
              have HT := Lib.hid ht
              obtain ⟨gs, hgs⟩ := HAS.out (by omega)
              subst hgs
              have ht128 : t < 128 := by omega
              have HT2 := Lib.hid ht128
              have c0 := ints_at (by have := X6.out.rs; rw [HNS.out] at this; exact this) HNS.out hlt
              have c1 := ints_at X6.out.rd HB3.out.len ht128
              rw [ht] at hmS c0
              have HWY := Lib.hid (front_way HD.out HF.out HM.out HME.out (by rw [HSE.out]; exact hmS))
              obtain ⟨y, hy⟩ : ∃ y, X.getD t 0 = y := ⟨_, rfl⟩
              rw [hy] at c1
              have k0 : (0 : Int) ≤ (k : Int) := by omega
              have k1 : (k : Int) < (nS : Int) := by omega
              have t0 : (0 : Int) ≤ (t : Int) := by omega
              have t1 : (t : Int) < 128 := by omega
              have HLT2 := Lib.hid hlt
              clear hmS hrg ht hkS hlt ht128
              by_cases hy0 : y = 0
              · have HB4 := Lib.hid (show Bfs D a m (seenP D F j S (k + 1)) (X.set t (m : Int)) (N ++ [(t : Int)]) from (HB3.out.hit HM.out HT2.out (hy.trans hy0) HWY.out).congr (seen_one HT.out))
                have X7 := Lib.hid (X6.out.store t (m : Int))
                have f0 := X6.out.rd.frozenAt t
                have c2 := ints_at (by have := X7.out.rs; rw [HNS.out] at this; exact this) HNS.out HLT2.out
                rw [HT.out] at c2
                have hsz : (wr.setCell ⟨G, t, none⟩ (.int .i64 (m : Int))).heap.size = wr.heap.size := by simp
                have HNB := Lib.hid (show ((wr.setCell ⟨G, t, none⟩ (.int .i64 (m : Int))).alloc (.cells #[.int .i64 (t : Int)] 3)).heap[wr.heap.size]? = some (.cells #[.int .i64 (t : Int)] 3) by have := heap_alloc_new (wr.setCell ⟨G, t, none⟩ (.int .i64 (m : Int))) (.cells #[.int .i64 (t : Int)] 3); rw [hsz] at this; exact this)
                have b3 := Lib.hid (show ∀ u ∈ [Value.int .i64 (t : Int)], u.oneCell' = true by simp [Value.oneCell'])
                have b4 := Lib.hid (show N.length + 1 ≤ maxLen by have := HB3.out.few; unfold maxLen; omega)
                have b5 := Lib.hid (show (N.length + 1) * 8 ≤ 140737488355328 by have := HB3.out.few; omega)
                have b6 := Lib.hid (show w.heap.size ≤ ((wr.setCell ⟨G, t, none⟩ (.int .i64 (m : Int))).alloc (.cells #[.int .i64 (t : Int)] 3)).heap.size by rw [alloc_size, hsz]; have := X6.out.lb.size; omega)
                clear hy hsz
                subst hy0
                go_wp2_with (at_builtin; refine wpList_append_lies _ rfl _ _ 28 rfl w.heap.size 3 i0 (.int .i64 0) 1 8 Try.underlying28 hi hz0 hz1 hz2 rfl (by decide) _ N.length _ rfl (X7.out.rn.alloc _) ⟨wr.heap.size, 0, none⟩ 1 1 [.int .i64 (t : Int)] rfl rfl (World.news_of_block HNB.out) b3.out (by decide) b4.out b5.out b6.out _ rfl ?_; intro g4 cap4 w4 hown4 hgrow4 hat4 _)
                have X8 := Lib.hid (X7.out.app hown4 hgrow4 hat4)
                clear hown4 hgrow4 hat4 c0 c1 c2
                go_wp2_with fail
                go_roundw
                case rel => exact ⟨k + 1, _, _, by go_num, by have := HLT2.out; omega, HB4.out, X8.out⟩
                case measure => have := HLT2.out; simp [intOf]; omega
              · have HB4 := Lib.hid (show Bfs D a m (seenP D F j S (k + 1)) X N from (HB3.out.miss (s := t) (by rw [hy]; exact hy0)).congr (seen_one HT.out))
                have hyb : (y == 0) = false := by simpa using hy0
                clear hy
                go_wp2_with fail
                go_roundw
                case rel => exact ⟨k + 1, _, _, by go_num, by have := HLT2.out; omega, HB4.out, X6.out⟩
                case measure => have := HLT2.out; simp [intOf]; omega
            · obtain rfl : k = nS := by omega
              have HB4 := Lib.hid (show Bfs D a m (seenP D F (j + 1) [] 0) X N from HB3.out.congr (fun t ht h => by have := seen_row HX.out t ht h; rwa [HSE.out, HNS.out] at this))
              have X7 := Lib.hid X6.out.drop
              go_wp2_with fail
              go_roundw
              case rel => exact ⟨j + 1, X, N, by go_num, by have := HLT.out; omega, HB4.out, X7.out⟩
              case measure => have := HLT.out; simp [intOf]; omega
        · obtain rfl : j = nF := by omega
          have HB4 := Lib.hid (bfs_next HD.out (HB2.out.congr (fun t ht h => by have := seen_all HF.out t ht h; rwa [HNF.out] at this)) HM.out)
          have X7 := Lib.hid X4.out.shift
          have hmw : IntKind.i64.wrap ((m : Int) + 1) = ((m + 1 : Nat) : Int) := by have := HM2.out; rw [IntWalk.i64_in _ (by omega)]; omega
          go_wp2_with fail
          go_roundw
          case rel => exact ⟨m + 1, X, N, by go_num, by omega, HB2.out.few, HB4.out.1, HB4.out.2, X7.out⟩
          case measure => have := HM2.out; simp [intOf]; omega
    · have hp : ¬ (0 : Int) < (nF : Int) := by omega
      have hF0 : F = [] := List.eq_nil_of_length_eq_zero (by omega)
      have HE := Lib.hid (bfs_end HD.out HB.out (by have := HF.out; rwa [hF0] at this) HM.out)
      simp only [hnF] at X2 ⊢
      clear hnF h0 hF0
      go_wp2_with fail
      go_ret
      refine ⟨_, rfl, ?_, X2.out.lb⟩
      rw [← HE.out, HB.out.len]
      exact X2.out.rd
end Go.Proofs.Ytcmlnokfjbglaaa
end

section
namespace Go.Proofs.Ytcmlnokfjbglaaa
open Go.ChangeShapes Go.WideShapes Go.ChangeAt Go.RowKit
set_option linter.unusedVariables false
set_option maxRecDepth 20000

theorem find_at {p : Int → Bool} : ∀ {L : List Int} {k : Nat}, k < L.length → (∀ j, j < k → p (L.getD j 0) = false) → p (L.getD k 0) = true → L.find? p = some (L.getD k 0)
  | [], k, h, _, _ => by simp at h
  | x :: L, 0, h, _, h2 => by
    have : p x = true := h2
    simp [this]
  | x :: L, k + 1, h, h1, h2 => by
    have h0 : p x = false := h1 0 (by omega)
    have := find_at (L := L) (k := k) (by simpa using h) (fun j hj => h1 (j + 1) (by omega)) h2
    simp [h0, this]
theorem next_hit {D : List Dep} {st left u k t : Nat} (hk : k < (succD D (u : Int)).length) (h : ∀ j, j < k → candP D st left ((succD D (u : Int)).getD j 0) = false) (ht : (succD D (u : Int)).getD k 0 = (t : Int)) (hc : candP D st left (t : Int) = true) : nextP D st left u = t := by
  unfold nextP
  rw [find_at hk h (by rw [ht]; exact hc), ht]
  rfl
theorem next_miss {D : List Dep} {st left u : Nat} (h : ∀ j, j < (succD D (u : Int)).length → candP D st left ((succD D (u : Int)).getD j 0) = false) : nextP D st left u = u := by
  unfold nextP
  have : (succD D (u : Int)).find? (candP D st left) = none := List.find?_eq_none.2 fun x hx => by
    obtain ⟨j, hj, e⟩ := List.getElem_of_mem hx
    have := h j hj
    rw [List.getD_eq_getElem?_getD, List.getElem?_eq_getElem hj, Option.getD_some, e] at this
    rw [this]; simp
  rw [this]
theorem cand_zero {D : List Dep} {st t : Nat} : candP D st 0 (t : Int) = decide (t = st) := by
  unfold candP
  rw [if_pos rfl]
  exact decide_eq_decide.2 (by omega)
theorem cand_same {D : List Dep} {st left : Nat} (h : 0 < left) : candP D st left (st : Int) = false := by
  unfold candP
  rw [if_neg (by omega)]
  simp
theorem cand_far {D : List Dep} {st left t : Nat} (h : 0 < left) (hne : t ≠ st) : candP D st left (t : Int) = decide (distD D t st = left) := by
  unfold candP
  rw [if_neg (by omega), Int.toNat_natCast]
  have : (t : Int) ≠ (st : Int) := by omega
  simp [this]
theorem no_succ {D : List Dep} (hD : okD D = true) {c : Nat} (h : succD D (c : Int) = []) : distD D c c = 0 := by
  rcases dist_is hD c c with ⟨h1, _⟩ | ⟨h1, h2⟩
  · exact h1
  · obtain ⟨m, hm⟩ : ∃ m, distD D c c = m + 1 := ⟨distD D c c - 1, by omega⟩
    have h3 := h2.1
    rw [hm] at h3
    obtain ⟨s, h4, _⟩ := way_head hD h3
    rw [edge_succ, h] at h4
    cases h4
def cycN (D : List Dep) (st b i : Nat) : List Int := (List.range i).map fun i => (atP D st b i : Int)
theorem cycN_next (D : List Dep) (st b i : Nat) : cycN D st b (i + 1) = cycN D st b i ++ [(atP D st b i : Int)] := by simp [cycN, List.range_succ]
theorem cycN_len (D : List Dep) (st b i : Nat) : (cycN D st b i).length = i := by simp [cycN]
/-- The list that is built, and the successors. -/
structure CyR (w : World) (vo : Value) (O : List Int) (vs : Value) (S : List Int) (wr : World) : Prop where
  ro : wr.ownsRow w.heap.size 3 1 vo O.length (intsV O)
  rs : wr.ownsRow w.heap.size 3 1 vs S.length (intsV S)
  lb : Below w.heap.size w wr
section
variable {w wr w' : World} {vo vs v : Value} {O S L : List Int}
theorem CyR.gb (h : CyR w vo O vs S wr) (hg : wr.grownBy w' none) : CyR w vo O vs S w' := ⟨own_none h.ro hg, own_none h.rs hg, below_gb h.lb (Nat.le_refl _) hg⟩
theorem CyR.bl (h : CyR w vo O vs S wr) (hb : Below wr.heap.size wr w') : CyR w vo O vs S w' := h.gb (gb_of_below hb none)
theorem CyR.succ (h : CyR w vo O vs S wr) (ho : w'.ownsRow wr.heap.size 3 1 v L.length (intsV L)) (hb : Below wr.heap.size wr w') : CyR w vo O v L w' := by
  have k := h.bl hb
  exact ⟨k.ro, own_less ho h.lb.size, k.lb⟩
theorem CyR.drop (h : CyR w vo O vs S wr) : CyR w vo O (.slice none 0 0) [] wr := ⟨h.ro, World.ownsRow_nil _ _ _ _, h.lb⟩
theorem CyR.app {o : Obj} {x : Int} (h : CyR w vo O vs S wr) (ho : w'.ownsRow w.heap.size 3 1 v (O.length + 1) (intsV O ++ [.int .i64 x])) (hg : (wr.alloc o).grownBy w' vo.ownBlock) : CyR w v (O ++ [x]) (.slice none 0 0) [] w' :=
  ⟨by rw [List.length_append, intsV_append]; exact ho, World.ownsRow_nil _ _ _ _, (h.lb.alloc h.lb.size o).grown hg (by rw [alloc_size]; have := h.lb.size; omega) (fun j e => (h.ro.lt j e).1)⟩
end
set_option maxHeartbeats 6400000 in
theorem specShortest (A : Option Addr) (n cap : Nat) (D : List Dep) (w : World) (h : DepAt w w.heap.size A n D) (hn : n ≤ 1000000000) :
    Calls Try.prog 80 #[.slice A n cap] w (NewI (cycG D) w) := by
  obtain ⟨i0, hi, hz0, hz1, hz2⟩ := info_parts info_int
  have HI := Lib.hid h
  have hl := h.1
  have X0 := Lib.hid (show CyR w (.slice (some ⟨w.heap.size, 0, none⟩) 0 0) [] (.slice none 0 0) [] (w.alloc (.cells #[] 3)) from ⟨World.ownsRow_made (base := w.heap.size) (e := 3) (size := 1) w #[] 0 (Nat.le_refl _) (by decide) rfl, World.ownsRow_nil _ _ _ _, (Below.refl _ _).alloc (Nat.le_refl _) _⟩)
  have HOK := Lib.hid (fun (w' : World) (hb : Below w.heap.size w w') => specDependsOk A n cap D w' ((h.below hb).more hb.size) (by omega))
  clear h
  cases hok : okD D with
  | false =>
    have HE := Lib.hid (cyc_bad hok)
    rw [hok] at HOK
    clear hok
    go_enter Try.func80, Try.ntmps80
    go_wp2_with fail
    refine (HOK.out _ X0.out.lb).mono ?_
    rintro e w1 ⟨rfl, hg1⟩
    have X1 := Lib.hid (X0.out.gb hg1)
    clear hg1
    go_wp2_with fail
    go_ret
    exact ⟨_, rfl, by rw [HE.out]; exact X1.out.ro, X1.out.lb⟩
  | true =>
    have HD := Lib.hid hok
    have HSU := Lib.hid (fun (x : Int) w h => specSuccessors A n cap D x w h (by omega))
    have HDE := Lib.hid (fun (a : Nat) (ha : a < 128) w h => specDepths A n cap D a ha hok w h hn)
    have HSL := Lib.hid (fun x => (show (succD D x).length ≤ n from hl ▸ succ_length D x))
    have HCY := Lib.hid (cyc_ok hok)
    rw [hok] at HOK
    clear hok hl
    go_enter Try.func80, Try.ntmps80
    go_wp2_with fail
    refine (HOK.out _ X0.out.lb).mono ?_
    rintro e w1 ⟨rfl, hg1⟩
    have X1 := Lib.hid (X0.out.gb hg1)
    clear hg1
    go_wp2_with fail
    go_loopw [4, 5, 6] (fun p s i wr => ∃ c : Nat, i = .int .i64 (c : Int) ∧ p = .int .i64 ((bestTo D c).1 : Int) ∧ s = .int .i64 (bestTo D c).2 ∧ c ≤ 128 ∧ CyR w (.slice (some ⟨w.heap.size, 0, none⟩) 0 0) [] (.slice none 0 0) [] wr) (fun _ _ i _ => 128 - (intOf i).toNat)
    case atStart => exact ⟨0, rfl, rfl, rfl, Nat.zero_le _, X1.out⟩
    case round =>
      obtain ⟨c, rfl, rfl, rfl, hc, hx⟩ := hrel
      have X2 := Lib.hid hx
      clear hx
      by_cases hlt : c < 128
      · have HLT := Lib.hid hlt
        have c0 : (0 : Int) ≤ (c : Int) := by omega
        have c1 : (c : Int) < 128 := by omega
        obtain ⟨b, hb⟩ : ∃ b, (bestTo D c).1 = b := ⟨_, rfl⟩
        obtain ⟨s, hs⟩ : ∃ s, (bestTo D c).2 = s := ⟨_, rfl⟩
        have HTAKE := Lib.hid (best_take (D := D) (c := c))
        have HPASS := Lib.hid (best_pass (D := D) (c := c))
        have HBS := Lib.hid (show bestTo D c = (b, s) from Prod.ext hb hs)
        rw [hb] at HTAKE HPASS
        simp only [hb, hs]
        obtain ⟨d, hd⟩ : ∃ d, distD D c c = d := ⟨_, rfl⟩
        have HA := Lib.hid (distL_at (D := D) (a := c) hlt)
        have HNS := Lib.hid (fun h => (no_succ HD.out (c := c) h).symm.trans hd)
        rw [hd] at HA HTAKE HPASS
        clear hb hs hd hlt
        go_wp2_with fail
        refine (HSU.out (c : Int) _ ((HI.out.below X2.out.lb).more X2.out.lb.size)).mono ?_
        rintro e w3 ⟨v3, rfl, o3, b3⟩
        obtain ⟨A3, c3, rfl, _⟩ := own_form o3
        obtain ⟨S, hS⟩ : ∃ S, succD D (c : Int) = S := ⟨_, rfl⟩
        rw [hS] at HNS
        obtain ⟨nS, hnS⟩ : ∃ nS, S.length = nS := ⟨_, rfl⟩
        have X3 := Lib.hid (X2.out.bl b3)
        clear o3 b3
        simp only [hS, hnS]
        by_cases hS0 : nS = 0
        · have hd0 : d = 0 := (HNS.out (List.eq_nil_of_length_eq_zero (by omega))).symm
          have HP := Lib.hid ((HPASS.out (fun e => by have := e.1; omega)).trans HBS.out)
          clear hS hnS
          subst hS0
          go_wp2_with fail
          go_roundw
          case rel => exact ⟨c + 1, by go_num, by rw [HP.out], by rw [HP.out], by have := HLT.out; omega, X3.out⟩
          case measure => have := HLT.out; simp [intOf]; omega
        · have hSb : ((nS : Int) == 0) = false := by simpa using hS0
          clear hS hnS
          go_wp2_with fail
          refine (HDE.out c HLT.out _ ((HI.out.below X3.out.lb).more X3.out.lb.size)).mono ?_
          rintro e w4 ⟨v4, rfl, o4, b4⟩
          rw [distL_len] at o4
          obtain ⟨A4, c4, rfl, ha4⟩ := own_form o4
          obtain ⟨g4, rfl⟩ := ha4 (by omega)
          have e0 := ints_at o4 (distL_len D c) HLT.out
          rw [HA.out] at e0
          have X4 := Lib.hid (X3.out.bl b4)
          clear o4 b4 ha4
          by_cases hd0 : d = 0
          · have HP := Lib.hid ((HPASS.out (fun e => by have := e.1; omega)).trans HBS.out)
            subst hd0
            go_wp2_with fail
            go_roundw
            case rel => exact ⟨c + 1, by go_num, by rw [HP.out], by rw [HP.out], by have := HLT.out; omega, X4.out⟩
            case measure => have := HLT.out; simp [intOf]; omega
          · have hdp : (0 : Int) < (d : Int) := by omega
            have hdn : 0 < d := by omega
            by_cases hb0 : b = 0
            · have HP := Lib.hid (HTAKE.out hdn (.inl hb0))
              subst hb0
              go_wp2_with fail
              go_roundw
              case rel => exact ⟨c + 1, by go_num, by rw [HP.out], by rw [HP.out], by have := HLT.out; omega, X4.out⟩
              case measure => have := HLT.out; simp [intOf]; omega
            · have hbb : ((b : Int) == 0) = false := by simpa using hb0
              by_cases hdb : d < b
              · have HP := Lib.hid (HTAKE.out hdn (.inr hdb))
                have hlt : (d : Int) < (b : Int) := by omega
                go_wp2_with fail
                go_roundw
                case rel => exact ⟨c + 1, by go_num, by rw [HP.out], by rw [HP.out], by have := HLT.out; omega, X4.out⟩
                case measure => have := HLT.out; simp [intOf]; omega
              · have HP := Lib.hid ((HPASS.out (fun e => by rcases e.2 with h | h; exact hb0 h; exact hdb h)).trans HBS.out)
                have hlt : ¬ (d : Int) < (b : Int) := by omega
                go_wp2_with fail
                go_roundw
                case rel => exact ⟨c + 1, by go_num, by rw [HP.out], by rw [HP.out], by have := HLT.out; omega, X4.out⟩
                case measure => have := HLT.out; simp [intOf]; omega
      · obtain rfl : c = 128 := by omega
        have HBI := best_is D 128
        obtain ⟨b, hb⟩ : ∃ b, (bestTo D 128).1 = b := ⟨_, rfl⟩
        obtain ⟨s, hs⟩ : ∃ s, (bestTo D 128).2 = s := ⟨_, rfl⟩
        unfold BestIs at HBI
        rw [hb, hs] at HCY HBI
        simp only [hb, hs]
        clear hb hs
        rcases HBI with ⟨hb0, _, _⟩ | ⟨st, hst, hs, hbd, hb1, _, _⟩
        · have HE := Lib.hid (show cycG D = [] by rw [HCY.out, hb0]; rfl)
          subst hb0
          clear HCY
          go_wp2_with fail
          simp only [show ((128 : Nat) : Int) = 128 from rfl]
          go_loopw [3, 8, 9] (fun v p i wr => v = .slice (some ⟨w.heap.size, 0, none⟩) 0 0 ∧ i = .int .i64 0 ∧ CyR w (.slice (some ⟨w.heap.size, 0, none⟩) 0 0) [] (.slice none 0 0) [] wr) (fun _ _ _ _ => 0)
          case atStart => exact ⟨rfl, rfl, X2.out⟩
          case round =>
            obtain ⟨rfl, rfl, hx⟩ := hrel
            have X3 := Lib.hid hx
            clear hx
            go_wp2_with fail
            go_ret
            exact ⟨_, rfl, by rw [HE.out]; exact X3.out.ro, X3.out.lb⟩
        · rw [hs, Int.toNat_natCast] at HCY
          have hb128 : b ≤ 128 := by rw [hbd]; exact dist_le HD.out st st
          subst hs
          have HBD := Lib.hid hbd.symm
          have HST := Lib.hid hst
          have HB1 := Lib.hid hb1
          clear hbd hst hb1
          go_wp2_with fail
          simp only [show ((128 : Nat) : Int) = 128 from rfl]
          go_loopw [3, 8, 9] (fun v p i wr => ∃ j : Nat, i = .int .i64 (j : Int) ∧ p = .int .i64 (atP D st b j : Int) ∧ j ≤ b ∧ CyR w v (cycN D st b j) (.slice none 0 0) [] wr) (fun _ _ i _ => b - (intOf i).toNat)
          case atStart => exact ⟨0, rfl, rfl, Nat.zero_le _, X2.out⟩
          case round =>
            obtain ⟨i, rfl, rfl, hib, hx⟩ := hrel
            have ho := hx.ro
            rw [cycN_len] at ho
            have o3 := Lib.hid ho
            have X3 := Lib.hid hx
            obtain ⟨Ao, co, rfl, _⟩ := own_form ho
            clear hx ho
            by_cases hlt : i < b
            · obtain ⟨u, hu⟩ : ∃ u, atP D st b i = u := ⟨_, rfl⟩
              obtain ⟨l, hl⟩ : ∃ l, b = i + 1 + l := ⟨b - i - 1, by omega⟩
              have HNX := Lib.hid (show atP D st b (i + 1) = nextP D st l u by rw [atP, hu, show b - i - 1 = l by omega])
              have HLT := Lib.hid hlt
              have HU := Lib.hid hu
              have HLB := Lib.hid hl
              have hz : (b : Int) - (i : Int) - 1 = (l : Int) := by omega
              have i1 : (i : Int) < (b : Int) := by omega
              have b3 := Lib.hid (show ∀ z ∈ [Value.int .i64 (u : Int)], z.oneCell' = true by simp [Value.oneCell'])
              have b4 := Lib.hid (show i + 1 ≤ maxLen by unfold maxLen; omega)
              have b5 := Lib.hid (show (i + 1) * 8 ≤ 140737488355328 by omega)
              have b6 := Lib.hid (show w.heap.size ≤ (wr.alloc (.cells #[.int .i64 (u : Int)] 3)).heap.size by rw [alloc_size]; have := X3.out.lb.size; omega)
              simp only [hu]
              clear hu hl
              go_wp2_with (at_builtin; refine wpList_append_own _ rfl _ _ 28 rfl w.heap.size 3 i0 (.int .i64 0) 1 8 Try.underlying28 hi hz0 hz1 hz2 rfl (by decide) _ i _ rfl (o3.out.alloc _) ⟨wr.heap.size, 0, none⟩ 1 1 [.int .i64 (u : Int)] rfl rfl (World.news_of_block (cs := #[.int .i64 (u : Int)]) (t := 3) (fr := (0, 0)) (heap_alloc_new wr _)) b3.out b4.out b5.out b6.out ?_; intro v' w4 hown4 hgrow4 _)
              have X4 := Lib.hid (show CyR w v' (cycN D st b (i + 1)) (.slice none 0 0) [] w4 by rw [cycN_next, HU.out]; exact X3.out.app (by rw [cycN_len]; exact hown4) hgrow4)
              clear hown4 hgrow4
              go_wp2_with fail
              refine (HSU.out (u : Int) _ ((HI.out.below X4.out.lb).more X4.out.lb.size)).mono ?_
              rintro e w5 ⟨v5, rfl, o5, b5'⟩
              obtain ⟨S, hS⟩ : ∃ S, succD D (u : Int) = S := ⟨_, rfl⟩
              rw [hS] at o5
              have X5 := Lib.hid (X4.out.succ o5 b5')
              obtain ⟨As, cs, rfl, has⟩ := own_form o5
              have HAS := Lib.hid has
              have HSE := Lib.hid hS
              obtain ⟨nS, hnS⟩ : ∃ nS, S.length = nS := ⟨_, rfl⟩
              have HNS := Lib.hid hnS
              have hnl : nS ≤ n := (by rw [← hnS, ← hS]; exact HSL.out (u : Int))
              have HHIT := Lib.hid (fun k (t : Nat) (h1 : k < S.length) h2 (h3 : S.getD k 0 = (t : Int)) h4 => HNX.out.trans (next_hit (D := D) (st := st) (left := l) (u := u) (k := k) (t := t) (by rw [hS]; exact h1) (by rw [hS]; exact h2) (by rw [hS]; exact h3) h4))
              have HMISS := Lib.hid (fun h2 => HNX.out.trans (next_miss (D := D) (st := st) (left := l) (u := u) (by rw [hS]; exact h2)))
              clear o5 b5' has
              go_wp2_with fail
              simp only [hnS] at X5 ⊢
              clear hS hnS
              go_loopw [8, 11] (fun q j wr => ∃ k : Nat, j = .int .i64 (k : Int) ∧ q = .int .i64 (u : Int) ∧ k ≤ nS ∧ (∀ j, j < k → candP D st l (S.getD j 0) = false) ∧ CyR w v' (cycN D st b (i + 1)) (.slice As nS cs) S wr) (fun _ j _ => nS - (intOf j).toNat)
              case atStart => exact ⟨0, rfl, rfl, Nat.zero_le _, fun j h => by omega, X5.out⟩
              case round =>
                obtain ⟨k, rfl, rfl, hk, hno, hx⟩ := hrel
                have HN := Lib.hid hno
                have X6 := Lib.hid hx
                clear hno hx
                by_cases hlt3 : k < nS
                · have hkS : k < S.length := by have := HNS.out; omega
                  have hmS := getD_memI hkS
                  have hrg : 0 ≤ S.getD k 0 ∧ S.getD k 0 < 128 := succ_in HD.out (by rw [HSE.out]; exact hmS)
                  obtain ⟨t, ht⟩ : ∃ t : Nat, S.getD k 0 = (t : Int) := ⟨(S.getD k 0).toNat, by omega⟩
                  obtain ⟨gs, hgs⟩ := HAS.out (by omega)
                  subst hgs
                  have ht128 : t < 128 := by omega
                  have c0 := ints_at (by have := X6.out.rs; rw [HNS.out] at this; exact this) HNS.out hlt3
                  rw [ht] at c0
                  have HT := Lib.hid ht
                  have HT2 := Lib.hid ht128
                  have HLT2 := Lib.hid hlt3
                  have k0 : (0 : Int) ≤ (k : Int) := by omega
                  have k1 : (k : Int) < (nS : Int) := by omega
                  have t0 : (0 : Int) ≤ (t : Int) := by omega
                  have t1 : (t : Int) < 128 := by omega
                  have HFOUND := Lib.hid (fun (hc : candP D st l (t : Int) = true) => HHIT.out k t hkS HN.out ht hc)
                  have HNEXT := Lib.hid (fun (hc : candP D st l (t : Int) = false) j (hj : j < k + 1) => show candP D st l (S.getD j 0) = false by rcases Nat.lt_succ_iff_lt_or_eq.1 hj with h | h; exact HN.out j h; rw [h, ht]; exact hc)
                  clear hmS hrg ht hkS ht128
                  by_cases hl0 : l = 0
                  · have hz0 : (b : Int) - (i : Int) - 1 = 0 := by omega
                    by_cases hts : st = t
                    · have HF := Lib.hid (HFOUND.out (by rw [hl0, cand_zero]; exact decide_eq_true hts.symm))
                      clear hz
                      subst hts
                      go_wp2_with fail
                      go_roundw
                      case rel => exact ⟨i + 1, by go_num, by rw [HF.out], by have := HLT.out; omega, X6.out.drop⟩
                      case measure => have := HLT.out; simp [intOf]; omega
                    · have HF := Lib.hid (HNEXT.out (by rw [hl0, cand_zero]; exact decide_eq_false (fun e => hts e.symm)))
                      have hne : ((t : Int) == (st : Int)) = false := by simp; omega
                      clear hz
                      go_wp2_with fail
                      go_roundw
                      case rel => exact ⟨k + 1, by go_num, rfl, by have := HLT2.out; omega, HF.out, X6.out⟩
                      case measure => have := HLT2.out; simp [intOf]; omega
                  · have hlb : ((l : Int) == 0) = false := by simpa using hl0
                    have hlp : (0 : Int) < (l : Int) := by omega
                    by_cases hts : st = t
                    · have HF := Lib.hid (HNEXT.out (by rw [← hts]; exact cand_same (by omega)))
                      subst hts
                      go_wp2_with fail
                      go_roundw
                      case rel => exact ⟨k + 1, by go_num, rfl, by have := HLT2.out; omega, HF.out, X6.out⟩
                      case measure => have := HLT2.out; simp [intOf]; omega
                    · have hne : ((t : Int) == (st : Int)) = false := by simp; omega
                      have hne2 : ((t : Int) != (st : Int)) = true := by simp; omega
                      have s0 : (0 : Int) ≤ (st : Int) := by omega
                      have s1 : (st : Int) < 128 := by have := HST.out; omega
                      have HCF := Lib.hid (cand_far (D := D) (show 0 < l by omega) (fun e => hts e.symm))
                      have HA := Lib.hid (distL_at (D := D) (a := t) HST.out)
                      obtain ⟨d, hd⟩ : ∃ d, distD D t st = d := ⟨_, rfl⟩
                      rw [hd] at HCF HA
                      clear hd
                      go_wp2_with fail
                      refine (HDE.out t HT2.out _ ((HI.out.below X6.out.lb).more X6.out.lb.size)).mono ?_
                      rintro e w7 ⟨v7, rfl, o7, b7⟩
                      rw [distL_len] at o7
                      obtain ⟨A7, c7, rfl, ha7⟩ := own_form o7
                      obtain ⟨g7, rfl⟩ := ha7 (by omega)
                      have e0 := ints_at o7 (distL_len D t) HST.out
                      rw [HA.out] at e0
                      have X7 := Lib.hid (X6.out.bl b7)
                      have e1 := ints_at (by have := X7.out.rs; rw [HNS.out] at this; exact this) HNS.out HLT2.out
                      rw [HT.out] at e1
                      clear o7 b7 ha7 c0
                      by_cases hdl : l = d
                      · have HF := Lib.hid (HFOUND.out (HCF.out.trans (decide_eq_true hdl.symm)))
                        subst hdl
                        go_wp2_with fail
                        go_roundw
                        case rel => exact ⟨i + 1, by go_num, by rw [HF.out], by have := HLT.out; omega, X7.out.drop⟩
                        case measure => have := HLT.out; simp [intOf]; omega
                      · have HF := Lib.hid (HNEXT.out (HCF.out.trans (decide_eq_false (fun e => hdl e.symm))))
                        have hdb : ((d : Int) == (l : Int)) = false := by simp; omega
                        go_wp2_with fail
                        go_roundw
                        case rel => exact ⟨k + 1, by go_num, rfl, by have := HLT2.out; omega, HF.out, X7.out⟩
                        case measure => have := HLT2.out; simp [intOf]; omega
                · obtain rfl : k = nS := by omega
                  have HE := Lib.hid (HMISS.out (fun j hj => HN.out j (by have := HNS.out; omega)))
                  have X7 := Lib.hid X6.out.drop
                  go_wp2_with fail
                  go_roundw
                  case rel => exact ⟨i + 1, by go_num, by rw [HE.out], by have := HLT.out; omega, X7.out⟩
                  case measure => have := HLT.out; simp [intOf]; omega
            · obtain rfl : i = b := by omega
              go_wp2_with fail
              go_ret
              exact ⟨_, rfl, by rw [HCY.out]; exact X3.out.ro, X3.out.lb⟩
end Go.Proofs.Ytcmlnokfjbglaaa
end

section
namespace Go.Proofs.Ytcmlnokfjbglaaa
open Go.ChangeShapes Go.WideShapes Go.ChangeAt Go.RowKit
set_option linter.unusedVariables false
set_option maxRecDepth 20000

set_option maxHeartbeats 1600000 in
theorem specCheckClasses (W H : Int) (A AP AQ : Option Addr) (n cap nP cP nQ cQ : Nat) (L P Q : List Int) (w : World) (h : IntAt w w.heap.size A n L) (hP : IntAt w w.heap.size AP nP P) (hQ : IntAt w w.heap.size AQ nQ Q) (hn : n ≤ 1000000000) (hnP : nP ≤ 1000000000) (hnQ : nQ ≤ 1000000000) :
    Calls Try.prog 44 #[.agg #[.int .i64 W, .int .i64 H, .slice A n cap], .agg #[.slice AP nP cP, .slice AQ nQ cQ]] w (NewV (verdC W H L P Q) w) := by
  have x0 := clAt_start (W := W) (H := H) (A := A) (AP := AP) (AQ := AQ) (n := n) (cap := cap) (nP := nP) (cP := cP) (nQ := nQ) (cQ := cQ) (w := w)
  have X0 := Lib.hid (x0.gb (gb_alloc (gb_refl _ none) (.cells #[.int .i64 0, .slice none 0 0, .slice none 0 0] 48)))
  have k0 := Blk.new (clB W H A AP AQ n cap nP cP nQ cQ w) 48 #[.int .i64 0, .slice none 0 0, .slice none 0 0]
  rw [show (clB W H A AP AQ n cap nP cP nQ cQ w).heap.size = w.heap.size + 2 by unfold clB; rw [alloc_size, alloc_size]] at k0
  have K0 := Lib.hid k0
  have HI := Lib.hid h
  have HP := Lib.hid hP
  have HQ := Lib.hid hQ
  cases hc : clsOk W H L P Q with
  | false =>
    have HA := Lib.hid (specClassesOkV W H A AP AQ n cap nP cP nQ cQ L P Q false hc _ (X0.out.at h) (X0.out.at hP) (X0.out.at hQ) hn hnP hnQ)
    have HF := Lib.hid (verdC_bad hc)
    clear h hP hQ hc x0 k0
    go_enter Try.func44, Try.ntmps44
    go_wp2_with fail
    refine HA.out.mono ?_
    rintro e w1 ⟨rfl, hg⟩
    have X1 := Lib.hid (X0.out.gb hg)
    have K1 := Lib.hid (K0.out.grown hg (by simp))
    have e0 : w1.cell? ⟨w.heap.size + 2, 0, none⟩ = some (.int .i64 0) := K1.out.cell 0
    have e1 : w1.cell? ⟨w.heap.size + 2, 1, none⟩ = some (.slice none 0 0) := K1.out.cell 1
    have e2 : w1.cell? ⟨w.heap.size + 2, 2, none⟩ = some (.slice none 0 0) := K1.out.cell 2
    have f0 := K1.out.frozen 0
    have f1 := K1.out.frozen 1
    have f2 := K1.out.frozen 2
    clear hg
    go_wp2_with fail
    have hb := box_cells (c := 0) (vr := .slice none 0 0) (vc := .slice none 0 0) K1.out
    have r0 := hb.cell 0
    have r1 := hb.cell 1
    have r2 := hb.cell 2
    refine bodyPost_ret (v := .agg #[.int .i64 0, .slice none 0 0, .slice none 0 0]) (by simp [results, Try.results44, go_sem, r0, r1, r2]) rfl ⟨_, _, by rw [HF.out], ⟨?_, ?_, none_apart _⟩, box_put K1.out X1.out.g (by omega)⟩
    · rw [HF.out]; exact World.ownsRow_nil _ _ _ _
    · rw [HF.out]; exact World.ownsRow_nil _ _ _ _
  | true =>
    have HA := Lib.hid (specClassesOkV W H A AP AQ n cap nP cP nQ cQ L P Q true hc _ (X0.out.at h) (X0.out.at hP) (X0.out.at hQ) hn hnP hnQ)
    have HDP := Lib.hid (fun w h hP hQ => specClassDepends W H A AP AQ n cap nP cP nQ cQ L P Q w h hP hQ hn hnP hnQ)
    have HDL := Lib.hid (clsD_len (W := W) (H := H) (L := L) (P := P) (Q := Q))
    have HV1 := Lib.hid (fun k => verdC_safe (W := W) (H := H) (L := L) (P := P) (Q := Q) hc k)
    have HV2 := Lib.hid (fun k => verdC_cyc (W := W) (H := H) (L := L) (P := P) (Q := Q) hc k)
    obtain ⟨D, hD⟩ : ∃ D, clsD W H L P Q = D := ⟨_, rfl⟩
    rw [hD] at HDP HDL HV1 HV2
    have HOR := Lib.hid (fun A n cap w h hn => specOrderOf A n cap D w h hn)
    have HSC := Lib.hid (fun A n cap w h hn => specShortest A n cap D w h hn)
    obtain ⟨vg, hvg⟩ : ∃ vg, verdC W H L P Q = vg := ⟨_, rfl⟩
    rw [hvg] at HV1 HV2 ⊢
    clear h hP hQ hc hD hvg x0 k0
    go_enter Try.func44, Try.ntmps44
    go_wp2_with fail
    refine HA.out.mono ?_
    rintro e w1 ⟨rfl, hg⟩
    have X1 := Lib.hid (X0.out.gb hg)
    have K1 := Lib.hid (K0.out.grown hg (by simp))
    have m0 : w1.cell? ⟨w.heap.size, 0, none⟩ = some (.int .i64 W) := X1.out.m.cell 0
    have m1 : w1.cell? ⟨w.heap.size, 1, none⟩ = some (.int .i64 H) := X1.out.m.cell 1
    have m2 : w1.cell? ⟨w.heap.size, 2, none⟩ = some (.slice A n cap) := X1.out.m.cell 2
    have m3 : w1.cell? ⟨w.heap.size + 1, 0, none⟩ = some (.slice AP nP cP) := X1.out.t.cell 0
    have m4 : w1.cell? ⟨w.heap.size + 1, 1, none⟩ = some (.slice AQ nQ cQ) := X1.out.t.cell 1
    clear hg
    go_wp2_with fail
    refine (HDP.out _ (X1.out.at HI.out) (X1.out.at HP.out) (X1.out.at HQ.out)).mono ?_
    rintro e w2 ⟨vd, rfl, od, bd⟩
    have X2 := Lib.hid (X1.out.bl bd)
    have K2 := Lib.hid (K1.out.grown (gb_of_below bd none) (by simp))
    obtain ⟨Ad, cd, rfl, _⟩ := own_form od
    obtain ⟨nd, hnd⟩ : ∃ nd, D.length = nd := ⟨_, rfl⟩
    rw [hnd] at od HDL
    have HDA := Lib.hid (depAt_own (B := w2.heap.size) od (Nat.le_refl _))
    rw [hnd]
    clear od bd hnd m0 m1 m2 m3 m4
    go_wp2_with fail
    refine (HOR.out Ad nd cd _ HDA.out (by have := HDL.out; omega)).mono ?_
    rintro e w3 ⟨vr, rfl, orr, br⟩
    obtain ⟨Ar, cr, rfl, _⟩ := own_form orr
    obtain ⟨nr, hnr⟩ : ∃ nr, (ranksO D).length = nr := ⟨_, rfl⟩
    have HNR := Lib.hid hnr
    rw [hnr] at orr ⊢
    clear hnr
    have X3 := Lib.hid (X2.out.bl br)
    have K3 := Lib.hid (K2.out.grown (gb_of_below br none) (by simp))
    have HDA3 := Lib.hid ((HDA.out.below br).more br.size)
    have OR := Lib.hid (own_less orr X2.out.g.size)
    have e0 : w3.cell? ⟨w.heap.size + 2, 0, none⟩ = some (.int .i64 0) := K3.out.cell 0
    have e1 : w3.cell? ⟨w.heap.size + 2, 1, none⟩ = some (.slice none 0 0) := K3.out.cell 1
    have e2 : w3.cell? ⟨w.heap.size + 2, 2, none⟩ = some (.slice none 0 0) := K3.out.cell 2
    have f0 := K3.out.frozen 0
    have f1 := K3.out.frozen 1
    have f2 := K3.out.frozen 2
    clear orr br
    cases hk : canO D with
    | true =>
      have HF := Lib.hid (HV1.out hk)
      clear hk
      go_wp2_with fail
      have hb := box_cells (c := 1) (vr := .slice Ar nr cr) (vc := .slice none 0 0) K3.out
      have r0 := hb.cell 0
      have r1 := hb.cell 1
      have r2 := hb.cell 2
      refine bodyPost_ret (v := .agg #[.int .i64 1, .slice Ar nr cr, .slice none 0 0]) (by simp [results, Try.results44, go_sem, r0, r1, r2]) rfl ⟨_, _, by rw [HF.out], ⟨?_, ?_, apart_none _⟩, box_put K3.out X3.out.g (by omega)⟩
      · rw [HF.out]; simp only [HNR.out]; exact box_row K3.out OR.out
      · rw [HF.out]; exact World.ownsRow_nil _ _ _ _
    | false =>
      have HF := Lib.hid (HV2.out hk)
      clear hk e0 e1 e2 f0 f1 f2
      go_wp2_with fail
      refine (HSC.out Ad nd cd _ HDA3.out (by have := HDL.out; omega)).mono ?_
      rintro e w4 ⟨vc, rfl, oc, bc⟩
      obtain ⟨Ac, cc, rfl, _⟩ := own_form oc
      obtain ⟨nc, hnc⟩ : ∃ nc, (cycG D).length = nc := ⟨_, rfl⟩
      have HNC := Lib.hid hnc
      rw [hnc] at oc ⊢
      clear hnc
      have X4 := Lib.hid (X3.out.bl bc)
      have K4 := Lib.hid (K3.out.grown (gb_of_below bc none) (by simp))
      have OC := Lib.hid (own_less oc X3.out.g.size)
      have e0 : w4.cell? ⟨w.heap.size + 2, 0, none⟩ = some (.int .i64 0) := K4.out.cell 0
      have e1 : w4.cell? ⟨w.heap.size + 2, 1, none⟩ = some (.slice none 0 0) := K4.out.cell 1
      have e2 : w4.cell? ⟨w.heap.size + 2, 2, none⟩ = some (.slice none 0 0) := K4.out.cell 2
      have f0 := K4.out.frozen 0
      have f1 := K4.out.frozen 1
      have f2 := K4.out.frozen 2
      clear oc bc
      go_wp2_with fail
      have hb := box_cells (c := 2) (vr := .slice none 0 0) (vc := .slice Ac nc cc) K4.out
      have r0 := hb.cell 0
      have r1 := hb.cell 1
      have r2 := hb.cell 2
      refine bodyPost_ret (v := .agg #[.int .i64 2, .slice none 0 0, .slice Ac nc cc]) (by simp [results, Try.results44, go_sem, r0, r1, r2]) rfl ⟨_, _, by rw [HF.out], ⟨?_, ?_, none_apart _⟩, box_put K4.out X4.out.g (by omega)⟩
      · rw [HF.out]; exact World.ownsRow_nil _ _ _ _
      · rw [HF.out]; simp only [HNC.out]; exact box_row K4.out OC.out
end Go.Proofs.Ytcmlnokfjbglaaa
end

section
namespace Go.Proofs.Ytcmlnokfjbglaaa
open Go.ChangeShapes Go.WideShapes Go.ChangeAt Go.RowKit
set_option linter.unusedVariables false
set_option maxRecDepth 20000

/-- The next channel as a number, or -1. -/
def nxtO (D : List Dep) (R : List Int) : Int := match bestO D R with | none => -1 | some c => (c : Int)
theorem nxt_none {D : List Dep} {R : List Int} (h : bestO D R = none) : nxtO D R = -1 := by simp [nxtO, h]
theorem nxt_some {D : List Dep} {R : List Int} {c : Nat} (h : bestO D R = some c) : nxtO D R = (c : Int) := by simp [nxtO, h]
set_option maxHeartbeats 1600000 in
theorem implNext (A AR : Option Addr) (n cap cR : Nat) (D : List Dep) (R : List Int) (z : Int) (hz : nxtO D R = z) (w : World) (h : DepAt w w.heap.size A n D) (hR : IntAt w w.heap.size AR 128 R) (hok : okD D = true)
    (hmin : ∀ c, c < 128 → R.getD c 0 = -1 ∨ 0 ≤ R.getD c 0) (hn : n ≤ 1000000000) :
    Calls Try.prog 114 #[.slice A n cap, .slice AR 128 cR] w (RetI z none w) := by
  have hl := h.1
  have HI := Lib.hid h
  have HR := Lib.hid hR
  have HM := Lib.hid hmin
  have HIN := Lib.hid (fun k (hk : k < D.length) => inD_iff.1 (okD_in hok (atD_mem hk)))
  have HSOME := Lib.hid (fun c (hc : c < 128) h h0 => hz.symm.trans (nxt_some (bestO_some (D := D) (R := R) (c := c) hc h h0)))
  have HNONE := Lib.hid (fun h0 => hz.symm.trans (nxt_none (bestO_none (D := D) (R := R) h0)))
  clear h hR hmin hok hz
  go_enter Try.func114, Try.ntmps114
  go_wp2_with fail
  go_step3
  go_wp2_with fail
  go_step3
  go_wp2_with fail
  go_loopw [11] (fun i wr => ∃ c : Nat, i = .int .i64 (c : Int) ∧ c ≤ 128 ∧ (∀ j, j < c → candO D R j = false) ∧ w.grownBy wr none) (fun i _ => 128 - (intOf i).toNat)
  case atStart => exact ⟨0, rfl, Nat.zero_le _, fun j h => by omega, gb_refl _ _⟩
  case round =>
    obtain ⟨c, rfl, hc, hall, hg⟩ := hrel
    have HA := Lib.hid hall
    have HG := Lib.hid hg
    clear hall hg
    by_cases hlt : c < 128
    · obtain ⟨b2, off2, rfl, hb2, e0⟩ := (HR.out.none (Nat.le_refl _) HG.out).at c (by have := HR.out.1; omega)
      obtain ⟨y, hy⟩ : ∃ y, R.getD c 0 = y := ⟨_, rfl⟩
      have hy2 := HM.out c hlt
      rw [hy] at e0 hy2
      have hcand : candO D R c = (decide (y < 0) && freeO D R c) := by unfold candO; rw [hy]
      have k0 : (0 : Int) ≤ (c : Int) := by omega
      have k1 : (c : Int) < 128 := by omega
      clear hy
      rcases hy2 with hy2 | hy2
      · subst hy2
        have HC := Lib.hid (show candO D R c = freeO D R c by rw [hcand]; rfl)
        have HLT := Lib.hid hlt
        clear hcand
        go_wp2_with fail
        go_loopw [20] (fun i wr => ∃ k : Nat, i = .int .i64 (k : Int) ∧ k ≤ n ∧ (∀ j, j < k → holdO R (atD D j) c = false) ∧ w.grownBy wr none) (fun i _ => n - (intOf i).toNat)
        case atStart => exact ⟨0, rfl, Nat.zero_le _, fun j h => by omega, HG.out⟩
        case round =>
          obtain ⟨k, rfl, hk, hne, hg⟩ := hrel
          have HNE := Lib.hid hne
          have HG2 := Lib.hid hg
          clear hne hg
          by_cases hlt2 : k < n
          · obtain ⟨b1, off, rfl, hb1, c0, c1⟩ := (HI.out.none (Nat.le_refl _) HG2.out).at k hlt2
            obtain ⟨x, hx⟩ : ∃ x, atD D k = x := ⟨_, rfl⟩
            obtain ⟨x0, x1, x2, x3⟩ := HIN.out k (by omega)
            rw [hx] at c0 c1 x0 x1 x2 x3
            obtain ⟨m, hm⟩ : ∃ m : Nat, x.1 = (m : Int) := ⟨x.1.toNat, by omega⟩
            obtain ⟨q, hq⟩ : ∃ q : Nat, x.2 = (q : Int) := ⟨x.2.toNat, by omega⟩
            rw [hm] at c0 x0 x1
            rw [hq] at c1 x2 x3
            have hm128 : m < 128 := by omega
            obtain ⟨_, _, hA3, hb3, f0⟩ := (HR.out.none (Nat.le_refl _) HG2.out).at m (by omega)
            injection hA3 with hA
            injection hA with hA1 hA2
            subst hA1
            subst hA2
            obtain ⟨u, hu⟩ : ∃ u, R.getD m 0 = u := ⟨_, rfl⟩
            have hu2 := HM.out m hm128
            rw [hu] at f0 hu2
            have hh : holdO R (atD D k) c = (decide ((q : Int) = (c : Int)) && decide (u < 0)) := by unfold holdO; rw [hx, hm, hq, Int.toNat_natCast, hu]
            have j0 : (0 : Int) ≤ (k : Int) := by omega
            have j1 : (k : Int) < (n : Int) := by omega
            have m0 : (0 : Int) ≤ (m : Int) := by omega
            have m1 : (m : Int) < 128 := by omega
            have hga := gb_alloc (gb_refl wr none) (.cells #[.int .i64 (m : Int), .int .i64 (q : Int)] 39)
            have GA := Lib.hid (gb_trans HG2.out hga)
            have bn := Blk.new wr 39 #[.int .i64 (m : Int), .int .i64 (q : Int)]
            have t0 : (wr.alloc (.cells #[.int .i64 (m : Int), .int .i64 (q : Int)] 39)).cell? ⟨wr.heap.size, 0, none⟩ = some (.int .i64 (m : Int)) := bn.cell 0
            have t1 : (wr.alloc (.cells #[.int .i64 (m : Int), .int .i64 (q : Int)] 39)).cell? ⟨wr.heap.size, 1, none⟩ = some (.int .i64 (q : Int)) := bn.cell 1
            have s0 := hga.cell f0 (by simp)
            clear hga bn f0 hx hm hq hu
            by_cases hqc : (q : Int) = (c : Int)
            · have hh2 : holdO R (atD D k) c = decide (u < 0) := by rw [hh, decide_eq_true hqc, Bool.true_and]
              obtain rfl : q = c := by omega
              clear hh hqc
              rcases hu2 with hu2 | hu2
              · subst hu2
                have HB := Lib.hid (HC.out.trans (freeO_no (i := k) (by omega) (by rw [hh2]; rfl)))
                clear hh2
                go_wp2_with fail
                go_roundw
                case rel => exact ⟨q + 1, by go_num, by have := HLT.out; omega, fun j hj => by rcases Nat.lt_succ_iff_lt_or_eq.1 hj with h | h; exact HA.out j h; rw [h]; exact HB.out, GA.out⟩
                case measure => have := HLT.out; simp [intOf]; omega
              · have HB := Lib.hid (hh2.trans (decide_eq_false (p := u < 0) (by omega)))
                have hub : (u == -1) = false := by simp; omega
                clear hh2
                go_wp2_with fail
                go_roundw
                case rel => exact ⟨k + 1, by go_num, by omega, fun j hj => by rcases Nat.lt_succ_iff_lt_or_eq.1 hj with h | h; exact HNE.out j h; rw [h]; exact HB.out, GA.out⟩
                case measure => simp [intOf]; omega
            · have HB := Lib.hid (show holdO R (atD D k) c = false by rw [hh, decide_eq_false hqc, Bool.false_and])
              have hqb : ((q : Int) == (c : Int)) = false := by simpa using hqc
              clear hh
              go_wp2_with fail
              go_roundw
              case rel => exact ⟨k + 1, by go_num, by omega, fun j hj => by rcases Nat.lt_succ_iff_lt_or_eq.1 hj with h | h; exact HNE.out j h; rw [h]; exact HB.out, GA.out⟩
              case measure => simp [intOf]; omega
          · obtain rfl : k = n := by omega
            have HB := Lib.hid (HSOME.out c HLT.out (HC.out.trans (freeO_iff.2 (fun j hj => HNE.out j (by omega)))) HA.out)
            go_wp2_with fail
            go_ret
            exact ⟨ret_int64 HB.out.symm, HG2.out⟩
      · have HB := Lib.hid (show candO D R c = false by rw [hcand, decide_eq_false (p := y < 0) (by omega), Bool.false_and])
        have hyb : (y != -1) = true := by simp; omega
        clear hcand
        go_wp2_with fail
        go_roundw
        case rel => exact ⟨c + 1, by go_num, by omega, fun j hj => by rcases Nat.lt_succ_iff_lt_or_eq.1 hj with h | h; exact HA.out j h; rw [h]; exact HB.out, HG.out⟩
        case measure => simp [intOf]; omega
    · obtain rfl : c = 128 := by omega
      have HB := Lib.hid (HNONE.out HA.out)
      go_wp2_with fail
      go_ret
      exact ⟨ret_int64 HB.out.symm, HG.out⟩
end Go.Proofs.Ytcmlnokfjbglaaa
end

section
namespace Go.Proofs.Ytcmlnokfjbglaaa
open Go.ChangeShapes Go.WideShapes Go.ChangeAt Go.RowKit
set_option linter.unusedVariables false
set_option maxRecDepth 20000

theorem libMul64 (w : World) : Calls Try.prog 145 #[.int .u64 1, .int .u64 128] w fun e w' => e = .returned (.tuple #[.int .u64 0, .int .u64 128]) ∧ w = w' := by
  go_enter Try.func145, Try.ntmps145
  go_wp2_with fail
  go_ret2
  exact ⟨rfl, rfl⟩
theorem libMul (w : World) : Calls Try.prog 130 #[.int .u64 1, .int .u64 128] w fun e w' => e = .returned (.tuple #[.int .u64 0, .int .u64 128]) ∧ w = w' := by
  go_enter Try.func130, Try.ntmps130
  go_wp2_with fail
  refine (libMul64 _).mono ?_
  rintro e w1 ⟨rfl, rfl⟩
  go_wp2_with fail
  go_ret2
  exact ⟨rfl, rfl⟩

theorem splice_at {L : List Value} {x : Value} {k m : Nat} (hk : k ≤ L.length) (h : ∀ j, j < k → L[j]? = some x) : ∀ j, j < k + m → (splice L k (List.replicate m x))[j]? = some x := by
  intro j hj
  unfold splice
  by_cases h1 : j < k
  · rw [List.getElem?_append_left (by rw [List.length_take]; omega), List.getElem?_take_of_lt h1]
    exact h j h1
  · have hl : (L.take k).length = k := by rw [List.length_take]; omega
    rw [List.getElem?_append_right (by omega), hl, List.getElem?_append_left (by simp; omega), List.getElem?_replicate, if_pos (by omega)]
theorem splice_len {L : List Value} {x : Value} {k m : Nat} (hk : k + m ≤ L.length) : (splice L k (List.replicate m x)).length = L.length := length_splice _ _ _ (by simpa using hk)
/-- The new row, whose first k cells are -1. -/
def RepAt (w : World) (L : List Value) (k : Nat) (wr : World) : Prop :=
  wr.heap[w.heap.size]? = some (.cells L.toArray 3 (0, 0)) ∧ L.length = 128 ∧ (∀ j, j < k → L[j]? = some (.int .i64 (-1))) ∧ Below w.heap.size w wr
theorem rep_cell {w wr : World} {L : List Value} {k : Nat} (h : RepAt w L k wr) {j : Nat} (hj : j < k) : wr.cell? ⟨w.heap.size, j, none⟩ = some (.int .i64 (-1)) := by
  have h1 := h.1
  have h2 := h.2.2.1 j hj
  simp [World.cell?, h1, h2]
theorem rep_add {w wr : World} {L : List Value} {k : Nat} (h : RepAt w L k wr) {j : Nat} (hj : j < k) : wr.cell? ((⟨w.heap.size, 0, none⟩ : Addr).add j) = some (.int .i64 (-1)) := by
  rw [Addr.add_lit, Nat.zero_add]
  exact rep_cell h hj
theorem ints_rep (n : Nat) (x : Int) : intsV (List.replicate n x) = List.replicate n (.int .i64 x) := by unfold intsV; rw [List.map_replicate]
theorem rep_own {w wr : World} {L : List Value} (h : RepAt w L 128 wr) : wr.ownsRow w.heap.size 3 1 (.slice (some ⟨w.heap.size, 0, none⟩) 128 128) 128 (intsV (List.replicate 128 (-1))) := by
  rw [ints_rep]
  refine ⟨by rw [List.length_replicate], .inr ⟨w.heap.size, 128, L.toArray, rfl, Nat.le_refl _, h.1, Nat.le_refl _, by decide, by simp [h.2.1], ?_⟩⟩
  apply List.ext_getElem?
  intro j
  rw [List.getElem?_replicate]
  by_cases hj : j < 128
  · rw [List.getElem?_take_of_lt (by omega), if_pos hj]
    exact h.2.2.1 j hj
  · rw [List.getElem?_eq_none (by simp; omega), if_neg hj]

theorem libRepeat (b o : Nat) (w : World) (hx : w.cell? ⟨b, o, none⟩ = some (.int .i64 (-1))) :
    Calls Try.prog 113 #[.slice (some ⟨b, o, none⟩) 1 1, .int .i64 128] w fun e w' => ∃ v, e = .returned v ∧ w'.ownsRow w.heap.size 3 1 v 128 (intsV (List.replicate 128 (-1))) ∧ Below w.heap.size w w' := by
  obtain ⟨i0, hi, hz0, hz1, hz2⟩ := info_parts info_int
  have hsz : (Try.prog.info? 3).map (·.size) = some 1 := by rw [hi]; simp [hz1]
  obtain ⟨Z, hZl, hmk⟩ : ∃ Z : List Value, Z.length = 128 ∧ ∀ w, (Instr.makeSlice 28 (.int .i64 128) (.int .i64 128)).run Try.prog w = .ok (.slice (some ⟨w.heap.size, 0, none⟩) 128 128) (w.alloc (.cells Z.toArray 3)) := by
    refine ⟨(madeCells #[Value.int .i64 0] 128).toList, by simp [madeCells], fun w => ?_⟩
    have := run_make (P := Try.prog) w 28 3 i0 (.int .i64 0) Try.underlying28 hi hz0 .i64 .i64 128 128 (by decide) (by decide) (by rw [hz2]; decide) (by decide)
    rw [hz1] at this
    simpa [Value.cells] using this
  have HM := Lib.hid (fun w => libMul w)
  have HX := Lib.hid hx
  have HZ := Lib.hid hZl
  have HL0 := Lib.hid (fun w => (Below.refl w.heap.size w).alloc (Nat.le_refl _) (.cells Z.toArray 3))
  have HN := Lib.hid (fun w : World => heap_alloc_new w (.cells Z.toArray 3))
  have b3 := Lib.hid (show ∀ u ∈ [Value.int .i64 (-1)], u.oneCell' = true by simp [Value.oneCell'])
  have HXA := Lib.hid ((gb_alloc (gb_refl w none) (.cells Z.toArray 3)).cell hx (by simp))
  clear hx hZl
  go_enter Try.func113, Try.ntmps113
  go_wp2_with fail
  refine (HM.out _).mono ?_
  rintro e w1 ⟨rfl, rfl⟩
  go_wp2_with (refine wpList_copy_splice rfl (.tmp 31) (.tmp 32) 28 28 rfl 3 Try.underlying28 hsz _ _ _ _ _ _ rfl rfl w.heap.size 0 Z 3 (HN.out w) [.int .i64 (-1)] rfl (fun _ => ⟨rfl, _, rfl, fun j v hj => by cases j with | zero => (cases hj; exact HXA.out) | succ j => simp at hj⟩) (by rw [HZ.out]; decide) b3.out w.heap.size w (HL0.out w) (Nat.le_refl _) ?_; intro w2 hg2 hb2)
  have X2 := Lib.hid (show RepAt w (splice Z 0 (List.replicate 1 (.int .i64 (-1)))) 1 w2 from ⟨hg2, by rw [splice_len (by rw [HZ.out]; decide)]; exact HZ.out, fun j hj => splice_at (m := 1) (Nat.zero_le _) (fun j h => by omega) j (by omega), hb2⟩)
  clear hg2 hb2
  go_wp2_with fail
  go_loopw [8] (fun i wr => ∃ (k : Nat) (L : List Value), i = .int .i64 (k : Int) ∧ 1 ≤ k ∧ k ≤ 128 ∧ RepAt w L k wr) (fun i _ => 128 - (intOf i).toNat)
  case atStart => exact ⟨1, _, rfl, Nat.le_refl _, by decide, X2.out⟩
  case round =>
    obtain ⟨k, L, rfl, h1, hk, hx⟩ := hrel
    have X3 := Lib.hid hx
    clear hx
    by_cases hlt : k < 128
    · obtain ⟨m, hm⟩ : ∃ m, Nat.min k (128 - k) = m := ⟨_, rfl⟩
      have hm1 : 1 ≤ m := by rw [← hm]; exact Nat.le_min.2 ⟨h1, by omega⟩
      have hm2 : m ≤ k ∧ m ≤ 128 - k := by rw [← hm]; exact ⟨Nat.min_le_left _ _, Nat.min_le_right _ _⟩
      have k0 : (0 : Int) ≤ (k : Int) := by omega
      have k1 : (k : Int) < 128 := by omega
      have k2 : (k : Int) ≤ 128 := by omega
      have k3 : ¬ 128 = k := by omega
      have HB3 := Lib.hid (fun q => show Below w.heap.size w (wr.drewN q) from ⟨X3.out.2.2.2.os, X3.out.2.2.2.tape, X3.out.2.2.2.output, X3.out.2.2.2.size, X3.out.2.2.2.block⟩)
      have HH := Lib.hid X3.out.1
      have HC := Lib.hid (fun j (hj : j < k) => rep_add X3.out hj)
      have hml := Lib.hid (show (List.replicate m (Value.int .i64 (-1))).length = k.min (128 - k) by rw [List.length_replicate, hm])
      have hmf := Lib.hid (show k + (List.replicate m (Value.int .i64 (-1))).length ≤ L.length by rw [List.length_replicate, X3.out.2.1]; omega)
      have b4 := Lib.hid (show ∀ u ∈ List.replicate m (Value.int .i64 (-1)), u.oneCell' = true from fun u hu => by rw [List.eq_of_mem_replicate hu]; rfl)
      have HS := Lib.hid (fun j v (hj : (List.replicate m (Value.int .i64 (-1)))[j]? = some v) => show j < k ∧ v = .int .i64 (-1) by
        rw [List.getElem?_replicate] at hj
        split at hj
        · cases hj; exact ⟨by omega, rfl⟩
        · cases hj)
      obtain ⟨cs, hcs⟩ : ∃ cs, cs = List.replicate m (Value.int .i64 (-1)) := ⟨_, rfl⟩
      have HCS := Lib.hid hcs
      have hadd : IntKind.i64.wrap ((k : Int) + (cs.length : Int)) = ((k + m : Nat) : Int) := by rw [hcs, List.length_replicate, IntWalk.i64_in _ (by omega)]; omega
      rw [← hcs] at hml hmf b4 HS
      clear hcs hm
      go_wp2_with fail
      go_region_law (refine step_copy_splice rfl (.tmp 41) (.tmp 44) 28 28 rfl 3 Try.underlying28 hsz (some ⟨w.heap.size, k, none⟩) (some ⟨w.heap.size, 0, none⟩) (128 - k) (128 - k) k 128 (by simp [Act.eval, Act.put]) (by simp [Act.eval, Act.put]) w.heap.size k L 3 HH.out cs hml.out (fun _ => ⟨rfl, _, rfl, fun j v hj => by obtain ⟨h1, rfl⟩ := HS.out j v hj; exact HC.out j h1⟩) hmf.out b4.out w.heap.size w (HB3.out _) (Nat.le_refl _) ?_; intro w4 hg4 hb4)
      have X5 := Lib.hid (show RepAt w (splice L k (List.replicate m (.int .i64 (-1)))) (k + m) w4 from by
        rw [HCS.out] at hg4
        exact ⟨hg4, by rw [splice_len (by rw [X3.out.2.1]; omega)]; exact X3.out.2.1, splice_at (by rw [X3.out.2.1]; omega) X3.out.2.2.1, hb4⟩)
      clear hg4 hb4
      simp [Act.put]
      go_roundw
      case rel =>
        refine ⟨_, _, _, _, _, _, _, _, _, _, _, _, _, _, ?_, rfl⟩
        exact ⟨k + m, _, by go_num, by omega, by omega, X5.out⟩
      case measure => simp [intOf]; omega
    · obtain rfl : k = 128 := by omega
      go_wp2_with fail
      go_ret
      exact ⟨_, rfl, rep_own X3.out, X3.out.2.2.2⟩
end Go.Proofs.Ytcmlnokfjbglaaa
end

section
namespace Go.Proofs.Ytcmlnokfjbglaaa
open Go.ChangeShapes Go.WideShapes Go.ChangeAt Go.RowKit
set_option linter.unusedVariables false
set_option maxRecDepth 20000

theorem own_low {w : World} {base base' : Nat} {e : TypeId} {size : Nat} {v : Value} {n : Nat} {xs : List Value} (h : w.ownsRow base' e size v n xs) (hb : base ≤ base') : w.ownsRow base e size v n xs := by
  refine ⟨h.1, ?_⟩
  rcases h.2 with h1 | ⟨g, cap, cur, h1, h2, h3⟩
  · exact .inl h1
  · exact .inr ⟨g, cap, cur, h1, Nat.le_trans hb h2, h3⟩
theorem rk_up {w w1 w2 : World} {n : Nat} {R : List Int} {v : Value} (hb : Below w.heap.size w w1) (h : w2.ownsRow w1.heap.size 3 1 v n (intsV R) ∧ Below w1.heap.size w1 w2) : RkAt w n R v w2 :=
  ⟨own_low h.1 hb.size, hb.trans (h.2.mono hb.size)⟩
theorem rk_nil {D : List Dep} {w wr : World} (h : orderO D = none) (hb : Below w.heap.size w wr) : NewR (ranksO D) (canO D) w (.returned (.tuple #[.slice none 0 0, .bool false])) wr := by
  obtain ⟨e1, e2⟩ := order_none h
  rw [e2]
  exact ⟨_, rfl, own_nil e1 _ _, hb⟩
set_option maxHeartbeats 1600000 in
theorem implOrderOf (A : Option Addr) (n cap : Nat) (D : List Dep) (w : World) (h : DepAt w w.heap.size A n D) (hn : n ≤ 1000000000) :
    Calls Try.prog 94 #[.slice A n cap] w (NewR (ranksO D) (canO D) w) := by
  have HI := Lib.hid h
  have HOK := Lib.hid (implDependsOk A n cap D w h (by omega))
  clear h
  cases hok : okD D with
  | false =>
    have HN := Lib.hid (orderO_bad hok)
    rw [hok] at HOK
    clear hok
    go_enter Try.func94, Try.ntmps94
    go_wp2_with fail
    refine HOK.out.mono ?_
    rintro e w1 ⟨rfl, hg1⟩
    have B1 := Lib.hid (gb_below_none hg1 (Nat.le_refl _))
    clear hg1
    go_wp2_with fail
    go_ret2
    exact rk_nil HN.out B1.out
  | true =>
    have HORD := Lib.hid (orderO_ok hok)
    have HOKD := Lib.hid hok
    have HREP := Lib.hid (fun b o w h => libRepeat b o w h)
    rw [hok] at HOK
    clear hok
    go_enter Try.func94, Try.ntmps94
    go_wp2_with fail
    refine HOK.out.mono ?_
    rintro e w1 ⟨rfl, hg1⟩
    have B1 := Lib.hid ((gb_below_none hg1 (Nat.le_refl _)).alloc hg1.size (.cells #[.int .i64 (-1)] 3))
    have C1 := Lib.hid ((Blk.new w1 3 #[.int .i64 (-1)]).cell 0)
    clear hg1
    go_wp2_with fail
    refine (HREP.out _ _ _ C1.out).mono ?_
    rintro e w2 ⟨v, rfl, hrk⟩
    have X2 := Lib.hid (rk_up B1.out hrk)
    obtain ⟨Av, cv, rfl, hav⟩ := own_form hrk.1
    obtain ⟨g, hg⟩ := hav (by omega)
    subst hg
    clear hrk hav
    go_wp2_with fail
    go_loopw [12] (fun i wr => ∃ (r : Nat) (R : List Int), i = .int .i64 (r : Int) ∧ r ≤ 128 ∧ ordTo D r = some R ∧ RkAt w 128 R (.slice (some ⟨g, 0, none⟩) 128 cv) wr) (fun i _ => 128 - (intOf i).toNat)
    case atStart => exact ⟨0, _, rfl, Nat.zero_le _, rfl, X2.out⟩
    case round =>
      obtain ⟨r, R, rfl, hr, hord, hx⟩ := hrel
      have X5 := Lib.hid hx
      have HO := Lib.hid hord
      have hRl := ordTo_len hord
      clear hx hord
      by_cases hlt : r < 128
      · have HLT := Lib.hid hlt
        have HMIN := Lib.hid (fun c (hc : c < 128) => show R.getD c 0 = -1 ∨ 0 ≤ R.getD c 0 from ((ord_inv HOKD.out hr HO.out).rng c hc).imp id And.left)
        cases hb : bestO D R with
        | none =>
          have HF := Lib.hid (fun w h hR => implNext A (some ⟨g, 0, none⟩) n cap cv D R (-1) (nxt_none hb) w h hR HOKD.out HMIN.out hn)
          have HE := Lib.hid (HORD.out.trans (ordTo_dead (ordTo_stop HO.out hb) (by omega)))
          clear hb
          go_wp2_with fail
          refine (HF.out _ ((HI.out.below X5.out.2).more X5.out.2.size) (intAt_own X5.out.1 hRl (Nat.le_refl _))).mono ?_
          rintro e w6 ⟨rfl, hg6⟩
          have X6 := Lib.hid (X5.out.gb hg6)
          clear hg6
          go_wp2_with fail
          go_ret2
          exact rk_nil HE.out X6.out.2
        | some c =>
          have hc := (bestO_is hb).1
          have HF := Lib.hid (fun w h hR => implNext A (some ⟨g, 0, none⟩) n cap cv D R (c : Int) (nxt_some hb) w h hR HOKD.out HMIN.out hn)
          have HNX := Lib.hid (ordTo_next HO.out hb)
          have k0 : (0 : Int) ≤ (c : Int) := by omega
          have k1 : (c : Int) < 128 := by omega
          have k2 : ¬ (c : Int) < 0 := by omega
          clear hb
          go_wp2_with fail
          refine (HF.out _ ((HI.out.below X5.out.2).more X5.out.2.size) (intAt_own X5.out.1 hRl (Nat.le_refl _))).mono ?_
          rintro e w6 ⟨rfl, hg6⟩
          have X6 := Lib.hid (X5.out.gb hg6)
          have X7 := Lib.hid (X6.out.set c (r : Int))
          have c0 := ints_cell X6.out.1 c (R.getD c 0) (by rw [List.getD, List.getElem?_eq_getElem (by omega)]; rfl) hRl
          have f0 := X6.out.1.frozenAt c
          clear hg6
          go_wp2_with fail
          go_roundw
          case rel => exact ⟨r + 1, _, by go_num, by have := HLT.out; omega, HNX.out, X7.out⟩
          case measure => have := HLT.out; simp [intOf]; omega
      · obtain rfl : r = 128 := by omega
        have HE := Lib.hid (order_some (HORD.out.trans HO.out))
        go_wp2_with fail
        go_ret2
        refine ⟨_, ret_pair HE.out.2.symm, ?_, X5.out.2⟩
        have h3 := X5.out.1
        rw [HE.out.1, hRl]
        exact h3
end Go.Proofs.Ytcmlnokfjbglaaa
end
