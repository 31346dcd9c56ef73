/- What is proved here: what 'append' yields where a whole slice of dependencies is appended onto a row of the call's own, and what the library's copy of such a slice is; nothing of the program. -/
import Derived.Test.YtnielgpcfgfioaaDepI
import Derived.Test.YtnielgpcfgfioaaNewR
import Derived.Deep.AppendSrc
namespace Go.Proofs.Ytnielgpcfgfioaa
open Go.ChangeShapes Go.WideShapes Go.ChangeAt Go.RowKit
set_option linter.unusedVariables false

theorem depAt_news {w : World} {B n b off : Nat} {D : List Dep} (h : DepAt w B (some ⟨b, off, none⟩) n D) : ∀ j u, (depV D)[j]? = some u → w.cell? ((⟨b, off, none⟩ : Addr).add j) = some u := fun j u hu => by
  have hj := (List.getElem?_eq_some_iff.1 hu).1
  rw [depV_length] at hj
  have hl := h.1
  obtain ⟨b', off', hA, _, hc⟩ := h.2 (by omega)
  obtain ⟨rfl, rfl⟩ : b = b' ∧ off = off' := by injection hA with h1; injection h1 with h2 h3; exact ⟨h2, h3⟩
  obtain ⟨h1, h2⟩ := depV_at D (j / 2) (by omega)
  obtain ⟨c1, c2⟩ := hc (j / 2) (by omega)
  rw [Addr.add_lit]
  rcases (show j = j / 2 * 2 ∨ j = j / 2 * 2 + 1 by omega) with e | e
  · rw [e, h1] at hu
    rw [e]
    exact c1.trans hu
  · rw [e, h2] at hu
    rw [e]
    exact c2.trans hu
theorem src_deps {w : World} {B n : Nat} {A : Option Addr} {D : List Dep} (h : DepAt w B A n D) (c : Nat) : Src Try.prog 2 35 (.slice A n c) n (depV D) w := by
  have hl := h.1
  rcases Nat.eq_zero_or_pos n with h0 | h0
  · subst h0
    obtain rfl : D = [] := List.eq_nil_of_length_eq_zero hl
    cases A with
    | none => exact Src.ofNil w Try.underlying35 c
    | some a => exact Src.ofSlice w Try.underlying35 a 0 c [] rfl (fun j u hu => by cases hu) (fun u hu => by cases hu)
  · obtain ⟨b, off, rfl, _⟩ := h.2 h0
    exact Src.ofSlice w Try.underlying35 _ n c (depV D) (by rw [depV_length, hl]) (depAt_news h) (depV_one1 D)
theorem run_app_nothingD (w : World) (ty : TypeId) (base : Option Addr) (sLen sCap : Nat) (hle : sLen ≤ sCap) (x : Value) (i0 : TypeInfo) (hi : Try.prog.info? 49 = some i0) (h1 : i0.size = 2) (hs : Src Try.prog 2 35 x 0 [] w) :
    (Builtin.append_ #[35, 35] ty #[.slice base sLen sCap, x]).run Try.prog w = .ok (.slice base sLen sCap) w := by
  have hc := hs.cells
  rw [← h1] at hc
  cases base <;> simp [Builtin.append_, run_underlying Try.underlying35, sizeOf, typeInfo, hi, hs.len, hle, hc, storeCells]
theorem run_app_ownD (w : World) (ty : TypeId) (i0 : TypeInfo) (hi : Try.prog.info? 49 = some i0) (hz0 : i0.zero = some (.agg #[.int .i64 0, .int .i64 0])) (hz1 : i0.size = 2) (hz2 : i0.bytes = 16)
    (base n m c B : Nat) (A : Option Addr) (X L : List Dep) (v : Value) (hown : w.ownsRow base 49 2 v n (depV X)) (h : DepAt w B A m L) (hm : n + m ≤ 4000000001) (hb : base ≤ w.heap.size) :
    ∃ v' w', (Builtin.append_ #[35, 35] ty #[v, .slice A m c]).run Try.prog w = .ok v' w' ∧ w'.ownsRow base 49 2 v' (n + m) (depV (X ++ L)) ∧ w.grownBy w' v.ownBlock := by
  have hl := h.1
  rcases Nat.eq_zero_or_pos m with h0 | h0
  · subst h0
    obtain rfl : L = [] := List.eq_nil_of_length_eq_zero hl
    obtain ⟨A', c', rfl, _⟩ := own_form hown
    exact ⟨_, _, run_app_nothingD w ty A' n c' (own_cap hown).1 _ i0 hi hz1 (src_deps h c), by rw [List.append_nil]; exact hown, gb_refl _ _⟩
  · obtain ⟨b, off, rfl, _⟩ := h.2 h0
    obtain ⟨v', w', h1, h2, h3, _⟩ := run_append_own (P := Try.prog) w base 35 ty 49 i0 (.agg #[.int .i64 0, .int .i64 0]) 2 16 Try.underlying35 hi hz0 hz1 hz2 rfl (by decide) v n (depV X) hown ⟨b, off, none⟩ m c (depV L)
      (by rw [depV_length, hl]) (depAt_news h) (depV_one1 L) (by unfold maxLen; omega) (by omega) hb
    exact ⟨v', w', h1, by rw [depV_append]; exact h2, h3⟩
theorem wpList_app_ownD {ops : Array Oper} {rest : List Oper} {o : Oper} {a : Act} {Q : Exit → Act → World → Prop} (w : World) (hgd : o.guard = none) (s x : Operand)
    (ho : o.op = .call { callee := .builtin .append, args := #[s, x], argTypes := #[35, 35] })
    (i0 : TypeInfo) (hi : Try.prog.info? 49 = some i0) (hz0 : i0.zero = some (.agg #[.int .i64 0, .int .i64 0])) (hz1 : i0.size = 2) (hz2 : i0.bytes = 16)
    (base n m c B : Nat) (A : Option Addr) (X L : List Dep) (v : Value) (hs : a.eval s = v) (hx : a.eval x = .slice A m c) (hown : w.ownsRow base 49 2 v n (depV X)) (h : DepAt w B A m L) (hm : n + m ≤ 4000000001) (hb : base ≤ w.heap.size)
    (hk : ∀ v' w', w'.ownsRow base 49 2 v' (n + m) (depV (X ++ L)) → w.grownBy w' v.ownBlock → wpList Try.prog ops Q rest (a.put o.dst v') w') : wpList Try.prog ops Q (o :: rest) a w := by
  refine wpList_plain hgd fun K hK => ?_
  obtain ⟨v', w', hr, h2, h3⟩ := run_app_ownD w o.type i0 hi hz0 hz1 hz2 base n m c B A X L v hown h hm hb
  unfold Oper.wp execOp
  simp only [ho, resolve, invoke, builtin, Sem.run_bind, Sem.run_pure, Result.andThen_ok, List.map_toArray, List.map_cons, List.map_nil, hs, hx, hr]
  exact hK _ _ (hk v' w' h2 h3)
/-- The same onto a list that is not nil: nor is what it becomes. -/
theorem wpList_app_ownN {ops : Array Oper} {rest : List Oper} {o : Oper} {a : Act} {Q : Exit → Act → World → Prop} (w : World) (hgd : o.guard = none) (s x : Operand)
    (ho : o.op = .call { callee := .builtin .append, args := #[s, x], argTypes := #[35, 35] })
    (i0 : TypeInfo) (hi : Try.prog.info? 49 = some i0) (hz0 : i0.zero = some (.agg #[.int .i64 0, .int .i64 0])) (hz1 : i0.size = 2) (hz2 : i0.bytes = 16)
    (base n m c B g c0 : Nat) (A : Option Addr) (X L : List Dep) (hs : a.eval s = .slice (some ⟨g, 0, none⟩) n c0) (hx : a.eval x = .slice A m c) (hown : w.ownsRow base 49 2 (.slice (some ⟨g, 0, none⟩) n c0) n (depV X)) (h : DepAt w B A m L) (hm : n + m ≤ 4000000001) (hb : base ≤ w.heap.size)
    (hk : ∀ g' c' w', w'.ownsRow base 49 2 (.slice (some ⟨g', 0, none⟩) (n + m) c') (n + m) (depV (X ++ L)) → w.grownBy w' (some g) → wpList Try.prog ops Q rest (a.put o.dst (.slice (some ⟨g', 0, none⟩) (n + m) c')) w') : wpList Try.prog ops Q (o :: rest) a w := by
  refine wpList_plain hgd fun K hK => ?_
  have key : ∃ g' c' w', (Builtin.append_ #[35, 35] o.type #[.slice (some ⟨g, 0, none⟩) n c0, .slice A m c]).run Try.prog w = .ok (.slice (some ⟨g', 0, none⟩) (n + m) c') w' ∧ w'.ownsRow base 49 2 (.slice (some ⟨g', 0, none⟩) (n + m) c') (n + m) (depV (X ++ L)) ∧ w.grownBy w' (some g) := by
    rcases Nat.eq_zero_or_pos m with h0 | h0
    · subst h0
      obtain rfl : L = [] := List.eq_nil_of_length_eq_zero h.1
      exact ⟨g, c0, w, run_app_nothingD w o.type _ n c0 (own_cap hown).1 _ i0 hi hz1 (src_deps h c), by rw [List.append_nil]; exact hown, gb_refl _ _⟩
    · obtain ⟨v', w', hr, h2, h3⟩ := run_app_ownD w o.type i0 hi hz0 hz1 hz2 base n m c B A X L _ hown h hm hb
      obtain ⟨A', c', rfl, hA⟩ := own_form h2
      obtain ⟨g', rfl⟩ := hA (by omega)
      exact ⟨g', c', w', hr, h2, h3⟩
  obtain ⟨g', c', w', hr, h2, h3⟩ := key
  unfold Oper.wp execOp
  simp only [ho, resolve, invoke, builtin, Sem.run_bind, Sem.run_pure, Result.andThen_ok, List.map_toArray, List.map_cons, List.map_nil, hs, hx, hr]
  exact hK _ _ (hk g' c' w' h2 h3)
/-- An empty row of the call's own. -/
theorem own_madeD (w : World) {base : Nat} (hb : base ≤ w.heap.size) : (w.alloc (.cells #[] 49)).ownsRow base 49 2 (.slice (some ⟨w.heap.size, 0, none⟩) 0 0) 0 (depV []) :=
  World.ownsRow_made (base := base) (e := 49) (size := 2) w #[] 0 hb (by decide) rfl
theorem own_emptyD {D : List Dep} (h : D = []) {w wr : World} (hb : Below w.heap.size w wr) : (wr.alloc (.cells #[] 49)).ownsRow w.heap.size 49 2 (.slice (some ⟨wr.heap.size, 0, none⟩) 0 0) D.length (depV D) ∧ Below w.heap.size w (wr.alloc (.cells #[] 49)) := by
  subst h
  exact ⟨own_madeD wr hb.size, hb.alloc hb.size _⟩
/-- The first k elements of a slice, and those behind. -/
theorem DepAt.take {w : World} {B n : Nat} {A : Option Addr} {D : List Dep} (h : DepAt w B A n D) {k : Nat} (hk : k ≤ n) : DepAt w B A k (D.take k) := ⟨by have := h.1; simp; omega, fun h0 => by
  obtain ⟨b, off, hA, hb, hc⟩ := h.2 (by omega)
  refine ⟨b, off, hA, hb, fun j hj => ?_⟩
  have e : atD (D.take k) j = atD D j := by simp [atD, List.getD_eq_getElem?_getD, List.getElem?_take_of_lt hj]
  rw [e]
  exact hc j (by omega)⟩
theorem DepAt.drop {w : World} {B n b off : Nat} {D : List Dep} (h : DepAt w B (some ⟨b, off, Option.none⟩) n D) {k : Nat} (hk : k ≤ n) : DepAt w B (some ⟨b, off + k * 2, Option.none⟩) (n - k) (D.drop k) := ⟨by have := h.1; simp; omega, fun h0 => by
  obtain ⟨b', off', hA, hb, hc⟩ := h.2 (by omega)
  obtain ⟨rfl, rfl⟩ : b = b' ∧ off = off' := by injection hA with h1; injection h1 with h2 h3; exact ⟨h2, h3⟩
  refine ⟨b, off + k * 2, rfl, hb, fun j hj => ?_⟩
  have e : atD (D.drop k) j = atD D (k + j) := by simp [atD, List.getD_eq_getElem?_getD, List.getElem?_drop]
  rw [e, show off + k * 2 + j * 2 = off + (k + j) * 2 by omega]
  exact hc (k + j) (by omega)⟩
theorem gb_made {w w' : World} {t : TypeId} (h : (w.alloc (.cells #[] t)).grownBy w' (some w.heap.size)) : w.grownBy w' none :=
  ⟨h.os, h.tape, h.output, by have := h.size; simp at this; omega, fun i hi _ => (h.block i (by simp; omega) (fun e => by have := Option.some.inj e; omega)).trans (Below.heap_alloc w _ i hi)⟩
end Go.Proofs.Ytnielgpcfgfioaa
