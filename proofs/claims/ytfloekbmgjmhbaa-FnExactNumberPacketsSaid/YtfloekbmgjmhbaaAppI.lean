/- What is proved here: what 'append' yields where a whole slice of numbers is appended: onto a row of the call's own, and onto a slice without spare memory; nothing of the program. -/
import Derived.Test.YtfloekbmgjmhbaaNewR
import Derived.Deep.AppendSrc
namespace Go.Proofs.Ytfloekbmgjmhbaa
open Go.ChangeShapes Go.WideShapes Go.ChangeAt Go.RowKit
set_option linter.unusedVariables false

theorem intsV_at {L : List Int} {j : Nat} {u : Value} (h : (intsV L)[j]? = some u) : ∃ x, L[j]? = some x ∧ u = .int .i64 x := by
  unfold intsV at h
  rw [List.getElem?_map] at h
  cases hx : L[j]? with
  | none => rw [hx] at h; cases h
  | some x => rw [hx] at h; exact ⟨x, rfl, (Option.some.inj h).symm⟩
theorem intsV_one (L : List Int) : ∀ u ∈ intsV L, u.oneCell' = true := fun u hu => by
  obtain ⟨x, _, rfl⟩ := List.mem_map.1 hu
  rfl
theorem intAt_news {w : World} {B n b off : Nat} {L : List Int} (h : IntAt w B (some ⟨b, off, none⟩) n L) : ∀ j u, (intsV L)[j]? = some u → w.cell? ((⟨b, off, none⟩ : Addr).add j) = some u := fun j u hu => by
  obtain ⟨x, hx, rfl⟩ := intsV_at hu
  have hj : j < L.length := by
    rcases Nat.lt_or_ge j L.length with h1 | h1
    · exact h1
    · rw [List.getElem?_eq_none h1] at hx; cases hx
  have hl := h.1
  obtain ⟨b', off', hA, _, hc⟩ := h.2 (by omega)
  obtain ⟨rfl, rfl⟩ : b = b' ∧ off = off' := by injection hA with h1; injection h1 with h2 h3; exact ⟨h2, h3⟩
  rw [Addr.add_lit]
  exact hc j x hx
theorem src_ints {w : World} {B n : Nat} {A : Option Addr} {L : List Int} (h : IntAt w B A n L) (c : Nat) : Src Try.prog 1 26 (.slice A n c) n (intsV L) w := by
  have hl := h.1
  rcases Nat.eq_zero_or_pos n with h0 | h0
  · subst h0
    obtain rfl : L = [] := List.eq_nil_of_length_eq_zero hl
    cases A with
    | none => exact Src.ofNil w Try.underlying26 c
    | some a => exact Src.ofSlice w Try.underlying26 a 0 c [] rfl (fun j u hu => by cases hu) (fun u hu => by cases hu)
  · obtain ⟨b, off, rfl, _⟩ := h.2 h0
    exact Src.ofSlice w Try.underlying26 _ n c (intsV L) (by rw [intsV_length, hl]; omega) (intAt_news h) (intsV_one L)
theorem run_app_nothing (w : World) (ty : TypeId) (base : Option Addr) (sLen sCap : Nat) (hle : sLen ≤ sCap) (x : Value) (i0 : TypeInfo) (hi : Try.prog.info? 3 = some i0) (h1 : i0.size = 1) (hs : Src Try.prog 1 26 x 0 [] w) :
    (Builtin.append_ #[26, 26] ty #[.slice base sLen sCap, x]).run Try.prog w = .ok (.slice base sLen sCap) w := by
  have hc := hs.cells
  rw [← h1] at hc
  cases base <;> simp [Builtin.append_, run_underlying Try.underlying26, sizeOf, typeInfo, hi, hs.len, hle, hc, storeCells]

/-- Onto a row of the call's own. -/
theorem run_app_own (w : World) (ty : TypeId) (i0 : TypeInfo) (hi : Try.prog.info? 3 = some i0) (hz0 : i0.zero = some (.int .i64 0)) (hz1 : i0.size = 1) (hz2 : i0.bytes = 8)
    (base n m c B : Nat) (A : Option Addr) (X L : List Int) (v : Value) (hown : w.ownsRow base 3 1 v n (intsV X)) (h : IntAt w B A m L) (hm : n + m ≤ 1000000000) (hb : base ≤ w.heap.size) :
    ∃ v' w', (Builtin.append_ #[26, 26] ty #[v, .slice A m c]).run Try.prog w = .ok v' w' ∧ w'.ownsRow base 3 1 v' (n + m) (intsV (X ++ L)) ∧ w.grownBy w' v.ownBlock := by
  have hl := h.1
  rcases Nat.eq_zero_or_pos m with h0 | h0
  · subst h0
    obtain rfl : L = [] := List.eq_nil_of_length_eq_zero hl
    obtain ⟨A', c', rfl, _⟩ := own_form hown
    exact ⟨_, _, run_app_nothing w ty A' n c' (own_cap hown).1 _ i0 hi hz1 (src_ints h c), by rw [List.append_nil]; exact hown, gb_refl _ _⟩
  · obtain ⟨b, off, rfl, _⟩ := h.2 h0
    obtain ⟨v', w', h1, h2, h3, _⟩ := run_append_own (P := Try.prog) w base 26 ty 3 i0 (.int .i64 0) 1 8 Try.underlying26 hi hz0 hz1 hz2 rfl (by decide) v n (intsV X) hown ⟨b, off, none⟩ m c (intsV L)
      (by rw [intsV_length, hl]; omega) (intAt_news h) (intsV_one L) (by unfold maxLen; omega) (by omega) hb
    exact ⟨v', w', h1, by rw [intsV_append]; exact h2, h3⟩
theorem wpList_app_own {ops : Array Oper} {rest : List Oper} {o : Oper} {a : Act} {Q : Exit → Act → World → Prop} (w : World) (hgd : o.guard = none) (s x : Operand)
    (ho : o.op = .call { callee := .builtin .append, args := #[s, x], argTypes := #[26, 26] })
    (i0 : TypeInfo) (hi : Try.prog.info? 3 = some i0) (hz0 : i0.zero = some (.int .i64 0)) (hz1 : i0.size = 1) (hz2 : i0.bytes = 8)
    (base n m c B : Nat) (A : Option Addr) (X L : List Int) (v : Value) (hs : a.eval s = v) (hx : a.eval x = .slice A m c) (hown : w.ownsRow base 3 1 v n (intsV X)) (h : IntAt w B A m L) (hm : n + m ≤ 1000000000) (hb : base ≤ w.heap.size)
    (hk : ∀ v' w', w'.ownsRow base 3 1 v' (n + m) (intsV (X ++ L)) → w.grownBy w' v.ownBlock → wpList Try.prog ops Q rest (a.put o.dst v') w') : wpList Try.prog ops Q (o :: rest) a w := by
  refine wpList_plain hgd fun K hK => ?_
  obtain ⟨v', w', hr, h2, h3⟩ := run_app_own w o.type i0 hi hz0 hz1 hz2 base n m c B A X L v hown h hm hb
  unfold Oper.wp execOp
  simp only [ho, resolve, invoke, builtin, Sem.run_bind, Sem.run_pure, Result.andThen_ok, List.map_toArray, List.map_cons, List.map_nil, hs, hx, hr]
  exact hK _ _ (hk v' w' h2 h3)

/-- Onto a slice that has no spare memory. -/
theorem run_app_cut (w : World) (ty : TypeId) (i0 : TypeInfo) (hi : Try.prog.info? 3 = some i0) (hz0 : i0.zero = some (.int .i64 0)) (hz1 : i0.size = 1) (hz2 : i0.bytes = 8)
    (n m c B B2 : Nat) (A A2 : Option Addr) (X L : List Int) (hX : IntAt w B A n X) (h : IntAt w B2 A2 m L) (hm : n + m ≤ 1000000000) (hB : B ≤ w.heap.size) :
    ∃ A' c' w', (Builtin.append_ #[26, 26] ty #[.slice A n n, .slice A2 m c]).run Try.prog w = .ok (.slice A' (n + m) c') w' ∧ IntAt w' w'.heap.size A' (n + m) (X ++ L) ∧ w.grownBy w' none := by
  have hl := h.1
  have hlX := hX.1
  rcases Nat.eq_zero_or_pos m with h0 | h0
  · subst h0
    obtain rfl : L = [] := List.eq_nil_of_length_eq_zero hl
    exact ⟨A, n, w, run_app_nothing w ty A n n (Nat.le_refl _) _ i0 hi hz1 (src_ints h c), by rw [List.append_nil]; exact hX.more hB, gb_refl _ _⟩
  · have hold : (Builtin.firstCells i0.size n (.slice A n n)).run Try.prog w.drew = .ok (intsV X).toArray w.drew := by
      have := (src_ints hX n).cellsD
      rwa [← hz1] at this
    have hsrc := src_ints h c
    rw [← hz1] at hsrc
    have hr := run_append_grow_src (P := Try.prog) w 26 26 ty 3 i0 (.int .i64 0) Try.underlying26 hi hz0 A n n (intsV X) hold (.slice A2 m c) m (intsV L) hsrc (by omega) (by omega) (growslice_fits (by omega) (by rw [hz2]; omega))
    have hge := grownCap_ge w (n + m) n 3
    have hcm : grownCap w (n + m) n 3 ≤ maxLen := grownCap_le_maxLen w (n + m) n 3 (by unfold maxLen; omega)
    refine ⟨_, _, _, hr, ⟨by rw [List.length_append]; omega, fun _ => ⟨w.heap.size, 0, rfl, by simp, fun k x hx => ?_⟩⟩, ⟨rfl, rfl, rfl, by simp, fun k hk _ => Below.heap_alloc w.drew _ k hk⟩⟩
    have hk : k < (X ++ L).length := by
      rcases Nat.lt_or_ge k (X ++ L).length with h1 | h1
      · exact h1
      · rw [List.getElem?_eq_none h1] at hx; cases hx
    have hcell : (intsV X ++ intsV L)[k]? = some (.int .i64 x) := by rw [← intsV_append]; unfold intsV; rw [List.getElem?_map, hx]; rfl
    rw [Nat.zero_add]
    refine (World.cell?_alloc_new w.drew _ _ k).trans ?_
    rw [Array.getElem?_append_left (by simp [intsV_length] at hk ⊢; exact hk), List.getElem?_toArray]
    exact hcell
theorem wpList_app_cut {ops : Array Oper} {rest : List Oper} {o : Oper} {a : Act} {Q : Exit → Act → World → Prop} (w : World) (hgd : o.guard = none) (s x : Operand)
    (ho : o.op = .call { callee := .builtin .append, args := #[s, x], argTypes := #[26, 26] })
    (i0 : TypeInfo) (hi : Try.prog.info? 3 = some i0) (hz0 : i0.zero = some (.int .i64 0)) (hz1 : i0.size = 1) (hz2 : i0.bytes = 8)
    (n m c B B2 : Nat) (A A2 : Option Addr) (X L : List Int) (hs : a.eval s = .slice A n n) (hx : a.eval x = .slice A2 m c) (hX : IntAt w B A n X) (h : IntAt w B2 A2 m L) (hm : n + m ≤ 1000000000) (hB : B ≤ w.heap.size)
    (hk : ∀ A' c' w', IntAt w' w'.heap.size A' (n + m) (X ++ L) → w.grownBy w' none → wpList Try.prog ops Q rest (a.put o.dst (.slice A' (n + m) c')) w') : wpList Try.prog ops Q (o :: rest) a w := by
  refine wpList_plain hgd fun K hK => ?_
  obtain ⟨A', c', w', hr, h2, h3⟩ := run_app_cut w o.type i0 hi hz0 hz1 hz2 n m c B B2 A A2 X L hX h hm hB
  unfold Oper.wp execOp
  simp only [ho, resolve, invoke, builtin, Sem.run_bind, Sem.run_pure, Result.andThen_ok, List.map_toArray, List.map_cons, List.map_nil, hs, hx, hr]
  exact hK _ _ (hk A' c' w' h2 h3)
end Go.Proofs.Ytfloekbmgjmhbaa
