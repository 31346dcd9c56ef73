/- What is proved here: what 'append' yields where a whole slice of records is appended onto a row of the call's own, also as a step of a region that draws its order; nothing of the program. -/
import Derived.Test.YtfloekbmgjmhbaaAppI
import Derived.Test.YtfloekbmgjmhbaaRecM
import Derived.Deep.AppendLies
namespace Go.Proofs.Ytfloekbmgjmhbaa
open Go.ChangeShapes Go.WideShapes Go.ChangeAt Go.RowKit
set_option linter.unusedVariables false

/-- Numbers: a step of a region. -/
theorem step_app_own {ops : Array Oper} {o : Oper} {a : Act} {K : Act → World → Prop} {Q : Exit → Act → World → Prop} {F : Prop} (w : World) (hgd : o.guard = none) (s x : Operand)
    (ho : o.op = .call { callee := .builtin .append, args := #[s, x], argTypes := #[26, 26] })
    (i0 : TypeInfo) (hi : Try.prog.info? 3 = some i0) (hz0 : i0.zero = some (.int .i64 0)) (hz1 : i0.size = 1) (hz2 : i0.bytes = 8)
    (base n m c B : Nat) (A : Option Addr) (X L : List Int) (v : Value) (hs : a.eval s = v) (hx : a.eval x = .slice A m c) (hown : w.ownsRow base 3 1 v n (intsV X)) (h : IntAt w B A m L) (hm : n + m ≤ 1000000000) (hb : base ≤ w.heap.size)
    (hk : ∀ v' w', w'.ownsRow base 3 1 v' (n + m) (intsV (X ++ L)) → w.grownBy w' v.ownBlock → K (a.put o.dst v') w') :
    if Region.wanted o (yielded ops a.tmps) = true then Oper.wp Try.prog o a w K Q else F := by
  have hw : Region.wanted o (yielded ops a.tmps) = true := by simp [Region.wanted, hgd]
  rw [if_pos hw]
  obtain ⟨v', w', hr, h2, h3⟩ := run_app_own w o.type i0 hi hz0 hz1 hz2 base n m c B A X L v hown h hm hb
  unfold Oper.wp execOp
  simp only [ho, resolve, invoke, builtin, Sem.run_bind, Sem.run_pure, Result.andThen_ok, List.map_toArray, List.map_cons, List.map_nil, hs, hx, hr]
  exact hk v' w' h2 h3
/-- Numbers: a step of a region that also tells where the result lies. -/
theorem step_app_at {ops : Array Oper} {o : Oper} {a : Act} {K : Act → World → Prop} {Q : Exit → Act → World → Prop} {F : Prop} (w : World) (hgd : o.guard = none) (s x : Operand)
    (ho : o.op = .call { callee := .builtin .append, args := #[s, x], argTypes := #[26, 26] })
    (i0 : TypeInfo) (hi : Try.prog.info? 3 = some i0) (hz0 : i0.zero = some (.int .i64 0)) (hz1 : i0.size = 1) (hz2 : i0.bytes = 8)
    (base n m c B : Nat) (A : Option Addr) (X L : List Int) (v : Value) (hs : a.eval s = v) (hx : a.eval x = .slice A m c) (hown : w.ownsRow base 3 1 v n (intsV X)) (h : IntAt w B A m L) (hm : n + m ≤ 1000000000) (hb : base ≤ w.heap.size)
    (hk : ∀ v' w', w'.ownsRow base 3 1 v' (n + m) (intsV (X ++ L)) → w.grownBy w' v.ownBlock → (∀ b, v'.ownBlock = some b → v.ownBlock = some b ∨ b = w.heap.size) → K (a.put o.dst v') w') :
    if Region.wanted o (yielded ops a.tmps) = true then Oper.wp Try.prog o a w K Q else F := by
  have hw : Region.wanted o (yielded ops a.tmps) = true := by simp [Region.wanted, hgd]
  rw [if_pos hw]
  have key : ∃ v' w', (Builtin.append_ #[26, 26] o.type #[v, .slice A m c]).run Try.prog w = .ok v' w' ∧ w'.ownsRow base 3 1 v' (n + m) (intsV (X ++ L)) ∧ w.grownBy w' v.ownBlock ∧ ∀ b, v'.ownBlock = some b → v.ownBlock = some b ∨ b = w.heap.size := by
    have hl := h.1
    rcases Nat.eq_zero_or_pos m with h0 | h0
    · subst h0
      obtain rfl : L = [] := List.eq_nil_of_length_eq_zero hl
      obtain ⟨A', c', rfl, _⟩ := own_form hown
      exact ⟨_, _, run_app_nothing w o.type A' n c' (own_cap hown).1 _ i0 hi hz1 (src_ints h c), by rw [List.append_nil]; exact hown, gb_refl _ _, fun b hb => .inl hb⟩
    · obtain ⟨b, off, rfl, _⟩ := h.2 h0
      obtain ⟨v', w', h1, h2, h3, _, h5⟩ := run_append_own_at (P := Try.prog) w base 26 o.type 3 i0 (.int .i64 0) 1 8 Try.underlying26 hi hz0 hz1 hz2 rfl (by decide) v n (intsV X) hown ⟨b, off, none⟩ m c (intsV L)
        (by rw [intsV_length, hl]; omega) (intAt_news h) (intsV_one L) (by unfold maxLen; omega) (by omega) hb
      refine ⟨v', w', h1, by rw [intsV_append]; exact h2, h3, fun q hq => ?_⟩
      rcases h5 with h5 | h5
      · exact .inl (by rw [← h5]; exact hq)
      · right
        rw [h5] at hq
        exact (Option.some.inj hq).symm
  obtain ⟨v', w', hr, h2, h3, h4⟩ := key
  unfold Oper.wp execOp
  simp only [ho, resolve, invoke, builtin, Sem.run_bind, Sem.run_pure, Result.andThen_ok, List.map_toArray, List.map_cons, List.map_nil, hs, hx, hr]
  exact hk v' w' h2 h3 h4
section
variable {α : Type} {z bytes : Nat} {c : α → List Value} {T e : TypeId} {zv : Value}
theorem rec_news (hL : Lay z c) (hz : 0 < z) {w : World} {B n b off : Nat} {D : List α} (h : RecAt z c w B (some ⟨b, off, none⟩) n D) : ∀ j u, (recV c D)[j]? = some u → w.cell? ((⟨b, off, none⟩ : Addr).add j) = some u := fun j u hu => by
  obtain ⟨x, hx, hv⟩ := recV_of hL hz D hu
  have hj := (List.getElem?_eq_some_iff.1 hx).1
  obtain ⟨b', off', hA, _, hc⟩ := h.2 (by have h2 : 0 < D.length := Nat.lt_of_le_of_lt (Nat.zero_le _) hj; rw [h.1] at h2; exact h2)
  obtain ⟨rfl, rfl⟩ : b = b' ∧ off = off' := by injection hA with h1; injection h1 with h2 h3; exact ⟨h2, h3⟩
  rw [Addr.add_lit]
  have := hc (j / z) x hx (j % z) u hv
  rw [show off + j / z * z + j % z = off + j by rw [Nat.add_assoc, Nat.mul_comm, Nat.div_add_mod]] at this
  exact this
theorem src_rec (hL : Lay z c) (hz : 0 < z) (hT : Try.prog.underlying T = some (.slice e)) {w : World} {B n : Nat} {A : Option Addr} {D : List α} (h : RecAt z c w B A n D) (cc : Nat) : Src Try.prog z T (.slice A n cc) n (recV c D) w := by
  have hl := h.1
  rcases Nat.eq_zero_or_pos n with h0 | h0
  · subst h0
    obtain rfl : D = [] := List.eq_nil_of_length_eq_zero hl
    cases A with
    | none => exact Src.ofNil w hT cc
    | some a => exact Src.ofSlice w hT a 0 cc [] (by simp) (fun j u hu => by cases hu) (fun u hu => by cases hu)
  · obtain ⟨b, off, rfl, _⟩ := h.2 h0
    exact Src.ofSlice w hT _ n cc (recV c D) (by rw [recV_length hL, hl]) (rec_news hL hz h) (recV_one hL D)
theorem run_app_nothingR (hT : Try.prog.underlying T = some (.slice e)) (w : World) (ty : TypeId) (base : Option Addr) (sLen sCap : Nat) (hle : sLen ≤ sCap) (x : Value) (i0 : TypeInfo) (hi : Try.prog.info? e = some i0) (h1 : i0.size = z) (hs : Src Try.prog z T x 0 [] w) :
    (Builtin.append_ #[T, T] ty #[.slice base sLen sCap, x]).run Try.prog w = .ok (.slice base sLen sCap) w := by
  have hc := hs.cells
  rw [← h1] at hc
  cases base <;> simp [Builtin.append_, run_underlying hT, sizeOf, typeInfo, hi, hs.len, hle, hc, storeCells]
theorem run_app_ownR (hL : Lay z c) (hz : 0 < z) (hT : Try.prog.underlying T = some (.slice e)) (w : World) (ty : TypeId) (i0 : TypeInfo) (hi : Try.prog.info? e = some i0) (hz0 : i0.zero = some zv) (hz1 : i0.size = z) (hz2 : i0.bytes = bytes) (hzs : zv.cells.size = z) (hby : bytes ≤ 1000)
    (base n m cc B : Nat) (A : Option Addr) (X D : List α) (v : Value) (hown : w.ownsRow base e z v n (recV c X)) (h : RecAt z c w B A m D) (hm : n + m ≤ 1000000000) (hb : base ≤ w.heap.size) :
    ∃ v' w', (Builtin.append_ #[T, T] ty #[v, .slice A m cc]).run Try.prog w = .ok v' w' ∧ w'.ownsRow base e z v' (n + m) (recV c (X ++ D)) ∧ w.grownBy w' v.ownBlock := by
  have hl := h.1
  rcases Nat.eq_zero_or_pos m with h0 | h0
  · subst h0
    obtain rfl : D = [] := List.eq_nil_of_length_eq_zero hl
    obtain ⟨A', c', rfl, _⟩ := own_form hown
    exact ⟨_, _, run_app_nothingR hT w ty A' n c' (own_cap hown).1 _ i0 hi hz1 (src_rec hL hz hT h cc), by rw [List.append_nil]; exact hown, gb_refl _ _⟩
  · obtain ⟨b, off, rfl, _⟩ := h.2 h0
    obtain ⟨v', w', h1, h2, h3, _⟩ := run_append_own (P := Try.prog) w base T ty e i0 zv z bytes hT hi hz0 hz1 hz2 hzs hz v n (recV c X) hown ⟨b, off, none⟩ m cc (recV c D)
      (by rw [recV_length hL, hl]) (rec_news hL hz h) (recV_one hL D) (by unfold maxLen; omega) (by
        have h4 : (n + m) * bytes ≤ 1000000000 * 1000 := Nat.mul_le_mul hm hby
        omega) hb
    exact ⟨v', w', h1, by rw [recV_append]; exact h2, h3⟩
theorem wpList_app_ownR {ops : Array Oper} {rest : List Oper} {o : Oper} {a : Act} {Q : Exit → Act → World → Prop} (hL : Lay z c) (hz : 0 < z) (hT : Try.prog.underlying T = some (.slice e)) (w : World) (hgd : o.guard = none) (s x : Operand)
    (ho : o.op = .call { callee := .builtin .append, args := #[s, x], argTypes := #[T, T] })
    (i0 : TypeInfo) (hi : Try.prog.info? e = some i0) (hz0 : i0.zero = some zv) (hz1 : i0.size = z) (hz2 : i0.bytes = bytes) (hzs : zv.cells.size = z) (hby : bytes ≤ 1000)
    (base n m cc B : Nat) (A : Option Addr) (X D : List α) (v : Value) (hs : a.eval s = v) (hx : a.eval x = .slice A m cc) (hown : w.ownsRow base e z v n (recV c X)) (h : RecAt z c w B A m D) (hm : n + m ≤ 1000000000) (hb : base ≤ w.heap.size)
    (hk : ∀ v' w', w'.ownsRow base e z v' (n + m) (recV c (X ++ D)) → w.grownBy w' v.ownBlock → wpList Try.prog ops Q rest (a.put o.dst v') w') : wpList Try.prog ops Q (o :: rest) a w := by
  refine wpList_plain hgd fun K hK => ?_
  obtain ⟨v', w', hr, h2, h3⟩ := run_app_ownR hL hz hT w o.type i0 hi hz0 hz1 hz2 hzs hby base n m cc B A X D v hown h hm hb
  unfold Oper.wp execOp
  simp only [ho, resolve, invoke, builtin, Sem.run_bind, Sem.run_pure, Result.andThen_ok, List.map_toArray, List.map_cons, List.map_nil, hs, hx, hr]
  exact hK _ _ (hk v' w' h2 h3)
theorem step_app_ownR {ops : Array Oper} {o : Oper} {a : Act} {K : Act → World → Prop} {Q : Exit → Act → World → Prop} {F : Prop} (hL : Lay z c) (hz : 0 < z) (hT : Try.prog.underlying T = some (.slice e)) (w : World) (hgd : o.guard = none) (s x : Operand)
    (ho : o.op = .call { callee := .builtin .append, args := #[s, x], argTypes := #[T, T] })
    (i0 : TypeInfo) (hi : Try.prog.info? e = some i0) (hz0 : i0.zero = some zv) (hz1 : i0.size = z) (hz2 : i0.bytes = bytes) (hzs : zv.cells.size = z) (hby : bytes ≤ 1000)
    (base n m cc B : Nat) (A : Option Addr) (X D : List α) (v : Value) (hs : a.eval s = v) (hx : a.eval x = .slice A m cc) (hown : w.ownsRow base e z v n (recV c X)) (h : RecAt z c w B A m D) (hm : n + m ≤ 1000000000) (hb : base ≤ w.heap.size)
    (hk : ∀ v' w', w'.ownsRow base e z v' (n + m) (recV c (X ++ D)) → w.grownBy w' v.ownBlock → K (a.put o.dst v') w') :
    if Region.wanted o (yielded ops a.tmps) = true then Oper.wp Try.prog o a w K Q else F := by
  have hw : Region.wanted o (yielded ops a.tmps) = true := by simp [Region.wanted, hgd]
  rw [if_pos hw]
  obtain ⟨v', w', hr, h2, h3⟩ := run_app_ownR hL hz hT w o.type i0 hi hz0 hz1 hz2 hzs hby base n m cc B A X D v hown h hm hb
  unfold Oper.wp execOp
  simp only [ho, resolve, invoke, builtin, Sem.run_bind, Sem.run_pure, Result.andThen_ok, List.map_toArray, List.map_cons, List.map_nil, hs, hx, hr]
  exact hk v' w' h2 h3
/-- Records: a step of a region that also tells where the result lies. -/
theorem step_app_atR {ops : Array Oper} {o : Oper} {a : Act} {K : Act → World → Prop} {Q : Exit → Act → World → Prop} {F : Prop} (hL : Lay z c) (hz : 0 < z) (hT : Try.prog.underlying T = some (.slice e)) (w : World) (hgd : o.guard = none) (s x : Operand)
    (ho : o.op = .call { callee := .builtin .append, args := #[s, x], argTypes := #[T, T] })
    (i0 : TypeInfo) (hi : Try.prog.info? e = some i0) (hz0 : i0.zero = some zv) (hz1 : i0.size = z) (hz2 : i0.bytes = bytes) (hzs : zv.cells.size = z) (hby : bytes ≤ 1000)
    (base n m cc B : Nat) (A : Option Addr) (X D : List α) (v : Value) (hs : a.eval s = v) (hx : a.eval x = .slice A m cc) (hown : w.ownsRow base e z v n (recV c X)) (h : RecAt z c w B A m D) (hm : n + m ≤ 1000000000) (hb : base ≤ w.heap.size)
    (hk : ∀ v' w', w'.ownsRow base e z v' (n + m) (recV c (X ++ D)) → w.grownBy w' v.ownBlock → (∀ b, v'.ownBlock = some b → v.ownBlock = some b ∨ b = w.heap.size) → K (a.put o.dst v') w') :
    if Region.wanted o (yielded ops a.tmps) = true then Oper.wp Try.prog o a w K Q else F := by
  have hw : Region.wanted o (yielded ops a.tmps) = true := by simp [Region.wanted, hgd]
  rw [if_pos hw]
  have key : ∃ v' w', (Builtin.append_ #[T, T] o.type #[v, .slice A m cc]).run Try.prog w = .ok v' w' ∧ w'.ownsRow base e z v' (n + m) (recV c (X ++ D)) ∧ w.grownBy w' v.ownBlock ∧ ∀ b, v'.ownBlock = some b → v.ownBlock = some b ∨ b = w.heap.size := by
    have hl := h.1
    rcases Nat.eq_zero_or_pos m with h0 | h0
    · subst h0
      obtain rfl : D = [] := List.eq_nil_of_length_eq_zero hl
      obtain ⟨A', c', rfl, _⟩ := own_form hown
      exact ⟨_, _, run_app_nothingR hT w o.type A' n c' (own_cap hown).1 _ i0 hi hz1 (src_rec hL hz hT h cc), by rw [List.append_nil]; exact hown, gb_refl _ _, fun b hb => .inl hb⟩
    · obtain ⟨b, off, rfl, _⟩ := h.2 h0
      obtain ⟨v', w', h1, h2, h3, _, h5⟩ := run_append_own_at (P := Try.prog) w base T o.type e i0 zv z bytes hT hi hz0 hz1 hz2 hzs hz v n (recV c X) hown ⟨b, off, none⟩ m cc (recV c D)
        (by rw [recV_length hL, hl]) (rec_news hL hz h) (recV_one hL D) (by unfold maxLen; omega) (by
          have h4 : (n + m) * bytes ≤ 1000000000 * 1000 := Nat.mul_le_mul hm hby
          omega) hb
      refine ⟨v', w', h1, by rw [recV_append]; exact h2, h3, fun q hq => ?_⟩
      rcases h5 with h5 | h5
      · exact .inl (by rw [← h5]; exact hq)
      · right
        rw [h5] at hq
        exact (Option.some.inj hq).symm
  obtain ⟨v', w', hr, h2, h3, h4⟩ := key
  unfold Oper.wp execOp
  simp only [ho, resolve, invoke, builtin, Sem.run_bind, Sem.run_pure, Result.andThen_ok, List.map_toArray, List.map_cons, List.map_nil, hs, hx, hr]
  exact hk v' w' h2 h3 h4
end
end Go.Proofs.Ytfloekbmgjmhbaa
