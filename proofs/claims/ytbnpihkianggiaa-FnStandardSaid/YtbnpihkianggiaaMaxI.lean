/- What is proved here: what the library's greatest number of a list returns, and how a walk takes a row out of a square; only new blocks are written. -/
import Derived.Test.YtbnpihkianggiaaArr
namespace Go.Proofs.Ytbnpihkianggiaa
open Go.ChangeShapes Go.WideShapes Go.ChangeAt Go.RowKit
set_option linter.unusedVariables false

theorem row_info : (Try.prog.info? 63).map (·.size) = some 16 := by kernel_rfl
/-- Row r of a square. -/
def rowX (X : List Int) (r : Nat) : List Int := (X.drop (r * 16)).take 16
theorem rowX_length {X : List Int} {r : Nat} (hl : X.length = 256) (hr : r < 16) : (rowX X r).length = 16 := by
  simp [rowX]; omega
theorem rowX_at {X : List Int} {r j : Nat} (hj : j < 16) : (rowX X r).getD j 0 = X.getD (r * 16 + j) 0 := by
  simp only [rowX, List.getD_eq_getElem?_getD, List.getElem?_take, hj, if_true, List.getElem?_drop]
theorem index_square {w : World} {X : List Int} {r : Nat} (hl : X.length = 256) (hr : r < 16) :
    (Instr.index 65 (.agg (cellsX X)) (.int .i64 (r : Int))).run Try.prog w = .ok (.agg (cellsX (rowX X r))) w := by
  have h1 : (0 : Int) ≤ (r : Int) ∧ (r : Int) < ((16 : Nat) : Int) := by omega
  have hx : (cellsX X).extract (r * 16) (r * 16 + 16) = cellsX (rowX X r) := by
    simp [cellsX, rowX, intsV, List.map_take, List.map_drop]
  simp [Instr.index, run_underlying Try.underlying65, asIntOf, h1, part, go_sem, hx]
  intro h; omega
theorem wpList_indexX {ops : Array Oper} {rest : List Oper} {op : Oper} {a : Act} {w : World} {Q : Exit → Act → World → Prop} (hgd : op.guard = none) (x y : Operand) (ho : op.op = .index 65 x y)
    (X : List Int) (r : Nat) (hx : a.eval x = .agg (cellsX X)) (hy : a.eval y = .int .i64 (r : Int)) (hl : X.length = 256) (hr : r < 16)
    (h : wpList Try.prog ops Q rest (a.put op.dst (.agg (cellsX (rowX X r)))) w) : wpList Try.prog ops Q (op :: rest) a w :=
  wpList_plain hgd fun _ hK => by
    unfold Oper.wp execOp
    simp only [ho, hx, hy, index_square hl hr, Sem.run_bind, Result.andThen_ok]
    exact hK _ _ h
theorem store_row {w : World} {g : Nat} {old : Array Value} {R : List Int} (hb : Blk w g 63 old) (hl : old.size = 16) (hm : R.length = 16) : (storeVar 63 ⟨g, 0, none⟩ (.agg (cellsX R))).run Try.prog w = .ok () (w.setRow g (cellsX R)) :=
  run_storeVar_row w g _ _ old (cellsX R) hb (by rw [cellsX_size, hm]; exact row_info) (by rw [cellsX_size, hl, hm]) (cellsX_one R)
theorem wpList_storeR {ops : Array Oper} {rest : List Oper} {op : Oper} {a : Act} {w : World} {Q : Exit → Act → World → Prop} (hgd : op.guard = none) (x y : Operand) (ho : op.op = .store 63 x y)
    (g : Nat) (old : Array Value) (R : List Int) (hx : a.eval x = .pointer (some ⟨g, 0, none⟩)) (hy : a.eval y = .agg (cellsX R)) (hb : Blk w g 63 old) (hl : old.size = 16) (hm : R.length = 16)
    (h : ∀ w', Blk w' g 63 (cellsX R) → w.grownBy w' (some g) → wpList Try.prog ops Q rest (a.put op.dst undef) w') : wpList Try.prog ops Q (op :: rest) a w :=
  wpList_plain hgd fun _ hK => by
    unfold Oper.wp execOp
    simp only [ho, hx, hy, Instr.storeAt, Instr.sureAddr, Sem.run_bind, Sem.run_pure, Result.andThen_ok, store_row hb hl hm]
    exact hK _ _ (h _ (gb_setRow hb).1 (gb_setRow hb).2)
theorem intAt_row {w : World} {g : Nat} {R : List Int} (hb : Blk w g 63 (cellsX R)) : IntAt w w.heap.size (some ⟨g, 0, none⟩) R.length R :=
  ⟨rfl, fun _ => ⟨g, 0, rfl, hb.lt, fun k x hx => by
    rw [Nat.zero_add, hb.cell k]
    simp [cellsX, intsV, hx]⟩⟩

theorem int_max (m x : Int) : Value.int .i64 (if m < x then x else m) = Value.int .i64 (max m x) := by
  congr 1; split <;> omega
theorem implMax (A : Option Addr) (n cap B : Nat) (R : List Int) (w : World) (h : IntAt w B A (n + 1) R) (hn : n + 1 ≤ 1000000000) :
    Calls Try.prog 37 #[.slice A (n + 1) cap] w fun e w' => e = .returned (.int .i64 (mxTo R n)) ∧ w = w' := by
  have HI := Lib.hid h
  obtain ⟨b0, off0, rfl, _, hc0⟩ := h.at 0 (by omega)
  obtain ⟨x0, hx0⟩ : ∃ x, R.getD 0 0 = x := ⟨_, rfl⟩
  rw [hx0, Nat.add_zero] at hc0
  have HX0 := Lib.hid hx0
  have h1 : ¬ ((n : Int) + 1 < 1) := by omega
  clear h hx0
  go_enter Try.func37, Try.ntmps37
  go_wp2_with fail
  go_loop [3, 4] (fun m i => ∃ j : Nat, m = .int .i64 (mxTo R j) ∧ i = .int .i64 ((j : Int) + 1) ∧ j ≤ n) (fun _ i => n + 1 - (intOf i).toNat)
  case atStart => exact ⟨0, by rw [← HX0.out]; rfl, rfl, Nat.zero_le _⟩
  case round =>
    obtain ⟨j, rfl, rfl, hj⟩ := hrel
    by_cases hlt : j < n
    · obtain ⟨b1, off1, he, _, hc1⟩ := HI.out.at (j + 1) (by omega)
      obtain ⟨rfl, rfl⟩ : b1 = b0 ∧ off1 = off0 := by injection he with he; injection he with h1 h2; exact ⟨h1.symm, h2.symm⟩
      obtain ⟨x1, hx1⟩ : ∃ x, R.getD (j + 1) 0 = x := ⟨_, rfl⟩
      obtain ⟨m, hm⟩ : ∃ m, mxTo R j = m := ⟨_, rfl⟩
      rw [hx1] at hc1
      have HS := Lib.hid (show max m x1 = mxTo R (j + 1) by rw [mxTo, hm, hx1])
      rw [hm]
      clear hx1 hm he
      go_wp2_with fail
      go_round
      case rel => exact ⟨j + 1, by rw [← HS.out, int_max], by go_num, by omega⟩
      case measure => simp [intOf]; omega
    · obtain rfl : j = n := by omega
      go_wp2_with fail
      go_ret
      exact ⟨rfl, rfl⟩
end Go.Proofs.Ytbnpihkianggiaa
