/- What is proved here: the table of the rules that the program builds, and what it finds for a rule's number; only new blocks are written. -/
import Derived.Test.YtpcmkilaapjaaaaDirI
import Derived.Laws.Rows
import Derived.Laws.Tables
import Derived.Laws.ResultCell
namespace Go.Proofs.Ytpcmkilaapjaaaa
open Go.ChangeShapes Go.WideShapes Go.ChangeAt Go.RowKit
set_option linter.unusedVariables false

theorem gb_row {w : World} {g : Nat} {old cs : Array Value} {t : TypeId} (h : Blk w g t old) : Blk (w.setRow g cs) g t cs ∧ w.grownBy (w.setRow g cs) (some g) := by
  refine ⟨setRow_heap w g old cs t (0, 0) h, rfl, rfl, rfl, ?_, fun i hi hne => ?_⟩
  · simp [World.setRow]
  · have hne' : g ≠ i := fun e => hne (by rw [e])
    simp [World.setRow, Array.getElem?_modify, hne']
theorem gb_fresh {a b c : World} {g : Nat} (h : a.grownBy b none) (k : b.grownBy c (some g)) (hg : a.heap.size ≤ g) : a.grownBy c none :=
  ⟨k.os.trans h.os, k.tape.trans h.tape, k.output.trans h.output, Nat.le_trans h.size k.size, fun i hi hne => (k.block i (Nat.lt_of_lt_of_le hi h.size) (fun e => by cases e; omega)).trans (h.block i hi hne)⟩

/-- A rule as two cells: its name and its function. -/
def ruleName (r : Int) : ByteArray := if r = 1 then ⟨#[120, 121]⟩ else if r = 2 then ⟨#[121, 120]⟩ else if r = 3 then ⟨#[119, 101, 115, 116]⟩ else if r = 4 then ⟨#[109, 105, 120, 101, 100]⟩ else ⟨#[]⟩
def ruleFn (r : Int) : Value := if r = 1 then .func (.func 73) #[] #[] else if r = 2 then .func (.func 74) #[] #[] else if r = 3 then .func (.func 75) #[] #[] else if r = 4 then .func (.func 76) #[] #[] else .nilFunc
def ruleC (r : Int) : Array Value := #[.string (ruleName r), ruleFn r]
def rulesC : Array Value := #[.string (ruleName 0), ruleFn 0, .string (ruleName 1), ruleFn 1, .string (ruleName 2), ruleFn 2, .string (ruleName 3), ruleFn 3, .string (ruleName 4), ruleFn 4]
theorem rules_info : (Try.prog.info? 98).map (·.size) = some 10 := by kernel_rfl
theorem rule_info : (Try.prog.info? 68).map (·.size) = some 2 := by kernel_rfl

theorem rules_one : rulesC.all (·.oneCell') = true := by simp [rulesC, ruleFn, Value.oneCell']
theorem rule_one (r : Int) : (ruleC r).all (·.oneCell') = true := by
  simp only [ruleC, ruleFn]
  repeat' split
  all_goals simp [Value.oneCell']

theorem implRules (w : World) :
    Calls Try.prog 62 #[] w fun e w' => e = .returned (.agg rulesC) ∧ w.grownBy w' none := by
  go_enter Try.func62, Try.ntmps62
  go_wp2_with (refine wpList_store_row (P := Try.prog) rfl 98 (.tmp 0) (.tmp 5) rfl w.heap.size rulesC rfl rfl 98 _ (Blk.new _ _ _) rules_info rfl rules_one ?_)
  obtain ⟨b1, g1⟩ := gb_row (cs := rulesC) (Blk.new w 98 (#[.string ⟨#[]⟩, .nilFunc, .string ⟨#[]⟩, .nilFunc, .string ⟨#[]⟩, .nilFunc, .string ⟨#[]⟩, .nilFunc, .string ⟨#[]⟩, .nilFunc]))
  exact bodyPost_ret (v := .agg rulesC) (results_cell_row Try.results62 _ _ w.heap.size _ rulesC (0, 0) _ rfl b1 Try.underlying98 rfl rules_info) rfl ⟨rfl, gb_fresh (gb_alloc (gb_refl _ _) _) g1 (Nat.le_refl _)⟩

theorem index_rules (r : Int) (h1 : 1 ≤ r) (h4 : r ≤ 4) (w : World) :
    (Instr.index 98 (.agg rulesC) (.int .i64 r)).run Try.prog w = .ok (.agg (ruleC r)) w := by
  have hr : r = 1 ∨ r = 2 ∨ r = 3 ∨ r = 4 := by omega
  rcases hr with rfl | rfl | rfl | rfl
  all_goals simp [Instr.index, run_underlying Try.underlying98, asIntOf, part, go_sem, rulesC, ruleC]
theorem wpList_indexRule {ops : Array Oper} {rest : List Oper} {op : Oper} {a : Act} {w : World} {Q : Exit → Act → World → Prop} (hgd : op.guard = none) (x y : Operand) (ho : op.op = .index 98 x y)
    (r : Int) (hx : a.eval x = .agg rulesC) (hy : a.eval y = .int .i64 r) (h1 : 1 ≤ r) (h4 : r ≤ 4)
    (h : wpList Try.prog ops Q rest (a.put op.dst (.agg (ruleC r))) w) : wpList Try.prog ops Q (op :: rest) a w :=
  wpList_plain hgd fun _ hK => by
    unfold Oper.wp execOp
    simp only [ho, hx, hy, index_rules r h1 h4, Sem.run_bind, Result.andThen_ok]
    exact hK _ _ h
theorem ruleC_out {r : Int} (h : r < 1 ∨ 4 < r) : ruleC r = #[.string ⟨#[]⟩, .nilFunc] := by
  have a1 : r ≠ 1 := by omega
  have a2 : r ≠ 2 := by omega
  have a3 : r ≠ 3 := by omega
  have a4 : r ≠ 4 := by omega
  simp [ruleC, ruleName, ruleFn, a1, a2, a3, a4]
theorem ret_rule {tmps : Array Value} {w : World} {g : Nat} {cs : Array Value} {b : Bool} (hb : Blk w g 68 cs) (hs : (Try.prog.info? 68).map (·.size) = some cs.size)
    (hp : tmps.getD 2 undef = .pointer (some ⟨g, 0, none⟩)) (hq : tmps.getD 3 undef = .bool b) : (results Try.f41 tmps).run Try.prog w = .ok (.tuple #[.agg cs, .bool b]) w := by
  rw [results_cell_tmp Try.results41, hp, hq]
  simp only [asAddr, Sem.run_pure, Result.andThen_ok, run_loadVar_row w g _ _ cs (0, 0) _ hb Try.underlying68 rfl hs]
/-- The rule that was found, and whether there is one. -/
theorem implFindRule (r : Int) (b : Bool) (hb : decide (1 ≤ r ∧ r ≤ 4) = b) (w : World) :
    Calls Try.prog 41 #[.int .i64 r] w fun e w' => e = .returned (.tuple #[.agg (ruleC r), .bool b]) ∧ w.grownBy w' none := by
  have HZ := Lib.hid (Blk.new w 68 #[.string ⟨#[]⟩, .nilFunc])
  by_cases h1 : r < 1
  · have HC := Lib.hid (ruleC_out (.inl h1))
    obtain rfl : false = b := by rw [← hb]; simp; omega
    clear hb
    go_enter Try.func41, Try.ntmps41
    go_wp2_with (refine wpList_store_row (P := Try.prog) rfl 68 (.tmp 2) (.tmp 10) rfl w.heap.size #[.string ⟨#[]⟩, .nilFunc] rfl rfl 68 _ HZ.out rule_info rfl (by simp [Value.oneCell']) ?_)
    obtain ⟨b1, g1⟩ := gb_row (cs := #[.string ⟨#[]⟩, .nilFunc]) HZ.out
    rw [HC.out]
    exact bodyPost_ret (v := .tuple #[.agg #[.string ⟨#[]⟩, .nilFunc], .bool false]) (ret_rule b1 rule_info rfl rfl) rfl ⟨rfl, gb_fresh (gb_alloc (gb_refl _ _) _) g1 (Nat.le_refl _)⟩
  · by_cases h4 : r > 4
    · have HC := Lib.hid (ruleC_out (.inr h4))
      obtain rfl : false = b := by rw [← hb]; simp; omega
      clear hb
      go_enter Try.func41, Try.ntmps41
      go_wp2_with (refine wpList_store_row (P := Try.prog) rfl 68 (.tmp 2) (.tmp 10) rfl w.heap.size #[.string ⟨#[]⟩, .nilFunc] rfl rfl 68 _ HZ.out rule_info rfl (by simp [Value.oneCell']) ?_)
      obtain ⟨b1, g1⟩ := gb_row (cs := #[.string ⟨#[]⟩, .nilFunc]) HZ.out
      rw [HC.out]
      exact bodyPost_ret (v := .tuple #[.agg #[.string ⟨#[]⟩, .nilFunc], .bool false]) (ret_rule b1 rule_info rfl rfl) rfl ⟨rfl, gb_fresh (gb_alloc (gb_refl _ _) _) g1 (Nat.le_refl _)⟩
    · have h1' : 1 ≤ r := by omega
      have h4' : r ≤ 4 := by omega
      obtain rfl : true = b := by rw [← hb]; simp; omega
      clear hb
      go_enter Try.func41, Try.ntmps41
      go_wp2_with fail
      refine (implRules _).mono ?_
      rintro e w1 ⟨rfl, g1⟩
      have HB1 := Lib.hid (boxi_blk g1)
      have HG1 := Lib.hid (boxi_gb g1)
      clear g1
      go_wp2_with (first | (refine wpList_indexRule rfl (.tmp 11) (.tmp 12) rfl r rfl rfl h1' h4' ?_) | (refine wpList_store_row (P := Try.prog) rfl 68 (.tmp 2) (.tmp 13) rfl w.heap.size (ruleC r) rfl rfl 68 _ HB1.out rule_info rfl (rule_one r) ?_))
      obtain ⟨b2, g2⟩ := gb_row (cs := ruleC r) HB1.out
      exact bodyPost_ret (v := .tuple #[.agg (ruleC r), .bool true]) (ret_rule b2 rule_info rfl rfl) rfl ⟨rfl, gb_fresh HG1.out g2 (Nat.le_refl _)⟩
end Go.Proofs.Ytpcmkilaapjaaaa
