/- What is proved here: what the program's StandardPort returns, for all arguments; only new blocks are written. -/
import Derived.Test.YtbnpihkianggiaaRuleI
import Derived.Test.YtbnpihkianggiaaStdR
namespace Go.Proofs.Ytbnpihkianggiaa
open Go.ChangeShapes Go.WideShapes Go.ChangeAt Go.RowKit
set_option linter.unusedVariables false

theorem wpList_storeRule {ops : Array Oper} {rest : List Oper} {op : Oper} {a : Act} {w : World} {Q : Exit → Act → World → Prop} (hgd : op.guard = none) (x y : Operand) (ho : op.op = .store 59 x y)
    (g : Nat) (old : Array Value) (s : ByteArray) (F : Value) (hF : (#[.string s, F] : Array Value).all (·.oneCell') = true) (hx : a.eval x = .pointer (some ⟨g, 0, none⟩)) (hy : a.eval y = .agg #[.string s, F]) (hb : Blk w g 59 old) (hl : old.size = 2)
    (h : ∀ w', Blk w' g 59 #[.string s, F] → w.grownBy w' (some g) → wpList Try.prog ops Q rest (a.put op.dst undef) w') : wpList Try.prog ops Q (op :: rest) a w :=
  wpList_store_row (P := Try.prog) hgd _ x y ho g #[.string s, F] hx hy _ old hb rule_info hl hF (h _ (gb_row hb).1 (gb_row hb).2)

theorem implHasNodeV (W H n : Int) (b : Bool) (h : hasG W H n = b) (w : World) :
    Calls Try.prog 41 #[.agg #[.int .i64 W, .int .i64 H], .int .i64 n] w (RetB b w) := h ▸ implHasNode W H n w

set_option maxHeartbeats 1600000 in
theorem implStdPort (W H r a b : Int) (w : World) :
    Calls Try.prog 20 #[.agg #[.int .i64 W, .int .i64 H], .int .i64 r, .int .i64 a, .int .i64 b] w (RetI (portAll W H r a b) none w) := by
  obtain ⟨p, hp⟩ : ∃ p, portAll W H r a b = p := ⟨_, rfl⟩
  rw [hp]
  cases hr : decide (1 ≤ r ∧ r ≤ 4) with
  | false =>
    obtain ⟨F, hF⟩ : ∃ F, ruleFn r = F := ⟨_, rfl⟩
    obtain ⟨s, hs⟩ : ∃ s, ruleName r = s := ⟨_, rfl⟩
    obtain rfl : -1 = p := by rw [← hp, portAll, hr]; simp
    have HR : Hid (ruleC r = #[.string s, F]) := Lib.hid (by rw [ruleC, hF, hs])
    have H1 : Hid ((#[.string s, F] : Array Value).all (·.oneCell') = true) := Lib.hid (by rw [← HR.out]; exact rule_one r)
    have HF := Lib.hid (fun w => implFindRule r false hr w)
    clear hp hF hr hs
    go_enter Try.func20, Try.ntmps20
    go_wp2_with fail
    refine (HF.out _).mono ?_
    rintro e w1 ⟨rfl, g1⟩
    have hb1 := boxi_blk g1
    have HG1 := Lib.hid g1
    clear g1
    rw [HR.out]
    have HN := Lib.hid (Blk.new w1 59 #[.string ⟨#[]⟩, .nilFunc])
    have HB0 := Lib.hid (hb1.alloc (.cells #[.string ⟨#[]⟩, .nilFunc] 59))
    have HNE : Hid (w.heap.size ≠ w1.heap.size) := Lib.hid (by have := hb1.lt; omega)
    clear hb1
    go_wp2_with (refine wpList_storeRule rfl (.tmp 9) (.tmp 14) rfl w1.heap.size _ s F H1.out rfl rfl HN.out rfl ?_
                 intro w2 hb2 hg2
                 have hb3 := HB0.out.grown hg2 (fun e => HNE.out (Option.some.inj e))
                 have c0 : w2.cell? ⟨w.heap.size, 0, none⟩ = some (.int .i64 W) := hb3.cell 0
                 have c1 : w2.cell? ⟨w.heap.size, 1, none⟩ = some (.int .i64 H) := hb3.cell 1
                 have HB3 := Lib.hid hb3
                 have HB2 := Lib.hid hb2
                 have HG2 := Lib.hid (gb_fresh (gb_alloc HG1.out _) hg2 HG1.out.size)
                 clear hg2 hb2 hb3)
    go_ret
    exact ⟨rfl, boxi_gb HG2.out⟩
  | true =>
    cases ha : hasG W H a with
    | false =>
      obtain ⟨F, hF⟩ : ∃ F, ruleFn r = F := ⟨_, rfl⟩
      obtain ⟨s, hs⟩ : ∃ s, ruleName r = s := ⟨_, rfl⟩
      obtain rfl : -1 = p := by rw [← hp, portAll, hr, ha]; simp
      have HR : Hid (ruleC r = #[.string s, F]) := Lib.hid (by rw [ruleC, hF, hs])
      have H1 : Hid ((#[.string s, F] : Array Value).all (·.oneCell') = true) := Lib.hid (by rw [← HR.out]; exact rule_one r)
      have HF := Lib.hid (fun w => implFindRule r true hr w)
      have HA := Lib.hid (fun w => implHasNodeV W H a false ha w)
      clear hp hF hr hs ha
      go_enter Try.func20, Try.ntmps20
      go_wp2_with fail
      refine (HF.out _).mono ?_
      rintro e w1 ⟨rfl, g1⟩
      have hb1 := boxi_blk g1
      have HG1 := Lib.hid g1
      clear g1
      rw [HR.out]
      have HN := Lib.hid (Blk.new w1 59 #[.string ⟨#[]⟩, .nilFunc])
      have HB0 := Lib.hid (hb1.alloc (.cells #[.string ⟨#[]⟩, .nilFunc] 59))
      have HNE : Hid (w.heap.size ≠ w1.heap.size) := Lib.hid (by have := hb1.lt; omega)
      clear hb1
      go_wp2_with (refine wpList_storeRule rfl (.tmp 9) (.tmp 14) rfl w1.heap.size _ s F H1.out rfl rfl HN.out rfl ?_
                   intro w2 hb2 hg2
                   have hb3 := HB0.out.grown hg2 (fun e => HNE.out (Option.some.inj e))
                   have c0 : w2.cell? ⟨w.heap.size, 0, none⟩ = some (.int .i64 W) := hb3.cell 0
                   have c1 : w2.cell? ⟨w.heap.size, 1, none⟩ = some (.int .i64 H) := hb3.cell 1
                   have HB3 := Lib.hid hb3
                   have HB2 := Lib.hid hb2
                   have HG2 := Lib.hid (gb_fresh (gb_alloc HG1.out _) hg2 HG1.out.size)
                   clear hg2 hb2 hb3)
      refine (HA.out _).mono ?_
      rintro e w3 ⟨rfl, g3⟩
      have HB4 := Lib.hid (HB3.out.grown g3 (by simp))
      have HB5 := Lib.hid (HB2.out.grown g3 (by simp))
      have HG3 := Lib.hid (gb_trans HG2.out g3)
      have d0 : w3.cell? ⟨w.heap.size, 0, none⟩ = some (.int .i64 W) := HB4.out.cell 0
      have d1 : w3.cell? ⟨w.heap.size, 1, none⟩ = some (.int .i64 H) := HB4.out.cell 1
      clear g3
      go_wp2_with fail
      go_ret
      exact ⟨rfl, boxi_gb HG3.out⟩
    | true =>
      cases hb : hasG W H b with
      | false =>
        obtain ⟨F, hF⟩ : ∃ F, ruleFn r = F := ⟨_, rfl⟩
        obtain ⟨s, hs⟩ : ∃ s, ruleName r = s := ⟨_, rfl⟩
        obtain rfl : -1 = p := by rw [← hp, portAll, hr, ha, hb]; simp
        have HR : Hid (ruleC r = #[.string s, F]) := Lib.hid (by rw [ruleC, hF, hs])
        have H1 : Hid ((#[.string s, F] : Array Value).all (·.oneCell') = true) := Lib.hid (by rw [← HR.out]; exact rule_one r)
        have HF := Lib.hid (fun w => implFindRule r true hr w)
        have HA := Lib.hid (fun w => implHasNodeV W H a true ha w)
        have HB := Lib.hid (fun w => implHasNodeV W H b false hb w)
        clear hp hF hr hs ha hb
        go_enter Try.func20, Try.ntmps20
        go_wp2_with fail
        refine (HF.out _).mono ?_
        rintro e w1 ⟨rfl, g1⟩
        have hb1 := boxi_blk g1
        have HG1 := Lib.hid g1
        clear g1
        rw [HR.out]
        have HN := Lib.hid (Blk.new w1 59 #[.string ⟨#[]⟩, .nilFunc])
        have HB0 := Lib.hid (hb1.alloc (.cells #[.string ⟨#[]⟩, .nilFunc] 59))
        have HNE : Hid (w.heap.size ≠ w1.heap.size) := Lib.hid (by have := hb1.lt; omega)
        clear hb1
        go_wp2_with (refine wpList_storeRule rfl (.tmp 9) (.tmp 14) rfl w1.heap.size _ s F H1.out rfl rfl HN.out rfl ?_
                     intro w2 hb2 hg2
                     have hb3 := HB0.out.grown hg2 (fun e => HNE.out (Option.some.inj e))
                     have c0 : w2.cell? ⟨w.heap.size, 0, none⟩ = some (.int .i64 W) := hb3.cell 0
                     have c1 : w2.cell? ⟨w.heap.size, 1, none⟩ = some (.int .i64 H) := hb3.cell 1
                     have HB3 := Lib.hid hb3
                     have HB2 := Lib.hid hb2
                     have HG2 := Lib.hid (gb_fresh (gb_alloc HG1.out _) hg2 HG1.out.size)
                     clear hg2 hb2 hb3)
        refine (HA.out _).mono ?_
        rintro e w3 ⟨rfl, g3⟩
        have HB4 := Lib.hid (HB3.out.grown g3 (by simp))
        have HB5 := Lib.hid (HB2.out.grown g3 (by simp))
        have HG3 := Lib.hid (gb_trans HG2.out g3)
        have d0 : w3.cell? ⟨w.heap.size, 0, none⟩ = some (.int .i64 W) := HB4.out.cell 0
        have d1 : w3.cell? ⟨w.heap.size, 1, none⟩ = some (.int .i64 H) := HB4.out.cell 1
        clear g3
        go_wp2_with fail
        refine (HB.out _).mono ?_
        rintro e w4 ⟨rfl, g4⟩
        have HB6 := Lib.hid (HB4.out.grown g4 (by simp))
        have HB7 := Lib.hid (HB5.out.grown g4 (by simp))
        have HG4 := Lib.hid (gb_trans HG3.out g4)
        have e0 : w4.cell? ⟨w.heap.size, 0, none⟩ = some (.int .i64 W) := HB6.out.cell 0
        have e1 : w4.cell? ⟨w.heap.size, 1, none⟩ = some (.int .i64 H) := HB6.out.cell 1
        clear g4
        go_wp2_with fail
        go_ret
        exact ⟨rfl, boxi_gb HG4.out⟩
      | true =>
        have hr4 : r = 1 ∨ r = 2 ∨ r = 3 ∨ r = 4 := by simp at hr; omega
        rcases hr4 with rfl | rfl | rfl | rfl
        · obtain ⟨F, hF⟩ : ∃ F, ruleFn 1 = F := ⟨_, rfl⟩
          obtain ⟨s, hs⟩ : ∃ s, ruleName 1 = s := ⟨_, rfl⟩
          obtain rfl : Value.func (.func 59) #[] #[] = F := by rw [← hF]; rfl
          obtain rfl : stdPort W 1 a b = p := by rw [← hp, portAll, hr, ha, hb]; simp
          have HC := Lib.hid (fun w => implXY W H a b _ ha hb (xy_std ha hb) w)
          have HR : Hid (ruleC 1 = #[.string s, (.func (.func 59) #[] #[])]) := Lib.hid (by rw [ruleC, hF, hs])
          have HF := Lib.hid (fun w => implFindRule 1 true hr w)
          have HA := Lib.hid (fun w => implHasNodeV W H a true ha w)
          have HB := Lib.hid (fun w => implHasNodeV W H b true hb w)
          clear hp hF hr hs ha hb
          go_enter Try.func20, Try.ntmps20
          go_wp2_with fail
          refine (HF.out _).mono ?_
          rintro e w1 ⟨rfl, g1⟩
          have hb1 := boxi_blk g1
          have HG1 := Lib.hid g1
          clear g1
          rw [HR.out]
          have HN := Lib.hid (Blk.new w1 59 #[.string ⟨#[]⟩, .nilFunc])
          have HB0 := Lib.hid (hb1.alloc (.cells #[.string ⟨#[]⟩, .nilFunc] 59))
          have HNE : Hid (w.heap.size ≠ w1.heap.size) := Lib.hid (by have := hb1.lt; omega)
          clear hb1
          go_wp2_with (refine wpList_storeRule rfl (.tmp 9) (.tmp 14) rfl w1.heap.size _ s (.func (.func 59) #[] #[]) (by simp [Value.oneCell']) rfl rfl HN.out rfl ?_
                       intro w2 hb2 hg2
                       have hb3 := HB0.out.grown hg2 (fun e => HNE.out (Option.some.inj e))
                       have c0 : w2.cell? ⟨w.heap.size, 0, none⟩ = some (.int .i64 W) := hb3.cell 0
                       have c1 : w2.cell? ⟨w.heap.size, 1, none⟩ = some (.int .i64 H) := hb3.cell 1
                       have HB3 := Lib.hid hb3
                       have HB2 := Lib.hid hb2
                       have HG2 := Lib.hid (gb_fresh (gb_alloc HG1.out _) hg2 HG1.out.size)
                       clear hg2 hb2 hb3)
          refine (HA.out _).mono ?_
          rintro e w3 ⟨rfl, g3⟩
          have HB4 := Lib.hid (HB3.out.grown g3 (by simp))
          have HB5 := Lib.hid (HB2.out.grown g3 (by simp))
          have HG3 := Lib.hid (gb_trans HG2.out g3)
          have d0 : w3.cell? ⟨w.heap.size, 0, none⟩ = some (.int .i64 W) := HB4.out.cell 0
          have d1 : w3.cell? ⟨w.heap.size, 1, none⟩ = some (.int .i64 H) := HB4.out.cell 1
          clear g3
          go_wp2_with fail
          refine (HB.out _).mono ?_
          rintro e w4 ⟨rfl, g4⟩
          have HB6 := Lib.hid (HB4.out.grown g4 (by simp))
          have HB7 := Lib.hid (HB5.out.grown g4 (by simp))
          have HG4 := Lib.hid (gb_trans HG3.out g4)
          have e0 : w4.cell? ⟨w.heap.size, 0, none⟩ = some (.int .i64 W) := HB6.out.cell 0
          have e1 : w4.cell? ⟨w.heap.size, 1, none⟩ = some (.int .i64 H) := HB6.out.cell 1
          have e2 : w4.cell? ⟨w1.heap.size, 1, none⟩ = some (.func (.func 59) #[] #[]) := HB7.out.cell 1
          clear g4
          go_wp2_with fail
          refine (HC.out _).mono ?_
          rintro e w5 ⟨rfl, g5⟩
          have HG5 := Lib.hid (gb_trans HG4.out g5)
          clear g5
          go_wp2_with fail
          go_ret
          exact ⟨rfl, boxi_gb HG5.out⟩
        · obtain ⟨F, hF⟩ : ∃ F, ruleFn 2 = F := ⟨_, rfl⟩
          obtain ⟨s, hs⟩ : ∃ s, ruleName 2 = s := ⟨_, rfl⟩
          obtain rfl : Value.func (.func 60) #[] #[] = F := by rw [← hF]; rfl
          obtain rfl : stdPort W 2 a b = p := by rw [← hp, portAll, hr, ha, hb]; simp
          have HC := Lib.hid (fun w => implYX W H a b _ ha hb (yx_std ha hb) w)
          have HR : Hid (ruleC 2 = #[.string s, (.func (.func 60) #[] #[])]) := Lib.hid (by rw [ruleC, hF, hs])
          have HF := Lib.hid (fun w => implFindRule 2 true hr w)
          have HA := Lib.hid (fun w => implHasNodeV W H a true ha w)
          have HB := Lib.hid (fun w => implHasNodeV W H b true hb w)
          clear hp hF hr hs ha hb
          go_enter Try.func20, Try.ntmps20
          go_wp2_with fail
          refine (HF.out _).mono ?_
          rintro e w1 ⟨rfl, g1⟩
          have hb1 := boxi_blk g1
          have HG1 := Lib.hid g1
          clear g1
          rw [HR.out]
          have HN := Lib.hid (Blk.new w1 59 #[.string ⟨#[]⟩, .nilFunc])
          have HB0 := Lib.hid (hb1.alloc (.cells #[.string ⟨#[]⟩, .nilFunc] 59))
          have HNE : Hid (w.heap.size ≠ w1.heap.size) := Lib.hid (by have := hb1.lt; omega)
          clear hb1
          go_wp2_with (refine wpList_storeRule rfl (.tmp 9) (.tmp 14) rfl w1.heap.size _ s (.func (.func 60) #[] #[]) (by simp [Value.oneCell']) rfl rfl HN.out rfl ?_
                       intro w2 hb2 hg2
                       have hb3 := HB0.out.grown hg2 (fun e => HNE.out (Option.some.inj e))
                       have c0 : w2.cell? ⟨w.heap.size, 0, none⟩ = some (.int .i64 W) := hb3.cell 0
                       have c1 : w2.cell? ⟨w.heap.size, 1, none⟩ = some (.int .i64 H) := hb3.cell 1
                       have HB3 := Lib.hid hb3
                       have HB2 := Lib.hid hb2
                       have HG2 := Lib.hid (gb_fresh (gb_alloc HG1.out _) hg2 HG1.out.size)
                       clear hg2 hb2 hb3)
          refine (HA.out _).mono ?_
          rintro e w3 ⟨rfl, g3⟩
          have HB4 := Lib.hid (HB3.out.grown g3 (by simp))
          have HB5 := Lib.hid (HB2.out.grown g3 (by simp))
          have HG3 := Lib.hid (gb_trans HG2.out g3)
          have d0 : w3.cell? ⟨w.heap.size, 0, none⟩ = some (.int .i64 W) := HB4.out.cell 0
          have d1 : w3.cell? ⟨w.heap.size, 1, none⟩ = some (.int .i64 H) := HB4.out.cell 1
          clear g3
          go_wp2_with fail
          refine (HB.out _).mono ?_
          rintro e w4 ⟨rfl, g4⟩
          have HB6 := Lib.hid (HB4.out.grown g4 (by simp))
          have HB7 := Lib.hid (HB5.out.grown g4 (by simp))
          have HG4 := Lib.hid (gb_trans HG3.out g4)
          have e0 : w4.cell? ⟨w.heap.size, 0, none⟩ = some (.int .i64 W) := HB6.out.cell 0
          have e1 : w4.cell? ⟨w.heap.size, 1, none⟩ = some (.int .i64 H) := HB6.out.cell 1
          have e2 : w4.cell? ⟨w1.heap.size, 1, none⟩ = some (.func (.func 60) #[] #[]) := HB7.out.cell 1
          clear g4
          go_wp2_with fail
          refine (HC.out _).mono ?_
          rintro e w5 ⟨rfl, g5⟩
          have HG5 := Lib.hid (gb_trans HG4.out g5)
          clear g5
          go_wp2_with fail
          go_ret
          exact ⟨rfl, boxi_gb HG5.out⟩
        · obtain ⟨F, hF⟩ : ∃ F, ruleFn 3 = F := ⟨_, rfl⟩
          obtain ⟨s, hs⟩ : ∃ s, ruleName 3 = s := ⟨_, rfl⟩
          obtain rfl : Value.func (.func 61) #[] #[] = F := by rw [← hF]; rfl
          obtain rfl : stdPort W 3 a b = p := by rw [← hp, portAll, hr, ha, hb]; simp
          have HC := Lib.hid (fun w => implWest W H a b _ ha hb (west_std ha hb) w)
          have HR : Hid (ruleC 3 = #[.string s, (.func (.func 61) #[] #[])]) := Lib.hid (by rw [ruleC, hF, hs])
          have HF := Lib.hid (fun w => implFindRule 3 true hr w)
          have HA := Lib.hid (fun w => implHasNodeV W H a true ha w)
          have HB := Lib.hid (fun w => implHasNodeV W H b true hb w)
          clear hp hF hr hs ha hb
          go_enter Try.func20, Try.ntmps20
          go_wp2_with fail
          refine (HF.out _).mono ?_
          rintro e w1 ⟨rfl, g1⟩
          have hb1 := boxi_blk g1
          have HG1 := Lib.hid g1
          clear g1
          rw [HR.out]
          have HN := Lib.hid (Blk.new w1 59 #[.string ⟨#[]⟩, .nilFunc])
          have HB0 := Lib.hid (hb1.alloc (.cells #[.string ⟨#[]⟩, .nilFunc] 59))
          have HNE : Hid (w.heap.size ≠ w1.heap.size) := Lib.hid (by have := hb1.lt; omega)
          clear hb1
          go_wp2_with (refine wpList_storeRule rfl (.tmp 9) (.tmp 14) rfl w1.heap.size _ s (.func (.func 61) #[] #[]) (by simp [Value.oneCell']) rfl rfl HN.out rfl ?_
                       intro w2 hb2 hg2
                       have hb3 := HB0.out.grown hg2 (fun e => HNE.out (Option.some.inj e))
                       have c0 : w2.cell? ⟨w.heap.size, 0, none⟩ = some (.int .i64 W) := hb3.cell 0
                       have c1 : w2.cell? ⟨w.heap.size, 1, none⟩ = some (.int .i64 H) := hb3.cell 1
                       have HB3 := Lib.hid hb3
                       have HB2 := Lib.hid hb2
                       have HG2 := Lib.hid (gb_fresh (gb_alloc HG1.out _) hg2 HG1.out.size)
                       clear hg2 hb2 hb3)
          refine (HA.out _).mono ?_
          rintro e w3 ⟨rfl, g3⟩
          have HB4 := Lib.hid (HB3.out.grown g3 (by simp))
          have HB5 := Lib.hid (HB2.out.grown g3 (by simp))
          have HG3 := Lib.hid (gb_trans HG2.out g3)
          have d0 : w3.cell? ⟨w.heap.size, 0, none⟩ = some (.int .i64 W) := HB4.out.cell 0
          have d1 : w3.cell? ⟨w.heap.size, 1, none⟩ = some (.int .i64 H) := HB4.out.cell 1
          clear g3
          go_wp2_with fail
          refine (HB.out _).mono ?_
          rintro e w4 ⟨rfl, g4⟩
          have HB6 := Lib.hid (HB4.out.grown g4 (by simp))
          have HB7 := Lib.hid (HB5.out.grown g4 (by simp))
          have HG4 := Lib.hid (gb_trans HG3.out g4)
          have e0 : w4.cell? ⟨w.heap.size, 0, none⟩ = some (.int .i64 W) := HB6.out.cell 0
          have e1 : w4.cell? ⟨w.heap.size, 1, none⟩ = some (.int .i64 H) := HB6.out.cell 1
          have e2 : w4.cell? ⟨w1.heap.size, 1, none⟩ = some (.func (.func 61) #[] #[]) := HB7.out.cell 1
          clear g4
          go_wp2_with fail
          refine (HC.out _).mono ?_
          rintro e w5 ⟨rfl, g5⟩
          have HG5 := Lib.hid (gb_trans HG4.out g5)
          clear g5
          go_wp2_with fail
          go_ret
          exact ⟨rfl, boxi_gb HG5.out⟩
        · obtain ⟨F, hF⟩ : ∃ F, ruleFn 4 = F := ⟨_, rfl⟩
          obtain ⟨s, hs⟩ : ∃ s, ruleName 4 = s := ⟨_, rfl⟩
          obtain rfl : Value.func (.func 62) #[] #[] = F := by rw [← hF]; rfl
          obtain rfl : stdPort W 4 a b = p := by rw [← hp, portAll, hr, ha, hb]; simp
          have HC := Lib.hid (fun w => implMixed W H a b _ ha hb (mix_std ha hb) w)
          have HR : Hid (ruleC 4 = #[.string s, (.func (.func 62) #[] #[])]) := Lib.hid (by rw [ruleC, hF, hs])
          have HF := Lib.hid (fun w => implFindRule 4 true hr w)
          have HA := Lib.hid (fun w => implHasNodeV W H a true ha w)
          have HB := Lib.hid (fun w => implHasNodeV W H b true hb w)
          clear hp hF hr hs ha hb
          go_enter Try.func20, Try.ntmps20
          go_wp2_with fail
          refine (HF.out _).mono ?_
          rintro e w1 ⟨rfl, g1⟩
          have hb1 := boxi_blk g1
          have HG1 := Lib.hid g1
          clear g1
          rw [HR.out]
          have HN := Lib.hid (Blk.new w1 59 #[.string ⟨#[]⟩, .nilFunc])
          have HB0 := Lib.hid (hb1.alloc (.cells #[.string ⟨#[]⟩, .nilFunc] 59))
          have HNE : Hid (w.heap.size ≠ w1.heap.size) := Lib.hid (by have := hb1.lt; omega)
          clear hb1
          go_wp2_with (refine wpList_storeRule rfl (.tmp 9) (.tmp 14) rfl w1.heap.size _ s (.func (.func 62) #[] #[]) (by simp [Value.oneCell']) rfl rfl HN.out rfl ?_
                       intro w2 hb2 hg2
                       have hb3 := HB0.out.grown hg2 (fun e => HNE.out (Option.some.inj e))
                       have c0 : w2.cell? ⟨w.heap.size, 0, none⟩ = some (.int .i64 W) := hb3.cell 0
                       have c1 : w2.cell? ⟨w.heap.size, 1, none⟩ = some (.int .i64 H) := hb3.cell 1
                       have HB3 := Lib.hid hb3
                       have HB2 := Lib.hid hb2
                       have HG2 := Lib.hid (gb_fresh (gb_alloc HG1.out _) hg2 HG1.out.size)
                       clear hg2 hb2 hb3)
          refine (HA.out _).mono ?_
          rintro e w3 ⟨rfl, g3⟩
          have HB4 := Lib.hid (HB3.out.grown g3 (by simp))
          have HB5 := Lib.hid (HB2.out.grown g3 (by simp))
          have HG3 := Lib.hid (gb_trans HG2.out g3)
          have d0 : w3.cell? ⟨w.heap.size, 0, none⟩ = some (.int .i64 W) := HB4.out.cell 0
          have d1 : w3.cell? ⟨w.heap.size, 1, none⟩ = some (.int .i64 H) := HB4.out.cell 1
          clear g3
          go_wp2_with fail
          refine (HB.out _).mono ?_
          rintro e w4 ⟨rfl, g4⟩
          have HB6 := Lib.hid (HB4.out.grown g4 (by simp))
          have HB7 := Lib.hid (HB5.out.grown g4 (by simp))
          have HG4 := Lib.hid (gb_trans HG3.out g4)
          have e0 : w4.cell? ⟨w.heap.size, 0, none⟩ = some (.int .i64 W) := HB6.out.cell 0
          have e1 : w4.cell? ⟨w.heap.size, 1, none⟩ = some (.int .i64 H) := HB6.out.cell 1
          have e2 : w4.cell? ⟨w1.heap.size, 1, none⟩ = some (.func (.func 62) #[] #[]) := HB7.out.cell 1
          clear g4
          go_wp2_with fail
          refine (HC.out _).mono ?_
          rintro e w5 ⟨rfl, g5⟩
          have HG5 := Lib.hid (gb_trans HG4.out g5)
          clear g5
          go_wp2_with fail
          go_ret
          exact ⟨rfl, boxi_gb HG5.out⟩
end Go.Proofs.Ytbnpihkianggiaa
