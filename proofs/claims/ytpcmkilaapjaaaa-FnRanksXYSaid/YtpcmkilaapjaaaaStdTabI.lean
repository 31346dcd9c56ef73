/- What is proved here: what the program's StandardTable returns, for all arguments; only new blocks are written. -/
import Derived.Test.YtpcmkilaapjaaaaStdH
import Derived.Test.YtpcmkilaapjaaaaIntAt
import Derived.Test.YtpcmkilaapjaaaaNewI
import Derived.Test.YtpcmkilaapjaaaaSqB
import Derived.Test.YtpcmkilaapjaaaaSqM
namespace Go.Proofs.Ytpcmkilaapjaaaa
open Go.ChangeShapes Go.WideShapes Go.ChangeAt Go.RowKit
set_option linter.unusedVariables false

/-- The function of a rule that exists can be called and returns the port. -/
theorem ruleFn_calls {r : Int} (h1 : 1 ≤ r) (h4 : r ≤ 4) : ∃ f, ruleFn r = .func (.func f) #[] #[] ∧ (∀ args w, (callFunc f args).run Try.prog w = .ok (.enter f args) w) ∧
    ∀ (W H a b : Int), hasG W H a = true → hasG W H b = true → ∀ w, Calls Try.prog f #[.agg #[.int .i64 W, .int .i64 H], .int .i64 a, .int .i64 b] w (RetI (stdPort W r a b) none w) := by
  have hr : r = 1 ∨ r = 2 ∨ r = 3 ∨ r = 4 := by omega
  rcases hr with rfl | rfl | rfl | rfl
  · exact ⟨_, rfl, Try.call73, fun W H a b ha hb w => implXY W H a b _ ha hb (xy_std ha hb) w⟩
  · exact ⟨_, rfl, Try.call74, fun W H a b ha hb w => implYX W H a b _ ha hb (yx_std ha hb) w⟩
  · exact ⟨_, rfl, Try.call75, fun W H a b ha hb w => implWest W H a b _ ha hb (west_std ha hb) w⟩
  · exact ⟨_, rfl, Try.call76, fun W H a b ha hb w => implMixed W H a b _ ha hb (mix_std ha hb) w⟩

theorem implGridOkV (W H : Int) (b : Bool) (h : okG W H = b) (w : World) :
    Calls Try.prog 42 #[.agg #[.int .i64 W, .int .i64 H]] w (RetB b w) := h ▸ implGridOk W H w
theorem implNodeCountV2 (W H k : Int) (h : countG W H = k) (w : World) :
    Calls Try.prog 43 #[.agg #[.int .i64 W, .int .i64 H]] w (RetI k none w) := h ▸ implNodeCount W H w

/-- The call's own blocks: the grid, the result, the rule; and the ports so far. -/
def StdAt (W H r : Int) (s : ByteArray) (F : Value) (g : Nat) (w : World) (k : Nat) (v : Value) (wr : World) : Prop :=
  Blk wr w.heap.size 33 #[.int .i64 W, .int .i64 H] ∧ Blk wr (w.heap.size + 1) 38 #[.slice none 0 0] ∧ Blk wr g 68 #[.string s, F] ∧
  wr.ownsRow (g + 1) 3 1 v k (intsV (stdTo W H r k)) ∧ Below w.heap.size w wr

theorem StdAt.app {W H r p : Int} {s : ByteArray} {F : Value} {g : Nat} {w wr w5 : World} {k : Nat} {v v' : Value} {o : Obj} (h : StdAt W H r s F g w k v wr) (hgw : w.heap.size + 2 ≤ g)
    (hg : (wr.alloc o).grownBy w5 v.ownBlock) (ho : w5.ownsRow (g + 1) 3 1 v' (k + 1) (intsV (stdTo W H r k) ++ [.int .i64 p])) (hp : stdTo W H r (k + 1) = stdTo W H r k ++ [p]) : StdAt W H r s F g w (k + 1) v' w5 := by
  obtain ⟨h0, h1, h2, hown, hb⟩ := h
  have hne : ∀ j, j < g + 1 → some j ≠ v.ownBlock := fun j hj e => by have := (hown.lt j e.symm).1; omega
  refine ⟨(h0.alloc o).grown hg (hne _ (by omega)), (h1.alloc o).grown hg (hne _ (by omega)), (h2.alloc o).grown hg (hne _ (by omega)), ?_, ?_⟩
  · rw [hp, intsV_append]; exact ho
  · exact (hb.alloc hb.size o).grown hg (by have := hb.size; simp; omega) (fun j hj => by have := (hown.lt j hj).1; omega)
theorem StdAt.none {W H r : Int} {s : ByteArray} {F : Value} {g : Nat} {w wr w5 : World} {k : Nat} {v : Value} (h : StdAt W H r s F g w k v wr) (hg : wr.grownBy w5 none) : StdAt W H r s F g w k v w5 :=
  ⟨h.1.grown hg (by simp), h.2.1.grown hg (by simp), h.2.2.1.grown hg (by simp), own_none h.2.2.2.1 hg, below_gb h.2.2.2.2 (Nat.le_refl _) hg⟩
theorem stdTo_pair {W H r : Int} {x y k : Nat} (hk : (k : Int) = countG W H) (hy : y < k) : stdTo W H r (x * k + y + 1) = stdTo W H r (x * k + y) ++ [stdPort W r (x : Int) (y : Int)] := by
  have e1 : ((x * k + y : Nat) : Int) / (k : Int) = x := by rw [← Int.natCast_ediv, pair_div hy]
  have e2 : ((x * k + y : Nat) : Int) % (k : Int) = y := by rw [← Int.natCast_emod, pair_mod hy]
  rw [stdTo_succ, ← hk, e1, e2]
theorem has_cnt {W H : Int} {x k : Nat} (hk : (k : Int) = countG W H) (hx : x < k) : hasG W H (x : Int) = true := hasG_iff.2 ⟨by omega, by omega⟩

theorem implStdTab (W H r : Int) (w : World) :
    Calls Try.prog 15 #[.agg #[.int .i64 W, .int .i64 H], .int .i64 r] w (RetTab (stdRes W H r) (stdOk W H r) w) := by
  obtain ⟨P, hP⟩ : ∃ P, stdRes W H r = P := ⟨_, rfl⟩
  obtain ⟨b, hb⟩ : ∃ b, stdOk W H r = b := ⟨_, rfl⟩
  rw [hP, hb]
  obtain ⟨s, hs⟩ : ∃ s, ruleName r = s := ⟨_, rfl⟩
  obtain ⟨i0, hi, hz0, hz1, hz2⟩ := info_parts info_int
  have hbk0 := (Blk.new w 33 #[.int .i64 W, .int .i64 H]).alloc (.cells #[.slice none 0 0] 38)
  have hbk1 := Blk.new (w.alloc (.cells #[.int .i64 W, .int .i64 H] 33)) 38 #[.slice none 0 0]
  rw [alloc_size] at hbk1
  have K0 := Lib.hid hbk0
  have K1 := Lib.hid hbk1
  have KG := Lib.hid (gb_alloc (gb_alloc (gb_refl w none) (.cells #[.int .i64 W, .int .i64 H] 33)) (.cells #[.slice none 0 0] 38))
  clear hbk0 hbk1
  cases hr : decide (1 ≤ r ∧ r ≤ 4) with
  | false =>
    have HF := Lib.hid (fun w => implFindRule r false hr w)
    obtain ⟨F, hF⟩ : ∃ F, ruleFn r = F := ⟨_, rfl⟩
    have HR : Hid (ruleC r = #[.string s, F]) := Lib.hid (by rw [ruleC, hF, hs])
    have H1 : Hid ((#[.string s, F] : Array Value).all (·.oneCell') = true) := Lib.hid (by rw [← HR.out]; exact rule_one r)
    have hB : b = false := by rw [← hb, stdOk, hr]; simp
    have hPP : P = [] := by rw [← hP, stdRes, hb, hB]; rfl
    subst hB
    subst hPP
    clear hF hr hs hb hP
    go_enter Try.func15, Try.ntmps15
    go_wp2_with fail
    refine (HF.out _).mono ?_
    rintro e w1 ⟨rfl, g1⟩
    have HB0 := Lib.hid ((K0.out.grown g1 (by simp)).alloc (.cells #[.string ⟨#[]⟩, .nilFunc] 68))
    have HB1 := Lib.hid ((K1.out.grown g1 (by simp)).alloc (.cells #[.string ⟨#[]⟩, .nilFunc] 68))
    have HG1 := Lib.hid (gb_trans KG.out g1)
    have HNE : Hid (w.heap.size + 2 ≤ w1.heap.size) := Lib.hid (by have := g1.size; rw [alloc_size, alloc_size] at this; exact this)
    clear g1
    rw [HR.out]
    have HZ := Lib.hid (Blk.new w1 68 #[.string ⟨#[]⟩, .nilFunc])
    go_wp2_with (refine wpList_storeRule rfl (.tmp 6) (.tmp 15) rfl w1.heap.size _ s F H1.out rfl rfl HZ.out rfl ?_
                 intro w2 hb2 hg2
                 have hb3 := HB0.out.grown hg2 (fun e => by have := Option.some.inj e; have := HNE.out; omega)
                 have hb4 := HB1.out.grown hg2 (fun e => by have := Option.some.inj e; have := HNE.out; omega)
                 have c0 : w2.cell? ⟨w.heap.size, 0, none⟩ = some (.int .i64 W) := hb3.cell 0
                 have c1 : w2.cell? ⟨w.heap.size, 1, none⟩ = some (.int .i64 H) := hb3.cell 1
                 have c2 : w2.cell? ⟨w.heap.size + 1, 0, none⟩ = some (.slice none 0 0) := hb4.cell 0
                 have c3 := hb4.frozen 0
                 have HB4 := Lib.hid hb4
                 have HG2 := Lib.hid (gb_fresh (gb_alloc HG1.out _) hg2 HG1.out.size)
                 clear hg2 hb2 hb3 hb4)
    have h1 := (HB4.out.set_ 0 (.slice none 0 0)).cell 0
    simp at h1
    refine bodyPost_ret (v := .tuple #[.agg #[.slice none 0 0], .bool false]) (by simp [results, Try.results15, go_sem, h1]) rfl ⟨_, rfl, World.ownsRow_nil _ _ _ _, ?_⟩
    exact gb_below_none (gb_setCell HG2.out (.inr (by show w.heap.size ≤ w.heap.size + 1; omega)) _) (Nat.le_refl _)
  | true =>
    have HF := Lib.hid (fun w => implFindRule r true hr w)
    cases ho : okG W H with
    | false =>
      obtain ⟨F, hF⟩ : ∃ F, ruleFn r = F := ⟨_, rfl⟩
      have HR : Hid (ruleC r = #[.string s, F]) := Lib.hid (by rw [ruleC, hF, hs])
      have H1 : Hid ((#[.string s, F] : Array Value).all (·.oneCell') = true) := Lib.hid (by rw [← HR.out]; exact rule_one r)
      have hB : b = false := by rw [← hb, stdOk, ho, hr]; simp
      have hPP : P = [] := by rw [← hP, stdRes, hb, hB]; rfl
      subst hB
      subst hPP
      have HO := Lib.hid (fun w => implGridOkV W H false ho w)
      clear hF hr hs hb hP ho
      go_enter Try.func15, Try.ntmps15
      go_wp2_with fail
      refine (HF.out _).mono ?_
      rintro e w1 ⟨rfl, g1⟩
      have HB0 := Lib.hid ((K0.out.grown g1 (by simp)).alloc (.cells #[.string ⟨#[]⟩, .nilFunc] 68))
      have HB1 := Lib.hid ((K1.out.grown g1 (by simp)).alloc (.cells #[.string ⟨#[]⟩, .nilFunc] 68))
      have HG1 := Lib.hid (gb_trans KG.out g1)
      have HNE : Hid (w.heap.size + 2 ≤ w1.heap.size) := Lib.hid (by have := g1.size; rw [alloc_size, alloc_size] at this; exact this)
      clear g1
      rw [HR.out]
      have HZ := Lib.hid (Blk.new w1 68 #[.string ⟨#[]⟩, .nilFunc])
      go_wp2_with (refine wpList_storeRule rfl (.tmp 6) (.tmp 15) rfl w1.heap.size _ s F H1.out rfl rfl HZ.out rfl ?_
                   intro w2 hb2 hg2
                   have hb3 := HB0.out.grown hg2 (fun e => by have := Option.some.inj e; have := HNE.out; omega)
                   have hb4 := HB1.out.grown hg2 (fun e => by have := Option.some.inj e; have := HNE.out; omega)
                   have c0 : w2.cell? ⟨w.heap.size, 0, none⟩ = some (.int .i64 W) := hb3.cell 0
                   have c1 : w2.cell? ⟨w.heap.size, 1, none⟩ = some (.int .i64 H) := hb3.cell 1
                   have c2 : w2.cell? ⟨w.heap.size + 1, 0, none⟩ = some (.slice none 0 0) := hb4.cell 0
                   have c3 := hb4.frozen 0
                   have HB4 := Lib.hid hb4
                   have HG2 := Lib.hid (gb_fresh (gb_alloc HG1.out _) hg2 HG1.out.size)
                   clear hg2 hb2 hb3 hb4)
      refine (HO.out _).mono ?_
      rintro e w3 ⟨rfl, g3⟩
      have hb5 := HB4.out.grown g3 (by simp)
      have d2 : w3.cell? ⟨w.heap.size + 1, 0, none⟩ = some (.slice none 0 0) := hb5.cell 0
      have d3 := hb5.frozen 0
      have HB5 := Lib.hid hb5
      have HG3 := Lib.hid (gb_trans HG2.out g3)
      clear g3 hb5
      go_wp2_with fail
      have h1 := (HB5.out.set_ 0 (.slice none 0 0)).cell 0
      simp at h1
      refine bodyPost_ret (v := .tuple #[.agg #[.slice none 0 0], .bool false]) (by simp [results, Try.results15, go_sem, h1]) rfl ⟨_, rfl, World.ownsRow_nil _ _ _ _, ?_⟩
      exact gb_below_none (gb_setCell HG3.out (.inr (by show w.heap.size ≤ w.heap.size + 1; omega)) _) (Nat.le_refl _)
    | true =>
      obtain ⟨f, hf, hgo, hcall⟩ := ruleFn_calls (r := r) (by simp at hr; omega) (by simp at hr; omega)
      have HR : Hid (ruleC r = #[.string s, .func (.func f) #[] #[]]) := Lib.hid (by rw [ruleC, hf, hs])
      have hB : b = true := by rw [← hb, stdOk, ho, hr]; rfl
      have hPP : P = stdTab W H r := by rw [← hP, stdRes, hb, hB]; rfl
      subst hB
      obtain ⟨k, hk⟩ : ∃ k, cntN W H = k := ⟨_, rfl⟩
      have hki := cntN_int W H
      have hk1 := cntN_le W H
      rw [hk] at hki hk1
      have HO := Lib.hid (fun w => implGridOkV W H true ho w)
      have HN := Lib.hid (fun w => implNodeCountV2 W H (k : Int) hki.symm w)
      have HC := Lib.hid (fun a b ha hb w => hcall W H a b ha hb w)
      have HK := Lib.hid hk
      have HPP := Lib.hid hPP
      clear hcall hf hr hs ho hb hP hki hk hPP
      go_enter Try.func15, Try.ntmps15
      go_wp2_with fail
      refine (HF.out _).mono ?_
      rintro e w1 ⟨rfl, g1⟩
      have hb0 := (K0.out.grown g1 (by simp)).alloc (.cells #[.string ⟨#[]⟩, .nilFunc] 68)
      have hb1 := (K1.out.grown g1 (by simp)).alloc (.cells #[.string ⟨#[]⟩, .nilFunc] 68)
      have HB0 := Lib.hid hb0
      have HB1 := Lib.hid hb1
      have HG1 := Lib.hid (gb_trans KG.out g1)
      have HNE : Hid (w.heap.size + 2 ≤ w1.heap.size) := Lib.hid (by have := g1.size; rw [alloc_size, alloc_size] at this; exact this)
      clear g1 hb0 hb1
      rw [HR.out]
      have HZ := Lib.hid (Blk.new w1 68 #[.string ⟨#[]⟩, .nilFunc])
      go_wp2_with (refine wpList_storeRule rfl (.tmp 6) (.tmp 15) rfl w1.heap.size _ s (.func (.func f) #[] #[]) (by simp [Value.oneCell']) rfl rfl HZ.out rfl ?_
                   intro w2 hb2 hg2
                   have hb3 := HB0.out.grown hg2 (fun e => by have := Option.some.inj e; have := HNE.out; omega)
                   have hb4 := HB1.out.grown hg2 (fun e => by have := Option.some.inj e; have := HNE.out; omega)
                   have c0 : w2.cell? ⟨w.heap.size, 0, none⟩ = some (.int .i64 W) := hb3.cell 0
                   have c1 : w2.cell? ⟨w.heap.size, 1, none⟩ = some (.int .i64 H) := hb3.cell 1
                   have HB3 := Lib.hid hb3
                   have HB4 := Lib.hid hb4
                   have HB2 := Lib.hid hb2
                   have HG2 := Lib.hid (gb_fresh (gb_alloc HG1.out _) hg2 HG1.out.size)
                   clear hg2 hb2 hb3 hb4)
      refine (HO.out _).mono ?_
      rintro e w3 ⟨rfl, g3⟩
      have hb0 := HB3.out.grown g3 (by simp)
      have c0 : w3.cell? ⟨w.heap.size, 0, none⟩ = some (.int .i64 W) := hb0.cell 0
      have c1 : w3.cell? ⟨w.heap.size, 1, none⟩ = some (.int .i64 H) := hb0.cell 1
      have HB5 := Lib.hid hb0
      have HB6 := Lib.hid (HB4.out.grown g3 (by simp))
      have HB7 := Lib.hid (HB2.out.grown g3 (by simp))
      have HG3 := Lib.hid (gb_trans HG2.out g3)
      clear g3 hb0
      go_wp2_with fail
      refine (HN.out _).mono ?_
      rintro e w4 ⟨rfl, g4⟩
      have hb0 := HB5.out.grown g4 (by simp)
      have HB8 := Lib.hid hb0
      have HB9 := Lib.hid (HB6.out.grown g4 (by simp))
      have HB10 := Lib.hid (HB7.out.grown g4 (by simp))
      have HG4 := Lib.hid (gb_trans HG3.out g4)
      clear g4 hb0
      have HSZ : Hid (w1.heap.size + 1 ≤ w4.heap.size) := Lib.hid (by have := HB10.out.lt; omega)
      have hkk : k * k ≤ 256 := Nat.mul_le_mul hk1 hk1
      have hmul : wrap64 ((k : Int) * (k : Int)) = ((k * k : Nat) : Int) := by rw [← Int.natCast_mul]; exact IntWalk.wrap64_in _ (by omega)
      go_wp2_with (at_make; refine wpList_make_own _ rfl _ _ 26 rfl (w1.heap.size + 1) 3 i0 (.int .i64 0) 1 Try.underlying26 hi hz0 hz1 .i64 .i64 _ (k * k) rfl rfl (by omega) (by rw [hz2]; omega) (by unfold maxLen; omega) HSZ.out ?_; intro w5 hown5 hgrow5
                   have HX := Lib.hid (show StdAt W H r s (.func (.func f) #[] #[]) w1.heap.size w 0 _ w5 from ⟨HB8.out.grown hgrow5 (by simp), HB9.out.grown hgrow5 (by simp), HB10.out.grown hgrow5 (by simp), hown5, gb_below_none (gb_trans HG4.out hgrow5) (Nat.le_refl _)⟩); clear hown5 hgrow5)
      obtain ⟨g, hg⟩ : ∃ g, w1.heap.size = g := ⟨_, rfl⟩
      rw [hg] at HX HNE
      (try rw [hg])
      clear hg hmul
      have HKI : Hid ((k : Int) = countG W H) := Lib.hid (by rw [← HK.out, cntN_int])
      go_loopw [9, 32] (fun v i wr => ∃ x : Nat, i = .int .i64 (x : Int) ∧ x ≤ k ∧ StdAt W H r s (.func (.func f) #[] #[]) g w (x * k) v wr) (fun _ i _ => 17 - (intOf i).toNat)
      case atStart => exact ⟨0, rfl, Nat.zero_le _, by rw [Nat.zero_mul]; exact HX.out⟩
      case round =>
        obtain ⟨x, rfl, hxk, hst⟩ := hrel
        have HS0 := Lib.hid hst
        clear hst
        by_cases hlt : x < k
        · have HXK := Lib.hid hlt
          go_wp2_with fail
          go_loopw [9, 36] (fun v i wr => ∃ y : Nat, i = .int .i64 (y : Int) ∧ y ≤ k ∧ StdAt W H r s (.func (.func f) #[] #[]) g w (x * k + y) v wr) (fun _ i _ => 17 - (intOf i).toNat)
          case atStart => exact ⟨0, rfl, Nat.zero_le _, HS0.out⟩
          case round =>
            obtain ⟨y, rfl, hyk, hst⟩ := hrel
            have HS1 := Lib.hid hst
            by_cases hlt2 : y < k
            · have a0 : wr.cell? ⟨w.heap.size, 0, none⟩ = some (.int .i64 W) := hst.1.cell 0
              have a1 : wr.cell? ⟨w.heap.size, 1, none⟩ = some (.int .i64 H) := hst.1.cell 1
              have a2 : wr.cell? ⟨g, 1, none⟩ = some (.func (.func f) #[] #[]) := hst.2.2.1.cell 1
              have hlen : x * k + y < k * k := by
                have h1 : (x + 1) * k ≤ k * k := Nat.mul_le_mul_right k HXK.out
                rw [Nat.add_mul, Nat.one_mul] at h1
                omega
              have hax := has_cnt HKI.out HXK.out
              have hay := has_cnt HKI.out hlt2
              have HE := Lib.hid (stdTo_pair (r := r) (x := x) HKI.out hlt2)
              clear hst
              go_wp2_with fail
              refine (HC.out x y hax hay _).mono ?_
              rintro e w6 ⟨rfl, g6⟩
              have hs6 := HS1.out.none g6
              have HS6 := Lib.hid hs6
              have hown6 := hs6.2.2.2.1
              have hsz6 : g + 1 ≤ w6.heap.size := hs6.2.2.1.lt
              have b3' := Lib.hid (show ∀ u ∈ [Value.int .i64 (stdPort W r x y)], u.oneCell' = true by simp [Value.oneCell'])
              have b4' := Lib.hid (show x * k + y + 1 ≤ maxLen by unfold maxLen; omega)
              clear g6 hs6 a0 a1 a2 hax hay
              go_wp2_with (at_builtin; refine wpList_append_own _ rfl _ _ 26 rfl (g + 1) 3 i0 (.int .i64 0) 1 8 Try.underlying26 hi hz0 hz1 hz2 rfl (by decide) _ (x * k + y) _ rfl (hown6.alloc _) ⟨w6.heap.size, 0, none⟩ 1 1 [.int .i64 (stdPort W r x y)] rfl rfl (World.news_of_block (cs := #[.int .i64 (stdPort W r x y)]) (t := 3) (fr := (0, 0)) (heap_alloc_new w6 _)) b3'.out b4'.out (by omega) (by simp; omega) ?_; intro v' w7 hown7 hgrow7 _; have HS7 := Lib.hid (HS6.out.app HNE.out hgrow7 hown7 HE.out); clear hown7 hgrow7 hown6)
              go_roundw
              case rel => exact ⟨y + 1, by go_num, by omega, HS7.out⟩
              case measure => simp [intOf]; omega
            · obtain rfl : y = k := by omega
              clear hst
              go_wp2_with fail
              go_roundw
              case rel => exact ⟨x + 1, by go_num, by omega, by rw [Nat.add_mul, Nat.one_mul]; exact HS1.out⟩
              case measure => simp [intOf]; omega
        · obtain rfl : x = k := by omega
          obtain ⟨Av, cv, rfl, _⟩ := own_form HS0.out.2.2.2.1
          have h1 := (HS0.out.2.1.set_ 0 (.slice Av (x * x) cv)).cell 0
          simp at h1
          have f1 := HS0.out.2.1.frozen 0
          have a1 : wr.cell? ⟨w.heap.size + 1, 0, none⟩ = some (.slice none 0 0) := HS0.out.2.1.cell 0
          go_wp2_with fail
          have HSQ := Lib.hid (show sqG W H = x * x from by rw [← HK.out]; rfl)
          refine bodyPost_ret (v := .tuple #[.agg #[.slice Av (x * x) cv], .bool true]) (by simp [results, Try.results15, go_sem, h1]) rfl ⟨_, rfl, ?_, ?_⟩
          · have := ownsRow_setCell_below HS0.out.2.2.2.1 (a := ⟨w.heap.size + 1, 0, none⟩) (by show w.heap.size + 1 < g + 1; have := HNE.out; omega) (.slice Av (x * x) cv)
            rw [HPP.out, stdTab, stdTo_len, HSQ.out]
            exact own_less this (by have := HNE.out; omega)
          · exact gb_below_none (gb_setCell (gb_of_below HS0.out.2.2.2.2 none) (.inr (by show w.heap.size ≤ w.heap.size + 1; omega)) _) (Nat.le_refl _)
end Go.Proofs.Ytpcmkilaapjaaaa
