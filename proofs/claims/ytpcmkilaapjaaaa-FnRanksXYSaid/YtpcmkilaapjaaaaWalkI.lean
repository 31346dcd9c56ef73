/- What is proved here: what the program's walk of a square of ports returns for two nodes; only new blocks are written. -/
import Derived.Test.YtpcmkilaapjaaaaArr
import Derived.Test.YtpcmkilaapjaaaaConnI
namespace Go.Proofs.Ytpcmkilaapjaaaa
open Go.ChangeShapes Go.WideShapes Go.ChangeAt Go.RowKit
set_option linter.unusedVariables false
set_option maxRecDepth 20000

theorem end_step {W H p : Int} {x : Nat} (h0 : 0 ≤ p) (h3 : p ≤ 3) : endG W H (4 * (x : Int) + p) = nextG W H x p := by
  unfold endG
  rw [Int.tdiv_eq_ediv_of_nonneg (by omega), Int.tmod_eq_emod_of_nonneg (by omega)]
  rw [show (4 * (x : Int) + p) / 4 = x by omega, show (4 * (x : Int) + p) % 4 = p by omega]

theorem ret_two {v : Value} {a b : Bool} (h : a = b) : Ending.returned (.tuple #[v, .bool a]) = Ending.returned (.tuple #[v, .bool b]) := by rw [h]
/-- A new list of numbers, and whether there is one. -/
def NewW (L : List Int) (b : Bool) (w : World) (e : Ending) (w' : World) : Prop :=
  ∃ v, e = .returned (.tuple #[v, .bool b]) ∧ w'.ownsRow w.heap.size 3 1 v L.length (intsV L) ∧ Below w.heap.size w w'
def lenW : Value → Nat | .slice _ n _ => n | _ => 0
/-- The walk has come to x. -/
def WalkTo (W H : Int) (A : Option Addr) (n cap : Nat) (L P : List Int) (z : Nat) (res : List Int) (rb : Bool) (w : World) (acc : List Int) (x : Nat) (v : Value) (wr : World) : Prop :=
  (x : Int) < countG W H ∧ acc.length ≤ cntN W H ∧ res = restG W H L P z acc (cntN W H + 1 - acc.length) x ∧ rb = restE W H L P z (cntN W H + 1 - acc.length) x ∧
  wr.ownsRow (w.heap.size + 1) 3 1 v acc.length (intsV acc) ∧ Below (w.heap.size + 1) (w.alloc (.cells (meshC W H A n cap) 36)) wr

theorem app_to {W H : Int} {A : Option Addr} {n cap : Nat} {w w4 w5 : World} {acc : List Int} {c : Int} {v v' : Value} {o : Obj} (hb : Below (w.heap.size + 1) (w.alloc (.cells (meshC W H A n cap) 36)) w4) (ho : w4.ownsRow (w.heap.size + 1) 3 1 v acc.length (intsV acc))
    (hown5 : w5.ownsRow (w.heap.size + 1) 3 1 v' (acc.length + 1) (intsV acc ++ [.int .i64 c])) (hg : (w4.alloc o).grownBy w5 v.ownBlock) :
    w5.ownsRow (w.heap.size + 1) 3 1 v' (acc ++ [c]).length (intsV (acc ++ [c])) ∧ Below (w.heap.size + 1) (w.alloc (.cells (meshC W H A n cap) 36)) w5 ∧ lenW v' = acc.length + 1 ∧
    w5.cell? ⟨w.heap.size, 0, none⟩ = some (.int .i64 W) ∧ w5.cell? ⟨w.heap.size, 1, none⟩ = some (.int .i64 H) := by
  have hsz : w.heap.size + 1 ≤ w4.heap.size := by have h1 := hb.size; simp at h1; exact h1
  have h1 : w5.ownsRow (w.heap.size + 1) 3 1 v' (acc ++ [c]).length (intsV (acc ++ [c])) := by rw [List.length_append, intsV_append]; exact hown5
  have h2 : Below (w.heap.size + 1) (w.alloc (.cells (meshC W H A n cap) 36)) w5 := (hb.alloc hsz _).grown hg (by simp; omega) (fun j hj => (ho.lt j hj).1)
  have tm := (Blk.new w 36 (meshC W H A n cap)).below h2 (by omega)
  refine ⟨h1, h2, ?_, tm.cell 0, tm.cell 1⟩
  obtain ⟨A', c', rfl, _⟩ := own_form h1
  simp [lenW]

set_option maxHeartbeats 1600000 in
theorem implWalk (W H : Int) (A : Option Addr) (n cap : Nat) (L P X : List Int) (g a z : Nat) (hL : WfL L) (w : World) (h : IntAt w w.heap.size A n L) (hn : n ≤ 1000000000)
    (hX : isPorts W H P X) (hb : Blk w g 76 (cellsX X)) (ha : (a : Int) < countG W H) (hz : (z : Int) < countG W H) :
    Calls Try.prog 47 #[.pointer (some ⟨g, 0, none⟩), .agg #[.int .i64 W, .int .i64 H, .slice A n cap], .int .i64 a, .int .i64 z] w (NewW (walkOf W H L P a z) (endsG W H L P a z) w) := by
  obtain ⟨i0, hi, hz0, hz1, hz2⟩ := info_parts info_int
  have HI := Lib.hid h
  have hg := hb.lt
  have HSQ := Lib.hid (fun (wr : World) (h : Below w.heap.size w wr) (x y : Nat) (hx : (x : Int) < countG W H) (hy : (y : Int) < countG W H) => show wr.cell? ⟨g, x * 16 + y, none⟩ = some (.int .i64 (portP (tabG (countG W H) P x y))) by
    have hc := countG_le W H
    rw [Nat.mul_comm x 16]
    exact ((hb.below h hg).cell (16 * x + y)).trans (cellsX_at (by rw [hX.1]; omega) (hX.2 x y hx hy)))
  obtain ⟨res, hres⟩ : ∃ res, walkOf W H L P a z = res := ⟨_, rfl⟩
  obtain ⟨rb, hrb⟩ : ∃ rb, endsG W H L P a z = rb := ⟨_, rfl⟩
  rw [hres, hrb]
  have hsz1 : (w.alloc (.cells (meshC W H A n cap) 36)).heap.size = w.heap.size + 1 := by simp
  have HX := Lib.hid (show WalkTo W H A n cap L P z res rb w [] a (.slice none 0 0) (w.alloc (.cells (meshC W H A n cap) 36)) from
    ⟨ha, Nat.zero_le _, by rw [← hres]; exact (rest_start a z).symm, by rw [← hrb]; rfl, World.ownsRow_nil _ _ _ _, Below.refl _ _⟩)
  have HS1 := Lib.hid hsz1
  have hki := cntN_int W H
  obtain ⟨k, hk⟩ : ∃ k, cntN W H = k := ⟨_, rfl⟩
  have hk1 := cntN_le W H
  rw [hk] at hki hk1
  have HN := Lib.hid (fun w => show Calls Try.prog 43 #[.agg #[.int .i64 W, .int .i64 H]] w (RetI (k : Int) none w) from hki ▸ implNodeCount W H w)
  have HKI := Lib.hid hki
  have HKK := Lib.hid hk
  have HZ := Lib.hid hz
  have ha16 : (a : Int) < 16 := by omega
  have hz16 : (z : Int) < 16 := by omega
  have hgne : ¬ g = w.heap.size := by omega
  have c0 := HSQ.out (w.alloc (.cells (meshC W H A n cap) 36)) (((Below.refl _ _)).alloc (Nat.le_refl _) _) a z ha hz
  obtain ⟨q, hq⟩ : ∃ q, portP (tabG (countG W H) P a z) = q := ⟨_, rfl⟩
  rw [hq] at c0
  have HQ := Lib.hid hq
  clear h hX hb hres hrb hsz1 hki hk ha hz hq
  unfold meshC at c0
  go_enter Try.func47, Try.ntmps47
  go_wp2_with fail
  clear c0
  go_loopw [10, 11, 12] (fun v s11 s12 wr => ∃ (acc : List Int) (x : Nat), s11 = .int .i64 (x : Int) ∧ s12 = .int .i64 (portP (tabG (countG W H) P x z)) ∧ WalkTo W H A n cap L P z res rb w acc x v wr) (fun v _ _ _ => 17 - lenW v)
  case atStart => exact ⟨[], a, rfl, by rw [HQ.out], HX.out⟩
  case round =>
    obtain ⟨acc, x, rfl, rfl, hx, hl, hre, hrb, hown, hbel⟩ := hrel
    rw [HKK.out] at hl hre hrb
    obtain ⟨Aq, capq, rfl, hAq⟩ := own_form hown
    have HOwn := Lib.hid hown
    have HBel := Lib.hid hbel
    have HBo := Lib.hid (below_box hbel)
    obtain ⟨f, hf⟩ : ∃ f, k + 1 - acc.length = f + 1 := ⟨k - acc.length, by omega⟩
    rw [hf] at hre hrb
    have HF := Lib.hid hf
    have HRE := Lib.hid hre
    have HRB := Lib.hid hrb
    have HXC := Lib.hid hx
    have hx16 : (x : Int) < 16 := by have := HKI.out; omega
    obtain ⟨t, ht⟩ : ∃ t, tabG (countG W H) P x z = t := ⟨_, rfl⟩
    rw [ht]
    have HT := Lib.hid ht
    have tm := (Blk.new w 36 (meshC W H A n cap)).below hbel (by omega)
    have a0 : wr.cell? ⟨w.heap.size, 0, none⟩ = some (.int .i64 W) := tm.cell 0
    have a1 : wr.cell? ⟨w.heap.size, 1, none⟩ = some (.int .i64 H) := tm.cell 1
    have a2 : wr.cell? ⟨w.heap.size, 2, none⟩ = some (.slice A n cap) := tm.cell 2
    have hsw : w.heap.size + 1 ≤ wr.heap.size := by have h1 := hbel.size; rw [HS1.out] at h1; exact h1
    clear hown hbel hre hrb hx hf ht tm hAq
    by_cases h4 : t = 4
    · subst h4
      have hp4 : portP 4 = 4 := rfl
      rw [hp4]
      clear a0 a1 a2
      by_cases hxz : x = z
      · subst hxz
        have hxb : ((x : Int) != (x : Int)) = false := by simp
        have HF2 := Lib.hid (HRE.out.trans (rest_end HT.out rfl))
        have HF3 := Lib.hid (HRB.out.trans (restE_end HT.out rfl))
        go_wp2_with fail
        go_ret2
        refine ⟨_, ret_two HF3.out.symm, ?_, HBo.out⟩
        rw [HF2.out]
        exact own_less HOwn.out (by omega)
      · have hne : (x : Int) ≠ (z : Int) := fun e => hxz (by exact_mod_cast e)
        have hxb : ((x : Int) != (z : Int)) = true := bne_iff_ne.2 hne
        have HF2 := Lib.hid (HRE.out.trans (rest_lost HT.out hne))
        have HF3 := Lib.hid (HRB.out.trans (restE_lost HT.out hne))
        clear hxz hne
        go_wp2_with fail
        go_ret2
        refine ⟨_, ret_two HF3.out.symm, ?_, HBo.out⟩
        rw [HF2.out]
        exact World.ownsRow_nil _ _ _ _
    · have H4 := Lib.hid h4
      have h4b : (portP t != 4) = true := bne_iff_ne.2 fun e => h4 (portP_four.1 e)
      obtain ⟨q, hq⟩ : ∃ q, portP t = q := ⟨_, rfl⟩
      have hqb := portP_bounds t
      rw [hq] at h4b hqb ⊢
      by_cases h0 : q < 0
      · have hst : stepsG W H L x t = false := by
          have hs : ¬ (0 ≤ t ∧ t ≤ 3) := fun e => by rw [portP_in e.1 (by omega)] at hq; omega
          simp only [stepsG, Bool.and_eq_false_iff, decide_eq_false_iff_not]; exact .inl hs
        have HF2 := Lib.hid (HRE.out.trans (rest_bad HT.out H4.out hst))
        have HF3 := Lib.hid (HRB.out.trans (restE_bad HT.out H4.out hst))
        have e1 : wrap64 (4 * (x : Int)) = 4 * (x : Int) := IntWalk.wrap64_in _ (by omega)
        have e2 : wrap64 (4 * (x : Int) + q) = 4 * (x : Int) + q := IntWalk.wrap64_in _ (by omega)
        clear hst hq h4 a0 a1 a2
        go_wp2_with fail
        go_ret2
        refine ⟨_, ret_two HF3.out.symm, ?_, HBo.out⟩
        rw [HF2.out]
        exact World.ownsRow_nil _ _ _ _
      · have hqt : t = q := portP_in_of hq (by omega)
        subst hqt
        have ht3 : t ≤ 3 := by omega
        have e1 : wrap64 (4 * (x : Int)) = 4 * (x : Int) := IntWalk.wrap64_in _ (by omega)
        have e2 : wrap64 (4 * (x : Int) + t) = 4 * (x : Int) + t := IntWalk.wrap64_in _ (by omega)
        have hcw : (Lit.int .i64 (4 * (x : Int) + t)).wf = true := WalkArith.wf_i64 (by omega)
        have hi2 := (HI.out.below HBo.out).more (B' := wr.heap.size) (by omega)
        have TM := Lib.hid ((Blk.new w 36 (meshC W H A n cap)).below HBel.out (by omega))
        cases hc : hasChG W H L (4 * (x : Int) + t) with
        | false =>
          have hst : stepsG W H L x t = false := by simp [stepsG, hc]
          have HF2 := Lib.hid (HRE.out.trans (rest_bad HT.out H4.out hst))
          have HF3 := Lib.hid (HRB.out.trans (restE_bad HT.out H4.out hst))
          have HC := Lib.hid (fun w h => implConnects W H A n cap L (4 * (x : Int) + t) false hcw hc w h hn)
          clear hst hq h4 hc hcw
          go_wp2_with fail
          refine (HC.out _ hi2).mono ?_
          rintro e w3 ⟨rfl, hg3⟩
          have G3 := Lib.hid (below_gb HBo.out (Nat.le_refl _) hg3)
          clear hg3 hi2 a0 a1 a2
          go_wp2_with fail
          go_ret2
          refine ⟨_, ret_two HF3.out.symm, ?_, G3.out⟩
          rw [HF2.out]
          exact World.ownsRow_nil _ _ _ _
        | true =>
          have hst : stepsG W H L x t = true := by simp only [stepsG, hc, Bool.and_true, decide_eq_true_eq]; omega
          have HF2 := Lib.hid (HRE.out.trans (rest_go HT.out H4.out hst))
          have HF3 := Lib.hid (HRB.out.trans (restE_go HT.out H4.out hst))
          have HC := Lib.hid (fun w h => implConnects W H A n cap L (4 * (x : Int) + t) true hcw hc w h hn)
          obtain ⟨y, hy⟩ : ∃ y : Nat, nextG W H x t = (y : Int) := ⟨(nextG W H x t).toNat, (Int.toNat_of_nonneg (hasG_iff.1 (step_has hst)).1).symm⟩
          have hyk := (hasG_iff.1 (step_has hst)).2
          rw [hy] at hyk
          have HE := Lib.hid (fun w => implEnd W H (4 * (x : Int) + t) y hcw (by rw [end_step (by omega) ht3, hy]) w)
          have HY := Lib.hid hy
          have HYK := Lib.hid hyk
          clear hst hq h4 hc hcw hy hyk
          go_wp2_with fail
          refine (HC.out _ hi2).mono ?_
          rintro e w3 ⟨rfl, hg3⟩
          have G3 := Lib.hid hg3
          have tm3 := TM.out.grown hg3 (by simp)
          have d0 : w3.cell? ⟨w.heap.size, 0, none⟩ = some (.int .i64 W) := tm3.cell 0
          have d1 : w3.cell? ⟨w.heap.size, 1, none⟩ = some (.int .i64 H) := tm3.cell 1
          clear hg3 hi2 a0 a1 a2 tm3
          go_wp2_with fail
          refine (HN.out _).mono ?_
          rintro e w4 ⟨rfl, hg4⟩
          have G4 := Lib.hid (gb_trans G3.out hg4)
          have TM4 := Lib.hid (TM.out.grown G4.out (by simp))
          clear hg4 d0 d1
          by_cases hlk : acc.length = k
          · have hf0 : f = 0 := by have := HF.out; omega
            have hlb : ((acc.length : Int) == (k : Int)) = true := beq_iff_eq.2 (by omega)
            have G5 := Lib.hid (below_gb HBo.out (Nat.le_refl _) G4.out)
            have HG2 := Lib.hid (show res = [] by rw [HF2.out, hf0]; rfl)
            have HG3 := Lib.hid (show rb = false by rw [HF3.out, hf0]; rfl)
            clear hlk hf0
            go_wp2_with fail
            go_ret2
            refine ⟨_, ret_two HG3.out.symm, ?_, G5.out⟩
            rw [HG2.out]
            exact World.ownsRow_nil _ _ _ _
          · have hlb : ((acc.length : Int) == (k : Int)) = false := beq_false_of_ne (by omega)
            have hown1 := own_none HOwn.out G4.out
            have hsz4 : w.heap.size + 1 ≤ w4.heap.size := Nat.le_trans hsw G4.out.size
            have b3' := Lib.hid (show ∀ u ∈ [Value.int .i64 (4 * (x : Int) + t)], u.oneCell' = true by simp [Value.oneCell'])
            have b4' := Lib.hid (show acc.length + 1 ≤ maxLen by unfold maxLen; omega)
            have HLK := Lib.hid (show acc.length < k by omega)
            have HB4 := Lib.hid (below_gb HBel.out (by rw [HS1.out]; exact Nat.le_refl _) G4.out)
            clear hlk
            go_wp2_with (at_builtin; refine wpList_append_own _ rfl _ _ 26 rfl (w.heap.size + 1) 3 i0 (.int .i64 0) 1 8 Try.underlying26 hi hz0 hz1 hz2 rfl (by decide) _ acc.length _ rfl (hown1.alloc _) ⟨w4.heap.size, 0, none⟩ 1 1 [.int .i64 (4 * (x : Int) + t)] rfl rfl (World.news_of_block (cs := #[.int .i64 (4 * (x : Int) + t)]) (t := 3) (fr := (0, 0)) (heap_alloc_new w4 _)) b3'.out b4'.out (by omega) (by simp; omega) ?_; intro v' w5 hown5 hgrow5 _; obtain ⟨ho5, hb5, hlv, a0, a1⟩ := app_to HB4.out hown1 hown5 hgrow5; have HO5 := Lib.hid ho5; have HB5 := Lib.hid hb5; have HLV := Lib.hid hlv; clear ho5 hb5 hlv hown5 hgrow5 hown1)
            refine (HE.out _).mono ?_
            rintro e w6 ⟨rfl, hg6⟩
            have G6 := Lib.hid hg6
            have HB6 := Lib.hid (below_gb HB5.out (by rw [HS1.out]; exact Nat.le_refl _) hg6)
            have c6 := HSQ.out w6 (below_box HB6.out) y z HYK.out HZ.out
            have y16 : (y : Int) < 16 := by have := HYK.out; have := HKI.out; omega
            obtain ⟨q6, hq6⟩ : ∃ q, portP (tabG (countG W H) P y z) = q := ⟨_, rfl⟩
            rw [hq6] at c6
            have HQ6 := Lib.hid hq6
            clear hg6 a0 a1 hq6
            go_wp2_with fail
            go_roundw
            case rel => exact ⟨acc ++ [4 * (x : Int) + t], y, rfl, by rw [HQ6.out], HYK.out, by rw [HKK.out, List.length_append]; exact HLK.out, by rw [HF2.out, HY.out, HKK.out]; congr 1; have := HF.out; simp; omega, by rw [HF3.out, HY.out, HKK.out]; congr 1; have := HF.out; simp; omega, own_none HO5.out G6.out, HB6.out⟩
            case measure => rw [HLV.out]; simp [lenW]; omega
end Go.Proofs.Ytpcmkilaapjaaaa
