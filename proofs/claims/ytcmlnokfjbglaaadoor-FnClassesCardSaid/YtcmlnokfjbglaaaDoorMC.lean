/- What is proved here: what the library's binary search finds in an ascending list of dependencies, with the program's comparison; only new blocks are written; the library's insertion of one dependency into a list of the caller's own: the list with the element at its place, in the same memory or in a new block; what the program's insert makes of an ascending list of the caller's own and one dependency: the same list if it is there, else the list with it at its place; what the program's DependsOf returns, for all arguments; only new blocks are written; the program's sentinel holds an error, and goes on to hold it where only new blocks are written; the program's dependencies of a valid table, and the sentinel for another one; only new blocks are written; small facts on a verdict that is written into a box of a call's own; nothing of the program; what the program says of one dependency's range and of a whole list; only new blocks are written; what the program's search of the next channel returns; only new blocks are written; what the library's Repeat of one number, 128 times, returns: a row of its own of 128 such numbers; only new blocks are written; what the program's OrderOf returns, for all arguments; only new blocks are written; the search backwards through a queue as mathematics: each channel gets the least number of steps from it to a certain one, or -1; nothing of the program; what the program's waitersOf returns: 128 lists of its own in different blocks, list c with the channels that can wait for c; only new blocks are written; what the program's closure that marks the channels that can wait for one does: it changes the row of steps and the list of marked channels, which lie in variables that it shares with its maker; only new blocks and blocks of its maker's own are written; what the program's stepsTo returns: the least number of steps from each channel to a certain one, -1 where there are none; only new blocks are written; what the program's SuccessorsOf and ShiftDepends return; only new blocks are written; the program's shortest way from a channel back to it; only new blocks are written; the program's shortest cycle; only new blocks are written; the program's verdict on a list of dependencies; only new blocks are written; what the library's errors.Is answers for nil and for the sentinel itself; the world stays as it is; the verdict that the program's CheckTable returns, for all arguments, where the sentinel holds an error; only new blocks are written; a mesh and a pair of tables in boxes of a call's own; nothing of the program; whether the program says that both tables of a pair are valid; only new blocks are written; what 'append' yields where a whole slice of dependencies is appended onto a row of the call's own, and what the library's copy of such a slice is; nothing of the program. -/
import Derived.Test.YtcmlnokfjbglaaaDoorMB
import Derived.Shelf.Abstract
import Derived.Shelf.Spec.SlicesInsertGrow
import Derived.WalkSmall
import Derived.Stop.LaidErr
import Derived.Laws.CopyOwn
import Derived.Deep.AppendLies
import Derived.Deep.RegionLaw
import Derived.StillTailTactics
import Derived.WalkKit
import Derived.LaidEql
import Derived.Stop.Asserts
import Derived.Deep.AppendSrc
section
namespace Go.Proofs.YtcmlnokfjbglaaaDoor
open Go.ChangeShapes Go.WideShapes Go.ChangeAt Go.RowKit
set_option linter.unusedVariables false
set_option maxRecDepth 20000

/-- Where d belongs, and whether it is there. -/
def RetBs (D : List Dep) (d : Dep) (w : World) (e : Ending) (w' : World) : Prop :=
  e = .returned (.tuple #[.int .i64 (lowN D d : Nat), .bool (decide (d ∈ D))]) ∧ w.grownBy w' none
/-- The search has come to lo and hi. -/
def srchD (D : List Dep) (d : Dep) (lo hi : Nat) : Prop := lo ≤ hi ∧ hi ≤ D.length ∧ (∀ t, t < lo → ltD (atD D t) d = true) ∧ (∀ t, hi ≤ t → t < D.length → ltD (atD D t) d = false)
theorem srch_up {D : List Dep} (hD : ascD D) {d : Dep} {lo hi i : Nat} (h : srchD D d lo hi) (hi1 : i < hi) (hlt : ltD (atD D i) d = true) : srchD D d (i + 1) hi :=
  ⟨hi1, h.2.1, fun t ht => by
    rcases Nat.lt_or_eq_of_le (Nat.le_of_lt_succ ht) with h1 | h1
    · exact ltD_trans (asc_at hD h1 (by have := h.2.1; omega)) hlt
    · rw [h1]; exact hlt, h.2.2.2⟩
theorem srch_down {D : List Dep} (hD : ascD D) {d : Dep} {lo hi i : Nat} (h : srchD D d lo hi) (h1 : lo ≤ i) (h2 : i < hi) (hlt : ltD (atD D i) d = false) : srchD D d lo i :=
  ⟨h1, by have := h.2.1; omega, h.2.2.1, fun t ht htn => by
    rcases Nat.lt_or_eq_of_le ht with h3 | h3
    · cases h4 : ltD (atD D t) d with
      | false => rfl
      | true => rw [ltD_trans (asc_at hD h3 htn) h4] at hlt; cases hlt
    · rw [← h3]; exact hlt⟩
theorem srch_end {D : List Dep} {d : Dep} {lo : Nat} (h : srchD D d lo lo) : lowN D d = lo := lowN_of h.2.1 h.2.2.1 (fun hlt => h.2.2.2 lo (Nat.le_refl _) hlt)

theorem ret_bs {D : List Dep} {d : Dep} {k : Nat} {b : Bool} (h : lowN D d = k) (hb : b = decide (d ∈ D)) : Ending.returned (.tuple #[.int .i64 (k : Int), .bool b]) = .returned (.tuple #[.int .i64 (lowN D d : Nat), .bool (decide (d ∈ D))]) := by rw [h, hb]
theorem libSearch (A : Option Addr) (n cap : Nat) (D : List Dep) (d : Dep) (hD : ascD D) (w : World) (h : DepAt w w.heap.size A n D) (hn : n ≤ 4000000000) :
    Calls Tryd.prog 36 #[.slice A n cap, .agg #[.int .i64 d.1, .int .i64 d.2], .func (.func 23) #[] #[]] w (RetBs D d w) := by
  have HI := Lib.hid h
  have hl := h.1
  have HC := Lib.hid (fun (a : Dep) w => implCompare a d w)
  have BG := Lib.hid (boxD_gb d w)
  have BB := Lib.hid (boxD_blk d w)
  have HASC := Lib.hid hD
  have HTI := Lib.hid (there_iff hD (d := d))
  have eg : ∀ args w, (callFunc 23 args).run Tryd.prog w = .ok (.enter 23 args) w := fun args w => Tryd.call23 args w
  clear h hD
  go_enter Tryd.func36, Tryd.ntmps36
  go_wp2_with fail
  go_loopw [9, 10] (fun i j wr => ∃ lo hi : Nat, i = .int .i64 (lo : Int) ∧ j = .int .i64 (hi : Int) ∧ srchD D d lo hi ∧ (boxD d w).grownBy wr none) (fun i j _ => (intOf j).toNat - (intOf i).toNat)
  case atStart => exact ⟨0, n, rfl, rfl, ⟨Nat.zero_le _, by omega, fun t ht => by omega, fun t h1 h2 => by omega⟩, gb_refl _ _⟩
  case round =>
    obtain ⟨lo, hi, rfl, rfl, hs, hg⟩ := hrel
    have HS := Lib.hid hs
    have HG := Lib.hid hg
    have bb := BB.out.grown hg (by simp)
    have t0 : wr.cell? ⟨w.heap.size, 0, none⟩ = some (.int .i64 d.1) := bb.cell 0
    have t1 : wr.cell? ⟨w.heap.size, 1, none⟩ = some (.int .i64 d.2) := bb.cell 1
    have hlh := hs.1
    have hhn := hs.2.1
    have hai := HI.out.none (Nat.le_refl _) (gb_trans BG.out hg)
    clear bb hs hg
    by_cases hlt : lo < hi
    · obtain ⟨m, hm⟩ : ∃ m, (lo + hi) / 2 = m := ⟨_, rfl⟩
      have hmi : ((lo : Int) + (hi : Int)) / 2 = (m : Int) := by omega
      obtain ⟨b, off, rfl, hb, c0, c1⟩ := hai.at m (by omega)
      obtain ⟨x, hx⟩ : ∃ x, atD D m = x := ⟨_, rfl⟩
      rw [hx] at c0 c1
      have m0 : (0 : Int) ≤ (m : Int) := by omega
      have m1 : (m : Int) < (n : Int) := by omega
      have HX := Lib.hid hx
      have HM := Lib.hid (show lo ≤ m ∧ m < hi by omega)
      clear hx hm hai
      obtain ⟨r, hr⟩ : ∃ r, cmpD x d = r := ⟨_, rfl⟩
      have HX2 := Lib.hid (fun w => show Calls _ _ _ w (RetI r none w) from hr ▸ HC.out x w)
      by_cases hc : r < 0
      · have HL := Lib.hid (cmpD_neg.1 (show cmpD x d < 0 by omega))
        clear hr
        go_wp2_with fail
        go_region_held3 (fun w' => w'.cell? ⟨w.heap.size, 0, none⟩ = some (.int .i64 d.1) ∧ w'.cell? ⟨w.heap.size, 1, none⟩ = some (.int .i64 d.2) ∧ w'.cell? ⟨b, off + m * 2, none⟩ = some (.int .i64 x.1) ∧ w'.cell? ⟨b, off + m * 2 + 1, none⟩ = some (.int .i64 x.2))
          (first | exact ⟨t0, t1, c0, c1⟩ | exact ⟨d0, d1, d2, d3⟩ | fail)
          (first
            | (go_at_fn 23; (with_reducible refine (HX2.out _).mono ?_); rintro e w4 ⟨rfl, hg4⟩; have h4 := gb_dr hg4; have d0 := h4.cell t0 (by simp); have d1 := h4.cell t1 (by simp); have d2 := h4.cell c0 (by simp); have d3 := h4.cell c1 (by simp); have G4 := Lib.hid (gb_trans HG.out h4); clear h4 hg4)
            | fail)
        all_goals
          clear d0 d1 d2 d3 t0 t1 c0 c1
          go_wp2_with fail
          go_roundw
          case rel => exact ⟨m + 1, hi, by go_num, rfl, srch_up HASC.out HS.out HM.out.2 (by rw [HX.out]; exact HL.out), G4.out⟩
          case measure => have := HM.out; simp [intOf]; omega
      · have HL := Lib.hid (show ltD x d = false by
          cases h : ltD x d with
          | false => rfl
          | true => have := cmpD_neg.2 h; omega)
        clear hr
        go_wp2_with fail
        go_region_held3 (fun w' => w'.cell? ⟨w.heap.size, 0, none⟩ = some (.int .i64 d.1) ∧ w'.cell? ⟨w.heap.size, 1, none⟩ = some (.int .i64 d.2) ∧ w'.cell? ⟨b, off + m * 2, none⟩ = some (.int .i64 x.1) ∧ w'.cell? ⟨b, off + m * 2 + 1, none⟩ = some (.int .i64 x.2))
          (first | exact ⟨t0, t1, c0, c1⟩ | exact ⟨d0, d1, d2, d3⟩ | fail)
          (first
            | (go_at_fn 23; (with_reducible refine (HX2.out _).mono ?_); rintro e w4 ⟨rfl, hg4⟩; have h4 := gb_dr hg4; have d0 := h4.cell t0 (by simp); have d1 := h4.cell t1 (by simp); have d2 := h4.cell c0 (by simp); have d3 := h4.cell c1 (by simp); have G4 := Lib.hid (gb_trans HG.out h4); clear h4 hg4)
            | fail)
        all_goals
          clear d0 d1 d2 d3 t0 t1 c0 c1
          go_wp2_with fail
          go_roundw
          case rel => exact ⟨lo, m, rfl, rfl, srch_down HASC.out HS.out HM.out.1 HM.out.2 (by rw [HX.out]; exact HL.out), G4.out⟩
          case measure => have := HM.out; simp [intOf]; omega
    · obtain rfl : hi = lo := by omega
      have hlow := srch_end HS.out
      by_cases hin : hi < n
      · obtain ⟨b, off, rfl, hb, c0, c1⟩ := hai.at hi hin
        obtain ⟨x, hx⟩ : ∃ x, atD D hi = x := ⟨_, rfl⟩
        rw [hx] at c0 c1
        obtain ⟨r, hr⟩ : ∃ r, cmpD x d = r := ⟨_, rfl⟩
        have HX2 := Lib.hid (fun w => show Calls _ _ _ w (RetI r none w) from hr ▸ HC.out x w)
        have hrd : decide (r = 0) = decide (d ∈ D) := decide_eq_decide.2 (by
          rw [← hr, cmpD_zero, HTI.out, hlow, hx]
          exact ⟨fun e => ⟨by omega, e⟩, fun e => e.2⟩)
        have HRD := Lib.hid hrd
        have HLOW := Lib.hid hlow
        have m0 : (0 : Int) ≤ (hi : Int) := by omega
        have m1 : (hi : Int) < (n : Int) := by omega
        have hd : decide ((hi : Int) < (n : Int)) = true := decide_eq_true m1
        clear hx hr hlow hrd hai hlt hin
        go_wp2_with fail
        go_region_held3 (fun w' => w'.cell? ⟨w.heap.size, 0, none⟩ = some (.int .i64 d.1) ∧ w'.cell? ⟨w.heap.size, 1, none⟩ = some (.int .i64 d.2) ∧ w'.cell? ⟨b, off + hi * 2, none⟩ = some (.int .i64 x.1) ∧ w'.cell? ⟨b, off + hi * 2 + 1, none⟩ = some (.int .i64 x.2))
          (first | exact ⟨t0, t1, c0, c1⟩ | exact ⟨d0, d1, d2, d3⟩ | fail)
          (first
            | (go_at_fn 23; (with_reducible refine (HX2.out _).mono ?_); rintro e w4 ⟨rfl, hg4⟩; have h4 := gb_dr hg4; have d0 := h4.cell t0 (by simp); have d1 := h4.cell t1 (by simp); have d2 := h4.cell c0 (by simp); have d3 := h4.cell c1 (by simp); have G4 := Lib.hid (gb_trans HG.out h4); clear h4 hg4)
            | fail)
        all_goals
          clear d0 d1 d2 d3 t0 t1 c0 c1
          go_wp2_with fail
          go_ret2
          exact ⟨ret_bs HLOW.out HRD.out, gb_trans BG.out G4.out⟩
      · have hd : decide ((hi : Int) < (n : Int)) = false := decide_eq_false (by omega)
        have hno : ¬ d ∈ D := fun h => by have := (HTI.out.1 h).1; omega
        have HN := Lib.hid hno
        have HLOW := Lib.hid hlow
        clear hno hlow hai
        go_wp2_with fail
        go_quiet (fail)
        all_goals
          go_wp2_with fail
          go_ret2
          exact ⟨ret_bs HLOW.out (decide_eq_false HN.out).symm, gb_trans BG.out (gb_drewN HG.out _)⟩
end Go.Proofs.YtcmlnokfjbglaaaDoor
end

section
namespace Go.Proofs.YtcmlnokfjbglaaaDoor
open Go.ChangeShapes Go.WideShapes Go.ChangeAt Go.RowKit
set_option linter.unusedVariables false
set_option maxRecDepth 100000

/-- copy, where an element has two cells. -/
theorem run_copy_row2 {P : Program} (w : World) (dT sT ty elem : TypeId) (g o dLen dCap : Nat) (a : Addr) (sLen sCap : Nat) (cur : Array Value) (t : TypeId) (cs : List Value)
    (hu : P.underlying dT = some (.slice elem)) (hs : (P.info? elem).map (·.size) = some 2)
    (hg : w.heap[g]? = some (.cells cur t (0, 0))) (hn : cs.length = Nat.min sLen dLen * 2)
    (hsrc : ∀ j v, cs[j]? = some v → w.cell? (a.add j) = some v) (hfit : o + cs.length ≤ cur.size) (h1 : ∀ v ∈ cs, v.oneCell' = true) :
    (Builtin.copy_ #[dT, sT] ty #[.slice (some ⟨g, o, none⟩) dLen dCap, .slice (some a) sLen sCap]).run P w =
      .ok (goInt (Nat.min sLen dLen)) (w.setRow g (cur.toList.take o ++ cs ++ cur.toList.drop (o + cs.length)).toArray) := by
  have hl := run_loadCells_list (P := P) w a cs hsrc
  have hst := run_storeCells_at P g o t cs 0 cur w hg (by simpa using hfit) h1
  cases hq : P.info? elem with
  | none => simp [hq] at hs
  | some i =>
    have hi : i.size = 2 := by simpa [hq] using hs
    simp [Builtin.copy_, run_underlying hu, Builtin.lenOf, Builtin.firstCells, sizeOf, typeInfo, hq, hi, ← hn, hl, hst]

theorem shift_list {α : Type} {c V X : List α} {p n : Nat} (hV : c.take n = V) (hp : p ≤ n) (hc : n + X.length ≤ c.length) :
    let c1 := c.take (p + X.length) ++ V.drop p ++ c.drop (p + X.length + (V.drop p).length)
    ((c1.take p ++ X ++ c1.drop (p + X.length)).take (n + X.length) = V.take p ++ X ++ V.drop p) ∧ (c1.take p ++ X ++ c1.drop (p + X.length)).length = c.length ∧ c1.length = c.length := by
  intro c1
  have hVl : V.length = n := by rw [← hV, List.length_take]; omega
  have hd : (V.drop p).length = n - p := by rw [List.length_drop, hVl]
  have e1 : c1.take p = V.take p := by
    show (c.take (p + X.length) ++ V.drop p ++ c.drop (p + X.length + (V.drop p).length)).take p = V.take p
    rw [List.append_assoc, List.take_append_of_le_length (by rw [List.length_take]; omega), List.take_take, ← hV, List.take_take]
    congr 1
    omega
  have hl1 : (c.take (p + X.length)).length = p + X.length := by rw [List.length_take]; omega
  have e2 : c1.drop (p + X.length) = V.drop p ++ c.drop (p + X.length + (V.drop p).length) := by
    show (c.take (p + X.length) ++ V.drop p ++ c.drop (p + X.length + (V.drop p).length)).drop (p + X.length) = _
    rw [List.append_assoc, List.drop_left' hl1]
  rw [e1, e2]
  have hl2 : (V.take p).length = p := by rw [List.length_take]; omega
  refine ⟨?_, ?_, ?_⟩
  · rw [← List.append_assoc, List.take_append_of_le_length (by simp only [List.length_append, hl2, hd]; omega), List.take_of_length_le (by simp only [List.length_append, hl2, hd]; omega)]
  · simp only [List.length_append, hl2, hd, List.length_drop]; omega
  · show (c.take (p + X.length) ++ V.drop p ++ c.drop (p + X.length + (V.drop p).length)).length = c.length
    simp only [List.length_append, hl1, hd, List.length_drop]; omega

theorem put_cells (D : List Dep) (x : Dep) (i : Nat) : depV (D.take i ++ x :: D.drop i) = (depV D).take (i * 2) ++ [.int .i64 x.1, .int .i64 x.2] ++ (depV D).drop (i * 2) := by
  have e : D.take i ++ x :: D.drop i = D.take i ++ [x] ++ D.drop i := by simp
  rw [e, depV_append, depV_append, depV_take, depV_drop]
  rfl
theorem fn_overlaps : Tryd.prog.funcs[54]? = some Tryd.f54 := by kernel_rfl

def PutAt (base : Nat) (v : Value) (D : List Dep) (w : World) (e : Ending) (w' : World) : Prop :=
  ∃ v', e = .returned v' ∧ w'.ownsRow base 62 2 v' D.length (depV D) ∧ w.grownBy w' v.ownBlock
theorem put_own {w : World} {base : Nat} {v : Value} {D : List Dep} {k : Nat} {xs : List Value} (h : w.ownsRow base 62 2 v k xs) (hk : k = D.length) (hx : xs = depV D) : w.ownsRow base 62 2 v D.length (depV D) := by subst hk; subst hx; exact h

/-- At the end. -/
theorem libInsEnd (base n vb : Nat) (v : Value) (D : List Dep) (x : Dep) (w : World) (h : w.ownsRow base 62 2 v n (depV D)) (hb : Blk w vb 62 #[.int .i64 x.1, .int .i64 x.2]) (hbase : base ≤ w.heap.size) (hn : n ≤ 4000000000) :
    Calls Tryd.prog 37 #[v, .int .i64 n, .slice (some ⟨vb, 0, none⟩) 1 1] w (PutAt base v (D ++ [x]) w) := by
  obtain ⟨i0, hi, hz0, hz1, hz2⟩ := info_parts info_dep
  have hl := own_dep_length h
  have e1 := Lib.hid (show n + 1 = (D ++ [x]).length by simp [hl])
  have e2 := Lib.hid (show depV D ++ [.int .i64 x.1, .int .i64 x.2] = depV (D ++ [x]) by rw [depV_append]; rfl)
  have b2 := Lib.hid (show ∀ u ∈ [Value.int .i64 x.1, .int .i64 x.2], u.oneCell' = true by simp [Value.oneCell'])
  have b3 := Lib.hid (show n + 1 ≤ maxLen by unfold maxLen; omega)
  have b4 := Lib.hid (show (n + 1) * 16 ≤ 140737488355328 by omega)
  have HO := Lib.hid h
  have HB := Lib.hid hb
  have HBA := Lib.hid hbase
  rcases h.2 with ⟨rfl, rfl⟩ | ⟨g, cap, cur, rfl, _⟩
  · clear h hb hbase hl
    go_enter Tryd.func37, Tryd.ntmps37
    go_wp2_with (at_builtin; refine wpList_append_own _ rfl _ _ 42 rfl base 62 i0 (.agg #[.int .i64 0, .int .i64 0]) 2 16 Tryd.underlying42 hi hz0 hz1 hz2 rfl (by decide) _ _ _ rfl HO.out ⟨vb, 0, none⟩ 1 1 [.int .i64 x.1, .int .i64 x.2] rfl rfl (World.news_of_block HB.out) b2.out b3.out b4.out HBA.out ?_; intro v' w' hown' hgrow' _)
    go_ret
    exact ⟨v', rfl, put_own hown' e1.out e2.out, hgrow'⟩
  · clear h hb hbase hl
    go_enter Tryd.func37, Tryd.ntmps37
    go_wp2_with (at_builtin; refine wpList_append_own _ rfl _ _ 42 rfl base 62 i0 (.agg #[.int .i64 0, .int .i64 0]) 2 16 Tryd.underlying42 hi hz0 hz1 hz2 rfl (by decide) _ _ _ rfl HO.out ⟨vb, 0, none⟩ 1 1 [.int .i64 x.1, .int .i64 x.2] rfl rfl (World.news_of_block HB.out) b2.out b3.out b4.out HBA.out ?_; intro v' w' hown' hgrow' _)
    all_goals (go_ret; exact ⟨v', rfl, put_own hown' e1.out e2.out, hgrow'⟩)

/-- Ahead of the end, where there is room: in place. -/
theorem libInsShift (base n vb g cap i : Nat) (D : List Dep) (x : Dep) (w : World) (h : w.ownsRow base 62 2 (.slice (some ⟨g, 0, none⟩) n cap) n (depV D)) (hb : Blk w vb 62 #[.int .i64 x.1, .int .i64 x.2]) (hbase : base ≤ w.heap.size) (hn : n ≤ 4000000000) (hi : i < n) (hroom : n + 1 ≤ cap) (hne : vb ≠ g) :
    Calls Tryd.prog 37 #[.slice (some ⟨g, 0, none⟩) n cap, .int .i64 i, .slice (some ⟨vb, 0, none⟩) 1 1] w (PutAt base (.slice (some ⟨g, 0, none⟩) n cap) (D.take i ++ x :: D.drop i) w) := by
  obtain ⟨i0, hi0, hz0, hz1, hz2⟩ := info_parts info_dep
  have hl := own_dep_length h
  obtain ⟨cur, hgc, hcm, hcs, htk⟩ : ∃ cur, w.heap[g]? = some (.cells cur 62 (0, 0)) ∧ cap ≤ maxLen ∧ cur.size = cap * 2 ∧ cur.toList.take (n * 2) = depV D := by
    rcases h.2 with ⟨h1, _⟩ | ⟨g', cap', cur, h1, _, h2, _, h3, h4, h5⟩
    · cases h1
    · obtain ⟨rfl, rfl⟩ : g = g' ∧ cap = cap' := by
        injection h1 with e1 e2 e3
        injection e1 with e1
        injection e1 with e1
        exact ⟨e1, e3⟩
      exact ⟨cur, h2, h3, h4, h5⟩
  have hsz : (Tryd.prog.info? 62).map (·.size) = some 2 := by rw [hi0]; simp [hz1]
  have hst := Tryd.underlying42
  have hzd : ∀ w, (Go.sizeOf 62).run Tryd.prog w = .ok 2 w := fun w => by simp [Go.sizeOf, typeInfo, hi0, hz1]
  have hsa : w.shape? vb = some (62, 2) := by
    have hb' : w.heap[vb]? = some (.cells #[.int .i64 x.1, .int .i64 x.2] 62 (0, 0)) := hb
    simp [World.shape?, hb']
  have hsb : w.shape? g = some (62, cap * 2) := by simp [World.shape?, hgc, hcs]
  have hfa : w.frozen? ⟨vb, 0, none⟩ = false := by
    have hb' : w.heap[vb]? = some (.cells #[.int .i64 x.1, .int .i64 x.2] 62 (0, 0)) := hb
    simp [World.frozen?, hb']
  have hfe : w.frozen? ⟨vb, 2, none⟩ = false := by
    have hb' : w.heap[vb]? = some (.cells #[.int .i64 x.1, .int .i64 x.2] 62 (0, 0)) := hb
    simp [World.frozen?, hb']
  have hov : ∀ o lb cb, (callFunc 54 #[.slice (some ⟨vb, 0, none⟩) 1 1, .slice (some ⟨g, o, none⟩) lb cb]).run Tryd.prog w = .ok (.value (.bool false)) w := fun o lb cb => by
    rw [run_callFunc_extern fn_overlaps (by kernel_rfl) (by kernel_rfl) (by kernel_rfl) (e := Extern.SlicesOverlaps.overlaps #[42, 42] #[4]) (by kernel_rfl),
      Lib.run_overlaps_apart w 42 4 62 hst 2 hzd ⟨vb, 0, none⟩ ⟨g, o, none⟩ 1 1 lb cb hne 62 62 2 (cap * 2) hsa hsb (by omega) hfa hfe]
    rfl
  have hVl : (depV D).length = n * 2 := by rw [depV_length, hl]
  have hdl : ((depV D).drop (i * 2)).length = (n - i) * 2 := by rw [List.length_drop, hVl]; omega
  have e2 : (i + 1) * 2 = i * 2 + 2 := by omega
  have hcl : cur.toList.length = cap * 2 := by rw [Array.length_toList]; exact hcs
  obtain ⟨hs1, hs2, hs3⟩ := shift_list (X := [Value.int .i64 x.1, Value.int .i64 x.2]) (p := i * 2) htk (by omega) (by rw [hcl]; simp; omega)
  obtain ⟨c1, hc1⟩ : ∃ c1 : Array Value, c1 = (cur.toList.take ((i + 1) * 2) ++ (depV D).drop (i * 2) ++ cur.toList.drop ((i + 1) * 2 + ((depV D).drop (i * 2)).length)).toArray := ⟨_, rfl⟩
  have hc1l : c1.toList = cur.toList.take (i * 2 + 2) ++ (depV D).drop (i * 2) ++ cur.toList.drop (i * 2 + 2 + ((depV D).drop (i * 2)).length) := by rw [hc1, e2]
  have hs4 : c1.toList.length = cap * 2 := by rw [hc1l, ← hcl]; exact hs3
  obtain ⟨c2, hc2⟩ : ∃ c2 : Array Value, c2 = (c1.toList.take (i * 2) ++ [Value.int .i64 x.1, Value.int .i64 x.2] ++ c1.toList.drop (i * 2 + [Value.int .i64 x.1, Value.int .i64 x.2].length)).toArray := ⟨_, rfl⟩
  have hown2 : c2.toList.take ((n + 1) * 2) = depV (D.take i ++ x :: D.drop i) ∧ c2.size = cap * 2 := by
    have hc2l : c2.toList = c1.toList.take (i * 2) ++ [Value.int .i64 x.1, Value.int .i64 x.2] ++ c1.toList.drop (i * 2 + [Value.int .i64 x.1, Value.int .i64 x.2].length) := by rw [hc2]
    rw [hc1l] at hc2l
    refine ⟨?_, ?_⟩
    · rw [put_cells, ← hs1, hc2l, show (n + 1) * 2 = n * 2 + [Value.int IntKind.i64 x.1, Value.int IntKind.i64 x.2].length by simp; omega]
      rfl
    · rw [← Array.length_toList, hc2l, ← hcl]; exact hs2
  have hcp1 : ∀ ty dc sc, (Builtin.copy_ #[42, 42] ty #[.slice (some ⟨g, (i + 1) * 2, none⟩) (n - i) dc, .slice (some ⟨g, i * 2, none⟩) (n + 1 - i) sc]).run Tryd.prog w.drew = .ok (goInt ((n - i : Nat) : Int)) (w.drew.setRow g c1) := fun ty dc sc => by
    have h := run_copy_row2 (P := Tryd.prog) w.drew 42 42 ty 62 g ((i + 1) * 2) (n - i) dc ⟨g, i * 2, none⟩ (n + 1 - i) sc cur 62 ((depV D).drop (i * 2)) hst hsz hgc (by rw [hdl, show Nat.min (n + 1 - i) (n - i) = n - i from by show min (n + 1 - i) (n - i) = n - i; omega])
      (fun j v hj => by
        have hj2 := (List.getElem?_eq_some_iff.1 hj).1
        rw [Addr.add_lit]
        rw [List.getElem?_drop] at hj
        exact (h.cellAt (i * 2 + j) (by omega)).trans hj)
      (by rw [hdl]; omega) (fun v hv => depV_one1 D v (List.mem_of_mem_drop hv))
    rw [show Nat.min (n + 1 - i) (n - i) = n - i from by show min (n + 1 - i) (n - i) = n - i; omega, ← hc1] at h
    exact h
  have hW1 : (w.drew.setRow g c1).heap[g]? = some (.cells c1 62 (0, 0)) := setRow_heap w.drew g cur c1 62 (0, 0) hgc
  have hcp2 : ∀ (W : World), W.heap = (w.drew.setRow g c1).heap → ∀ ty dc, (Builtin.copy_ #[42, 42] ty #[.slice (some ⟨g, i * 2, none⟩) (n + 1 - i) dc, .slice (some ⟨vb, 0, none⟩) 1 1]).run Tryd.prog W = .ok (goInt 1) (W.setRow g c2) := fun W hW ty dc => by
    have h := run_copy_row2 (P := Tryd.prog) W 42 42 ty 62 g (i * 2) (n + 1 - i) dc ⟨vb, 0, none⟩ 1 1 c1 62 [Value.int .i64 x.1, Value.int .i64 x.2] hst hsz (by rw [hW]; exact hW1) (by rw [show Nat.min 1 (n + 1 - i) = 1 from by show min 1 (n + 1 - i) = 1; omega]; rfl)
      (World.news_of_block (cs := #[.int .i64 x.1, .int .i64 x.2]) (t := 62) (fr := (0, 0)) (by rw [hW]; exact (setRow_other w.drew g vb c1 hne).trans hb)) (by rw [← Array.length_toList, hs4]; simp; omega) (by simp [Value.oneCell'])
    rw [show Nat.min 1 (n + 1 - i) = 1 from by show min 1 (n + 1 - i) = 1; omega, ← hc2] at h
    exact h
  have hfin : PutAt base (.slice (some ⟨g, 0, none⟩) n cap) (D.take i ++ x :: D.drop i) w (.returned (.slice (some ⟨g, 0, none⟩) (n + 1) cap)) ((w.drew.setRow g c1).setRow g c2) := by
    have hlen : (D.take i ++ x :: D.drop i).length = n + 1 := by simp [hl]; omega
    refine ⟨_, rfl, ?_, ?_⟩
    · rw [hlen]
      exact ⟨by rw [depV_length, hlen], .inr ⟨g, cap, c2, rfl, (h.lt g rfl).1, setRow_heap _ g c1 c2 _ _ hW1, by omega, hcm, hown2.2, hown2.1⟩⟩
    · exact ⟨rfl, rfl, rfl, by simp [World.setRow], fun k _ hk => by
        have hk' : k ≠ g := fun e => hk (by rw [e]; rfl)
        rw [setRow_other _ g k c2 hk', setRow_other _ g k c1 hk']; rfl⟩
  have HF := Lib.hid hfin
  have c63 : cap ≤ 9223372036854775807 := by unfold maxLen at hcm; omega
  have f2 : ¬ ((i : Int) = (n : Int)) := by omega
  have f1 : (0 : Int) ≤ (i : Int) + 1 := by omega
  have mixed : Tryd.prog.follows .mixedOrders = true := by kernel_rfl
  have f0 : IntKind.i64.wrap ((i : Int) + 1) = (i : Int) + 1 := by rw [IntKind.wrap_i64]; omega
  have f5 : i ≤ n := by omega
  have f6 : ((i : Int) + 1).toNat = i + 1 := by omega
  have f7 : (i : Int) ≤ (n : Int) + 1 := by omega
  have f10 : ¬ cap = i := by omega
  have f11 : ¬ cap = i + 1 := by omega
  clear h hb hgc hcs htk hst hzd hsa hsb hfa hfe hVl hdl e2 hcl hs1 hs2 hs3 hc1 hc1l hs4 hc2 hown2 hW1 hfin
  go_enter Tryd.func37, Tryd.ntmps37
  go_wp2_with (simp only [hov])
  go_region_law_o (refine step_copy_runI rfl _ _ 42 42 rfl _ _ (by simp [Act.eval, Act.put]) (by simp [Act.eval, Act.put]) (hcp1 _ _ _) ?_)
  go_wp2_with (at_builtin; refine wpList_copy_runI _ rfl _ _ 42 42 rfl _ _ rfl rfl (hcp2 _ rfl _ _) ?_)
  go_ret
  exact HF.out

theorem grow_list {α : Type} {R V X : List α} {p : Nat} (hR : R.take p = V.take p) (hp : p ≤ V.length) (hc : V.length + X.length ≤ R.length) :
    let c1 := R.take p ++ X ++ R.drop (p + X.length)
    ((c1.take (p + X.length) ++ V.drop p ++ c1.drop (p + X.length + (V.drop p).length)).take (V.length + X.length) = V.take p ++ X ++ V.drop p) ∧ (c1.take (p + X.length) ++ V.drop p ++ c1.drop (p + X.length + (V.drop p).length)).length = R.length ∧ c1.length = R.length := by
  intro c1
  have hl : (R.take p).length = p := by rw [List.length_take]; omega
  have hd : (V.drop p).length = V.length - p := by rw [List.length_drop]
  have e1 : c1.take (p + X.length) = R.take p ++ X := by
    show (R.take p ++ X ++ R.drop (p + X.length)).take (p + X.length) = _
    rw [List.take_left' (by rw [List.length_append, hl])]
  have h1 : c1.length = R.length := by
    show (R.take p ++ X ++ R.drop (p + X.length)).length = R.length
    simp only [List.length_append, hl, List.length_drop]; omega
  have hl2 : (V.take p).length = p := by rw [List.length_take]; omega
  rw [e1, hR]
  refine ⟨?_, ?_, h1⟩
  · rw [List.take_append_of_le_length (by simp only [List.length_append, hl2, hd]; omega), List.take_of_length_le (by simp only [List.length_append, hl2, hd]; omega)]
  · simp only [List.length_append, hl2, hd, List.length_drop, h1]; omega

/-- Ahead of the end, where there is no room: in a new block. -/
theorem libInsGrow (base n vb g cap i : Nat) (D : List Dep) (x : Dep) (w : World) (h : w.ownsRow base 62 2 (.slice (some ⟨g, 0, none⟩) n cap) n (depV D)) (hb : Blk w vb 62 #[.int .i64 x.1, .int .i64 x.2]) (hbase : base ≤ w.heap.size) (hn : n ≤ 4000000000) (hi : i < n) (hroom : cap < n + 1) :
    Calls Tryd.prog 37 #[.slice (some ⟨g, 0, none⟩) n cap, .int .i64 i, .slice (some ⟨vb, 0, none⟩) 1 1] w (PutAt base (.slice (some ⟨g, 0, none⟩) n cap) (D.take i ++ x :: D.drop i) w) := by
  obtain ⟨i0, hi0, hz0, hz1, hz2⟩ := info_parts info_dep
  have hl := own_dep_length h
  have hnc : n ≤ cap := by
    rcases h.2 with ⟨h1, _⟩ | ⟨g', cap', cur, h1, _, h2, h3, _⟩
    · cases h1
    · injection h1 with e1 e2 e3
      omega
  have hgw := (h.lt g rfl).2
  have hvw := hb.lt
  have hsz : (Tryd.prog.info? 62).map (·.size) = some 2 := by rw [hi0]; simp [hz1]
  have hst := Tryd.underlying42
  have hVl : (depV D).length = n * 2 := by rw [depV_length, hl]
  have hdl : ((depV D).drop (i * 2)).length = (n - i) * 2 := by rw [List.length_drop, hVl]; omega
  have hkk : (n : Int) + 1 - (i : Int) = ((n + 1 - i : Nat) : Int) := by omega
  have hik : i + (n + 1 - i) = n + 1 := by omega
  have hold : (Builtin.firstCells i0.size i (.slice (some ⟨g, 0, none⟩) i cap)).run Tryd.prog w.drew = .ok ((depV D).take (i * 2)).toArray w.drew := by
    rw [hz1]
    exact run_firstCells_some w.drew 2 i ⟨g, 0, none⟩ i cap ((depV D).take (i * 2)) (by rw [List.length_take, hVl]; omega) (fun j v hj => by
      rw [Addr.add_lit]
      rw [List.getElem?_take] at hj
      split at hj
      · rw [Nat.zero_add]; exact (h.cellAt j (by omega)).trans hj
      · cases hj)
  obtain ⟨G, hG⟩ : ∃ G, G = grownCap w (n + 1) cap 62 := ⟨_, rfl⟩
  obtain ⟨ROW, hROW⟩ : ∃ ROW : Array Value, ROW = ((depV D).take (i * 2)).toArray ++ Builtin.zeroCells (Value.agg #[.int .i64 0, .int .i64 0]).cells (n + 1 - i) ++ Builtin.zeroCells (Value.agg #[.int .i64 0, .int .i64 0]).cells (G - (n + 1)) := ⟨_, rfl⟩
  have hrz : ∀ ty, (Builtin.append_ #[42, 3] ty #[.slice (some ⟨g, 0, none⟩) i cap, .int .i64 ((n : Int) + 1 - (i : Int))]).run Tryd.prog w =
      .ok (.slice (some ⟨w.heap.size, 0, none⟩) (n + 1) G) (w.drew.alloc (.cells ROW 62)) := fun ty => by
    have h := Lib.run_append_grow_zeros w 42 3 ty 62 i0 _ .i64 .i64 hst Tryd.underlying3 hi0 hz0 (some ⟨g, 0, none⟩) i cap ((depV D).take (i * 2)) hold (n + 1 - i) (by omega) (by omega) (by omega) (by omega) (by rw [hz2]; omega) (by rw [hz2, hik]; exact growslice_fits (by omega) (by omega))
    rw [hik] at h
    rw [hkk, hROW, hG]
    exact h
  have hGn : n + 1 ≤ G := by rw [hG]; exact grownCap_ge w _ _ _
  have hGm : G ≤ maxLen := by rw [hG]; exact grownCap_le_maxLen w (n + 1) cap _ (by unfold maxLen; omega)
  have hRs : ROW.size = G * 2 := by
    rw [hROW]
    simp only [Array.size_append, List.size_toArray, size_zeroCells, List.length_take, hVl]
    simp [Value.cells]
    omega
  have hRt : ROW.toList.take (i * 2) = (depV D).take (i * 2) := by
    rw [hROW]
    simp only [Array.toList_append, List.append_assoc]
    exact List.take_left' (by rw [List.length_take, hVl]; omega)
  obtain ⟨N, hN⟩ : ∃ N, w.heap.size = N := ⟨_, rfl⟩
  rw [hN] at hrz hgw hvw
  have hRl : ROW.toList.length = G * 2 := by rw [Array.length_toList]; exact hRs
  obtain ⟨W1, hW1⟩ : ∃ W1, W1 = w.drew.alloc (.cells ROW 62) := ⟨_, rfl⟩
  have hW1N : W1.heap[N]? = some (.cells ROW 62 (0, 0)) := by rw [hW1, ← hN]; exact heap_alloc_new w.drew _
  have hW1o : ∀ k, k < N → W1.heap[k]? = w.heap[k]? := fun k hk => by rw [hW1]; exact heap_alloc_old w.drew _ (by rw [← hN] at hk; exact hk)
  obtain ⟨hs1, hs2, hs3⟩ := grow_list (X := [Value.int .i64 x.1, Value.int .i64 x.2]) (p := i * 2) hRt (by rw [hVl]; omega) (by rw [hRl, hVl]; simp; omega)
  have e2 : (i + 1) * 2 = i * 2 + 2 := by omega
  obtain ⟨c1, hc1⟩ : ∃ c1 : Array Value, c1 = (ROW.toList.take (i * 2) ++ [Value.int .i64 x.1, Value.int .i64 x.2] ++ ROW.toList.drop (i * 2 + [Value.int .i64 x.1, Value.int .i64 x.2].length)).toArray := ⟨_, rfl⟩
  have hc1l : c1.toList = ROW.toList.take (i * 2) ++ [Value.int .i64 x.1, Value.int .i64 x.2] ++ ROW.toList.drop (i * 2 + [Value.int .i64 x.1, Value.int .i64 x.2].length) := by rw [hc1]
  have hs4 : c1.toList.length = G * 2 := by rw [hc1l, ← hRl]; exact hs3
  obtain ⟨c2, hc2⟩ : ∃ c2 : Array Value, c2 = (c1.toList.take ((i + 1) * 2) ++ (depV D).drop (i * 2) ++ c1.toList.drop ((i + 1) * 2 + ((depV D).drop (i * 2)).length)).toArray := ⟨_, rfl⟩
  have hown2 : c2.toList.take ((n + 1) * 2) = depV (D.take i ++ x :: D.drop i) ∧ c2.size = G * 2 := by
    have hc2l : c2.toList = c1.toList.take (i * 2 + 2) ++ (depV D).drop (i * 2) ++ c1.toList.drop (i * 2 + 2 + ((depV D).drop (i * 2)).length) := by rw [hc2, e2]
    rw [hc1l] at hc2l
    refine ⟨?_, ?_⟩
    · rw [put_cells, ← hs1, hc2l, show (n + 1) * 2 = (depV D).length + [Value.int IntKind.i64 x.1, Value.int IntKind.i64 x.2].length by rw [hVl]; simp; omega]
      rfl
    · rw [← Array.length_toList, hc2l, ← hRl]; exact hs2
  have hcpA : ∀ (W : World), W.heap = W1.heap → ∀ ty dc, (Builtin.copy_ #[42, 42] ty #[.slice (some ⟨N, i * 2, none⟩) (n + 1 - i) dc, .slice (some ⟨vb, 0, none⟩) 1 1]).run Tryd.prog W = .ok (goInt 1) (W.setRow N c1) := fun W hW ty dc => by
    have h := run_copy_row2 (P := Tryd.prog) W 42 42 ty 62 N (i * 2) (n + 1 - i) dc ⟨vb, 0, none⟩ 1 1 ROW 62 [Value.int .i64 x.1, Value.int .i64 x.2] hst hsz (by rw [hW]; exact hW1N) (by rw [show Nat.min 1 (n + 1 - i) = 1 from by show min 1 (n + 1 - i) = 1; omega]; rfl)
      (World.news_of_block (cs := #[.int .i64 x.1, .int .i64 x.2]) (t := 62) (fr := (0, 0)) (by rw [hW]; exact (hW1o vb hvw).trans hb)) (by rw [hRs]; simp; omega) (by simp [Value.oneCell'])
    rw [show Nat.min 1 (n + 1 - i) = 1 from by show min 1 (n + 1 - i) = 1; omega, ← hc1] at h
    exact h
  have hNg : g ≠ N := by omega
  have hcpB : ∀ (W : World), W.heap = (W1.setRow N c1).heap → ∀ ty dc sc, (Builtin.copy_ #[42, 42] ty #[.slice (some ⟨N, (i + 1) * 2, none⟩) (n - i) dc, .slice (some ⟨g, i * 2, none⟩) (n - i) sc]).run Tryd.prog W = .ok (goInt ((n - i : Nat) : Int)) (W.setRow N c2) := fun W hW ty dc sc => by
    have hWg : W.heap[g]? = w.heap[g]? := by rw [hW, setRow_other W1 N g c1 hNg]; exact hW1o g hgw
    have h := run_copy_row2 (P := Tryd.prog) W 42 42 ty 62 N ((i + 1) * 2) (n - i) dc ⟨g, i * 2, none⟩ (n - i) sc c1 62 ((depV D).drop (i * 2)) hst hsz (by rw [hW]; exact setRow_heap W1 N ROW c1 _ _ hW1N) (by rw [hdl, show Nat.min (n - i) (n - i) = n - i from by show min (n - i) (n - i) = n - i; omega])
      (fun j v hj => by
        have hj2 := (List.getElem?_eq_some_iff.1 hj).1
        rw [Addr.add_lit]
        rw [List.getElem?_drop] at hj
        exact (World.cell?_of_block hWg).trans ((h.cellAt (i * 2 + j) (by omega)).trans hj))
      (by rw [hdl, ← Array.length_toList, hs4]; omega) (fun v hv => depV_one1 D v (List.mem_of_mem_drop hv))
    rw [show Nat.min (n - i) (n - i) = n - i from by show min (n - i) (n - i) = n - i; omega, ← hc2] at h
    exact h
  have hfin : ∀ (W : World), W.heap = ((W1.setRow N c1).setRow N c2).heap → W.os = w.os → W.tape = w.tape → W.output = w.output → PutAt base (.slice (some ⟨g, 0, none⟩) n cap) (D.take i ++ x :: D.drop i) w (.returned (.slice (some ⟨N, 0, none⟩) (n + 1) G)) W := fun W hW h1 h2 h3 => by
    have hlen : (D.take i ++ x :: D.drop i).length = n + 1 := by simp [hl]; omega
    refine ⟨_, rfl, ?_, ?_⟩
    · rw [hlen]
      exact ⟨by rw [depV_length, hlen], .inr ⟨N, G, c2, rfl, by omega, by rw [hW]; exact setRow_heap _ N c1 c2 _ _ (setRow_heap W1 N ROW c1 _ _ hW1N), by omega, hGm, hown2.2, hown2.1⟩⟩
    · exact ⟨h1, h2, h3, by rw [hW]; simp [World.setRow, hW1], fun k hk _ => by
        have hk' : k ≠ N := by omega
        rw [hW, setRow_other _ N k c2 hk', setRow_other _ N k c1 hk']; exact hW1o k (by omega)⟩
  have HF := Lib.hid hfin
  have c63 : cap ≤ 9223372036854775807 := by omega
  have G63 : G ≤ 9223372036854775807 := by unfold maxLen at hGm; omega
  have f2 : ¬ ((i : Int) = (n : Int)) := by omega
  have f1 : (0 : Int) ≤ (i : Int) + 1 := by omega
  have mixed : Tryd.prog.follows .mixedOrders = true := by kernel_rfl
  have f0 : IntKind.i64.wrap ((i : Int) + 1) = (i : Int) + 1 := by rw [IntKind.wrap_i64]; omega
  have f5 : i ≤ n := by omega
  have f6 : ((i : Int) + 1).toNat = i + 1 := by omega
  have f7 : (i : Int) ≤ (n : Int) := by omega
  have f8 : (cap : Int) < (n : Int) + 1 := by omega
  have f10 : ¬ cap = i := by omega
  have f11 : ¬ G = i := by omega
  have f12 : ¬ G = i + 1 := by omega
  have f13 : i ≤ cap := by omega
  have HN := Lib.hid hN
  have HW1 := Lib.hid hW1
  clear h hb hst hVl hdl hkk hik hold hG hROW hRs hRt hRl hW1N hW1o hs1 hs2 hs3 e2 hc1 hc1l hs4 hc2 hown2 hfin hN hsz hnc hGm
  rw [← hW1] at hrz
  clear hW1
  go_enter Tryd.func37, Tryd.ntmps37
  go_wp2_with (first
    | (at_builtin; refine Lib.wpList_append_run _ rfl _ _ _ _ rfl _ _ rfl rfl _ _ (hrz _) ?_)
    | (at_builtin; refine wpList_copy_runI _ rfl _ _ 42 42 rfl _ _ rfl rfl (hcpA _ rfl _ _) ?_))
  go_region_law_o (refine step_copy_runI rfl _ _ 42 42 rfl (.slice (some ⟨N, (i + 1) * 2, none⟩) (n - i) (G - (i + 1))) (.slice (some ⟨g, i * 2, none⟩) (n - i) (cap - i)) (by simp [Act.eval, Act.put]) (by simp [Act.eval, Act.put]) (hcpB (W1.setRow N c1).drew rfl 3 (G - (i + 1)) (cap - i)) ?_)
  go_wp2
  go_ret
  exact HF.out _ rfl (by rw [HW1.out]; rfl) (by rw [HW1.out]; rfl) (by rw [HW1.out]; rfl)
end Go.Proofs.YtcmlnokfjbglaaaDoor
end

section
namespace Go.Proofs.YtcmlnokfjbglaaaDoor
open Go.ChangeShapes Go.WideShapes Go.ChangeAt Go.RowKit
set_option linter.unusedVariables false
set_option maxRecDepth 20000

theorem libInsert (base n vb i : Nat) (v : Value) (D : List Dep) (x : Dep) (w : World) (h : w.ownsRow base 62 2 v n (depV D)) (hb : Blk w vb 62 #[.int .i64 x.1, .int .i64 x.2]) (hbase : base ≤ w.heap.size) (hn : n ≤ 4000000000) (hi : i ≤ n) (hne : v.ownBlock ≠ some vb) :
    Calls Tryd.prog 37 #[v, .int .i64 i, .slice (some ⟨vb, 0, none⟩) 1 1] w (PutAt base v (D.take i ++ x :: D.drop i) w) := by
  have hl := own_dep_length h
  rcases Nat.lt_or_eq_of_le hi with h1 | h1
  · obtain ⟨A, cap, rfl, ha⟩ := own_form h
    obtain ⟨g, rfl⟩ := ha (by omega)
    have hne' : vb ≠ g := fun e => hne (by rw [e]; rfl)
    by_cases hr : n + 1 ≤ cap
    · exact libInsShift base n vb g cap i D x w h hb hbase hn h1 hr hne'
    · exact libInsGrow base n vb g cap i D x w h hb hbase hn h1 (by omega)
  · subst h1
    have e : D.take i ++ x :: D.drop i = D ++ [x] := by rw [← hl, List.take_length, List.drop_length]
    rw [e]
    exact libInsEnd base i vb v D x w h hb hbase hn

theorem implInsert (base n : Nat) (v : Value) (D : List Dep) (d : Dep) (hD : ascD D) (w : World) (h : w.ownsRow base 62 2 v n (depV D)) (hbase : base ≤ w.heap.size) (hn : n ≤ 4000000000) :
    Calls Tryd.prog 22 #[v, .agg #[.int .i64 d.1, .int .i64 d.2], .func (.func 23) #[] #[]] w (PutAt base v (insD D d) w) := by
  have hl := own_dep_length h
  have hlow := lowN_le D d
  obtain ⟨A, cap, rfl, ha⟩ := own_form h
  have HO := Lib.hid h
  have BG := Lib.hid (boxD_gb d w)
  have BB := Lib.hid (boxD_blk d w)
  have h1 : (boxD d w).ownsRow base 62 2 (.slice A n cap) n (depV D) := own_none h (boxD_gb d w)
  have H1 := Lib.hid h1
  have HBS := Lib.hid (libSearch A n cap D d hD (boxD d w) (depAt_own h1 (Nat.le_refl _)) hn)
  have HIN := Lib.hid (fun (vb : Nat) (w' : World) (h' : w'.ownsRow base 62 2 (.slice A n cap) n (depV D)) (hb : Blk w' vb 62 #[.int .i64 d.1, .int .i64 d.2]) (hbase' : base ≤ w'.heap.size) (hne : (Value.slice A n cap).ownBlock ≠ some vb) =>
    libInsert base n vb (lowN D d) (.slice A n cap) D d w' h' hb hbase' hn (by omega) hne)
  clear h h1 ha
  by_cases hd : d ∈ D
  · have hr := ins_there hd
    rw [hr]
    have HD := Lib.hid (decide_eq_true hd)
    clear hd hr
    have HBS2 := Lib.hid (show Calls _ _ _ (boxD d w) fun e w' => e = .returned (.tuple #[.int .i64 (lowN D d : Nat), .bool true]) ∧ (boxD d w).grownBy w' none from (HBS.out.mono fun e w' h => ⟨by rw [h.1, HD.out], h.2⟩))
    clear HBS
    go_enter Tryd.func22, Tryd.ntmps22
    go_wp2_with fail
    refine HBS2.out.mono ?_
    rintro e w2 ⟨rfl, hg2⟩
    have G2 := Lib.hid (gb_trans BG.out hg2)
    clear hg2
    go_wp2_with fail
    go_ret
    exact ⟨_, rfl, put_own (own_none HO.out G2.out) hl.symm rfl, gb_of_none G2.out _⟩
  · have hr : insD D d = D.take (lowN D d) ++ d :: D.drop (lowN D d) := ins_new hd
    rw [hr]
    have HD := Lib.hid (decide_eq_false hd)
    clear hd hr
    have HBS2 := Lib.hid (show Calls _ _ _ (boxD d w) fun e w' => e = .returned (.tuple #[.int .i64 (lowN D d : Nat), .bool false]) ∧ (boxD d w).grownBy w' none from (HBS.out.mono fun e w' h => ⟨by rw [h.1, HD.out], h.2⟩))
    clear HBS
    obtain ⟨k, hk⟩ : ∃ k, lowN D d = k := ⟨_, rfl⟩
    rw [hk] at HBS2 HIN hlow
    rw [hk]
    obtain ⟨R, hR⟩ : ∃ R, D.take k ++ d :: D.drop k = R := ⟨_, rfl⟩
    rw [hR] at HIN
    rw [hR]
    clear hk hR
    go_enter Tryd.func22, Tryd.ntmps22
    go_wp2_with fail
    refine HBS2.out.mono ?_
    rintro e w2 ⟨rfl, hg2⟩
    have bb := BB.out.grown hg2 (by simp)
    have t0 : w2.cell? ⟨w.heap.size, 0, none⟩ = some (.int .i64 d.1) := bb.cell 0
    have t1 : w2.cell? ⟨w.heap.size, 1, none⟩ = some (.int .i64 d.2) := bb.cell 1
    have O2 := Lib.hid (own_none H1.out hg2)
    have G2 := Lib.hid (gb_trans BG.out hg2)
    clear hg2 bb
    go_wp2_with fail
    refine (HIN.out w2.heap.size _ (O2.out.alloc _) (Blk.new w2 _ _) (by have := G2.out.size; rw [alloc_size]; omega) (fun e => by have := (O2.out.lt _ e).2; omega)).mono ?_
    rintro e w3 ⟨v', rfl, ho3, hg3⟩
    have X3 := Lib.hid (show PutAt base (.slice A n cap) R w (.returned v') w3 from ⟨v', rfl, ho3, gb_trans (gb_of_none (gb_trans G2.out (gb_alloc (gb_refl _ _) _)) _) hg3⟩)
    clear t0 t1 ho3 hg3
    go_wp2_with fail
    go_ret
    exact X3.out
end Go.Proofs.YtcmlnokfjbglaaaDoor
end

section
namespace Go.Proofs.YtcmlnokfjbglaaaDoor
open Go.ChangeShapes Go.WideShapes Go.ChangeAt Go.RowKit
set_option linter.unusedVariables false
set_option maxRecDepth 20000

/-- Rows of different types lie in different blocks. -/
theorem own_types {w : World} {b1 b2 s1 s2 n1 n2 : Nat} {e1 e2 : TypeId} {v1 v2 : Value} {x1 x2 : List Value} (h1 : w.ownsRow b1 e1 s1 v1 n1 x1) (h2 : w.ownsRow b2 e2 s2 v2 n2 x2) (hne : e1 ≠ e2) : v1.ownBlock = none ∨ v1.ownBlock ≠ v2.ownBlock := by
  rcases h1.2 with ⟨h3, _⟩ | ⟨g1, c1, cur1, h3, _, hg1, _⟩
  · rw [h3]; exact .inl rfl
  · right
    rw [h3]
    rcases h2.2 with ⟨h4, _⟩ | ⟨g, c4, cur, h4, _, hg, _⟩
    · rw [h4]; intro e; cases e
    · rw [h4]
      intro e
      have e2 : g1 = g := Option.some.inj e
      subst e2
      rw [hg] at hg1
      have e3 := Option.some.inj hg1
      injection e3 with _ e4 _
      exact hne e4.symm
theorem ListsAt.kept {w w' : World} {base b2 n : Nat} {v v2 : Value} {N : Nat} {F : Nat → List Int} {xs : List Value} (h : ListsAt w base v N F) (h2 : w.ownsRow b2 62 2 v2 n xs) (hg : w.grownBy w' v2.ownBlock) : ListsAt w' base v N F := by
  obtain ⟨vs, ho, hi⟩ := h
  refine ⟨vs, ho.kept hg (own_types ho h2 (by decide)), fun k hk => ?_⟩
  obtain ⟨A, c, h3, h4⟩ := hi k hk
  exact ⟨A, c, h3, h4.kept hg (own_types h4 h2 (by decide))⟩

/-- The row of walks and the list of dependencies so far. -/
def DsAt (W H : Int) (A A2 : Option Addr) (n cap n2 c2 : Nat) (L P : List Int) (w : World) (Aw : Option Addr) (N cw : Nat) (D : List Dep) (v : Value) (wr : World) : Prop :=
  ListsAt wr (w.heap.size + 2) (.slice Aw N cw) N (pairW W H L P) ∧ wr.ownsRow (w.heap.size + 2) 62 2 v D.length (depV D) ∧ Below (w.heap.size + 2) (twoI W H A A2 n cap n2 c2 w) wr
section
variable {W H : Int} {A A2 : Option Addr} {n cap n2 c2 : Nat} {L P : List Int} {w wr w' : World} {Aw : Option Addr} {N cw : Nat} {D D' : List Dep} {v v' : Value}
theorem DsAt.put (h : DsAt W H A A2 n cap n2 c2 L P w Aw N cw D v wr) (ho : w'.ownsRow (w.heap.size + 2) 62 2 v' D'.length (depV D')) (hg : wr.grownBy w' v.ownBlock) : DsAt W H A A2 n cap n2 c2 L P w Aw N cw D' v' w' :=
  ⟨h.1.kept h.2.1 hg, ho, h.2.2.grown hg (by have := twoI_bs h.2.2; omega) (fun q hq => (h.2.1.lt q hq).1)⟩
theorem DsAt.len (h : DsAt W H A A2 n cap n2 c2 L P w Aw N cw D v wr) : w.heap.size + 2 ≤ wr.heap.size := twoI_bs h.2.2
end
theorem wlkN_le {W H : Int} {L P : List Int} : wlkN W H L P ≤ 256 := by
  unfold wlkN
  split
  · exact sqG_le
  · exact Nat.zero_le _
theorem allD_wlk {W H : Int} {L P : List Int} : allD W H L P (wlkN W H L P) = depG W H L P := by
  cases h : tableG W H L P with
  | false => rw [wlkN_no h, depG_no h]; rfl
  | true => rw [wlkN_yes h, depG_yes h]

set_option maxHeartbeats 1600000 in
theorem implDependsOf (W H : Int) (A A2 : Option Addr) (n cap n2 c2 : Nat) (L P : List Int) (hL : WfL L) (w : World) (h : IntAt w w.heap.size A n L) (h2 : IntAt w w.heap.size A2 n2 P) (hn : n ≤ 1000000000) (hn2 : n2 ≤ 1000000000) :
    Calls Tryd.prog 11 #[.agg #[.int .i64 W, .int .i64 H, .slice A n cap], .agg #[.slice A2 n2 c2]] w (NewD (depG W H L P) w) := by
  have HT1 := Lib.hid (h.twoI (W := W) (H := H) (A := A) (A2 := A2) (n := n) (cap := cap) (n2 := n2) (c2 := c2))
  have HT2 := Lib.hid (h2.twoI (W := W) (H := H) (A := A) (A2 := A2) (n := n) (cap := cap) (n2 := n2) (c2 := c2))
  have TZ := Lib.hid (twoI_size (W := W) (H := H) (A := A) (A2 := A2) (n := n) (cap := cap) (n2 := n2) (c2 := c2) (w := w))
  have HWK := Lib.hid (fun w h h2 => implWalksOf W H A A2 n cap n2 c2 L P hL w h h2 hn hn2)
  have HRES := Lib.hid (allD_wlk (W := W) (H := H) (L := L) (P := P))
  have hN256 := wlkN_le (W := W) (H := H) (L := L) (P := P)
  obtain ⟨N, hN⟩ : ∃ N, wlkN W H L P = N := ⟨_, rfl⟩
  rw [hN] at HWK HRES hN256
  clear h h2 hL hN
  go_enter Tryd.func11, Tryd.ntmps11
  go_wp2_with fail
  refine (HWK.out _ HT1.out HT2.out).mono ?_
  rintro e w1 ⟨va, rfl, hl1, hb1⟩
  rw [TZ.out] at hl1 hb1
  obtain ⟨Aw, cw, rfl, _⟩ := hl1.form
  have X1 := Lib.hid (show DsAt W H A A2 n cap n2 c2 L P w Aw N cw [] (.slice none 0 0) w1 from ⟨hl1, World.ownsRow_nil _ _ _ _, hb1⟩)
  clear hl1 hb1
  go_wp2_with fail
  go_loopw [5, 13] (fun v i wr => ∃ k : Nat, i = .int .i64 (k : Int) ∧ k ≤ N ∧ DsAt W H A A2 n cap n2 c2 L P w Aw N cw (allD W H L P k) v wr) (fun _ i _ => 257 - (intOf i).toNat)
  case atStart => exact ⟨0, rfl, Nat.zero_le _, X1.out⟩
  case round =>
    obtain ⟨k, rfl, hk, hx⟩ := hrel
    have X2 := Lib.hid hx
    by_cases hlt : k < N
    · obtain ⟨gw, B, d, hA, hc, ho⟩ := hx.1.at k hlt
      subst hA
      have hRN := pairW_len (W := W) (H := H) (L := L) (P := P) k
      obtain ⟨R, hR⟩ : ∃ R, pairW W H L P k = R := ⟨_, rfl⟩
      rw [hR] at hc ho hRN
      obtain ⟨M, hM⟩ : ∃ M, R.length = M := ⟨_, rfl⟩
      have HAN := Lib.hid (allD_next hR)
      have HASC := Lib.hid (fun j => insAll_asc (allD_asc (W := W) (H := H) (L := L) (P := P) k) (wayD R j))
      have HLEN := Lib.hid (fun j hj => ins_len (W := W) (H := H) (L := L) (P := P) (k := k) (j := j) (R := R) (by omega) hj)
      have HM := Lib.hid hM
      rw [hM] at hc ho hRN
      obtain ⟨D, hD⟩ : ∃ D, allD W H L P k = D := ⟨_, rfl⟩
      rw [hD] at X2 HAN HASC HLEN
      obtain ⟨_, _, e1, hgv⟩ := own_form ho
      simp only [Value.slice.injEq] at e1
      obtain ⟨rfl, _, rfl⟩ := e1
      have HGV := Lib.hid hgv
      have O2 := Lib.hid ho
      have X3 := Lib.hid (show DsAt W H A A2 n cap n2 c2 L P w (some ⟨gw, 0, none⟩) N cw (insAll D (wayD R 0)) _ wr from X2.out)
      have k0 : (0 : Int) ≤ (k : Int) := by omega
      have k1 : (k : Int) < (N : Int) := by omega
      clear hx hR hM ho hgv X2 hD
      go_wp2_with fail
      clear hc
      go_loopw [5, 8] (fun v i ws => ∃ j : Nat, i = .int .i64 ((j : Int) + 1) ∧ j ≤ M - 1 ∧ DsAt W H A A2 n cap n2 c2 L P w (some ⟨gw, 0, none⟩) N cw (insAll D (wayD R j)) v ws ∧ ws.ownsRow (w.heap.size + 2) 3 1 (.slice B M d) M (intsV R)) (fun _ i _ => 17 - (intOf i).toNat)
      case atStart => exact ⟨0, rfl, Nat.zero_le _, X3.out, O2.out⟩
      case round =>
        obtain ⟨j, rfl, hj, hx, ho⟩ := hrel
        have X7 := Lib.hid hx
        have O7 := Lib.hid ho
        obtain ⟨Av, cv, rfl, _⟩ := own_form hx.2.1
        clear hx ho
        by_cases hlt3 : j + 1 < M
        · have hl3 : (j : Int) + 1 < (M : Int) := by omega
          obtain ⟨gv, hgv⟩ := HGV.out (by omega)
          subst hgv
          obtain ⟨x1, hx1⟩ : ∃ z, R.getD j 0 = z := ⟨_, rfl⟩
          obtain ⟨x2, hx2⟩ : ∃ z, R.getD (j + 1) 0 = z := ⟨_, rfl⟩
          have c1 := ints_cell O7.out j x1 (by rw [← hx1, List.getD, List.getElem?_eq_getElem (by rw [HM.out]; omega)]; rfl) HM.out
          have c2' := ints_cell O7.out (j + 1) x2 (by rw [← hx2, List.getD, List.getElem?_eq_getElem (by rw [HM.out]; omega)]; rfl) HM.out
          have hwn := Lib.hid (ins_way (D := D) hx1 hx2)
          obtain ⟨E, hE⟩ : ∃ E, insAll D (wayD R j) = E := ⟨_, rfl⟩
          have hEA := HASC.out j
          have hEL := HLEN.out j (by omega)
          rw [hE] at X7 hwn hEA hEL
          rw [hE]
          have HA := Lib.hid (fun (w' : World) (h : w'.ownsRow (w.heap.size + 2) 62 2 (.slice Av E.length cv) E.length (depV E)) (hb : w.heap.size + 2 ≤ w'.heap.size) => implInsert (w.heap.size + 2) E.length (.slice Av E.length cv) E (x1, x2) hEA w' h hb (by omega))
          have hgvn := own_types O7.out X7.out.2.1 (by decide)
          have hgv : some gv ≠ (Value.slice Av E.length cv).ownBlock := by rcases hgvn with h | h; cases h; exact h
          have HNE := Lib.hid hgv
          obtain ⟨m, hm⟩ : ∃ m : Nat, j + 1 = m := ⟨_, rfl⟩
          have hmi : (j : Int) + 1 = (m : Int) := by omega
          rw [hm] at c2'
          have j0 : (0 : Int) ≤ (j : Int) := by omega
          have j1 : (j : Int) < (M : Int) := by omega
          have j2 : (0 : Int) ≤ (m : Int) := by omega
          have j3 : (m : Int) < (M : Int) := by omega
          have e2 : IntKind.i64.wrap ((m : Int) - 1) = (j : Int) := by rw [IntWalk.i64_in _ (by omega)]; omega
          have HMM := Lib.hid (And.intro hm hlt3)
          rw [hmi]
          clear hx1 hx2 hl3 hlt3 hmi hm hgvn hgv hE hEA hEL
          go_wp2_with fail
          go_region_held3 (fun w' => w'.cell? ⟨gv, j, none⟩ = some (.int .i64 x1) ∧ w'.cell? ⟨gv, m, none⟩ = some (.int .i64 x2))
            (first | exact ⟨c1, c2'⟩ | exact ⟨d1, d2⟩ | fail)
            (first
              | (go_at_call 22; (with_reducible refine (HA.out _ ?_ ?_).mono ?_); exact own_none X7.out.2.1 (gb_drew (gb_refl _ _)); exact X7.out.len; rintro e w7 ⟨v7, rfl, ho7, hg7⟩; have d1 := (gb_dr hg7).cell c1 HNE.out; have d2 := (gb_dr hg7).cell c2' HNE.out)
              | fail)
          all_goals
            rw [hwn.out] at ho7
            have X8 := Lib.hid (X7.out.put ho7 (gb_dr hg7))
            have O8 := Lib.hid (O7.out.kept (gb_dr hg7) (.inr HNE.out))
            clear ho7 hg7 d1 d2 c1 c2'
            go_wp2_with fail
            go_roundw
            case rel => exact ⟨j + 1, by have hm := HMM.out.1; go_num, by have := HMM.out.2; omega, X8.out, O8.out⟩
            case measure => have hm := HMM.out; simp [intOf]; omega
        · obtain rfl : j = M - 1 := by omega
          have hl3 : ¬ ((M - 1 : Nat) : Int) + 1 < (M : Int) := by omega
          have X8 := Lib.hid (show DsAt W H A A2 n cap n2 c2 L P w (some ⟨gw, 0, none⟩) N cw (allD W H L P (k + 1)) _ _ from by
            rw [← HAN.out, HM.out]
            exact X7.out)
          clear X7 O7
          go_wp2_with fail
          go_roundw
          case rel => exact ⟨k + 1, by go_num, by omega, X8.out⟩
          case measure => simp [intOf]; omega
    · obtain rfl : k = N := by omega
      clear hx
      go_wp2_with fail
      go_ret
      have h3 := X2.out.2.1
      rw [HRES.out] at h3
      exact ⟨_, rfl, own_less h3 (by omega), twoI_bo X2.out.2.2⟩
end Go.Proofs.YtcmlnokfjbglaaaDoor
end

section
namespace Go.Proofs.YtcmlnokfjbglaaaDoor
open Go.ChangeShapes Go.WideShapes Go.ChangeAt Go.RowKit
set_option linter.unusedVariables false

/-- The sentinel points to an error. -/
def Pre (w : World) : Prop := ∃ a, w.var? Tryd.prog "loop.example/g00984/impl.errBadTable" = some #[.iface 137 (.pointer (some a))]
theorem pre_name : Tryd.prog.globalNamed "loop.example/g00984/impl.errBadTable" = some 0 := by kernel_rfl
theorem Pre.cell {w : World} (h : Pre w) : ∃ a, w.cell? ⟨0, 0, none⟩ = some (.iface 137 (.pointer (some a))) := by
  obtain ⟨a, h⟩ := h
  exact ⟨a, (World.var?_cell pre_name h 0).trans rfl⟩
theorem Pre.below {w w' : World} (h : Pre w) (hb : Below w.heap.size w w') : Pre w' := by
  obtain ⟨a, h1⟩ := h
  refine ⟨a, var?_below hb pre_name ?_ h1⟩
  unfold World.var? at h1
  rw [pre_name] at h1
  by_cases hlt : 0 < w.heap.size
  · exact hlt
  · simp only [Option.bind] at h1
    rw [Array.getElem?_eq_none (by omega)] at h1
    cases h1
theorem err_star : "*" ++ "errors.errorString" = "*errors.errorString" := by decide
theorem err_row (u : TypeId) (h : Tryd.prog.typeName? 3 u = some "*errors.errorString") : u = 137 :=
  typeName_ptr_named (nm := "errors.errorString") (by rw [err_star]; kernel_rfl) (by kernel_rfl) (by decide) u (by rw [err_star]; exact h)
end Go.Proofs.YtcmlnokfjbglaaaDoor
end

section
namespace Go.Proofs.YtcmlnokfjbglaaaDoor
open Go.ChangeShapes Go.WideShapes Go.ChangeAt Go.RowKit
set_option linter.unusedVariables false
set_option maxRecDepth 20000

/-- The sentinel points to a. -/
def ErrAt (a : Addr) (w : World) : Prop := w.var? Tryd.prog "loop.example/g00984/impl.errBadTable" = some #[.iface 137 (.pointer (some a))]
theorem Pre.at {w : World} (h : Pre w) : ∃ a, ErrAt a w := h
theorem ErrAt.cell {a : Addr} {w : World} (h : ErrAt a w) : w.cell? ⟨0, 0, none⟩ = some (.iface 137 (.pointer (some a))) := (World.var?_cell pre_name h 0).trans rfl
theorem ErrAt.below {a : Addr} {w w' : World} (h : ErrAt a w) (hb : Below w.heap.size w w') : ErrAt a w' := by
  refine var?_below hb pre_name ?_ h
  unfold ErrAt World.var? at h
  rw [pre_name] at h
  by_cases hlt : 0 < w.heap.size
  · exact hlt
  · simp only [Option.bind] at h
    rw [Array.getElem?_eq_none (by omega)] at h
    cases h
theorem ErrAt.gb {a : Addr} {w w' : World} (h : ErrAt a w) (hg : w.grownBy w' none) : ErrAt a w' := h.below (gb_below_none hg (Nat.le_refl _))
def errV (t : Bool) (a : Addr) : Value := if t = true then .nilIface else .iface 137 (.pointer (some a))
/-- A new list and an error. -/
def NewE (D : List Dep) (x : Value) (w : World) (e : Ending) (w' : World) : Prop :=
  ∃ v, e = .returned (.tuple #[v, x]) ∧ w'.ownsRow w.heap.size 62 2 v D.length (depV D) ∧ Below w.heap.size w w'
theorem implDov (W H : Int) (A A2 : Option Addr) (n cap n2 c2 : Nat) (L P : List Int) (a : Addr) (hL : WfL L) (w : World) (h : IntAt w w.heap.size A n L) (h2 : IntAt w w.heap.size A2 n2 P) (hn : n ≤ 1000000000) (hn2 : n2 ≤ 1000000000) (he : ErrAt a w) :
    Calls Tryd.prog 14 #[.agg #[.int .i64 W, .int .i64 H, .slice A n cap], .agg #[.slice A2 n2 c2]] w (NewE (depG W H L P) (errV (tableG W H L P) a) w) := by
  have HT1 := Lib.hid (h.twoI (W := W) (H := H) (A := A) (A2 := A2) (n := n) (cap := cap) (n2 := n2) (c2 := c2))
  have HT2 := Lib.hid (h2.twoI (W := W) (H := H) (A := A) (A2 := A2) (n := n) (cap := cap) (n2 := n2) (c2 := c2))
  have HI := Lib.hid h
  have HP := Lib.hid h2
  have HE := Lib.hid he
  have HDP := Lib.hid (fun w h h2 => implDependsOf W H A A2 n cap n2 c2 L P hL w h h2 hn hn2)
  have HTK := Lib.hid (fun w h h2 => implTableOk W H A A2 n cap n2 c2 L P hL w h h2 hn hn2)
  clear h h2 he hL
  cases ht : tableG W H L P with
  | false =>
    rw [ht] at HTK
    have HN := Lib.hid (depG_no ht)
    clear ht
    go_enter Tryd.func14, Tryd.ntmps14
    go_wp2_with fail
    refine (HTK.out _ HT1.out HT2.out).mono ?_
    rintro e w1 ⟨rfl, hg⟩
    have G1 := Lib.hid (twoI_old hg)
    have c0 := (HE.out.gb G1.out).cell
    clear hg
    go_wp2_with fail
    go_quiet (fail)
    go_wp2_with fail
    go_ret2
    exact ⟨_, rfl, own_nilD HN.out _ _, gb_below_none (gb_drewN G1.out _) (Nat.le_refl _)⟩
  | true =>
    rw [ht] at HTK
    clear ht
    go_enter Tryd.func14, Tryd.ntmps14
    go_wp2_with fail
    refine (HTK.out _ HT1.out HT2.out).mono ?_
    rintro e w1 ⟨rfl, hg⟩
    have G1 := Lib.hid (twoI_old hg)
    have m0 : w1.cell? ⟨w.heap.size, 0, none⟩ = some (.int .i64 W) := (twoI_mesh hg).cell 0
    have m1 : w1.cell? ⟨w.heap.size, 1, none⟩ = some (.int .i64 H) := (twoI_mesh hg).cell 1
    have m2 : w1.cell? ⟨w.heap.size, 2, none⟩ = some (.slice A n cap) := (twoI_mesh hg).cell 2
    have m3 : w1.cell? ⟨w.heap.size + 1, 0, none⟩ = some (.slice A2 n2 c2) := (twoI_table hg).cell 0
    clear hg
    go_wp2_with fail
    refine (HDP.out _ ((HI.out.none (Nat.le_refl _) G1.out).more G1.out.size) ((HP.out.none (Nat.le_refl _) G1.out).more G1.out.size)).mono ?_
    rintro e w2 ⟨vd, rfl, od, bd⟩
    have OD := Lib.hid (own_less od G1.out.size)
    have BD := Lib.hid ((gb_below_none G1.out (Nat.le_refl _)).trans (bd.mono G1.out.size))
    obtain ⟨Ad, cd, rfl, _⟩ := own_form od
    clear od bd m0 m1 m2 m3
    go_wp2_with fail
    go_ret2
    exact ⟨_, rfl, OD.out, BD.out⟩
end Go.Proofs.YtcmlnokfjbglaaaDoor
end

section
namespace Go.Proofs.YtcmlnokfjbglaaaDoor
open Go.ChangeShapes Go.WideShapes Go.ChangeAt Go.RowKit
set_option linter.unusedVariables false

section
variable {w wr w' : World} {g : Nat} {c : Int} {vr vc : Value}
theorem box_put (hb : Blk wr g 36 #[.int .i64 0, .slice none 0 0, .slice none 0 0]) (hg : w.grownBy wr none) (hw : w.heap.size ≤ g) : Below w.heap.size w (((wr.setCell ⟨g, 0, none⟩ (.int .i64 c)).setCell ⟨g, 1, none⟩ vr).setCell ⟨g, 2, none⟩ vc) := by
  have h0 : Below w.heap.size w wr := gb_below_none hg (Nat.le_refl _)
  have h1 : wr.grownBy (((wr.setCell ⟨g, 0, none⟩ (.int .i64 c)).setCell ⟨g, 1, none⟩ vr).setCell ⟨g, 2, none⟩ vc) (some g) := vd_gb wr g c vr vc
  exact h0.grown h1 (by have := hb.lt; omega) (fun j e => by cases e; omega)
theorem box_row {v : Value} {k B : Nat} {xs : List Value} (hb : Blk wr g 36 #[.int .i64 0, .slice none 0 0, .slice none 0 0]) (ho : wr.ownsRow B 3 1 v k xs) : (((wr.setCell ⟨g, 0, none⟩ (.int .i64 c)).setCell ⟨g, 1, none⟩ vr).setCell ⟨g, 2, none⟩ vc).ownsRow B 3 1 v k xs := by
  have hg : wr.grownBy (((wr.setCell ⟨g, 0, none⟩ (.int .i64 c)).setCell ⟨g, 1, none⟩ vr).setCell ⟨g, 2, none⟩ vc) (some g) := vd_gb wr g c vr vc
  exact row_kept ho hg (fun j e => by cases e; exact own_ne ho hb (by decide))
theorem box_cells {a b d : Value} (h : Blk wr g 36 #[a, b, d]) : Blk (((wr.setCell ⟨g, 0, none⟩ (.int .i64 c)).setCell ⟨g, 1, none⟩ vr).setCell ⟨g, 2, none⟩ vc) g 36 #[.int .i64 c, vr, vc] := by
  have := ((h.set_ 0 (.int .i64 c)).set_ 1 vr).set_ 2 vc
  simpa using this
end
end Go.Proofs.YtcmlnokfjbglaaaDoor
end

section
namespace Go.Proofs.YtcmlnokfjbglaaaDoor
open Go.ChangeShapes Go.WideShapes Go.ChangeAt Go.RowKit
set_option linter.unusedVariables false
set_option maxRecDepth 20000

theorem ret_b2 {c b : Bool} (h : c = b) : Ending.returned (.bool c) = Ending.returned (.bool b) := by rw [h]
theorem in_yes {x y z : Int} (h : (z < 128) ↔ (0 ≤ x ∧ x ≤ 127 ∧ 0 ≤ y ∧ y ≤ 127)) : decide (z < 128) = inD (x, y) := decide_eq_decide.2 h
theorem in_no {x y : Int} (h : ¬ (0 ≤ x ∧ x ≤ 127 ∧ 0 ≤ y ∧ y ≤ 127)) : false = inD (x, y) := (inD_no.2 h).symm
theorem implInRange (d : Dep) (w : World) : Calls Tryd.prog 49 #[.agg #[.int .i64 d.1, .int .i64 d.2]] w (RetB (inD d) w) := by
  obtain ⟨x, y⟩ := d
  obtain ⟨b, hb⟩ : ∃ b, inD (x, y) = b := ⟨_, rfl⟩
  rw [hb]
  have HB := Lib.hid hb
  clear hb
  have BG := Lib.hid (boxD_gb (x, y) w)
  go_enter Tryd.func49, Tryd.ntmps49
  go_wp2_with fail
  all_goals
    go_ret
    refine ⟨ret_b2 ?_, BG.out⟩
    rw [← HB.out]
    first
      | exact in_yes (by omega)
      | exact in_no (by omega)

theorem implDependsOk (A : Option Addr) (n cap : Nat) (D : List Dep) (w : World) (h : DepAt w w.heap.size A n D) (hn : n ≤ 4000000000) :
    Calls Tryd.prog 32 #[.slice A n cap] w (RetB (okD D) w) := by
  have HI := Lib.hid h
  have hl := h.1
  have HR := Lib.hid (fun (a : Dep) w => implInRange a w)
  have HC := Lib.hid (fun (a b : Dep) w => implCompare a b w)
  have HYES := Lib.hid (okD_iff (D := D)).2
  have HNO := Lib.hid (fun k hk (h : stepD D k = false) => okD_not (D := D) (k := k) hk h)
  obtain ⟨b, hb⟩ : ∃ b, okD D = b := ⟨_, rfl⟩
  rw [hb] at HYES HNO
  rw [hb]
  clear h hb
  go_enter Tryd.func32, Tryd.ntmps32
  go_wp2_with fail
  go_loopw [7] (fun i wr => ∃ k : Nat, i = .int .i64 (k : Int) ∧ k ≤ n ∧ (∀ j, j < k → stepD D j = true) ∧ w.grownBy wr none) (fun i _ => n - (intOf i).toNat)
  case atStart => exact ⟨0, rfl, Nat.zero_le _, fun j hj => by omega, gb_refl _ _⟩
  case round =>
    obtain ⟨k, rfl, hk, hs, hg⟩ := hrel
    have HS := Lib.hid hs
    have HG := Lib.hid hg
    have hai := HI.out.none (Nat.le_refl _) hg
    clear hs hg
    by_cases hlt : k < n
    · obtain ⟨b1, off, rfl, hb1, c0, c1⟩ := hai.at k hlt
      obtain ⟨x, hx⟩ : ∃ x, atD D k = x := ⟨_, rfl⟩
      rw [hx] at c0 c1
      have HAI := Lib.hid hai
      have k0 : (0 : Int) ≤ (k : Int) := by omega
      have k1 : (k : Int) < (n : Int) := by omega
      clear hai
      cases hin : inD x with
      | false =>
        have hst : stepD D k = false := by unfold stepD; rw [hx, hin, Bool.false_and]
        have HB := Lib.hid (HNO.out k (by omega) hst)
        have HRX := Lib.hid (fun w => hin ▸ HR.out x w)
        clear hin hst hx
        go_wp2_with fail
        refine (HRX.out _).mono ?_
        rintro e w4 ⟨rfl, hg4⟩
        have G4 := Lib.hid (gb_trans HG.out (gb_trans (gb_alloc (gb_refl _ _) _) hg4))
        clear hg4 c0 c1
        go_wp2_with fail
        go_ret
        exact ⟨ret_b2 HB.out.symm, G4.out⟩
      | true =>
        have HRX := Lib.hid (fun w => hin ▸ HR.out x w)
        have BN := Lib.hid (Blk.new wr 62 #[.int .i64 x.1, .int .i64 x.2])
        by_cases h0 : k = 0
        · have hst : stepD D k = true := by unfold stepD; rw [hx, hin, h0]; rfl
          have HST := Lib.hid hst
          have H0 := Lib.hid h0
          have hd : decide (0 < k) = false := decide_eq_false (by omega)
          clear hin hst hx h0
          go_wp2_with fail
          refine (HRX.out _).mono ?_
          rintro e w4 ⟨rfl, hg4⟩
          have G4 := Lib.hid (gb_trans HG.out (gb_trans (gb_alloc (gb_refl _ _) _) hg4))
          clear hg4 c0 c1
          go_wp2_with fail
          (try go_quiet (fail))
          (try go_wp2_with fail)
          go_roundw
          case rel => exact ⟨k + 1, by go_num, by omega, fun j hj => by have h0 := H0.out; obtain rfl : j = k := (by omega); exact HST.out, gb_drewN G4.out _⟩
          case measure => simp [intOf]; omega
        · obtain ⟨m, hm⟩ : ∃ m, k = m + 1 := ⟨k - 1, by omega⟩
          obtain ⟨_, _, hA, _, e0, e1⟩ := HAI.out.at m (by omega)
          injection hA with hA
          injection hA with hA1 hA2
          subst hA1
          subst hA2
          obtain ⟨y, hy⟩ : ∃ y, atD D m = y := ⟨_, rfl⟩
          rw [hy] at e0 e1
          obtain ⟨r, hr⟩ : ∃ r, cmpD y x = r := ⟨_, rfl⟩
          have HC2 := Lib.hid (fun w => show Calls _ _ _ w (RetI r none w) from hr ▸ HC.out y x w)
          have m0 : (0 : Int) ≤ (m : Int) := by omega
          have m1 : (m : Int) < (n : Int) := by omega
          have e2 : IntKind.i64.wrap ((k : Int) - 1) = (m : Int) := by rw [IntWalk.i64_in _ (by omega)]; omega
          have hd : decide (0 < k) = true := decide_eq_true (by omega)
          have hpos : (0 : Int) < (k : Int) := by omega
          have HM := Lib.hid hm
          have hstep : stepD D k = decide (r < 0) := by
            have e : (decide (k = 0)) = false := decide_eq_false h0
            unfold stepD
            rw [hx, hin, e, Bool.false_or, Bool.true_and, show k - 1 = m by omega, hy]
            cases hlt2 : ltD y x with
            | true => exact (decide_eq_true (by rw [← hr]; exact cmpD_neg.2 hlt2)).symm
            | false => exact (decide_eq_false (fun h => by rw [← hr] at h; rw [cmpD_neg.1 h] at hlt2; cases hlt2)).symm
          by_cases hneg : r < 0
          · have HST := Lib.hid (hstep.trans (decide_eq_true hneg))
            have hge : ¬ 0 ≤ r := by omega
            clear hin hx hy hr hm hstep h0
            go_wp2_with fail
            refine (HRX.out _).mono ?_
            rintro e w4 ⟨rfl, hg4⟩
            have hga := gb_trans (gb_alloc (gb_refl wr none) (.cells #[.int .i64 x.1, .int .i64 x.2] 62)) hg4
            have G4 := Lib.hid (gb_trans HG.out hga)
            have bb := BN.out.grown hg4 (by simp)
            have t0 : w4.cell? ⟨wr.heap.size, 0, none⟩ = some (.int .i64 x.1) := bb.cell 0
            have t1 : w4.cell? ⟨wr.heap.size, 1, none⟩ = some (.int .i64 x.2) := bb.cell 1
            have s0 := hga.cell e0 (by simp)
            have s1 := hga.cell e1 (by simp)
            obtain ⟨B, hB⟩ : ∃ B, wr.heap.size = B := ⟨_, rfl⟩
            rw [hB] at t0 t1
            clear hg4 hga bb c0 c1 e0 e1
            go_wp2_with fail
            (try rw [hB])
            go_region_held3 (fun w' => w'.cell? ⟨B, 0, none⟩ = some (.int .i64 x.1) ∧ w'.cell? ⟨B, 1, none⟩ = some (.int .i64 x.2) ∧ w'.cell? ⟨b1, off + m * 2, none⟩ = some (.int .i64 y.1) ∧ w'.cell? ⟨b1, off + m * 2 + 1, none⟩ = some (.int .i64 y.2))
              (first | exact ⟨t0, t1, s0, s1⟩ | exact ⟨d0, d1, d2, d3⟩ | fail)
              (first
                | (go_at_call 23; (with_reducible refine (HC2.out _).mono ?_); rintro e w5 ⟨rfl, hg5⟩; have h5 := gb_dr hg5; have d0 := h5.cell t0 (by simp); have d1 := h5.cell t1 (by simp); have d2 := h5.cell s0 (by simp); have d3 := h5.cell s1 (by simp); have G5 := Lib.hid (gb_trans G4.out h5); clear h5 hg5)
                | fail)
            all_goals
              clear d0 d1 d2 d3 t0 t1 s0 s1
              go_wp2_with fail
              go_roundw
              case rel => exact ⟨k + 1, by go_num, by omega, fun j hj => by rcases Nat.lt_succ_iff_lt_or_eq.1 hj with h | h; exact HS.out j h; rw [h]; exact HST.out, G5.out⟩
              case measure => simp [intOf]; omega
          · have HB := Lib.hid (HNO.out k (by omega) (hstep.trans (decide_eq_false hneg)))
            have hge : 0 ≤ r := by omega
            clear hin hx hy hr hm hstep h0
            go_wp2_with fail
            refine (HRX.out _).mono ?_
            rintro e w4 ⟨rfl, hg4⟩
            have hga := gb_trans (gb_alloc (gb_refl wr none) (.cells #[.int .i64 x.1, .int .i64 x.2] 62)) hg4
            have G4 := Lib.hid (gb_trans HG.out hga)
            have bb := BN.out.grown hg4 (by simp)
            have t0 : w4.cell? ⟨wr.heap.size, 0, none⟩ = some (.int .i64 x.1) := bb.cell 0
            have t1 : w4.cell? ⟨wr.heap.size, 1, none⟩ = some (.int .i64 x.2) := bb.cell 1
            have s0 := hga.cell e0 (by simp)
            have s1 := hga.cell e1 (by simp)
            obtain ⟨B, hB⟩ : ∃ B, wr.heap.size = B := ⟨_, rfl⟩
            rw [hB] at t0 t1
            clear hg4 hga bb c0 c1 e0 e1
            go_wp2_with fail
            (try rw [hB])
            go_region_held3 (fun w' => w'.cell? ⟨B, 0, none⟩ = some (.int .i64 x.1) ∧ w'.cell? ⟨B, 1, none⟩ = some (.int .i64 x.2) ∧ w'.cell? ⟨b1, off + m * 2, none⟩ = some (.int .i64 y.1) ∧ w'.cell? ⟨b1, off + m * 2 + 1, none⟩ = some (.int .i64 y.2))
              (first | exact ⟨t0, t1, s0, s1⟩ | exact ⟨d0, d1, d2, d3⟩ | fail)
              (first
                | (go_at_call 23; (with_reducible refine (HC2.out _).mono ?_); rintro e w5 ⟨rfl, hg5⟩; have h5 := gb_dr hg5; have d0 := h5.cell t0 (by simp); have d1 := h5.cell t1 (by simp); have d2 := h5.cell s0 (by simp); have d3 := h5.cell s1 (by simp); have G5 := Lib.hid (gb_trans G4.out h5); clear h5 hg5)
                | fail)
            all_goals
              clear d0 d1 d2 d3 t0 t1 s0 s1
              go_wp2_with fail
              go_ret
              exact ⟨ret_b2 HB.out.symm, G5.out⟩
    · obtain rfl : k = n := by omega
      have HB := Lib.hid (HYES.out (fun j hj => HS.out j (by omega)))
      clear hai
      go_wp2_with fail
      go_ret
      exact ⟨ret_b2 HB.out.symm, HG.out⟩
end Go.Proofs.YtcmlnokfjbglaaaDoor
end

section
namespace Go.Proofs.YtcmlnokfjbglaaaDoor
open Go.ChangeShapes Go.WideShapes Go.ChangeAt Go.RowKit
set_option linter.unusedVariables false
set_option maxRecDepth 20000

/-- The next channel as a number, or -1. -/
def nxtO (D : List Dep) (R : List Int) : Int := match bestO D R with | none => -1 | some c => (c : Int)
theorem nxt_none {D : List Dep} {R : List Int} (h : bestO D R = none) : nxtO D R = -1 := by simp [nxtO, h]
theorem nxt_some {D : List Dep} {R : List Int} {c : Nat} (h : bestO D R = some c) : nxtO D R = (c : Int) := by simp [nxtO, h]
set_option maxHeartbeats 1600000 in
theorem implNext (A AR : Option Addr) (n cap cR : Nat) (D : List Dep) (R : List Int) (z : Int) (hz : nxtO D R = z) (w : World) (h : DepAt w w.heap.size A n D) (hR : IntAt w w.heap.size AR 128 R) (hok : okD D = true)
    (hmin : ∀ c, c < 128 → R.getD c 0 = -1 ∨ 0 ≤ R.getD c 0) (hn : n ≤ 1000000000) :
    Calls Tryd.prog 45 #[.slice A n cap, .slice AR 128 cR] w (RetI z none w) := by
  have hl := h.1
  have HI := Lib.hid h
  have HR := Lib.hid hR
  have HM := Lib.hid hmin
  have HIN := Lib.hid (fun k (hk : k < D.length) => inD_iff.1 (okD_in hok (atD_mem hk)))
  have HSOME := Lib.hid (fun c (hc : c < 128) h h0 => hz.symm.trans (nxt_some (bestO_some (D := D) (R := R) (c := c) hc h h0)))
  have HNONE := Lib.hid (fun h0 => hz.symm.trans (nxt_none (bestO_none (D := D) (R := R) h0)))
  clear h hR hmin hok hz
  go_enter Tryd.func45, Tryd.ntmps45
  go_wp2_with fail
  go_step3
  go_wp2_with fail
  go_step3
  go_wp2_with fail
  go_loopw [11] (fun i wr => ∃ c : Nat, i = .int .i64 (c : Int) ∧ c ≤ 128 ∧ (∀ j, j < c → candO D R j = false) ∧ w.grownBy wr none) (fun i _ => 128 - (intOf i).toNat)
  case atStart => exact ⟨0, rfl, Nat.zero_le _, fun j h => by omega, gb_refl _ _⟩
  case round =>
    obtain ⟨c, rfl, hc, hall, hg⟩ := hrel
    have HA := Lib.hid hall
    have HG := Lib.hid hg
    clear hall hg
    by_cases hlt : c < 128
    · obtain ⟨b2, off2, rfl, hb2, e0⟩ := (HR.out.none (Nat.le_refl _) HG.out).at c (by have := HR.out.1; omega)
      obtain ⟨y, hy⟩ : ∃ y, R.getD c 0 = y := ⟨_, rfl⟩
      have hy2 := HM.out c hlt
      rw [hy] at e0 hy2
      have hcand : candO D R c = (decide (y < 0) && freeO D R c) := by unfold candO; rw [hy]
      have k0 : (0 : Int) ≤ (c : Int) := by omega
      have k1 : (c : Int) < 128 := by omega
      clear hy
      rcases hy2 with hy2 | hy2
      · subst hy2
        have HC := Lib.hid (show candO D R c = freeO D R c by rw [hcand]; rfl)
        have HLT := Lib.hid hlt
        clear hcand
        go_wp2_with fail
        go_loopw [20] (fun i wr => ∃ k : Nat, i = .int .i64 (k : Int) ∧ k ≤ n ∧ (∀ j, j < k → holdO R (atD D j) c = false) ∧ w.grownBy wr none) (fun i _ => n - (intOf i).toNat)
        case atStart => exact ⟨0, rfl, Nat.zero_le _, fun j h => by omega, HG.out⟩
        case round =>
          obtain ⟨k, rfl, hk, hne, hg⟩ := hrel
          have HNE := Lib.hid hne
          have HG2 := Lib.hid hg
          clear hne hg
          by_cases hlt2 : k < n
          · obtain ⟨b1, off, rfl, hb1, c0, c1⟩ := (HI.out.none (Nat.le_refl _) HG2.out).at k hlt2
            obtain ⟨x, hx⟩ : ∃ x, atD D k = x := ⟨_, rfl⟩
            obtain ⟨x0, x1, x2, x3⟩ := HIN.out k (by omega)
            rw [hx] at c0 c1 x0 x1 x2 x3
            obtain ⟨m, hm⟩ : ∃ m : Nat, x.1 = (m : Int) := ⟨x.1.toNat, by omega⟩
            obtain ⟨q, hq⟩ : ∃ q : Nat, x.2 = (q : Int) := ⟨x.2.toNat, by omega⟩
            rw [hm] at c0 x0 x1
            rw [hq] at c1 x2 x3
            have hm128 : m < 128 := by omega
            obtain ⟨_, _, hA3, hb3, f0⟩ := (HR.out.none (Nat.le_refl _) HG2.out).at m (by omega)
            injection hA3 with hA
            injection hA with hA1 hA2
            subst hA1
            subst hA2
            obtain ⟨u, hu⟩ : ∃ u, R.getD m 0 = u := ⟨_, rfl⟩
            have hu2 := HM.out m hm128
            rw [hu] at f0 hu2
            have hh : holdO R (atD D k) c = (decide ((q : Int) = (c : Int)) && decide (u < 0)) := by unfold holdO; rw [hx, hm, hq, Int.toNat_natCast, hu]
            have j0 : (0 : Int) ≤ (k : Int) := by omega
            have j1 : (k : Int) < (n : Int) := by omega
            have m0 : (0 : Int) ≤ (m : Int) := by omega
            have m1 : (m : Int) < 128 := by omega
            have hga := gb_alloc (gb_refl wr none) (.cells #[.int .i64 (m : Int), .int .i64 (q : Int)] 62)
            have GA := Lib.hid (gb_trans HG2.out hga)
            have bn := Blk.new wr 62 #[.int .i64 (m : Int), .int .i64 (q : Int)]
            have t0 : (wr.alloc (.cells #[.int .i64 (m : Int), .int .i64 (q : Int)] 62)).cell? ⟨wr.heap.size, 0, none⟩ = some (.int .i64 (m : Int)) := bn.cell 0
            have t1 : (wr.alloc (.cells #[.int .i64 (m : Int), .int .i64 (q : Int)] 62)).cell? ⟨wr.heap.size, 1, none⟩ = some (.int .i64 (q : Int)) := bn.cell 1
            have s0 := hga.cell f0 (by simp)
            clear hga bn f0 hx hm hq hu
            by_cases hqc : (q : Int) = (c : Int)
            · have hh2 : holdO R (atD D k) c = decide (u < 0) := by rw [hh, decide_eq_true hqc, Bool.true_and]
              obtain rfl : q = c := by omega
              clear hh hqc
              rcases hu2 with hu2 | hu2
              · subst hu2
                have HB := Lib.hid (HC.out.trans (freeO_no (i := k) (by omega) (by rw [hh2]; rfl)))
                clear hh2
                go_wp2_with fail
                go_roundw
                case rel => exact ⟨q + 1, by go_num, by have := HLT.out; omega, fun j hj => by rcases Nat.lt_succ_iff_lt_or_eq.1 hj with h | h; exact HA.out j h; rw [h]; exact HB.out, GA.out⟩
                case measure => have := HLT.out; simp [intOf]; omega
              · have HB := Lib.hid (hh2.trans (decide_eq_false (p := u < 0) (by omega)))
                have hub : (u == -1) = false := by simp; omega
                clear hh2
                go_wp2_with fail
                go_roundw
                case rel => exact ⟨k + 1, by go_num, by omega, fun j hj => by rcases Nat.lt_succ_iff_lt_or_eq.1 hj with h | h; exact HNE.out j h; rw [h]; exact HB.out, GA.out⟩
                case measure => simp [intOf]; omega
            · have HB := Lib.hid (show holdO R (atD D k) c = false by rw [hh, decide_eq_false hqc, Bool.false_and])
              have hqb : ((q : Int) == (c : Int)) = false := by simpa using hqc
              clear hh
              go_wp2_with fail
              go_roundw
              case rel => exact ⟨k + 1, by go_num, by omega, fun j hj => by rcases Nat.lt_succ_iff_lt_or_eq.1 hj with h | h; exact HNE.out j h; rw [h]; exact HB.out, GA.out⟩
              case measure => simp [intOf]; omega
          · obtain rfl : k = n := by omega
            have HB := Lib.hid (HSOME.out c HLT.out (HC.out.trans (freeO_iff.2 (fun j hj => HNE.out j (by omega)))) HA.out)
            go_wp2_with fail
            go_ret
            exact ⟨ret_int64 HB.out.symm, HG2.out⟩
      · have HB := Lib.hid (show candO D R c = false by rw [hcand, decide_eq_false (p := y < 0) (by omega), Bool.false_and])
        have hyb : (y != -1) = true := by simp; omega
        clear hcand
        go_wp2_with fail
        go_roundw
        case rel => exact ⟨c + 1, by go_num, by omega, fun j hj => by rcases Nat.lt_succ_iff_lt_or_eq.1 hj with h | h; exact HA.out j h; rw [h]; exact HB.out, HG.out⟩
        case measure => simp [intOf]; omega
    · obtain rfl : c = 128 := by omega
      have HB := Lib.hid (HNONE.out HA.out)
      go_wp2_with fail
      go_ret
      exact ⟨ret_int64 HB.out.symm, HG.out⟩
end Go.Proofs.YtcmlnokfjbglaaaDoor
end

section
namespace Go.Proofs.YtcmlnokfjbglaaaDoor
open Go.ChangeShapes Go.WideShapes Go.ChangeAt Go.RowKit
set_option linter.unusedVariables false
set_option maxRecDepth 20000

theorem libMul64 (w : World) : Calls Tryd.prog 68 #[.int .u64 1, .int .u64 128] w fun e w' => e = .returned (.tuple #[.int .u64 0, .int .u64 128]) ∧ w = w' := by
  go_enter Tryd.func68, Tryd.ntmps68
  go_wp2_with fail
  go_ret2
  exact ⟨rfl, rfl⟩
theorem libMul (w : World) : Calls Tryd.prog 60 #[.int .u64 1, .int .u64 128] w fun e w' => e = .returned (.tuple #[.int .u64 0, .int .u64 128]) ∧ w = w' := by
  go_enter Tryd.func60, Tryd.ntmps60
  go_wp2_with fail
  refine (libMul64 _).mono ?_
  rintro e w1 ⟨rfl, rfl⟩
  go_wp2_with fail
  go_ret2
  exact ⟨rfl, rfl⟩

theorem splice_at {L : List Value} {x : Value} {k m : Nat} (hk : k ≤ L.length) (h : ∀ j, j < k → L[j]? = some x) : ∀ j, j < k + m → (splice L k (List.replicate m x))[j]? = some x := by
  intro j hj
  unfold splice
  by_cases h1 : j < k
  · rw [List.getElem?_append_left (by rw [List.length_take]; omega), List.getElem?_take_of_lt h1]
    exact h j h1
  · have hl : (L.take k).length = k := by rw [List.length_take]; omega
    rw [List.getElem?_append_right (by omega), hl, List.getElem?_append_left (by simp; omega), List.getElem?_replicate, if_pos (by omega)]
theorem splice_len {L : List Value} {x : Value} {k m : Nat} (hk : k + m ≤ L.length) : (splice L k (List.replicate m x)).length = L.length := length_splice _ _ _ (by simpa using hk)
/-- The new row, whose first k cells are -1. -/
def RepAt (w : World) (L : List Value) (k : Nat) (wr : World) : Prop :=
  wr.heap[w.heap.size]? = some (.cells L.toArray 3 (0, 0)) ∧ L.length = 128 ∧ (∀ j, j < k → L[j]? = some (.int .i64 (-1))) ∧ Below w.heap.size w wr
theorem rep_cell {w wr : World} {L : List Value} {k : Nat} (h : RepAt w L k wr) {j : Nat} (hj : j < k) : wr.cell? ⟨w.heap.size, j, none⟩ = some (.int .i64 (-1)) := by
  have h1 := h.1
  have h2 := h.2.2.1 j hj
  simp [World.cell?, h1, h2]
theorem rep_add {w wr : World} {L : List Value} {k : Nat} (h : RepAt w L k wr) {j : Nat} (hj : j < k) : wr.cell? ((⟨w.heap.size, 0, none⟩ : Addr).add j) = some (.int .i64 (-1)) := by
  rw [Addr.add_lit, Nat.zero_add]
  exact rep_cell h hj
theorem ints_rep (n : Nat) (x : Int) : intsV (List.replicate n x) = List.replicate n (.int .i64 x) := by unfold intsV; rw [List.map_replicate]
theorem rep_own {w wr : World} {L : List Value} (h : RepAt w L 128 wr) : wr.ownsRow w.heap.size 3 1 (.slice (some ⟨w.heap.size, 0, none⟩) 128 128) 128 (intsV (List.replicate 128 (-1))) := by
  rw [ints_rep]
  refine ⟨by rw [List.length_replicate], .inr ⟨w.heap.size, 128, L.toArray, rfl, Nat.le_refl _, h.1, Nat.le_refl _, by decide, by simp [h.2.1], ?_⟩⟩
  apply List.ext_getElem?
  intro j
  rw [List.getElem?_replicate]
  by_cases hj : j < 128
  · rw [List.getElem?_take_of_lt (by omega), if_pos hj]
    exact h.2.2.1 j hj
  · rw [List.getElem?_eq_none (by simp; omega), if_neg hj]

theorem libRepeat (b o : Nat) (w : World) (hx : w.cell? ⟨b, o, none⟩ = some (.int .i64 (-1))) :
    Calls Tryd.prog 44 #[.slice (some ⟨b, o, none⟩) 1 1, .int .i64 128] w fun e w' => ∃ v, e = .returned v ∧ w'.ownsRow w.heap.size 3 1 v 128 (intsV (List.replicate 128 (-1))) ∧ Below w.heap.size w w' := by
  obtain ⟨i0, hi, hz0, hz1, hz2⟩ := info_parts info_int
  have hsz : (Tryd.prog.info? 3).map (·.size) = some 1 := by rw [hi]; simp [hz1]
  obtain ⟨Z, hZl, hmk⟩ : ∃ Z : List Value, Z.length = 128 ∧ ∀ w, (Instr.makeSlice 26 (.int .i64 128) (.int .i64 128)).run Tryd.prog w = .ok (.slice (some ⟨w.heap.size, 0, none⟩) 128 128) (w.alloc (.cells Z.toArray 3)) := by
    refine ⟨(madeCells #[Value.int .i64 0] 128).toList, by simp [madeCells], fun w => ?_⟩
    have := run_make (P := Tryd.prog) w 26 3 i0 (.int .i64 0) Tryd.underlying26 hi hz0 .i64 .i64 128 128 (by decide) (by decide) (by rw [hz2]; decide) (by decide)
    rw [hz1] at this
    simpa [Value.cells] using this
  have HM := Lib.hid (fun w => libMul w)
  have HX := Lib.hid hx
  have HZ := Lib.hid hZl
  have HL0 := Lib.hid (fun w => (Below.refl w.heap.size w).alloc (Nat.le_refl _) (.cells Z.toArray 3))
  have HN := Lib.hid (fun w : World => heap_alloc_new w (.cells Z.toArray 3))
  have b3 := Lib.hid (show ∀ u ∈ [Value.int .i64 (-1)], u.oneCell' = true by simp [Value.oneCell'])
  have HXA := Lib.hid ((gb_alloc (gb_refl w none) (.cells Z.toArray 3)).cell hx (by simp))
  clear hx hZl
  go_enter Tryd.func44, Tryd.ntmps44
  go_wp2_with fail
  refine (HM.out _).mono ?_
  rintro e w1 ⟨rfl, rfl⟩
  go_wp2_with (refine wpList_copy_splice rfl (.tmp 31) (.tmp 32) 26 26 rfl 3 Tryd.underlying26 hsz _ _ _ _ _ _ rfl rfl w.heap.size 0 Z 3 (HN.out w) [.int .i64 (-1)] rfl (fun _ => ⟨rfl, _, rfl, fun j v hj => by cases j with | zero => (cases hj; exact HXA.out) | succ j => simp at hj⟩) (by rw [HZ.out]; decide) b3.out w.heap.size w (HL0.out w) (Nat.le_refl _) ?_; intro w2 hg2 hb2)
  have X2 := Lib.hid (show RepAt w (splice Z 0 (List.replicate 1 (.int .i64 (-1)))) 1 w2 from ⟨hg2, by rw [splice_len (by rw [HZ.out]; decide)]; exact HZ.out, fun j hj => splice_at (m := 1) (Nat.zero_le _) (fun j h => by omega) j (by omega), hb2⟩)
  clear hg2 hb2
  go_wp2_with fail
  go_loopw [8] (fun i wr => ∃ (k : Nat) (L : List Value), i = .int .i64 (k : Int) ∧ 1 ≤ k ∧ k ≤ 128 ∧ RepAt w L k wr) (fun i _ => 128 - (intOf i).toNat)
  case atStart => exact ⟨1, _, rfl, Nat.le_refl _, by decide, X2.out⟩
  case round =>
    obtain ⟨k, L, rfl, h1, hk, hx⟩ := hrel
    have X3 := Lib.hid hx
    clear hx
    by_cases hlt : k < 128
    · obtain ⟨m, hm⟩ : ∃ m, Nat.min k (128 - k) = m := ⟨_, rfl⟩
      have hm1 : 1 ≤ m := by rw [← hm]; exact Nat.le_min.2 ⟨h1, by omega⟩
      have hm2 : m ≤ k ∧ m ≤ 128 - k := by rw [← hm]; exact ⟨Nat.min_le_left _ _, Nat.min_le_right _ _⟩
      have k0 : (0 : Int) ≤ (k : Int) := by omega
      have k1 : (k : Int) < 128 := by omega
      have k2 : (k : Int) ≤ 128 := by omega
      have k3 : ¬ 128 = k := by omega
      have HB3 := Lib.hid (fun q => show Below w.heap.size w (wr.drewN q) from ⟨X3.out.2.2.2.os, X3.out.2.2.2.tape, X3.out.2.2.2.output, X3.out.2.2.2.size, X3.out.2.2.2.block⟩)
      have HH := Lib.hid X3.out.1
      have HC := Lib.hid (fun j (hj : j < k) => rep_add X3.out hj)
      have hml := Lib.hid (show (List.replicate m (Value.int .i64 (-1))).length = k.min (128 - k) by rw [List.length_replicate, hm])
      have hmf := Lib.hid (show k + (List.replicate m (Value.int .i64 (-1))).length ≤ L.length by rw [List.length_replicate, X3.out.2.1]; omega)
      have b4 := Lib.hid (show ∀ u ∈ List.replicate m (Value.int .i64 (-1)), u.oneCell' = true from fun u hu => by rw [List.eq_of_mem_replicate hu]; rfl)
      have HS := Lib.hid (fun j v (hj : (List.replicate m (Value.int .i64 (-1)))[j]? = some v) => show j < k ∧ v = .int .i64 (-1) by
        rw [List.getElem?_replicate] at hj
        split at hj
        · cases hj; exact ⟨by omega, rfl⟩
        · cases hj)
      obtain ⟨cs, hcs⟩ : ∃ cs, cs = List.replicate m (Value.int .i64 (-1)) := ⟨_, rfl⟩
      have HCS := Lib.hid hcs
      have hadd : IntKind.i64.wrap ((k : Int) + (cs.length : Int)) = ((k + m : Nat) : Int) := by rw [hcs, List.length_replicate, IntWalk.i64_in _ (by omega)]; omega
      rw [← hcs] at hml hmf b4 HS
      clear hcs hm
      go_wp2_with fail
      go_region_law (refine step_copy_splice rfl (.tmp 41) (.tmp 44) 26 26 rfl 3 Tryd.underlying26 hsz (some ⟨w.heap.size, k, none⟩) (some ⟨w.heap.size, 0, none⟩) (128 - k) (128 - k) k 128 (by simp [Act.eval, Act.put]) (by simp [Act.eval, Act.put]) w.heap.size k L 3 HH.out cs hml.out (fun _ => ⟨rfl, _, rfl, fun j v hj => by obtain ⟨h1, rfl⟩ := HS.out j v hj; exact HC.out j h1⟩) hmf.out b4.out w.heap.size w (HB3.out _) (Nat.le_refl _) ?_; intro w4 hg4 hb4)
      have X5 := Lib.hid (show RepAt w (splice L k (List.replicate m (.int .i64 (-1)))) (k + m) w4 from by
        rw [HCS.out] at hg4
        exact ⟨hg4, by rw [splice_len (by rw [X3.out.2.1]; omega)]; exact X3.out.2.1, splice_at (by rw [X3.out.2.1]; omega) X3.out.2.2.1, hb4⟩)
      clear hg4 hb4
      simp [Act.put]
      go_roundw
      case rel =>
        refine ⟨_, _, _, _, _, _, _, _, _, _, _, _, _, _, ?_, rfl⟩
        exact ⟨k + m, _, by go_num, by omega, by omega, X5.out⟩
      case measure => simp [intOf]; omega
    · obtain rfl : k = 128 := by omega
      go_wp2_with fail
      go_ret
      exact ⟨_, rfl, rep_own X3.out, X3.out.2.2.2⟩
end Go.Proofs.YtcmlnokfjbglaaaDoor
end

section
namespace Go.Proofs.YtcmlnokfjbglaaaDoor
open Go.ChangeShapes Go.WideShapes Go.ChangeAt Go.RowKit
set_option linter.unusedVariables false
set_option maxRecDepth 20000

theorem own_low {w : World} {base base' : Nat} {e : TypeId} {size : Nat} {v : Value} {n : Nat} {xs : List Value} (h : w.ownsRow base' e size v n xs) (hb : base ≤ base') : w.ownsRow base e size v n xs := by
  refine ⟨h.1, ?_⟩
  rcases h.2 with h1 | ⟨g, cap, cur, h1, h2, h3⟩
  · exact .inl h1
  · exact .inr ⟨g, cap, cur, h1, Nat.le_trans hb h2, h3⟩
theorem rk_up {w w1 w2 : World} {n : Nat} {R : List Int} {v : Value} (hb : Below w.heap.size w w1) (h : w2.ownsRow w1.heap.size 3 1 v n (intsV R) ∧ Below w1.heap.size w1 w2) : RkAt w n R v w2 :=
  ⟨own_low h.1 hb.size, hb.trans (h.2.mono hb.size)⟩
theorem rk_nil {D : List Dep} {w wr : World} (h : orderO D = none) (hb : Below w.heap.size w wr) : NewR (ranksO D) (canO D) w (.returned (.tuple #[.slice none 0 0, .bool false])) wr := by
  obtain ⟨e1, e2⟩ := order_none h
  rw [e2]
  exact ⟨_, rfl, own_nil e1 _ _, hb⟩
set_option maxHeartbeats 1600000 in
theorem implOrderOf (A : Option Addr) (n cap : Nat) (D : List Dep) (w : World) (h : DepAt w w.heap.size A n D) (hn : n ≤ 1000000000) :
    Calls Tryd.prog 30 #[.slice A n cap] w (NewR (ranksO D) (canO D) w) := by
  have HI := Lib.hid h
  have HOK := Lib.hid (implDependsOk A n cap D w h (by omega))
  clear h
  cases hok : okD D with
  | false =>
    have HN := Lib.hid (orderO_bad hok)
    rw [hok] at HOK
    clear hok
    go_enter Tryd.func30, Tryd.ntmps30
    go_wp2_with fail
    refine HOK.out.mono ?_
    rintro e w1 ⟨rfl, hg1⟩
    have B1 := Lib.hid (gb_below_none hg1 (Nat.le_refl _))
    clear hg1
    go_wp2_with fail
    go_ret2
    exact rk_nil HN.out B1.out
  | true =>
    have HORD := Lib.hid (orderO_ok hok)
    have HOKD := Lib.hid hok
    have HREP := Lib.hid (fun b o w h => libRepeat b o w h)
    rw [hok] at HOK
    clear hok
    go_enter Tryd.func30, Tryd.ntmps30
    go_wp2_with fail
    refine HOK.out.mono ?_
    rintro e w1 ⟨rfl, hg1⟩
    have B1 := Lib.hid ((gb_below_none hg1 (Nat.le_refl _)).alloc hg1.size (.cells #[.int .i64 (-1)] 3))
    have C1 := Lib.hid ((Blk.new w1 3 #[.int .i64 (-1)]).cell 0)
    clear hg1
    go_wp2_with fail
    refine (HREP.out _ _ _ C1.out).mono ?_
    rintro e w2 ⟨v, rfl, hrk⟩
    have X2 := Lib.hid (rk_up B1.out hrk)
    obtain ⟨Av, cv, rfl, hav⟩ := own_form hrk.1
    obtain ⟨g, hg⟩ := hav (by omega)
    subst hg
    clear hrk hav
    go_wp2_with fail
    go_loopw [12] (fun i wr => ∃ (r : Nat) (R : List Int), i = .int .i64 (r : Int) ∧ r ≤ 128 ∧ ordTo D r = some R ∧ RkAt w 128 R (.slice (some ⟨g, 0, none⟩) 128 cv) wr) (fun i _ => 128 - (intOf i).toNat)
    case atStart => exact ⟨0, _, rfl, Nat.zero_le _, rfl, X2.out⟩
    case round =>
      obtain ⟨r, R, rfl, hr, hord, hx⟩ := hrel
      have X5 := Lib.hid hx
      have HO := Lib.hid hord
      have hRl := ordTo_len hord
      clear hx hord
      by_cases hlt : r < 128
      · have HLT := Lib.hid hlt
        have HMIN := Lib.hid (fun c (hc : c < 128) => show R.getD c 0 = -1 ∨ 0 ≤ R.getD c 0 from ((ord_inv HOKD.out hr HO.out).rng c hc).imp id And.left)
        cases hb : bestO D R with
        | none =>
          have HF := Lib.hid (fun w h hR => implNext A (some ⟨g, 0, none⟩) n cap cv D R (-1) (nxt_none hb) w h hR HOKD.out HMIN.out hn)
          have HE := Lib.hid (HORD.out.trans (ordTo_dead (ordTo_stop HO.out hb) (by omega)))
          clear hb
          go_wp2_with fail
          refine (HF.out _ ((HI.out.below X5.out.2).more X5.out.2.size) (intAt_own X5.out.1 hRl (Nat.le_refl _))).mono ?_
          rintro e w6 ⟨rfl, hg6⟩
          have X6 := Lib.hid (X5.out.gb hg6)
          clear hg6
          go_wp2_with fail
          go_ret2
          exact rk_nil HE.out X6.out.2
        | some c =>
          have hc := (bestO_is hb).1
          have HF := Lib.hid (fun w h hR => implNext A (some ⟨g, 0, none⟩) n cap cv D R (c : Int) (nxt_some hb) w h hR HOKD.out HMIN.out hn)
          have HNX := Lib.hid (ordTo_next HO.out hb)
          have k0 : (0 : Int) ≤ (c : Int) := by omega
          have k1 : (c : Int) < 128 := by omega
          have k2 : ¬ (c : Int) < 0 := by omega
          clear hb
          go_wp2_with fail
          refine (HF.out _ ((HI.out.below X5.out.2).more X5.out.2.size) (intAt_own X5.out.1 hRl (Nat.le_refl _))).mono ?_
          rintro e w6 ⟨rfl, hg6⟩
          have X6 := Lib.hid (X5.out.gb hg6)
          have X7 := Lib.hid (X6.out.set c (r : Int))
          have c0 := ints_cell X6.out.1 c (R.getD c 0) (by rw [List.getD, List.getElem?_eq_getElem (by omega)]; rfl) hRl
          have f0 := X6.out.1.frozenAt c
          clear hg6
          go_wp2_with fail
          go_roundw
          case rel => exact ⟨r + 1, _, by go_num, by have := HLT.out; omega, HNX.out, X7.out⟩
          case measure => have := HLT.out; simp [intOf]; omega
      · obtain rfl : r = 128 := by omega
        have HE := Lib.hid (order_some (HORD.out.trans HO.out))
        go_wp2_with fail
        go_ret2
        refine ⟨_, ret_pair HE.out.2.symm, ?_, X5.out.2⟩
        have h3 := X5.out.1
        rw [HE.out.1, hRl]
        exact h3
end Go.Proofs.YtcmlnokfjbglaaaDoor
end

section
namespace Go.Proofs.YtcmlnokfjbglaaaDoor
open Go.ChangeShapes Go.WideShapes Go.ChangeAt Go.RowKit
set_option linter.unusedVariables false

/-- The channels that can wait for c. -/
def waitD (D : List Dep) (c : Int) : List Int := (D.filter fun d => decide (d.2 = c)).map (·.1)
theorem wait_iff {D : List Dep} {c x : Int} : x ∈ waitD D c ↔ (x, c) ∈ D := by
  unfold waitD
  rw [List.mem_map]
  constructor
  · rintro ⟨d, hd, rfl⟩
    obtain ⟨h1, h2⟩ := List.mem_filter.1 hd
    have h3 : d.2 = c := by simpa using h2
    have : d = (d.1, c) := Prod.ext rfl h3
    rwa [this] at h1
  · exact fun h => ⟨_, List.mem_filter.2 ⟨h, by simp⟩, rfl⟩
theorem wait_edge {D : List Dep} {c t : Nat} : (t : Int) ∈ waitD D (c : Int) ↔ edgeB D t c = true := by rw [wait_iff, edge_iff]
theorem wait_nat {D : List Dep} (hD : okD D = true) {c : Nat} {x : Int} (h : x ∈ waitD D (c : Int)) : ∃ t : Nat, x = (t : Int) ∧ t < 128 ∧ edgeB D t c = true := by
  have h1 := inD_iff.1 (okD_in hD (wait_iff.1 h))
  simp only at h1
  refine ⟨x.toNat, by omega, by omega, ?_⟩
  rw [← wait_edge, Int.toNat_of_nonneg h1.1]
  exact h
theorem wait_take {D : List Dep} {k : Nat} (hk : k < D.length) (c : Int) : waitD (D.take (k + 1)) c = if (atD D k).2 = c then waitD (D.take k) c ++ [(atD D k).1] else waitD (D.take k) c := by
  unfold waitD
  have e : D.take (k + 1) = D.take k ++ [atD D k] := by rw [List.take_succ_eq_append_getElem hk, atD_get hk]
  rw [e, List.filter_append, List.map_append]
  by_cases h : (atD D k).2 = c
  · rw [if_pos h]; simp [h]
  · rw [if_neg h]; simp [h]
theorem wait_length (D : List Dep) (c : Int) : (waitD D c).length ≤ D.length := by
  unfold waitD
  rw [List.length_map]
  exact List.length_filter_le _ _

/-- One waiter: marked with the count if it is not yet marked. -/
def mark1 (n : Int) (s : List Int × List Int) (t : Int) : List Int × List Int := if s.1.getD t.toNat 0 = -1 then (s.1.set t.toNat n, s.2 ++ [t]) else s
def markN (n : Int) (W : List Int) (s : List Int × List Int) (k : Nat) : List Int × List Int := (W.take k).foldl (mark1 n) s
theorem markN_zero (n : Int) (W : List Int) (s : List Int × List Int) : markN n W s 0 = s := rfl
theorem markN_next {n : Int} {W : List Int} {s : List Int × List Int} {k : Nat} (hk : k < W.length) : markN n W s (k + 1) = mark1 n (markN n W s k) (W.getD k 0) := by
  unfold markN
  rw [List.take_succ_eq_append_getElem hk, List.foldl_append, List.getD_eq_getElem?_getD, List.getElem?_eq_getElem hk]
  rfl
theorem mark_yes {n t : Int} {X M : List Int} (h : X.getD t.toNat 0 = -1) : mark1 n (X, M) t = (X.set t.toNat n, M ++ [t]) := if_pos h
theorem mark_no {n t : Int} {X M : List Int} (h : X.getD t.toNat 0 ≠ -1) : mark1 n (X, M) t = (X, M) := if_neg h
theorem mark_len (n : Int) (s : List Int × List Int) (t : Int) : (mark1 n s t).1.length = s.1.length ∧ (mark1 n s t).2.length ≤ s.2.length + 1 := by
  unfold mark1
  split <;> simp
theorem markN_len (n : Int) (W : List Int) (s : List Int × List Int) : ∀ k, k ≤ W.length → (markN n W s k).1.length = s.1.length ∧ (markN n W s k).2.length ≤ s.2.length + k
  | 0, _ => ⟨rfl, Nat.le_refl _⟩
  | k + 1, h => by
    have h1 := markN_len n W s k (by omega)
    have h2 := mark_len n (markN n W s k) (W.getD k 0)
    rw [markN_next (by omega)]
    omega

/-- The numbers of steps from the channels that are marked. -/
def stepL (D : List Dep) (a : Nat) (M : List Nat) : List Int := (List.range 128).map fun t => if t ∈ M then (distD D t a : Int) else -1
theorem stepL_len (D : List Dep) (a : Nat) (M : List Nat) : (stepL D a M).length = 128 := by simp [stepL]
theorem stepL_at {D : List Dep} {a t : Nat} {M : List Nat} (h : t < 128) : (stepL D a M).getD t 0 = if t ∈ M then (distD D t a : Int) else -1 := by
  rw [List.getD_eq_getElem?_getD, stepL, List.getElem?_map, List.getElem?_range h]; rfl
theorem stepL_nil (D : List Dep) (a : Nat) : stepL D a [] = List.replicate 128 (-1) := by
  unfold stepL
  exact List.ext_getElem (by simp only [List.length_map, List.length_range, List.length_replicate]) fun i h1 h2 => by
    rw [List.getElem_map, List.getElem_replicate, if_neg (by simp)]
theorem getD_ext {X Y : List Int} {n : Nat} (hX : X.length = n) (hY : Y.length = n) (h : ∀ t, t < n → X.getD t 0 = Y.getD t 0) : X = Y := by
  apply List.ext_getElem (by rw [hX, hY])
  intro i h1 h2
  have := h i (by omega)
  rw [List.getD_eq_getElem?_getD, List.getD_eq_getElem?_getD, List.getElem?_eq_getElem h1, List.getElem?_eq_getElem h2] at this
  exact this
theorem stepL_set {D : List Dep} {a t : Nat} {M : List Nat} (ht : t < 128) : (stepL D a M).set t (distD D t a : Int) = stepL D a (M ++ [t]) := by
  refine getD_ext (n := 128) (by rw [List.length_set, stepL_len]) (stepL_len _ _ _) fun u hu => ?_
  rw [set_getD (by rw [stepL_len]; exact ht), stepL_at hu, stepL_at hu]
  by_cases e : t = u
  · subst e; simp
  · rw [if_neg e]
    have : (u ∈ M ++ [t]) ↔ u ∈ M := by simp [show ¬ u = t from fun h => e h.symm]
    simp only [this]
/-- The channels of a list, as the program has them. -/
def upI (M : List Nat) : List Int := M.map (fun x : Nat => (x : Int))
theorem upI_len (M : List Nat) : (upI M).length = M.length := by simp [upI]
theorem upI_app (M : List Nat) (t : Nat) : upI (M ++ [t]) = upI M ++ [(t : Int)] := by simp [upI]
theorem upI_at {M : List Nat} {k : Nat} (h : k < M.length) : (upI M).getD k 0 = (M.getD k 0 : Int) := by
  rw [List.getD_eq_getElem?_getD, List.getD_eq_getElem?_getD, upI, List.getElem?_map, List.getElem?_eq_getElem h]; rfl

/-- The queue M, of which the first i channels are done; the last ones are at most n steps away. -/
structure Que (D : List Dep) (a i n : Nat) (M : List Nat) : Prop where
  le : i ≤ M.length
  rng : ∀ x ∈ M, x < 128
  nod : M.Nodup
  pos : ∀ x ∈ M, 1 ≤ distD D x a ∧ distD D x a ≤ n
  mon : ∀ k l, k ≤ l → l < M.length → distD D (M.getD k 0) a ≤ distD D (M.getD l 0) a
  don : ∀ k, k < i → ∀ t, edgeB D t (M.getD k 0) = true → t ∈ M
theorem que_few {D : List Dep} {a i n : Nat} {M : List Nat} (h : Que D a i n M) : M.length ≤ 128 := pigeon 128 M h.nod h.rng
theorem que_start (D : List Dep) (a : Nat) : Que D a 0 1 [] := ⟨Nat.le_refl _, fun x h => (by cases h), List.nodup_nil, fun x h => (by cases h), fun k l _ h => (by simp at h), fun k h => (by omega)⟩
theorem getD_old {M : List Nat} {t k : Nat} (h : k < M.length) : (M ++ [t]).getD k 0 = M.getD k 0 := by
  rw [List.getD_eq_getElem?_getD, List.getD_eq_getElem?_getD, List.getElem?_append_left h]
theorem getD_memN {M : List Nat} {k : Nat} (h : k < M.length) : M.getD k 0 ∈ M := by
  rw [List.getD_eq_getElem?_getD, List.getElem?_eq_getElem h]
  exact List.getElem_mem h
theorem Que.hit {D : List Dep} {a i n t : Nat} {M : List Nat} (h : Que D a i n M) (ht : t < 128) (hn : t ∉ M) (hd : distD D t a = n) (h1 : 1 ≤ n) : Que D a i n (M ++ [t]) := by
  refine ⟨by rw [List.length_append]; have := h.le; omega, fun x hx => ?_, ?_, fun x hx => ?_, fun k l hkl hl => ?_, fun k hk u hu => ?_⟩
  · rcases List.mem_append.1 hx with hx | hx
    · exact h.rng x hx
    · rw [List.mem_singleton.1 hx]; exact ht
  · rw [List.nodup_append]
    refine ⟨h.nod, by simp, fun x hx y hy e => ?_⟩
    rw [List.mem_singleton] at hy
    subst hy
    subst e
    exact hn hx
  · rcases List.mem_append.1 hx with hx | hx
    · exact h.pos x hx
    · rw [List.mem_singleton.1 hx]; omega
  · rw [List.length_append, List.length_singleton] at hl
    have hlast : (M ++ [t]).getD M.length 0 = t := by
      rw [List.getD_eq_getElem?_getD, List.getElem?_append_right (Nat.le_refl _), Nat.sub_self]; rfl
    by_cases hk : k < M.length
    · by_cases hl2 : l < M.length
      · rw [getD_old hk, getD_old hl2]; exact h.mon k l hkl hl2
      · obtain rfl : l = M.length := by omega
        rw [getD_old hk, hlast, hd]
        exact (h.pos _ (getD_memN hk)).2
    · obtain rfl : k = M.length := by omega
      obtain rfl : l = M.length := by omega
      exact Nat.le_refl _
  · rw [getD_old (by have := h.le; omega)] at hu
    exact List.mem_append_left _ (h.don k hk u hu)
theorem one_edge {D : List Dep} (hD : okD D = true) {t a : Nat} (h : distD D t a = 1) : edgeB D t a = true := by
  have := dist_pos hD (a := t) (b := a) (by omega)
  rw [h] at this
  exact (way_one hD).1 this
theorem edge_one {D : List Dep} (hD : okD D = true) {t a : Nat} (h : edgeB D t a = true) : distD D t a = 1 := by
  have := dist_way hD (Nat.le_refl 1) ((way_one hD).2 h)
  omega
/-- Behind the first step of a shortest way the rest is a shortest way. -/
theorem next_dist {D : List Dep} (hD : okD D = true) {t a m : Nat} (hm : 1 ≤ m) (h : distD D t a = m + 1) : ∃ s, edgeB D t s = true ∧ distD D s a = m := by
  have hw := dist_pos hD (a := t) (b := a) (by omega)
  rw [h] at hw
  obtain ⟨s, h1, h2⟩ := way_head hD hw
  refine ⟨s, h1, ?_⟩
  have h3 := dist_way hD hm h2
  have h5 := dist_way hD (show 1 ≤ distD D s a + 1 by omega) (way_cons hD h1 (dist_pos hD h3.1))
  omega
theorem edge_dist {D : List Dep} (hD : okD D = true) {t c a : Nat} (h : edgeB D t c = true) (hc : 1 ≤ distD D c a) : 1 ≤ distD D t a ∧ distD D t a ≤ distD D c a + 1 :=
  dist_way hD (by omega) (way_cons hD h (dist_pos hD hc))
/-- All channels that are as near as the one at i are in the queue. -/
theorem que_near {D : List Dep} (hD : okD D = true) {a i n : Nat} {M : List Nat} (h : Que D a i n M) (hf : ∀ t, edgeB D t a = true → t ∈ M) (hi : i < M.length) : ∀ m t, distD D t a = m → 1 ≤ m → m ≤ distD D (M.getD i 0) a → t ∈ M
  | 0, t, _, h1, _ => by omega
  | 1, t, h1, _, _ => hf t (one_edge hD h1)
  | m + 2, t, h1, _, h3 => by
    obtain ⟨s, h4, h5⟩ := next_dist hD (m := m + 1) (by omega) h1
    have h6 := que_near hD h hf hi (m + 1) s h5 (by omega) (by omega)
    obtain ⟨l, hl, e⟩ := List.getElem_of_mem h6
    have e2 : M.getD l 0 = s := by rw [List.getD_eq_getElem?_getD, List.getElem?_eq_getElem hl, e]; rfl
    have hli : l < i := by
      by_cases hc : l < i
      · exact hc
      · have := h.mon i l (by omega) hl
        rw [e2] at this
        omega
    exact h.don l hli t (by rw [e2]; exact h4)
theorem que_next {D : List Dep} (hD : okD D = true) {a i n t : Nat} {M : List Nat} (h : Que D a i n M) (hf : ∀ t, edgeB D t a = true → t ∈ M) (hi : i < M.length) (ht : edgeB D t (M.getD i 0) = true) (hn : t ∉ M) : distD D t a = distD D (M.getD i 0) a + 1 := by
  have h1 := edge_dist hD ht (h.pos _ (getD_memN hi)).1
  by_cases hc : distD D t a ≤ distD D (M.getD i 0) a
  · exact absurd (que_near hD h hf hi _ t rfl h1.1 hc) hn
  · omega
/-- The waiters of a channel are marked. -/
theorem mark_run {D : List Dep} {a i n : Nat} (h1 : 1 ≤ n) {M0 : List Nat} : ∀ (W : List Int) (M : List Nat), Que D a i n M → M0 <+: M → (∀ M', Que D a i n M' → M0 <+: M' → ∀ x ∈ W, ∃ t : Nat, x = (t : Int) ∧ t < 128 ∧ (t ∉ M' → distD D t a = n)) →
    ∃ M', W.foldl (mark1 (n : Int)) (stepL D a M, upI M) = (stepL D a M', upI M') ∧ Que D a i n M' ∧ M0 <+: M' ∧ (∀ x ∈ M, x ∈ M') ∧ ∀ t : Nat, (t : Int) ∈ W → t ∈ M'
  | [], M, h, hp, _ => ⟨M, rfl, h, hp, fun x hx => hx, fun t ht => by cases ht⟩
  | x :: W, M, h, hp, hs => by
    obtain ⟨t, rfl, ht, hd⟩ := hs M h hp x (List.mem_cons_self ..)
    have hs2 : ∀ M', Que D a i n M' → M0 <+: M' → ∀ x ∈ W, ∃ t : Nat, x = (t : Int) ∧ t < 128 ∧ (t ∉ M' → distD D t a = n) := fun M' h1 h2 x hx => hs M' h1 h2 x (List.mem_cons_of_mem _ hx)
    rw [List.foldl_cons]
    by_cases hm : t ∈ M
    · have e : (stepL D a M).getD ((t : Int)).toNat 0 ≠ -1 := by
        rw [Int.toNat_natCast, stepL_at ht, if_pos hm]; omega
      rw [mark_no e]
      obtain ⟨M', e1, e2, e3, e4, e5⟩ := mark_run h1 W M h hp hs2
      refine ⟨M', e1, e2, e3, e4, fun u hu => ?_⟩
      rcases List.mem_cons.1 hu with e | hu
      · have : u = t := by omega
        rw [this]; exact e4 t hm
      · exact e5 u hu
    · have e : (stepL D a M).getD ((t : Int)).toNat 0 = -1 := by
        rw [Int.toNat_natCast, stepL_at ht, if_neg hm]
      rw [mark_yes e, Int.toNat_natCast, ← hd hm, stepL_set ht, hd hm, ← upI_app]
      obtain ⟨M', e1, e2, e3, e4, e5⟩ := mark_run h1 W (M ++ [t]) (h.hit ht hm (hd hm) h1) (hp.trans (List.prefix_append _ _)) hs2
      refine ⟨M', e1, e2, e3, fun x hx => e4 x (List.mem_append_left _ hx), fun u hu => ?_⟩
      rcases List.mem_cons.1 hu with e | hu
      · have : u = t := by omega
        rw [this]; exact e4 t (List.mem_append_right _ (List.mem_singleton.2 rfl))
      · exact e5 u hu
theorem markN_all (n : Int) (W : List Int) (s : List Int × List Int) : markN n W s W.length = W.foldl (mark1 n) s := by unfold markN; rw [List.take_length]
/-- The start. -/
theorem que_one {D : List Dep} (hD : okD D = true) (a : Nat) : ∃ M, markN 1 (waitD D (a : Int)) (stepL D a [], upI []) (waitD D (a : Int)).length = (stepL D a M, upI M) ∧ Que D a 0 1 M ∧ ∀ t, edgeB D t a = true → t ∈ M := by
  obtain ⟨M, h1, h2, _, _, h3⟩ := mark_run (D := D) (a := a) (i := 0) (n := 1) (Nat.le_refl _) (M0 := []) (waitD D (a : Int)) [] (que_start D a) List.nil_prefix (fun M' _ _ x hx => by
    obtain ⟨t, e, ht, hd⟩ := wait_nat hD hx
    exact ⟨t, e, ht, fun _ => edge_one hD hd⟩)
  exact ⟨M, by rw [markN_all]; exact h1, h2, fun t ht => h3 t (wait_edge.2 ht)⟩
/-- One channel of the queue. -/
theorem que_step {D : List Dep} (hD : okD D = true) {a i n : Nat} {M : List Nat} (h : Que D a i n M) (hf : ∀ t, edgeB D t a = true → t ∈ M) (hi : i < M.length) (hn : n ≤ distD D (M.getD i 0) a + 1) :
    ∃ M', markN ((distD D (M.getD i 0) a + 1 : Nat) : Int) (waitD D (M.getD i 0 : Int)) (stepL D a M, upI M) (waitD D (M.getD i 0 : Int)).length = (stepL D a M', upI M') ∧ Que D a (i + 1) (distD D (M.getD i 0) a + 1) M' ∧ (∀ t, edgeB D t a = true → t ∈ M') ∧ (i + 1 < M'.length → distD D (M.getD i 0) a + 1 ≤ distD D (M'.getD (i + 1) 0) a + 1) := by
  have hq : Que D a i (distD D (M.getD i 0) a + 1) M := ⟨h.le, h.rng, h.nod, fun x hx => ⟨(h.pos x hx).1, Nat.le_trans (h.pos x hx).2 hn⟩, h.mon, h.don⟩
  have pre : ∀ M', M <+: M' → M'.getD i 0 = M.getD i 0 := fun M' hp => by
    obtain ⟨N, rfl⟩ := hp
    rw [List.getD_eq_getElem?_getD, List.getD_eq_getElem?_getD, List.getElem?_append_left hi]
  obtain ⟨M', h1, h2, hp, h3, h4⟩ := mark_run (D := D) (a := a) (i := i) (n := distD D (M.getD i 0) a + 1) (by omega) (M0 := M) (waitD D (M.getD i 0 : Int)) M hq (List.prefix_refl _) (fun M' hM' hp x hx => by
    obtain ⟨t, e, ht, hd⟩ := wait_nat hD hx
    have hi2 : i < M'.length := Nat.lt_of_lt_of_le hi hp.length_le
    refine ⟨t, e, ht, fun hn => ?_⟩
    have := que_next hD hM' (fun u hu => hp.subset (hf u hu)) hi2 (by rw [pre M' hp]; exact hd) hn
    rwa [pre M' hp] at this)
  have hi2 : i < M'.length := Nat.lt_of_lt_of_le hi hp.length_le
  refine ⟨M', by rw [markN_all]; exact h1, ⟨hi2, h2.rng, h2.nod, h2.pos, h2.mon, fun k hk t ht => ?_⟩, fun t ht => h3 t (hf t ht), fun hl => ?_⟩
  · rcases Nat.lt_succ_iff_lt_or_eq.1 hk with hk | rfl
    · exact h2.don k hk t ht
    · rw [pre M' hp] at ht
      exact h4 t (wait_edge.2 ht)
  · have := h2.mon i (i + 1) (by omega) hl
    rw [pre M' hp] at this
    omega
/-- All the least numbers of steps to a channel, -1 where there are none. -/
def toL (D : List Dep) (a : Nat) : List Int := (List.range 128).map fun t => if distD D t a = 0 then -1 else (distD D t a : Int)
theorem toL_len (D : List Dep) (a : Nat) : (toL D a).length = 128 := by simp [toL]
theorem toL_at {D : List Dep} {a t : Nat} (h : t < 128) : (toL D a).getD t 0 = if distD D t a = 0 then -1 else (distD D t a : Int) := by
  rw [List.getD_eq_getElem?_getD, toL, List.getElem?_map, List.getElem?_range h]; rfl
theorem que_end {D : List Dep} (hD : okD D = true) {a n : Nat} {M : List Nat} (h : Que D a M.length n M) (hf : ∀ t, edgeB D t a = true → t ∈ M) : stepL D a M = toL D a := by
  have key : ∀ m t, distD D t a = m → 1 ≤ m → t ∈ M := fun m => by
    induction m with
    | zero => intro t _ h1; omega
    | succ m ih =>
      intro t h1 _
      by_cases hm : m = 0
      · exact hf t (one_edge hD (by omega))
      · obtain ⟨s, h4, h5⟩ := next_dist hD (m := m) (by omega) h1
        obtain ⟨l, hl, e⟩ := List.getElem_of_mem (ih s h5 (by omega))
        have e2 : M.getD l 0 = s := by rw [List.getD_eq_getElem?_getD, List.getElem?_eq_getElem hl, e]; rfl
        exact h.don l hl t (by rw [e2]; exact h4)
  refine getD_ext (n := 128) (stepL_len _ _ _) (toL_len _ _) fun t ht => ?_
  rw [stepL_at ht, toL_at ht]
  by_cases h0 : distD D t a = 0
  · have : t ∉ M := fun hm => by have := (h.pos t hm).1; omega
    rw [if_neg this, if_pos h0]
  · rw [if_pos (key _ t rfl (by omega)), if_neg h0]

/-- The next channel of the way back: the first successor with so many steps left. -/
def nextW (D : List Dep) (X : List Int) (left u : Nat) : Nat := match (succD D (u : Int)).find? (fun s => decide (X.getD s.toNat 0 = (left : Int))) with | some s => s.toNat | none => u
theorem find_congr {p q : Int → Bool} : ∀ {l : List Int}, (∀ x ∈ l, p x = q x) → l.find? p = l.find? q
  | [], _ => rfl
  | x :: l, h => by
    rw [List.find?_cons, List.find?_cons, h x (List.mem_cons_self ..), find_congr (fun y hy => h y (List.mem_cons_of_mem _ hy))]
theorem nextW_is {D : List Dep} (hD : okD D = true) {st b left u : Nat} (hb : distD D st st = b) (h0 : 0 < left) (h1 : left < b) : nextW D (toL D st) left u = nextP D st left u := by
  unfold nextW nextP
  have : (succD D (u : Int)).find? (fun s => decide ((toL D st).getD s.toNat 0 = (left : Int))) = (succD D (u : Int)).find? (candP D st left) := by
    refine find_congr fun s hs => ?_
    have hr := succ_in hD hs
    unfold candP
    rw [if_neg (by omega), toL_at (by omega)]
    by_cases h2 : distD D s.toNat st = left
    · have h3 : s ≠ (st : Int) := fun e => by
        subst e
        rw [Int.toNat_natCast] at h2
        omega
      rw [h2, if_neg (by omega)]
      simp [h3]
    · by_cases h3 : distD D s.toNat st = 0
      · rw [if_pos h3]
        have : ¬ (-1 : Int) = (left : Int) := by omega
        simp [this, h2]
      · rw [if_neg h3]
        have : ¬ ((distD D s.toNat st : Int) = (left : Int)) := by omega
        simp [this, h2]
  simp only [this]
  rfl
theorem cyc_next (D : List Dep) (st b : Nat) (i : Nat) : (List.range (i + 1)).map (fun i => (atP D st b i : Int)) = (List.range i).map (fun i => (atP D st b i : Int)) ++ [(atP D st b i : Int)] := by
  rw [List.range_succ, List.map_append]; rfl
end Go.Proofs.YtcmlnokfjbglaaaDoor
end

section
namespace Go.Proofs.YtcmlnokfjbglaaaDoor
open Go.ChangeShapes Go.WideShapes Go.ChangeAt Go.RowKit
set_option linter.unusedVariables false
set_option maxRecDepth 20000

theorem info_rows : (Tryd.prog.info? 26).map (fun i => (i.zero, i.size, i.bytes)) = some (some (.slice none 0 0), 1, 24) := by kernel_rfl
theorem own_kind {w : World} {b1 b2 s1 s2 n1 n2 : Nat} {e1 e2 : TypeId} {v1 v2 : Value} {x1 x2 : List Value} (h1 : w.ownsRow b1 e1 s1 v1 n1 x1) (h2 : w.ownsRow b2 e2 s2 v2 n2 x2) (hne : e1 ≠ e2) : v1.ownBlock = none ∨ v1.ownBlock ≠ v2.ownBlock := by
  rcases h1.2 with ⟨h3, _⟩ | ⟨g1, c1, cur1, h3, _, hg1, _⟩
  · rw [h3]; exact .inl rfl
  · right
    rw [h3]
    rcases h2.2 with ⟨h4, _⟩ | ⟨g, c4, cur, h4, _, hg, _⟩
    · rw [h4]; intro e; cases e
    · rw [h4]
      intro e
      have e2 : g1 = g := Option.some.inj e
      subst e2
      rw [hg] at hg1
      have e3 := Option.some.inj hg1
      injection e3 with _ e4 _
      exact hne e4.symm
/-- 128 lists: list k, the value V k, holds the numbers of F k; all lie in different blocks. -/
structure Lsts (base g : Nat) (V : Nat → Value) (F : Nat → List Int) (w : World) : Prop where
  row : w.ownsRow base 26 1 (.slice (some ⟨g, 0, none⟩) 128 128) 128 ((List.range 128).map V)
  one : ∀ k, k < 128 → w.ownsRow base 3 1 (V k) (F k).length (intsV (F k))
  far : ∀ k l, k < 128 → l < 128 → k ≠ l → Apart (V k) (V l)
section
variable {base g : Nat} {V : Nat → Value} {F : Nat → List Int} {w w' : World}
theorem Lsts.gb (h : Lsts base g V F w) (hg : w.grownBy w' none) : Lsts base g V F w' := ⟨own_none h.row hg, fun k hk => own_none (h.one k hk) hg, h.far⟩
theorem Lsts.cell (h : Lsts base g V F w) {k : Nat} (hk : k < 128) : w.cell? ⟨g, k, none⟩ = some (V k) := by
  have := h.row.cellAt k hk
  rw [this, List.getElem?_map, List.getElem?_range hk]
  rfl
theorem Lsts.kept {k : Nat} {o : Obj} (h : Lsts base g V F w) (hk : k < 128) (hg : (w.alloc o).grownBy w' (V k).ownBlock) : w'.ownsRow base 26 1 (.slice (some ⟨g, 0, none⟩) 128 128) 128 ((List.range 128).map V) := by
  have h2 := h.gb (gb_alloc (gb_refl w none) o)
  exact h2.row.kept hg (own_kind h2.row (h2.one k hk) (by decide))
/-- List k has one number more. -/
theorem Lsts.app {k q cap : Nat} {o : Obj} {x : Int} (h : Lsts base g V F w) (hk : k < 128) (ho : w'.ownsRow base 3 1 (.slice (some ⟨q, 0, none⟩) ((F k).length + 1) cap) ((F k).length + 1) (intsV (F k) ++ [.int .i64 x]))
    (hg : (w.alloc o).grownBy w' (V k).ownBlock) (hat : (V k).ownBlock = some q ∨ q = (w.alloc o).heap.size) {F' : Nat → List Int} (hF : ∀ l, l < 128 → F' l = if l = k then F k ++ [x] else F l) :
    Lsts base g (fun l => if l = k then .slice (some ⟨q, 0, none⟩) ((F k).length + 1) cap else V l) F' (w'.setCell ⟨g, k, none⟩ (.slice (some ⟨q, 0, none⟩) ((F k).length + 1) cap)) := by
  have h2 := h.gb (gb_alloc (gb_refl w none) o)
  have hr := h.kept hk hg
  obtain ⟨h3, h4⟩ := hr.stored k (.slice (some ⟨q, 0, none⟩) ((F k).length + 1) cap)
  have hin : ∀ {v : Value} {n : Nat} {xs : List Value}, w'.ownsRow base 3 1 v n xs → (w'.setCell ⟨g, k, none⟩ (.slice (some ⟨q, 0, none⟩) ((F k).length + 1) cap)).ownsRow base 3 1 v n xs := fun hv => hv.kept h4 (own_kind hv hr (by decide))
  have hsz : (w.alloc o).heap.size = w.heap.size + 1 := alloc_size _ _
  refine ⟨?_, fun l hl => ?_, fun l m hl hm hne => ?_⟩
  · have e : (List.range 128).map (fun l => if l = k then Value.slice (some ⟨q, 0, none⟩) ((F k).length + 1) cap else V l) = ((List.range 128).map V).set k (.slice (some ⟨q, 0, none⟩) ((F k).length + 1) cap) := by
      apply List.ext_getElem (by simp only [List.length_map, List.length_range, List.length_set])
      intro i h5 h6
      rw [List.getElem_map, List.getElem_range, List.getElem_set, List.getElem_map, List.getElem_range]
      by_cases e : i = k
      · rw [if_pos e, if_pos e.symm]
      · rw [if_neg e, if_neg (fun e2 => e e2.symm)]
    rw [e]
    exact h3
  · rw [hF l hl]
    by_cases e : l = k
    · rw [if_pos e, if_pos e]
      refine hin ?_
      rw [List.length_append, intsV_append]
      exact ho
    · rw [if_neg e, if_neg e]
      exact hin (row_kept (h2.one l hl) hg (fun j e2 e3 => h.far k l hk hl (fun e4 => e e4.symm) j e2 e3))
  · by_cases e : l = k
    · subst e
      rw [if_pos rfl, if_neg (fun e2 => hne e2.symm)]
      intro j e2 e3
      have e4 : q = j := Option.some.inj e2
      subst e4
      rcases hat with h5 | h5
      · exact h.far l m hl hm hne q h5 e3
      · have := ((h.one m hm).lt q e3).2
        omega
    · rw [if_neg e]
      by_cases e1 : m = k
      · subst e1
        rw [if_pos rfl]
        intro j e2 e3
        have e4 : q = j := Option.some.inj e3
        subst e4
        rcases hat with h5 | h5
        · exact h.far l m hl hm hne q e2 h5
        · have := ((h.one l hl).lt q e2).2
          omega
      · rw [if_neg e1]
        exact h.far l m hl hm hne
end
/-- The lists as another function reads them. -/
def LstsIn (w : World) (B g : Nat) (F : Nat → List Int) : Prop := g < B ∧ ∀ k, k < 128 → ∃ A c, w.cell? ⟨g, k, none⟩ = some (.slice A (F k).length c) ∧ IntAt w B A (F k).length (F k)
theorem LstsIn.below {w w' : World} {B g : Nat} {F : Nat → List Int} (h : LstsIn w B g F) (hb : Below B w w') : LstsIn w' B g F :=
  ⟨h.1, fun k hk => by
    obtain ⟨A, c, h1, h2⟩ := h.2 k hk
    exact ⟨A, c, (World.cell?_of_block (hb.block g h.1)).trans h1, h2.below hb⟩⟩
theorem LstsIn.more {w : World} {B B' g : Nat} {F : Nat → List Int} (h : LstsIn w B g F) (hB : B ≤ B') : LstsIn w B' g F :=
  ⟨Nat.lt_of_lt_of_le h.1 hB, fun k hk => by
    obtain ⟨A, c, h1, h2⟩ := h.2 k hk
    exact ⟨A, c, h1, h2.more hB⟩⟩
theorem Lsts.read {base g : Nat} {V : Nat → Value} {F : Nat → List Int} {w : World} (h : Lsts base g V F w) {B : Nat} (hB : w.heap.size ≤ B) : LstsIn w B g F := by
  refine ⟨Nat.lt_of_lt_of_le (h.row.lt g rfl).2 hB, fun k hk => ?_⟩
  have h1 := h.one k hk
  obtain ⟨A, c, e, _⟩ := own_form h1
  refine ⟨A, c, by rw [h.cell hk, e], ?_⟩
  rw [e] at h1
  exact intAt_own h1 rfl hB

/-- A new row of 128 empty lists. -/
theorem made_rows : ∃ c : Array Value, (∀ w : World, (Instr.makeSlice 58 (.int .i64 128) (.int .i64 128)).run Tryd.prog w = .ok (.slice (some ⟨w.heap.size, 0, none⟩) 128 128) (w.alloc (.cells c 26))) ∧
    ∀ w : World, (w.alloc (.cells c 26)).ownsRow w.heap.size 26 1 (.slice (some ⟨w.heap.size, 0, none⟩) 128 128) 128 ((List.range 128).map fun _ => Value.slice none 0 0) := by
  obtain ⟨i0, hi, hz0, hz1, hz2⟩ := info_parts info_rows
  refine ⟨madeCells #[Value.slice none 0 0] 128, fun w => ?_, fun w => ?_⟩
  · have := run_make (P := Tryd.prog) w 58 26 i0 (.slice none 0 0) Tryd.underlying58 hi hz0 .i64 .i64 128 128 (by decide) (by decide) (by rw [hz2]; decide) (by decide)
    rw [hz1] at this
    simpa [Value.cells] using this
  · have := World.ownsRow_lit (base := w.heap.size) (e := 26) (size := 1) w (madeCells #[Value.slice none 0 0] 128) 128 (Nat.le_refl _) (by decide) (by simp [madeCells])
    rw [toList_madeCells_one] at this
    have e : List.replicate 128 (Value.slice none 0 0) = (List.range 128).map fun _ => Value.slice none 0 0 := by
      apply List.ext_getElem (by simp only [List.length_map, List.length_range, List.length_replicate])
      intro i h1 h2
      rw [List.getElem_map, List.getElem_replicate]
    rw [e] at this
    exact this
/-- A new row of lists. -/
def NewLsts (F : Nat → List Int) (w : World) (e : Ending) (w' : World) : Prop :=
  ∃ g V, e = .returned (.slice (some ⟨g, 0, none⟩) 128 128) ∧ Lsts w.heap.size g V F w' ∧ Below w.heap.size w w'

theorem gb_udr {a b : World} {row : Option Nat} (h : a.drew.grownBy b row) : a.grownBy b row := ⟨h.os, h.tape, h.output, h.size, h.block⟩
theorem row_cell {w : World} {base g k : Nat} {V : Nat → Value} (h : w.ownsRow base 26 1 (.slice (some ⟨g, 0, none⟩) 128 128) 128 ((List.range 128).map V)) (hk : k < 128) : w.cell? ⟨g, k, none⟩ = some (V k) := by
  rw [h.cellAt k hk, List.getElem?_map, List.getElem?_range hk]
  rfl
theorem box_kept {w w' : World} {base g n : Nat} {v : Value} {xs : List Value} {t : TypeId} {cs : Array Value} {o : Obj} (ho : w.ownsRow base 3 1 v n xs) (hb : Blk w g t cs) (hne : 3 ≠ t) (hg : (w.alloc o).grownBy w' v.ownBlock) : Blk w' g t cs :=
  (hb.alloc o).grown hg (fun e => own_ne ho hb hne e.symm)
theorem lsts_put {G g k m q cap H : Nat} {V : Nat → Value} {D : List Dep} {N : Nat} {w w' : World} {o : Obj} {x : Int} (h : Lsts G g V (fun c => waitD (D.take N) (c : Int)) w) (hk : k < 128) (hm : (waitD (D.take N) (k : Int)).length = m)
    (ho : w'.ownsRow G 3 1 (.slice (some ⟨q, 0, none⟩) (m + 1) cap) (m + 1) (intsV (waitD (D.take N) (k : Int)) ++ [.int .i64 x])) (hg : (w.alloc o).grownBy w' (V k).ownBlock) (hat : (V k).ownBlock = some q ∨ q = H) (hH : (w.alloc o).heap.size = H)
    (hF : ∀ l : Nat, l < 128 → waitD (D.take (N + 1)) (l : Int) = if l = k then waitD (D.take N) (k : Int) ++ [x] else waitD (D.take N) (l : Int)) :
    Lsts G g (fun l => if l = k then .slice (some ⟨q, 0, none⟩) (m + 1) cap else V l) (fun c => waitD (D.take (N + 1)) (c : Int)) (w'.setCell ⟨g, k, none⟩ (.slice (some ⟨q, 0, none⟩) (m + 1) cap)) := by
  subst hm
  exact h.app hk ho hg (by rw [hH]; exact hat) hF
theorem lsts_below {G g k : Nat} {V : Nat → Value} {F : Nat → List Int} {a w w' : World} {o : Obj} {xs : List Value} (h : Lsts G g V F w ∧ Below G a w) (ha : a.heap.size = G) (hk : k < 128) (hg : (w.alloc o).grownBy w' (V k).ownBlock) (hr : w'.ownsRow G 26 1 (.slice (some ⟨g, 0, none⟩) 128 128) 128 xs) (u : Value) :
    Below G a (w'.setCell ⟨g, k, none⟩ u) := by
  have h1 := h.2.size
  have h2 : Below G a w' := (h.2.alloc (by omega) o).grown hg (by rw [alloc_size]; omega) (fun j e => ((h.1.one k hk).lt j e).1)
  exact h2.grown (hr.stored k u).2 (by have := h2.size; omega) (fun j e => by cases e; exact (hr.lt g rfl).1)

set_option maxHeartbeats 1600000 in
theorem implWaiters (A : Option Addr) (n cap : Nat) (D : List Dep) (w : World) (h : DepAt w w.heap.size A n D) (hok : okD D = true) (hn : n ≤ 1000000000) :
    Calls Tryd.prog 46 #[.slice A n cap] w (NewLsts (fun c => waitD D (c : Int)) w) := by
  obtain ⟨i0, hi, hz0, hz1, hz2⟩ := info_parts info_int
  obtain ⟨cz, hmk, hown⟩ := made_rows
  have HI := Lib.hid h
  have hl := h.1
  have HOK := Lib.hid hok
  have X0 := Lib.hid (show Lsts w.heap.size w.heap.size (fun _ => .slice none 0 0) (fun c => waitD (D.take 0) (c : Int)) (w.alloc (.cells cz 26)) ∧ Below w.heap.size w (w.alloc (.cells cz 26)) from
    ⟨⟨hown w, fun k hk => World.ownsRow_nil _ _ _ _, fun k l _ _ _ => apart_none _⟩, (Below.refl _ _).alloc (Nat.le_refl _) _⟩)
  clear h hown hok
  obtain ⟨G, hG⟩ : ∃ G, w.heap.size = G := ⟨_, rfl⟩
  have HG := Lib.hid hG
  go_enter Tryd.func46, Tryd.ntmps46
  go_wp2_with fail
  simp only [hG] at X0 ⊢
  clear hG
  go_loopw [9] (fun i wr => ∃ (k : Nat) (V : Nat → Value), i = .int .i64 (k : Int) ∧ k ≤ n ∧ Lsts G G V (fun c => waitD (D.take k) (c : Int)) wr ∧ Below G w wr) (fun i _ => n - (intOf i).toNat)
  case atStart => exact ⟨0, _, rfl, Nat.zero_le _, X0.out⟩
  case round =>
    obtain ⟨k, V, rfl, hk, hx⟩ := hrel
    have X1 := Lib.hid hx
    clear hx
    by_cases hlt : k < n
    · have hai := HI.out.below (HG.out.symm ▸ X1.out.2)
      obtain ⟨b1, off, rfl, hb1, c0, c1⟩ := hai.at k hlt
      have hkl : k < D.length := by omega
      have hin := inD_iff.1 (okD_in HOK.out (atD_mem hkl))
      obtain ⟨p, hp⟩ : ∃ p, (atD D k).1 = p := ⟨_, rfl⟩
      obtain ⟨c, hc⟩ : ∃ c : Nat, (atD D k).2 = (c : Int) := ⟨(atD D k).2.toNat, by omega⟩
      have hc128 : c < 128 := by omega
      have HF := Lib.hid (show ∀ l : Nat, l < 128 → waitD (D.take (k + 1)) (l : Int) = if l = c then waitD (D.take k) (c : Int) ++ [p] else waitD (D.take k) (l : Int) from fun l hl => by
        rw [wait_take hkl, hc, hp]
        by_cases e : l = c
        · subst e; simp
        · rw [if_neg e, if_neg (by omega)])
      rw [hp] at c0
      rw [hc] at c1
      have hlen : (waitD (D.take k) (c : Int)).length ≤ k := Nat.le_trans (wait_length _ _) (by simp; omega)
      obtain ⟨m, hm⟩ : ∃ m, (waitD (D.take k) (c : Int)).length = m := ⟨_, rfl⟩
      rw [hm] at hlen
      have ho := X1.out.1.one c hc128
      simp only [hm] at ho
      have hv := X1.out.1.cell hc128
      obtain ⟨Ao, co, e, _⟩ := own_form ho
      rw [e] at hv ho
      have HV := Lib.hid e
      have HM := Lib.hid hm
      have HC128 := Lib.hid hc128
      have k0 : (0 : Int) ≤ (k : Int) := by omega
      have k1 : (k : Int) < (n : Int) := by omega
      have d0 : (0 : Int) ≤ (c : Int) := by omega
      have d1 : (c : Int) < 128 := by omega
      have b3 : ∀ u ∈ [Value.int .i64 p], u.oneCell' = true := by simp [Value.oneCell']
      have b4 : m + 1 ≤ maxLen := by unfold maxLen; omega
      have b5 : (m + 1) * 8 ≤ 140737488355328 := by omega
      have HLT := Lib.hid hlt
      have X2 := Lib.hid (show Lsts G G V (fun c => waitD (D.take k) (c : Int)) (wr.alloc (.cells #[.int .i64 p, .int .i64 (c : Int)] 62)) ∧ Below G w (wr.alloc (.cells #[.int .i64 p, .int .i64 (c : Int)] 62)) from
        ⟨X1.out.1.gb (gb_alloc (gb_refl wr none) _), X1.out.2.alloc (by have := X1.out.2.size; have := HG.out; omega) _⟩)
      have o4 : ((wr.alloc (.cells #[.int .i64 p, .int .i64 (c : Int)] 62)).alloc (.cells #[.int .i64 p] 3)).drew.ownsRow G 3 1 (.slice Ao m co) m (intsV (waitD (D.take k) (c : Int))) := by
        have := (X2.out.1.one c hc128)
        simp only [hm, e] at this
        exact (this.alloc _).drew
      have s4 : G ≤ ((wr.alloc (.cells #[.int .i64 p, .int .i64 (c : Int)] 62)).alloc (.cells #[.int .i64 p] 3)).drew.heap.size := by
        show G ≤ ((wr.alloc (.cells #[.int .i64 p, .int .i64 (c : Int)] 62)).alloc (.cells #[.int .i64 p] 3)).heap.size
        rw [alloc_size]
        have := X2.out.2.size
        have := HG.out
        omega
      have hnb := World.news_of_block (w := ((wr.alloc (.cells #[.int .i64 p, .int .i64 (c : Int)] 62)).alloc (.cells #[.int .i64 p] 3)).drew) (B := wr.heap.size + 1) (cs := #[.int .i64 p]) (t := 3) (fr := (0, 0)) (by have h := heap_alloc_new (wr.alloc (.cells #[.int .i64 p, .int .i64 (c : Int)] 62)) (.cells #[.int .i64 p] 3); rw [alloc_size] at h; exact h)
      have hv2 : (wr.alloc (.cells #[.int .i64 p, .int .i64 (c : Int)] 62)).cell? ⟨G, c, none⟩ = some (.slice Ao m co) := (gb_alloc (gb_refl wr none) _).cell hv (by simp)
      have hv3 : ((wr.alloc (.cells #[.int .i64 p, .int .i64 (c : Int)] 62)).alloc (.cells #[.int .i64 p] 3)).cell? ⟨G, c, none⟩ = some (.slice Ao m co) := (gb_alloc (gb_refl _ none) _).cell hv2 (by simp)
      clear hai hin hp hc e hm hkl
      go_wp2_with fail
      go_region_law
        (first
          | (refine step_append_lies _ (by rfl) _ _ _ (by rfl) G 3 i0 _ 1 8 Tryd.underlying26 hi hz0 hz1 hz2 rfl (by omega) (.slice Ao m co) m (intsV (waitD (D.take k) (c : Int))) (by rfl) o4 ⟨wr.heap.size + 1, 0, none⟩ 1 1 [.int .i64 p] (by rfl) (by rfl) hnb b3 (by omega) b4 b5 s4 (wr.heap.size + 2) (by simp) ?_; intro g4 cap4 w5 hown5 hgrow5 hat5 hltg5; have hgr := gb_udr hgrow5; rw [← HV.out] at hgr hat5; have hr5 := X2.out.1.kept HC128.out hgr; have X5 := Lib.hid (lsts_put X2.out.1 HC128.out HM.out hown5 hgr hat5 (by simp) HF.out); have X6 := Lib.hid (lsts_below X2.out HG.out HC128.out hgr hr5 (.slice (some ⟨g4, 0, none⟩) (m + 1) cap4)); have B5 := box_kept (X2.out.1.one c HC128.out) (Blk.new wr 62 #[.int .i64 p, .int .i64 (c : Int)]) (by decide) hgr; have e0 : w5.cell? ⟨wr.heap.size, 0, none⟩ = some (.int .i64 p) := B5.cell 0; have e1 : w5.cell? ⟨wr.heap.size, 1, none⟩ = some (.int .i64 (c : Int)) := B5.cell 1; clear B5; have f5 := hr5.frozenAt c; have c5 := row_cell hr5 HC128.out; clear hgr hr5 hown5 hgrow5 hat5 hltg5)
          | fail)
      all_goals
        clear c0 c1 o4 s4 hnb hv hv2 hv3 f5 c5 e0 e1
        go_wp2_with fail
        go_roundw
        case rel => exact ⟨k + 1, _, by go_num, by have := HLT.out; omega, X5.out, X6.out⟩
        case measure => have := HLT.out; simp [intOf]; omega
    · obtain rfl : k = n := by omega
      have hD : D.take k = D := by rw [← hl]; exact List.take_length
      rw [hD] at X1
      go_wp2_with fail
      go_ret
      exact ⟨G, V, rfl, by rw [HG.out]; exact X1.out.1, by rw [HG.out]; exact X1.out.2⟩
end Go.Proofs.YtcmlnokfjbglaaaDoor
end

section
namespace Go.Proofs.YtcmlnokfjbglaaaDoor
open Go.ChangeShapes Go.WideShapes Go.ChangeAt Go.RowKit
set_option linter.unusedVariables false
set_option maxRecDepth 20000

/-- The shared variables: the lists of waiters, the steps X, the marked channels M. -/
structure Mk (a : World) (B pw ps pm gs cs g : Nat) (F : Nat → List Int) (X M : List Int) (vm : Value) (w : World) : Prop where
  bw : Blk w pw 58 #[.slice (some ⟨g, 0, none⟩) 128 128]
  bs : Blk w ps 26 #[.slice (some ⟨gs, 0, none⟩) 128 cs]
  bm : Blk w pm 26 #[vm]
  rs : w.ownsRow B 3 1 (.slice (some ⟨gs, 0, none⟩) 128 cs) 128 (intsV X)
  rm : w.ownsRow B 3 1 vm M.length (intsV M)
  ap : Apart (.slice (some ⟨gs, 0, none⟩) 128 cs) vm
  rr : LstsIn w B g F
  lb : Below B a w
  hb : B ≤ a.heap.size
  pB : B ≤ pm
  wm : pw ≠ pm
  sm : ps ≠ pm
section
variable {a : World} {B pw ps pm gs cs g : Nat} {F : Nat → List Int} {X M : List Int} {vm : Value} {w w' : World}
theorem Mk.sz (h : Mk a B pw ps pm gs cs g F X M vm w) : B ≤ w.heap.size := Nat.le_trans h.hb h.lb.size
theorem Mk.gb (h : Mk a B pw ps pm gs cs g F X M vm w) (hg : w.grownBy w' none) : Mk a B pw ps pm gs cs g F X M vm w' :=
  ⟨h.bw.grown hg (by simp), h.bs.grown hg (by simp), h.bm.grown hg (by simp), own_none h.rs hg, own_none h.rm hg, h.ap, h.rr.below (gb_below_none hg h.sz), h.lb.trans (gb_below_none hg h.sz), h.hb, h.pB, h.wm, h.sm⟩
theorem Mk.store (h : Mk a B pw ps pm gs cs g F X M vm w) (t : Nat) (x : Int) : Mk a B pw ps pm gs cs g F (X.set t x) M vm (w.setCell ⟨gs, t, none⟩ (.int .i64 x)) := by
  obtain ⟨h1, h2⟩ := h.rs.stored t (.int .i64 x)
  rw [intsV_set] at h1
  have hbel : Below B w (w.setCell ⟨gs, t, none⟩ (.int .i64 x)) := gb_below h2 h.sz (h.rs.lt gs rfl).1
  exact ⟨h.bw.grown h2 (fun e => own_ne h.rs h.bw (by decide) e.symm), h.bs.grown h2 (fun e => own_ne h.rs h.bs (by decide) e.symm), h.bm.grown h2 (fun e => own_ne h.rs h.bm (by decide) e.symm), h1,
    row_kept h.rm h2 (fun j e => by cases e; exact h.ap gs rfl), h.ap, h.rr.below hbel, h.lb.trans hbel, h.hb, h.pB, h.wm, h.sm⟩
/-- One marked channel more: the list's new block, and the variable that holds the list. -/
theorem Mk.app {q cap : Nat} {o : Obj} {x : Int} (h : Mk a B pw ps pm gs cs g F X M vm w) (ho : w'.ownsRow B 3 1 (.slice (some ⟨q, 0, none⟩) (M.length + 1) cap) (M.length + 1) (intsV M ++ [.int .i64 x]))
    (hg : (w.alloc o).grownBy w' vm.ownBlock) (hat : vm.ownBlock = some q ∨ q = (w.alloc o).heap.size) : Mk a B pw ps pm gs cs g F X (M ++ [x]) (.slice (some ⟨q, 0, none⟩) (M.length + 1) cap) (w'.setCell ⟨pm, 0, none⟩ (.slice (some ⟨q, 0, none⟩) (M.length + 1) cap)) := by
  have k := h.gb (gb_alloc (gb_refl w none) o)
  have kbm := k.bm.grown hg (fun e => own_ne k.rm k.bm (by decide) e.symm)
  have hb1 : Below B a w' := k.lb.grown hg k.sz (fun j e => (k.rm.lt j e).1)
  have hb2 : Below B w' (w'.setCell ⟨pm, 0, none⟩ (.slice (some ⟨q, 0, none⟩) (M.length + 1) cap)) := (Below.refl B w').grown (gb_setCell (gb_refl w' (some pm)) (.inl rfl) _) (Nat.le_trans h.hb hb1.size) (fun j e => by cases e; exact h.pB)
  have hs : w'.grownBy (w'.setCell ⟨pm, 0, none⟩ (.slice (some ⟨q, 0, none⟩) (M.length + 1) cap)) (some pm) := gb_setCell (gb_refl w' (some pm)) (.inl rfl) _
  have hrs : w'.ownsRow B 3 1 (.slice (some ⟨gs, 0, none⟩) 128 cs) 128 (intsV X) := row_kept k.rs hg (fun j e e2 => h.ap j e2 e)
  have hsz : (w.alloc o).heap.size = w.heap.size + 1 := alloc_size _ _
  refine ⟨(k.bw.grown hg (fun e => own_ne k.rm k.bw (by decide) e.symm)).far h.wm _, (k.bs.grown hg (fun e => own_ne k.rm k.bs (by decide) e.symm)).far h.sm _, ?_, row_kept hrs hs (fun j e => by cases e; exact own_ne hrs kbm (by decide)), ?_, ?_, ?_, hb1.trans hb2, h.hb, h.pB, h.wm, h.sm⟩
  · have := kbm.set_ 0 (.slice (some ⟨q, 0, none⟩) (M.length + 1) cap)
    simpa using this
  · rw [List.length_append, intsV_append]
    exact row_kept ho hs (fun j e => by cases e; exact own_ne ho kbm (by decide))
  · intro j e e2
    have e3 : q = j := Option.some.inj e2
    subst e3
    rcases hat with h1 | h1
    · exact h.ap q e h1
    · have := (h.rs.lt q e).2
      omega
  · exact (k.rr.below ((Below.refl B _).grown hg k.sz (fun j e => (k.rm.lt j e).1))).below hb2
end
theorem ints_get {w : World} {base g cap n : Nat} {L : List Int} (h : w.ownsRow base 3 1 (.slice (some ⟨g, 0, none⟩) n cap) n (intsV L)) {k : Nat} (hk : k < n) : w.cell? ⟨g, k, none⟩ = some (.int .i64 (L.getD k 0)) := by
  have hn := own_ints_length h
  exact ints_cell h k (L.getD k 0) (by rw [List.getD, List.getElem?_eq_getElem (by omega)]; rfl) hn
theorem getD_mem0 {L : List Int} {k : Nat} (h : k < L.length) : L.getD k 0 ∈ L := by
  rw [List.getD_eq_getElem?_getD, List.getElem?_eq_getElem h]
  exact List.getElem_mem h

set_option maxHeartbeats 1600000 in
theorem implMark (a : World) (B pw ps pm gs cs g : Nat) (F : Nat → List Int) (X M : List Int) (vm : Value) (c : Nat) (n : Int) (hc : c < 128) (hF : ∀ x ∈ F c, ∃ t : Nat, x = (t : Int) ∧ t < 128) (hM : M.length + (F c).length ≤ 2000000000)
    (w : World) (h : Mk a B pw ps pm gs cs g F X M vm w) :
    Calls Tryd.prog 61 #[.int .i64 (c : Int), .int .i64 n, .pointer (some ⟨pw, 0, none⟩), .pointer (some ⟨ps, 0, none⟩), .pointer (some ⟨pm, 0, none⟩)] w
      fun e w' => e = .returned (.tuple #[]) ∧ ∃ X' M' vm', markN n (F c) (X, M) (F c).length = (X', M') ∧ Mk a B pw ps pm gs cs g F X' M' vm' w' := by
  obtain ⟨i0, hi, hz0, hz1, hz2⟩ := info_parts info_int
  have X0 := Lib.hid h
  obtain ⟨A, cA, hA, hI⟩ := h.rr.2 c hc
  have HI := Lib.hid hI
  obtain ⟨W, hW⟩ : ∃ W, F c = W := ⟨_, rfl⟩
  obtain ⟨m, hm⟩ : ∃ m, W.length = m := ⟨_, rfl⟩
  rw [hW] at HI hA hF hM ⊢
  rw [hm] at HI hA hM ⊢
  have HF := Lib.hid hF
  have HML := Lib.hid hm
  have a0 : w.cell? ⟨pw, 0, none⟩ = some (.slice (some ⟨g, 0, none⟩) 128 128) := h.bw.cell 0
  have d0 : (0 : Int) ≤ (c : Int) := by omega
  have d1 : (c : Int) < 128 := by omega
  clear h hI hF hW hm
  go_enter Tryd.func61, Tryd.ntmps61
  go_wp2_with fail
  go_loopw [14] (fun i wr => ∃ (k : Nat) (X' M' : List Int) (vm : Value), i = .int .i64 (k : Int) ∧ k ≤ m ∧ markN n W (X, M) k = (X', M') ∧ M'.length ≤ M.length + k ∧ Mk a B pw ps pm gs cs g F X' M' vm wr) (fun i _ => m - (intOf i).toNat)
  case atStart => exact ⟨0, X, M, vm, rfl, Nat.zero_le _, rfl, Nat.le_refl _, X0.out⟩
  case round =>
    obtain ⟨k, X', M', vm, rfl, hk, hmk, hl, hx⟩ := hrel
    have X1 := Lib.hid hx
    have HMK := Lib.hid hmk
    obtain ⟨Av, cv, rfl, _⟩ := own_form hx.rm
    clear hx hmk
    by_cases hlt : k < m
    · obtain ⟨b1, off, rfl, hb1, c0⟩ := (HI.out.keep (fun p hp => World.cell?_of_block ((X1.out.lb.block p.block hp).trans (X0.out.lb.block p.block hp).symm))).at k hlt
      have hkW : k < W.length := by have := HML.out; omega
      obtain ⟨t, ht, ht128⟩ := HF.out _ (getD_mem0 hkW)
      rw [ht] at c0
      have HN := Lib.hid (show markN n W (X, M) (k + 1) = mark1 n (X', M') (t : Int) by rw [markN_next hkW, HMK.out, ht])
      have c1 := ints_get X1.out.rs ht128
      obtain ⟨y, hy⟩ : ∃ y, X'.getD t 0 = y := ⟨_, rfl⟩
      rw [hy] at c1
      have e0 : wr.cell? ⟨ps, 0, none⟩ = some (.slice (some ⟨gs, 0, none⟩) 128 cs) := X1.out.bs.cell 0
      have e1 : wr.cell? ⟨pm, 0, none⟩ = some (.slice Av M'.length cv) := X1.out.bm.cell 0
      have k0 : (0 : Int) ≤ (k : Int) := by omega
      have k1 : (k : Int) < (m : Int) := by omega
      have t0 : (0 : Int) ≤ (t : Int) := by omega
      have t1 : (t : Int) < 128 := by omega
      have HLT := Lib.hid hlt
      have HT := Lib.hid ht128
      have HY := Lib.hid hy
      have HL := Lib.hid hl
      clear hlt ht ht128 hy hl hkW
      by_cases hy0 : y = -1
      · subst hy0
        have HN2 := Lib.hid (HN.out.trans (mark_yes (by rw [Int.toNat_natCast]; exact HY.out)))
        have X2 := Lib.hid (X1.out.store t n)
        have f0 := X1.out.rs.frozenAt t
        have f1 : (wr.setCell ⟨gs, t, none⟩ (.int .i64 n)).cell? ⟨pm, 0, none⟩ = some (.slice Av M'.length cv) := X2.out.bm.cell 0
        have hsz : (wr.setCell ⟨gs, t, none⟩ (.int .i64 n)).heap.size = wr.heap.size := by simp
        have HNB := Lib.hid (show ((wr.setCell ⟨gs, t, none⟩ (.int .i64 n)).alloc (.cells #[.int .i64 (t : Int)] 3)).heap[wr.heap.size]? = some (.cells #[.int .i64 (t : Int)] 3) by have := heap_alloc_new (wr.setCell ⟨gs, t, none⟩ (.int .i64 n)) (.cells #[.int .i64 (t : Int)] 3); rw [hsz] at this; exact this)
        have b3 := Lib.hid (show ∀ u ∈ [Value.int .i64 (t : Int)], u.oneCell' = true by simp [Value.oneCell'])
        have b4 := Lib.hid (show M'.length + 1 ≤ maxLen by have := HL.out; unfold maxLen; omega)
        have b5 := Lib.hid (show (M'.length + 1) * 8 ≤ 140737488355328 by have := HL.out; omega)
        have b6 := Lib.hid (show B ≤ ((wr.setCell ⟨gs, t, none⟩ (.int .i64 n)).alloc (.cells #[.int .i64 (t : Int)] 3)).heap.size by rw [alloc_size, hsz]; have := X1.out.sz; omega)
        clear hsz
        go_wp2_with (at_builtin; refine wpList_append_lies _ rfl _ _ 26 rfl B 3 i0 (.int .i64 0) 1 8 Tryd.underlying26 hi hz0 hz1 hz2 rfl (by decide) _ M'.length _ rfl (X2.out.rm.alloc _) ⟨wr.heap.size, 0, none⟩ 1 1 [.int .i64 (t : Int)] rfl rfl (World.news_of_block HNB.out) b3.out (by decide) b4.out b5.out b6.out _ rfl ?_; intro g4 cap4 w4 hown4 hgrow4 hat4 hlt4; have X3 := Lib.hid (X2.out.app hown4 hgrow4 hat4); have B4 := Lib.hid ((X2.out.bm.alloc _).grown hgrow4 (fun e => own_ne X2.out.rm X2.out.bm (by decide) e.symm)); have f4 := B4.out.frozen 0; have f5 := B4.out.cell 0; clear hown4 hgrow4 hat4 hlt4)
        go_roundw
        case rel => exact ⟨k + 1, _, _, _, by go_num, by have := HLT.out; omega, HN2.out, by have := HL.out; simp; omega, X3.out⟩
        case measure => have := HLT.out; simp [intOf]; omega
      · have HN2 := Lib.hid (HN.out.trans (mark_no (by rw [Int.toNat_natCast, HY.out]; exact hy0)))
        have hyb : (y == -1) = false := by simpa using hy0
        clear hy0
        go_wp2_with fail
        go_roundw
        case rel => exact ⟨k + 1, X', M', _, by go_num, by have := HLT.out; omega, HN2.out, by have := HL.out; omega, X1.out⟩
        case measure => have := HLT.out; simp [intOf]; omega
    · obtain rfl : k = m := by omega
      go_wp2_with fail
      go_end0
      exact ⟨rfl, X', M', _, HMK.out, X1.out⟩
end Go.Proofs.YtcmlnokfjbglaaaDoor
end

section
namespace Go.Proofs.YtcmlnokfjbglaaaDoor
open Go.ChangeShapes Go.WideShapes Go.ChangeAt Go.RowKit
set_option linter.unusedVariables false
set_option maxRecDepth 20000

/-- The shared variables at the start. -/
theorem mk_start {w w1 : World} {g gs c1 : Nat} {F : Nat → List Int} (hr : LstsIn w w.heap.size g F)
    (o1 : w1.ownsRow ((w.alloc (.cells #[.slice (some ⟨g, 0, none⟩) 128 128] 58)).alloc (.cells #[.int .i64 (-1)] 3)).heap.size 3 1 (.slice (some ⟨gs, 0, none⟩) 128 c1) 128 (intsV (List.replicate 128 (-1))))
    (b1 : Below ((w.alloc (.cells #[.slice (some ⟨g, 0, none⟩) 128 128] 58)).alloc (.cells #[.int .i64 (-1)] 3)).heap.size ((w.alloc (.cells #[.slice (some ⟨g, 0, none⟩) 128 128] 58)).alloc (.cells #[.int .i64 (-1)] 3)) w1) :
    Mk w w.heap.size w.heap.size w1.heap.size (w1.heap.size + 1) gs c1 g F (List.replicate 128 (-1)) [] (.slice none 0 0) ((w1.alloc (.cells #[.slice (some ⟨gs, 0, none⟩) 128 c1] 26)).alloc (.cells #[.slice none 0 0] 26)) := by
  have e : ((w.alloc (.cells #[.slice (some ⟨g, 0, none⟩) 128 128] 58)).alloc (.cells #[.int .i64 (-1)] 3)).heap.size = w.heap.size + 2 := by rw [alloc_size, alloc_size]
  have hs := b1.size
  rw [e] at o1 hs
  have hb0 : Below w.heap.size w w1 := (((Below.refl w.heap.size w).alloc (Nat.le_refl _) _).alloc (by rw [alloc_size]; omega) _).trans (b1.mono (by omega))
  have hb1 := (hb0.alloc (by omega) (.cells #[.slice (some ⟨gs, 0, none⟩) 128 c1] 26)).alloc (by rw [alloc_size]; omega) (.cells #[.slice none 0 0] 26)
  have hbm := Blk.new (w1.alloc (.cells #[.slice (some ⟨gs, 0, none⟩) 128 c1] 26)) 26 #[.slice none 0 0]
  rw [alloc_size] at hbm
  exact ⟨((((Blk.new w 58 #[.slice (some ⟨g, 0, none⟩) 128 128]).alloc _).below b1 (by omega)).alloc _).alloc _, (Blk.new w1 26 #[.slice (some ⟨gs, 0, none⟩) 128 c1]).alloc _, hbm,
    ((own_less o1 (by omega)).alloc _).alloc _, World.ownsRow_nil _ _ _ _, apart_none _, hr.below hb1, hb1, Nat.le_refl _, by omega, by omega, by omega⟩

set_option maxHeartbeats 1600000 in
theorem implStepsTo (D : List Dep) (a : Nat) (ha : a < 128) (g : Nat) (hok : okD D = true) (hl : D.length ≤ 1000000000) (w : World) (h : LstsIn w w.heap.size g (fun c => waitD D (c : Int))) :
    Calls Tryd.prog 47 #[.slice (some ⟨g, 0, none⟩) 128 128, .int .i64 (a : Int)] w (NewI (toL D a) w) := by
  have HRR := Lib.hid h
  have HOK := Lib.hid hok
  have HREP := Lib.hid (fun b o w hx => libRepeat b o w hx)
  obtain ⟨B, hB⟩ : ∃ B, w.heap.size = B := ⟨_, rfl⟩
  have HMK := Lib.hid (fun (pw ps pm gs cs : Nat) (X M : List Int) (vm : Value) (c : Nat) (n : Int) (hc : c < 128) (hM : M.length ≤ 1000000000) (wr : World) (hx : Mk w B pw ps pm gs cs g (fun c => waitD D (c : Int)) X M vm wr) =>
    implMark w B pw ps pm gs cs g (fun c => waitD D (c : Int)) X M vm c n hc (fun x hx => by obtain ⟨t, h1, h2, _⟩ := wait_nat hok hx; exact ⟨t, h1, h2⟩) (by have := wait_length D (c : Int); omega) wr hx)
  have HB := Lib.hid hB
  have d0 : (0 : Int) ≤ (a : Int) := by omega
  have d1 : (a : Int) < 128 := by omega
  have HC0 := Lib.hid (show ((w.alloc (.cells #[.slice (some ⟨g, 0, none⟩) 128 128] 58)).alloc (.cells #[.int .i64 (-1)] 3)).cell? ⟨w.heap.size + 1, 0, none⟩ = some (.int .i64 (-1)) by
    have e : (w.alloc (.cells #[.slice (some ⟨g, 0, none⟩) 128 128] 58)).heap.size = w.heap.size + 1 := alloc_size _ _
    rw [← e]
    exact (Blk.new _ 3 #[.int .i64 (-1)]).cell 0)
  clear h hok hB
  go_enter Tryd.func47, Tryd.ntmps47
  go_wp2_with fail
  refine (HREP.out _ _ _ HC0.out).mono ?_
  rintro e w1 ⟨v1, rfl, o1, b1⟩
  obtain ⟨A1, c1, rfl, hA1⟩ := own_form o1
  obtain ⟨gs, rfl⟩ := hA1 (by omega)
  have X1 := Lib.hid (mk_start HRR.out o1 b1)
  clear o1 b1 hA1
  rw [HB.out] at X1
  go_wp2_with fail
  rw [HB.out]
  refine (HMK.out B w1.heap.size (w1.heap.size + 1) gs c1 _ [] _ a 1 ha (by simp) _ X1.out).mono ?_
  rintro e w2 ⟨rfl, X', M', vm, hm, hx⟩
  obtain ⟨M, hM, hq, hf⟩ := que_one HOK.out a
  rw [stepL_nil] at hM
  have hp := Prod.mk.inj (hm.symm.trans hM)
  obtain ⟨rfl, rfl⟩ := hp
  obtain ⟨ps, hps⟩ : ∃ ps, w1.heap.size = ps := ⟨_, rfl⟩
  rw [hps] at hx
  have X2 := Lib.hid hx
  have HQ := Lib.hid hq
  have HF := Lib.hid hf
  clear hm hM hx hq hf
  have eg : ∀ args w, (callFunc 61 args).run Tryd.prog w = .ok (.enter 61 args) w := fun args w => Tryd.call61 args w
  go_wp2_with fail
  (try rw [hps])
  clear hps
  go_loopw [8] (fun i wr => ∃ (k n : Nat) (M : List Nat) (vm : Value), i = .int .i64 (k : Int) ∧ Que D a k n M ∧ (∀ t, edgeB D t a = true → t ∈ M) ∧ (k < M.length → n ≤ distD D (M.getD k 0) a + 1) ∧ Mk w B B ps (ps + 1) gs c1 g (fun c => waitD D (c : Int)) (stepL D a M) (upI M) vm wr) (fun i _ => 200 - (intOf i).toNat)
  case atStart => exact ⟨0, 1, M, vm, rfl, HQ.out, HF.out, fun h => by omega, X2.out⟩
  case round =>
    obtain ⟨k, n, M, vm, rfl, hq, hf, hn, hx⟩ := hrel
    have hkM := hq.le
    have hM128 := que_few hq
    have e0 : wr.cell? ⟨ps, 0, none⟩ = some (.slice (some ⟨gs, 0, none⟩) 128 c1) := hx.bs.cell 0
    obtain ⟨Av, cv, hv, hAv⟩ := own_form hx.rm
    subst hv
    obtain ⟨m, hm⟩ : ∃ m, M.length = m := ⟨_, rfl⟩
    have hum : (upI M).length = m := (upI_len M).trans hm
    have e1 : wr.cell? ⟨ps + 1, 0, none⟩ = some (.slice Av m cv) := hum ▸ hx.bm.cell 0
    rw [hum] at hAv
    have HQ2 := Lib.hid hq
    have HF2 := Lib.hid hf
    have X3 := Lib.hid hx
    have HUM := Lib.hid hum
    by_cases hlt : k < m
    · obtain ⟨gm, hgm⟩ := hAv (by omega)
      subst hgm
      have hkM2 : k < M.length := by omega
      have hmem := getD_memN hkM2
      have hc := hq.rng _ hmem
      obtain ⟨M', hM', hq', hf', hn'⟩ := que_step HOK.out hq hf hkM2 (hn hkM2)
      have c0 := ints_get (hum ▸ hx.rm) hlt
      rw [upI_at hkM2] at c0
      have c2 := ints_get hx.rs hc
      rw [stepL_at hc, if_pos hmem] at c2
      have hdl := dist_le HOK.out (M.getD k 0) a
      obtain ⟨c, hcc⟩ : ∃ c, M.getD k 0 = c := ⟨_, rfl⟩
      rw [hcc] at c0 c2 hc hM' hq' hn' hdl
      obtain ⟨d, hd⟩ : ∃ d, distD D c a = d := ⟨_, rfl⟩
      rw [hd] at c2 hM' hq' hn' hdl
      have HC := Lib.hid (HMK.out B ps (ps + 1) gs c1 (stepL D a M) (upI M) (.slice (some ⟨gm, 0, none⟩) (upI M).length cv) c ((d : Int) + 1) hc (by omega))
      rw [show ((d + 1 : Nat) : Int) = (d : Int) + 1 by omega] at hM'
      have HM' := Lib.hid hM'
      have HQ' := Lib.hid hq'
      have HF' := Lib.hid hf'
      have HN' := Lib.hid (show k + 1 < M'.length → d + 1 ≤ distD D (M'.getD (k + 1) 0) a + 1 from hn')
      have hdw : IntKind.i64.wrap ((d : Int) + 1) = (d : Int) + 1 := IntWalk.i64_in _ (by omega)
      have k0 : (0 : Int) ≤ (k : Int) := by omega
      have k1 : (k : Int) < (m : Int) := by omega
      have g0 : (0 : Int) ≤ (c : Int) := by omega
      have g1 : (c : Int) < 128 := by omega
      have hk128 : k < 128 := by omega
      clear hq hf hn hx hum hm hkM hM128 hM' hq' hf' hn' hcc hd hmem hkM2 hAv hlt
      have X4 := Lib.hid (X3.out.gb (gb_drew (gb_refl wr none)))
      go_wp2_with fail
      go_still_tail 13, (by kernel_rfl)
      change wpList _ _ _ _ _ wr.drew
      go_wp2_with fail
      refine (HC.out _ X4.out).mono ?_
      rintro e w4 ⟨rfl, X', M'', vm', hm', hx'⟩
      obtain ⟨rfl, rfl⟩ := Prod.mk.inj (hm'.symm.trans HM'.out)
      have X5 := Lib.hid hx'
      clear hm' hx' e0 e1 c0 c2
      go_wp2_with fail
      go_roundw
      case rel => exact ⟨k + 1, d + 1, M', vm', by go_num, HQ'.out, HF'.out, HN'.out, X5.out⟩
      case measure => simp [intOf]; omega
    · have hkm : k = m := by omega
      subst hkm
      subst hm
      have HE := Lib.hid (que_end HOK.out hq hf)
      have k1 : ¬ ((M.length : Int) < (M.length : Int)) := by omega
      clear hq hf hn hx hum hkM hM128 hAv hlt
      go_wp2_with fail
      go_ret
      refine ⟨_, rfl, ?_, ?_⟩
      · rw [toL_len, ← HE.out, HB.out]
        exact X3.out.rs
      · rw [HB.out]
        exact X3.out.lb
end Go.Proofs.YtcmlnokfjbglaaaDoor
end

section
namespace Go.Proofs.YtcmlnokfjbglaaaDoor
open Go.ChangeShapes Go.WideShapes Go.ChangeAt Go.RowKit
set_option linter.unusedVariables false
set_option maxRecDepth 20000

theorem boxD_size (d : Dep) (w : World) : (boxD d w).heap.size = w.heap.size + 1 := alloc_size _ _
theorem boxD_below {w wr : World} (h : Below w.heap.size w wr) (d : Dep) : Below w.heap.size w (boxD d wr) := h.alloc h.size _
theorem new_at1 (w : World) (o o2 : Obj) : ((w.alloc o).alloc o2).heap[w.heap.size + 1]? = some o2 := by
  have h := heap_alloc_new (w.alloc o) o2
  rw [alloc_size] at h
  exact h
theorem own_eqI {w : World} {base : Nat} {v : Value} {L L' : List Int} (h : L = L') (ho : w.ownsRow base 3 1 v L.length (intsV L)) : w.ownsRow base 3 1 v L'.length (intsV L') := by subst h; exact ho
theorem implSuccessors (A : Option Addr) (n cap : Nat) (D : List Dep) (c : Int) (w : World) (h : DepAt w w.heap.size A n D) (hn : n ≤ 4000000000) :
    Calls Tryd.prog 62 #[.slice A n cap, .int .i64 c] w (NewI (succD D c) w) := by
  obtain ⟨i0, hi, hz0, hz1, hz2⟩ := info_parts info_int
  have HI := Lib.hid h
  have hl := h.1
  have HALL := Lib.hid (show succD (D.take n) c = succD D c by rw [← hl]; exact succ_all D c)
  clear h
  go_enter Tryd.func62, Tryd.ntmps62
  go_wp2_with fail
  go_loopw [5, 10] (fun v i wr => ∃ k : Nat, i = .int .i64 (k : Int) ∧ k ≤ n ∧ wr.ownsRow w.heap.size 3 1 v (succD (D.take k) c).length (intsV (succD (D.take k) c)) ∧ Below w.heap.size w wr) (fun _ i _ => n - (intOf i).toNat)
  case atStart => exact ⟨0, rfl, Nat.zero_le _, World.ownsRow_nil _ _ _ _, Below.refl _ _⟩
  case round =>
    obtain ⟨k, rfl, hk, ho, hb⟩ := hrel
    have HB := Lib.hid hb
    have HO := Lib.hid ho
    have hai := HI.out.below hb
    obtain ⟨Ao, co, rfl, _⟩ := own_form ho
    clear ho hb
    by_cases hlt : k < n
    · obtain ⟨b1, off, rfl, hb1, c0, c1⟩ := hai.at k hlt
      obtain ⟨x, hx⟩ : ∃ x, atD D k = x := ⟨_, rfl⟩
      rw [hx] at c0 c1
      have k0 : (0 : Int) ≤ (k : Int) := by omega
      have k1 : (k : Int) < (n : Int) := by omega
      have hkl : k < D.length := by omega
      have hlen : (succD (D.take k) c).length ≤ k := Nat.le_trans (succ_length _ _) (by simp; omega)
      clear hai
      by_cases hc : x.1 = c
      · have HE := Lib.hid (succ_yes (c := c) hkl (by rw [hx]; exact hc))
        rw [hx] at HE
        subst hc
        have hsz1 : w.heap.size ≤ wr.heap.size := HB.out.size
        have b3' := Lib.hid (show ∀ u ∈ [Value.int .i64 x.2], u.oneCell' = true by simp [Value.oneCell'])
        have b4' := Lib.hid (show (succD (D.take k) x.1).length + 1 ≤ maxLen by unfold maxLen; omega)
        go_wp2_with (at_builtin; refine wpList_append_own _ rfl _ _ 26 rfl w.heap.size 3 i0 (.int .i64 0) 1 8 Tryd.underlying26 hi hz0 hz1 hz2 rfl (by decide) _ (succD (D.take k) x.1).length _ rfl ((HO.out.alloc _).alloc _) ⟨wr.heap.size + 1, 0, none⟩ 1 1 [.int .i64 x.2] rfl rfl (World.news_of_block (cs := #[.int .i64 x.2]) (t := 3) (fr := (0, 0)) (new_at1 wr _ _)) b3'.out b4'.out (by omega) (by simp; omega) ?_; intro v' w4 hown4 hgrow4 _)
        have X4 := Lib.hid (show w4.ownsRow w.heap.size 3 1 v' (succD (D.take (k + 1)) x.1).length (intsV (succD (D.take (k + 1)) x.1)) ∧ Below w.heap.size w w4 from by
          refine ⟨by rw [HE.out, List.length_append, intsV_append]; exact hown4, ?_⟩
          exact ((boxD_below HB.out x).alloc (by have := HB.out.size; rw [boxD_size]; omega) _).grown hgrow4 (by have := HB.out.size; have := boxD_size x wr; simp; omega) (fun j hj => (HO.out.lt j hj).1))
        clear hown4 hgrow4 c0 c1 hx
        go_wp2_with fail
        go_roundw
        case rel => exact ⟨k + 1, by go_num, by omega, X4.out.1, X4.out.2⟩
        case measure => simp [intOf]; omega
      · have HE := Lib.hid (succ_no (c := c) hkl (by rw [hx]; exact hc))
        clear hx
        go_wp2_with fail
        go_roundw
        case rel => exact ⟨k + 1, by go_num, by omega, by rw [HE.out]; exact HO.out.alloc _, boxD_below HB.out x⟩
        case measure => simp [intOf]; omega
    · obtain rfl : k = n := by omega
      clear hai
      go_wp2_with fail
      go_ret
      exact ⟨_, rfl, own_eqI HALL.out HO.out, HB.out⟩

end Go.Proofs.YtcmlnokfjbglaaaDoor
end

section
namespace Go.Proofs.YtcmlnokfjbglaaaDoor
open Go.ChangeShapes Go.WideShapes Go.ChangeAt Go.RowKit
set_option linter.unusedVariables false
set_option maxRecDepth 20000

theorem find_atI {p : Int → Bool} : ∀ {l : List Int} {k : Nat}, k < l.length → p (l.getD k 0) = true → (∀ j, j < k → p (l.getD j 0) = false) → l.find? p = some (l.getD k 0)
  | [], k, h, _, _ => by simp at h
  | x :: l, 0, _, h, _ => by
    have h' : p x = true := h
    rw [List.find?_cons, h']
    rfl
  | x :: l, k + 1, hk, h, hn => by
    have h0 : p x = false := hn 0 (by omega)
    rw [List.find?_cons, h0]
    have := find_atI (l := l) (k := k) (by simpa using hk) (by simpa using h) (fun j hj => by have := hn (j + 1) (by omega); simpa using this)
    simpa using this
theorem getD_memI0 {L : List Int} {k : Nat} (h : k < L.length) : L.getD k 0 ∈ L := by
  rw [List.getD_eq_getElem?_getD, List.getElem?_eq_getElem h]
  exact List.getElem_mem h
/-- The first i channels of the way. -/
def wayN (D : List Dep) (st b i : Nat) : List Int := (List.range i).map fun j => (atP D st b j : Int)
theorem wayN_len (D : List Dep) (st b i : Nat) : (wayN D st b i).length = i := by simp [wayN]
theorem wayN_all (D : List Dep) (st b : Nat) : wayN D st b b = cycP D st b := rfl
theorem wayN_next (D : List Dep) (st b i : Nat) : wayN D st b (i + 1) = wayN D st b i ++ [(atP D st b i : Int)] := cyc_next D st b i
/-- The successor that the program finds is the next one. -/
theorem way_hit {D : List Dep} (hD : okD D = true) {st b i k t : Nat} (hb : distD D st st = b) (hi : i + 1 < b) (hk : k < (succD D (atP D st b i : Int)).length) (ht : (succD D (atP D st b i : Int)).getD k 0 = (t : Int))
    (h : (toL D st).getD t 0 = ((b - 1 - i : Nat) : Int)) (hn : ∀ j, j < k → (toL D st).getD ((succD D (atP D st b i : Int)).getD j 0).toNat 0 ≠ ((b - 1 - i : Nat) : Int)) : atP D st b (i + 1) = t := by
  have h1 := nextW_is hD (st := st) (b := b) (left := b - 1 - i) (u := atP D st b i) hb (by omega) (by omega)
  have h2 : atP D st b (i + 1) = nextP D st (b - 1 - i) (atP D st b i) := by
    show nextP D st (b - i - 1) (atP D st b i) = _
    rw [show b - i - 1 = b - 1 - i by omega]
  rw [h2, ← h1]
  unfold nextW
  rw [find_atI (k := k) hk (by rw [ht, Int.toNat_natCast]; exact decide_eq_true h) (fun j hj => decide_eq_false (hn j hj)), ht]
  exact Int.toNat_natCast t
/-- There is one. -/
theorem way_found {D : List Dep} (hD : okD D = true) {st b i : Nat} (hst : st < 128) (hb : distD D st st = b) (hi : i + 1 < b) (hn : ∀ j, j < (succD D (atP D st b i : Int)).length → (toL D st).getD ((succD D (atP D st b i : Int)).getD j 0).toNat 0 ≠ ((b - 1 - i : Nat) : Int)) : False := by
  have h1 := path_dist hD hb (i := i + 1) hi
  have h2 := edge_succ.1 (path_edge hD hb (i := i) (by omega))
  obtain ⟨k, hk, e⟩ := List.getElem_of_mem h2
  have h3 := hn k hk
  have e2 : (succD D (atP D st b i : Int)).getD k 0 = (atP D st b (i + 1) : Int) := by rw [List.getD_eq_getElem?_getD, List.getElem?_eq_getElem hk, e]; rfl
  rw [e2, Int.toNat_natCast, toL_at (path_lt hD hb hi), h1, if_neg (by omega)] at h3
  exact h3 (by omega)
/-- The way so far. -/
def WyAt (w : World) (D : List Dep) (st b i : Nat) (v : Value) (wr : World) : Prop := wr.ownsRow w.heap.size 3 1 v i (intsV (wayN D st b i)) ∧ Below w.heap.size w wr
theorem WyAt.below {w wr w' : World} {D : List Dep} {st b i : Nat} {v : Value} (h : WyAt w D st b i v wr) (hb : Below wr.heap.size wr w') : WyAt w D st b i v w' :=
  ⟨own_none h.1 (gb_of_below hb none), below_gb h.2 (Nat.le_refl _) (gb_of_below hb none)⟩

set_option maxHeartbeats 1600000 in
theorem implWayBack (A AX : Option Addr) (n cap cX : Nat) (D : List Dep) (st b : Nat) (hst : st < 128) (hok : okD D = true) (hb : distD D st st = b) (hb1 : 1 ≤ b) (w : World) (h : DepAt w w.heap.size A n D) (hX : IntAt w w.heap.size AX 128 (toL D st)) (hn : n ≤ 1000000000) :
    Calls Tryd.prog 48 #[.slice A n cap, .slice AX 128 cX, .int .i64 (st : Int)] w (NewI (cycP D st b) w) := by
  obtain ⟨i0, hi, hz0, hz1, hz2⟩ := info_parts info_int
  obtain ⟨bX, oX, rfl, hbX, cX0⟩ := hX.at st (by omega)
  have hb128 : b ≤ 128 := hb ▸ dist_le hok st st
  rw [toL_at hst, hb, if_neg (by omega)] at cX0
  have HI := Lib.hid h
  have HX := Lib.hid (hX : IntAt w w.heap.size (some ⟨bX, oX, none⟩) 128 (toL D st))
  have HOK := Lib.hid hok
  have HBB := Lib.hid hb
  have HSU := Lib.hid (fun (c : Int) w h => implSuccessors A n cap D c w h (by omega))
  have hl := h.1
  have HSL := Lib.hid (fun x => (show (succD D x).length ≤ n from hl ▸ succ_length D x))
  have X0 := Lib.hid (show WyAt w D st b 1 (.slice (some ⟨w.heap.size, 0, none⟩) 1 1) (w.alloc (.cells #[.int .i64 (st : Int)] 3)) from
    ⟨World.ownsRow_lit (base := w.heap.size) (e := 3) (size := 1) w #[.int .i64 (st : Int)] 1 (Nat.le_refl _) (by decide) rfl, (Below.refl _ _).alloc (Nat.le_refl _) _⟩)
  have hbw : IntKind.i64.wrap ((b : Int) - 1) = ((b - 1 : Nat) : Int) := by rw [IntWalk.i64_in _ (by omega)]; omega
  have s0 : (0 : Int) ≤ (st : Int) := by omega
  have s1 : (st : Int) < 128 := by omega
  clear h hX hok hb hl
  go_enter Tryd.func48, Tryd.ntmps48
  go_wp2_with fail
  go_loopw [7, 8, 9] (fun v c l wr => ∃ i : Nat, i + 1 ≤ b ∧ c = .int .i64 (atP D st b i : Int) ∧ l = .int .i64 ((b - 1 - i : Nat) : Int) ∧ WyAt w D st b (i + 1) v wr) (fun _ _ l _ => (intOf l).toNat)
  case atStart => exact ⟨0, hb1, rfl, rfl, X0.out⟩
  case round =>
    obtain ⟨i, hib, rfl, rfl, hx⟩ := hrel
    have X1 := Lib.hid hx
    obtain ⟨Aw, cw, rfl, _⟩ := own_form hx.1
    clear hx
    by_cases hlt : i + 1 < b
    · obtain ⟨lf, hlf⟩ : ∃ lf, b - 1 - i = lf := ⟨_, rfl⟩
      have hl0 : (0 : Int) < (lf : Int) := by omega
      obtain ⟨u, hu⟩ : ∃ u, atP D st b i = u := ⟨_, rfl⟩
      have HU := Lib.hid hu
      have HLF := Lib.hid hlf
      have HLT := Lib.hid hlt
      rw [hlf, hu]
      clear hlf hu hlt
      go_wp2_with fail
      refine (HSU.out (u : Int) _ ((HI.out.below X1.out.2).more X1.out.2.size)).mono ?_
      rintro e w2 ⟨v2, rfl, o2, b2⟩
      have X2 := Lib.hid (X1.out.below b2)
      obtain ⟨S, hS⟩ : ∃ S, succD D (u : Int) = S := ⟨_, rfl⟩
      have HS := Lib.hid hS
      rw [hS] at o2
      obtain ⟨m, hm⟩ : ∃ m, S.length = m := ⟨_, rfl⟩
      have HM := Lib.hid hm
      rw [hm] at o2
      obtain ⟨As, cs, rfl, _⟩ := own_form o2
      have HSI := Lib.hid (intAt_own o2 hm (Nat.le_refl _))
      have hmn : m ≤ n := by rw [← hm, ← hS]; exact HSL.out (u : Int)
      clear o2 b2 hS hm
      go_wp2_with fail
      go_loop [28] (fun j => ∃ k : Nat, j = .int .i64 (k : Int) ∧ k ≤ m ∧ ∀ j, j < k → (toL D st).getD (S.getD j 0).toNat 0 ≠ (lf : Int)) (fun j => m - (intOf j).toNat)
      case atStart => exact ⟨0, rfl, Nat.zero_le _, fun j hj => by omega⟩
      case round =>
        obtain ⟨k, rfl, hk, hne⟩ := hrel
        have HNE := Lib.hid hne
        clear hne
        by_cases hlt : k < m
        · have hkS : k < S.length := by have := HM.out; omega
          obtain ⟨b1, off, rfl, hb1', c0⟩ := HSI.out.at k hlt
          have hin := succ_in HOK.out (c := (u : Int)) (x := S.getD k 0) (by rw [HS.out]; exact getD_memI0 hkS)
          obtain ⟨t, ht⟩ : ∃ t : Nat, S.getD k 0 = (t : Int) := ⟨(S.getD k 0).toNat, by omega⟩
          rw [ht] at c0 hin
          have ht128 : t < 128 := by omega
          obtain ⟨bx, ox, ex, _, c1⟩ := (HX.out.none (Nat.le_refl _) (gb_of_below X2.out.2 none)).at t ht128
          injection ex with ex
          injection ex with ex1 ex2
          subst ex1 ex2
          obtain ⟨y, hy⟩ : ∃ y, (toL D st).getD t 0 = y := ⟨_, rfl⟩
          rw [hy] at c1
          have HY := Lib.hid hy
          have HT := Lib.hid ht
          have k0 : (0 : Int) ≤ (k : Int) := by omega
          have k1 : (k : Int) < (m : Int) := by omega
          have t0 : (0 : Int) ≤ (t : Int) := by omega
          have t1 : (t : Int) < 128 := by omega
          have HLK := Lib.hid hlt
          have HKS := Lib.hid hkS
          clear hin ht hy ht128 hlt hkS
          by_cases hyl : y = (lf : Int)
          · have HA := Lib.hid (show atP D st b (i + 1) = t from way_hit HOK.out HBB.out HLT.out (by rw [HU.out, HS.out]; exact HKS.out) (by rw [HU.out, HS.out]; exact HT.out) (by rw [HY.out, HLF.out]; exact hyl) (by rw [HU.out, HS.out, HLF.out]; exact HNE.out))
            subst hyl
            have hnb := Lib.hid (World.news_of_block (w := w2.alloc (.cells #[.int .i64 (t : Int)] 3)) (B := w2.heap.size) (cs := #[.int .i64 (t : Int)]) (t := 3) (fr := (0, 0)) (heap_alloc_new w2 _))
            have b3 := Lib.hid (show ∀ u ∈ [Value.int .i64 (t : Int)], u.oneCell' = true by simp [Value.oneCell'])
            have b4 := Lib.hid (show i + 1 + 1 ≤ maxLen by unfold maxLen; omega)
            have b5 := Lib.hid (show (i + 1 + 1) * 8 ≤ 140737488355328 by omega)
            have b6 := Lib.hid (show w.heap.size ≤ (w2.alloc (.cells #[.int .i64 (t : Int)] 3)).heap.size by have := X2.out.2.size; rw [alloc_size]; omega)
            have hlw : IntKind.i64.wrap ((lf : Int) - 1) = ((lf - 1 : Nat) : Int) := by have := HLF.out; rw [IntWalk.i64_in _ (by omega)]; omega
            go_wp2_with (at_builtin; refine wpList_append_own _ rfl _ _ 26 rfl w.heap.size 3 i0 (.int .i64 0) 1 8 Tryd.underlying26 hi hz0 hz1 hz2 rfl (by decide) _ (i + 1) _ rfl (X2.out.1.alloc _) ⟨w2.heap.size, 0, none⟩ 1 1 [.int .i64 (t : Int)] rfl rfl hnb.out b3.out b4.out b5.out b6.out ?_; intro v' w4 hown4 hgrow4 _)
            have X4 := Lib.hid (show WyAt w D st b (i + 1 + 1) v' w4 from by
              refine ⟨by rw [wayN_next, HA.out, intsV_append]; exact hown4, ?_⟩
              exact (X2.out.2.alloc (by have := X2.out.2.size; omega) _).grown hgrow4 b6.out (fun j hj => (X2.out.1.lt j hj).1))
            clear hown4 hgrow4 c0 c1
            go_wp2_with fail
            go_roundw
            case rel => exact ⟨i + 1, by have := HLT.out; omega, by rw [HA.out], by have := HLF.out; go_num, X4.out⟩
            case measure => have := HLF.out; simp [intOf]; omega
          · have hyb : (y == (lf : Int)) = false := by simpa using hyl
            have HYL := Lib.hid hyl
            clear hyl
            go_wp2_with fail
            go_round
            case rel => exact ⟨k + 1, by go_num, by have := HLK.out; omega, fun j hj => by
              rcases Nat.lt_succ_iff_lt_or_eq.1 hj with h1 | rfl
              · exact HNE.out j h1
              · rw [HT.out, Int.toNat_natCast, HY.out]; exact HYL.out⟩
            case measure => have := HLK.out; simp [intOf]; omega
        · obtain rfl : k = m := by omega
          have hF := way_found HOK.out hst HBB.out HLT.out (by rw [HU.out, HS.out, HLF.out]; intro j hj; exact HNE.out j (by rw [HM.out] at hj; exact hj))
          exact hF.elim
    · obtain rfl : b = i + 1 := by omega
      have e0 : i + 1 - 1 - i = 0 := by omega
      rw [e0]
      go_wp2_with fail
      go_ret
      exact ⟨_, rfl, by rw [cyc_len]; exact X1.out.1, X1.out.2⟩
end Go.Proofs.YtcmlnokfjbglaaaDoor
end

section
namespace Go.Proofs.YtcmlnokfjbglaaaDoor
open Go.ChangeShapes Go.WideShapes Go.ChangeAt Go.RowKit
set_option linter.unusedVariables false
set_option maxRecDepth 20000

/-- The shortest cycle through the first channels. -/
def ShAt (w : World) (D : List Dep) (c : Nat) (v : Value) (wr : World) : Prop := wr.ownsRow w.heap.size 3 1 v (bestTo D c).1 (intsV (cycP D (bestTo D c).2.toNat (bestTo D c).1)) ∧ Below w.heap.size w wr
theorem ShAt.below {w wr w' : World} {D : List Dep} {c : Nat} {v : Value} (h : ShAt w D c v wr) (hb : Below wr.heap.size wr w') : ShAt w D c v w' :=
  ⟨own_none h.1 (gb_of_below hb none), below_gb h.2 (Nat.le_refl _) (gb_of_below hb none)⟩
theorem ShAt.pass {w wr : World} {D : List Dep} {c : Nat} {v : Value} (h : ShAt w D c v wr) (k : ¬ (0 < distD D c c ∧ ((bestTo D c).1 = 0 ∨ distD D c c < (bestTo D c).1))) : ShAt w D (c + 1) v wr := by
  unfold ShAt
  rw [best_pass k]
  exact h
theorem ShAt.take {w wr w' : World} {D : List Dep} {c d : Nat} {v v' : Value} (h : ShAt w D c v wr) (hd : distD D c c = d) (k : 0 < distD D c c ∧ ((bestTo D c).1 = 0 ∨ distD D c c < (bestTo D c).1)) (ho : w'.ownsRow wr.heap.size 3 1 v' (cycP D c d).length (intsV (cycP D c d))) (hb : Below wr.heap.size wr w') : ShAt w D (c + 1) v' w' := by
  unfold ShAt
  rw [best_take k.1 k.2, hd]
  rw [cyc_len] at ho
  exact ⟨own_less ho h.2.size, below_gb h.2 (Nat.le_refl _) (gb_of_below hb none)⟩
theorem implShortest (A : Option Addr) (n cap : Nat) (D : List Dep) (w : World) (h : DepAt w w.heap.size A n D) (hn : n ≤ 1000000000) :
    Calls Tryd.prog 31 #[.slice A n cap] w (NewI (cycG D) w) := by
  have HI := Lib.hid h
  have hl := h.1
  have HOKC := Lib.hid (fun w h => implDependsOk A n cap D w h (by omega))
  clear h
  cases hok : okD D with
  | false =>
    rw [cyc_bad hok]
    rw [hok] at HOKC
    clear hok
    go_enter Tryd.func31, Tryd.ntmps31
    go_wp2_with fail
    refine (HOKC.out _ HI.out).mono ?_
    rintro e w1 ⟨rfl, hg⟩
    go_wp2_with fail
    go_ret
    exact ⟨_, rfl, World.ownsRow_nil _ _ _ _, gb_below_none hg (Nat.le_refl _)⟩
  | true =>
    rw [cyc_ok hok]
    have HWA := Lib.hid (fun w h => implWaiters A n cap D w h hok hn)
    have HTO := Lib.hid (fun a ha g w h => implStepsTo D a ha g hok (by omega) w h)
    have HWB := Lib.hid (fun AX cX st b hst hb hb1 w h hX => implWayBack A AX n cap cX D st b hst hok hb hb1 w h hX hn)
    have HOK := Lib.hid hok
    rw [hok] at HOKC
    clear hok
    go_enter Tryd.func31, Tryd.ntmps31
    go_wp2_with fail
    refine (HOKC.out _ HI.out).mono ?_
    rintro e w1 ⟨rfl, hg⟩
    have HG1 := Lib.hid hg
    have HI1 := Lib.hid ((HI.out.none (Nat.le_refl _) hg).more hg.size)
    clear hg
    go_wp2_with fail
    refine (HWA.out _ HI1.out).mono ?_
    rintro e w2 ⟨g, V, rfl, hx, hb2⟩
    have HR := Lib.hid (hx.read (Nat.le_refl _))
    have HI2 := Lib.hid ((HI1.out.below hb2).more hb2.size)
    have HB2 := Lib.hid (show Below w.heap.size w w2 from (gb_below_none HG1.out (Nat.le_refl _)).trans (hb2.mono HG1.out.size))
    clear hx hb2
    go_wp2_with fail
    go_loopw [4, 12] (fun v i wr => ∃ c : Nat, i = .int .i64 (c : Int) ∧ c ≤ 128 ∧ ShAt w2 D c v wr) (fun _ i _ => 128 - (intOf i).toNat)
    case atStart => exact ⟨0, rfl, Nat.zero_le _, World.ownsRow_nil _ _ _ _, Below.refl _ _⟩
    case round =>
      obtain ⟨c, rfl, hc, hx⟩ := hrel
      have X1 := Lib.hid hx
      obtain ⟨As, cs, rfl, _⟩ := own_form hx.1
      obtain ⟨m, hm⟩ : ∃ m, (bestTo D c).1 = m := ⟨_, rfl⟩
      have HM := Lib.hid hm
      clear hx
      rw [hm]
      clear hm
      by_cases hlt : c < 128
      · have c0 : (0 : Int) ≤ (c : Int) := by omega
        have c1 : (c : Int) < 128 := by omega
        go_wp2_with fail
        refine (HTO.out c hlt g _ ((HR.out.below X1.out.2).more X1.out.2.size)).mono ?_
        rintro e w3 ⟨v3, rfl, o3, b3⟩
        rw [toL_len] at o3
        have X3 := Lib.hid (X1.out.below b3)
        obtain ⟨A3, cap3, rfl, hA3⟩ := own_form o3
        obtain ⟨g3, rfl⟩ := hA3 (by omega)
        have e0 := ints_get o3 hlt
        rw [toL_at hlt] at e0
        have HX3 := Lib.hid (intAt_own o3 (toL_len D c) (Nat.le_refl _))
        obtain ⟨d, hd⟩ : ∃ d, distD D c c = d := ⟨_, rfl⟩
        rw [hd] at e0
        have HD := Lib.hid hd
        clear o3 b3 hA3 hd
        by_cases hd0 : d = 0
        · rw [if_pos hd0] at e0
          have HP := Lib.hid (X3.out.pass (by rw [HD.out]; omega))
          clear hd0
          go_wp2_with fail
          go_roundw
          case rel => exact ⟨c + 1, by go_num, by omega, by rw [← HM.out] at *; exact HP.out⟩
          case measure => simp [intOf]; omega
        · rw [if_neg hd0] at e0
          have hdb : ((d : Int) == -1) = false := beq_eq_false_iff_ne.2 (by omega)
          have h0 : ¬ (d : Int) = -1 := by omega
          by_cases hm0 : m = 0
          · have HT := Lib.hid (fun (v' : Value) (w' : World) (ho : w'.ownsRow w3.heap.size 3 1 v' (cycP D c d).length (intsV (cycP D c d))) (hb : Below w3.heap.size w3 w') => X3.out.take HD.out (by rw [HD.out, HM.out]; omega) ho hb)
            have HI3 := Lib.hid ((HI2.out.below X3.out.2).more X3.out.2.size)
            subst hm0
            clear hdb
            go_wp2_with fail
            refine (HWB.out _ _ c d hlt HD.out (by omega) _ HI3.out HX3.out).mono ?_
            rintro e w4 ⟨v4, rfl, o4, b4⟩
            have X4 := Lib.hid (HT.out _ _ o4 b4)
            clear o4 b4
            go_wp2_with fail
            go_roundw
            case rel => exact ⟨c + 1, by go_num, by omega, X4.out⟩
            case measure => simp [intOf]; omega
          · by_cases hdm : d < m
            · have HT := Lib.hid (fun (v' : Value) (w' : World) (ho : w'.ownsRow w3.heap.size 3 1 v' (cycP D c d).length (intsV (cycP D c d))) (hb : Below w3.heap.size w3 w') => X3.out.take HD.out (by rw [HD.out, HM.out]; omega) ho hb)
              have HI3 := Lib.hid ((HI2.out.below X3.out.2).more X3.out.2.size)
              have m0 : ¬ (m : Int) = 0 := by omega
              have m1 : ((m : Int) == 0) = false := by simpa using hm0
              have m2 : (d : Int) < (m : Int) := by omega
              go_wp2_with fail
              refine (HWB.out _ _ c d hlt HD.out (by omega) _ HI3.out HX3.out).mono ?_
              rintro e w4 ⟨v4, rfl, o4, b4⟩
              have X4 := Lib.hid (HT.out _ _ o4 b4)
              clear o4 b4
              go_wp2_with fail
              go_roundw
              case rel => exact ⟨c + 1, by go_num, by omega, X4.out⟩
              case measure => simp [intOf]; omega
            · have HP := Lib.hid (X3.out.pass (by rw [HD.out, HM.out]; omega))
              have m0 : ¬ (m : Int) = 0 := by omega
              have m1 : ((m : Int) == 0) = false := by simpa using hm0
              have m2 : ¬ (d : Int) < (m : Int) := by omega
              go_wp2_with fail
              go_roundw
              case rel => exact ⟨c + 1, by go_num, by omega, by rw [← HM.out] at *; exact HP.out⟩
              case measure => simp [intOf]; omega
      · obtain rfl : c = 128 := by omega
        have HE := Lib.hid (show NewI (cycP D (bestTo D 128).2.toNat (bestTo D 128).1) w (.returned (.slice As m cs)) wr from ⟨_, rfl, by rw [cyc_len, HM.out]; rw [← HM.out]; have := X1.out.1; rw [HM.out] at this ⊢; exact own_less this HB2.out.size, HB2.out.trans (X1.out.2.mono HB2.out.size)⟩)
        go_wp2_with fail
        go_ret
        exact HE.out
end Go.Proofs.YtcmlnokfjbglaaaDoor
end

section
namespace Go.Proofs.YtcmlnokfjbglaaaDoor
open Go.ChangeShapes Go.WideShapes Go.ChangeAt Go.RowKit
set_option linter.unusedVariables false
set_option maxRecDepth 20000

/-- The verdict on a list. -/
def judgeG (D : List Dep) : Verd := if canO D = true then ⟨1, ranksO D, []⟩ else ⟨2, [], cycG D⟩
theorem judge_safe {D : List Dep} (k : canO D = true) : judgeG D = ⟨1, ranksO D, []⟩ := if_pos k
theorem judge_cyc {D : List Dep} (k : canO D = false) : judgeG D = ⟨2, [], cycG D⟩ := if_neg (by simp [k])
theorem judge_verd {W H : Int} {L P : List Int} (h : tableG W H L P = true) : verdG W H L P = judgeG (depG W H L P) := if_pos h
theorem judge_len (D : List Dep) : (judgeG D).ranks.length ≤ 128 ∧ (judgeG D).cycle.length ≤ 128 := by
  have h1 := ranksO_len D
  have h2 := cycG_le D
  unfold judgeG
  split <;> exact ⟨by simp; try omega, by simp; try omega⟩
set_option maxHeartbeats 1600000 in
theorem implJudge (A : Option Addr) (n cap : Nat) (D : List Dep) (w : World) (h : DepAt w w.heap.size A n D) (hn : n ≤ 1000000000) :
    Calls Tryd.prog 16 #[.slice A n cap] w (NewV (judgeG D) w) := by
  have K0 := Lib.hid (Blk.new w 36 #[.int .i64 0, .slice none 0 0, .slice none 0 0])
  have G0 := Lib.hid (gb_alloc (gb_refl w none) (.cells #[.int .i64 0, .slice none 0 0, .slice none 0 0] 36))
  have HD0 := Lib.hid ((h.below (gb_below_none G0.out (Nat.le_refl _))).more G0.out.size)
  have HOR := Lib.hid (fun w h => implOrderOf A n cap D w h hn)
  have HSC := Lib.hid (fun w h => implShortest A n cap D w h hn)
  have HV1 := Lib.hid (fun k => judge_safe (D := D) k)
  have HV2 := Lib.hid (fun k => judge_cyc (D := D) k)
  obtain ⟨vg, hvg⟩ : ∃ vg, judgeG D = vg := ⟨_, rfl⟩
  rw [hvg] at HV1 HV2 ⊢
  clear h hvg
  go_enter Tryd.func16, Tryd.ntmps16
  go_wp2_with fail
  refine (HOR.out _ HD0.out).mono ?_
  rintro e w3 ⟨vr, rfl, orr, br⟩
  obtain ⟨Ar, cr, rfl, _⟩ := own_form orr
  obtain ⟨nr, hnr⟩ : ∃ nr, (ranksO D).length = nr := ⟨_, rfl⟩
  have HNR := Lib.hid hnr
  rw [hnr] at orr ⊢
  clear hnr
  have K3 := Lib.hid (K0.out.grown (gb_of_below br none) (by simp))
  have G3 := Lib.hid (gb_trans G0.out (gb_of_below br none))
  have HD3 := Lib.hid ((HD0.out.below br).more br.size)
  have OR := Lib.hid (own_less orr G0.out.size)
  have e0 : w3.cell? ⟨w.heap.size, 0, none⟩ = some (.int .i64 0) := K3.out.cell 0
  have e1 : w3.cell? ⟨w.heap.size, 1, none⟩ = some (.slice none 0 0) := K3.out.cell 1
  have e2 : w3.cell? ⟨w.heap.size, 2, none⟩ = some (.slice none 0 0) := K3.out.cell 2
  have f0 := K3.out.frozen 0
  have f1 := K3.out.frozen 1
  have f2 := K3.out.frozen 2
  clear orr br
  cases hk : canO D with
  | true =>
    have HF := Lib.hid (HV1.out hk)
    clear hk
    go_wp2_with fail
    have hb := box_cells (c := 1) (vr := .slice Ar nr cr) (vc := .slice none 0 0) K3.out
    have r0 := hb.cell 0
    have r1 := hb.cell 1
    have r2 := hb.cell 2
    refine bodyPost_ret (v := .agg #[.int .i64 1, .slice Ar nr cr, .slice none 0 0]) (by simp [results, Tryd.results16, go_sem, r0, r1, r2]) rfl ⟨_, _, by rw [HF.out], ⟨?_, ?_, apart_none _⟩, box_put K3.out G3.out (Nat.le_refl _)⟩
    · rw [HF.out]; simp only [HNR.out]; exact box_row K3.out OR.out
    · rw [HF.out]; exact World.ownsRow_nil _ _ _ _
  | false =>
    have HF := Lib.hid (HV2.out hk)
    clear hk e0 e1 e2 f0 f1 f2
    go_wp2_with fail
    refine (HSC.out _ HD3.out).mono ?_
    rintro e w4 ⟨vc, rfl, oc, bc⟩
    obtain ⟨Ac, cc, rfl, _⟩ := own_form oc
    obtain ⟨nc, hnc⟩ : ∃ nc, (cycG D).length = nc := ⟨_, rfl⟩
    have HNC := Lib.hid hnc
    rw [hnc] at oc ⊢
    clear hnc
    have K4 := Lib.hid (K3.out.grown (gb_of_below bc none) (by simp))
    have G4 := Lib.hid (gb_trans G3.out (gb_of_below bc none))
    have OC := Lib.hid (own_less oc G3.out.size)
    have e0 : w4.cell? ⟨w.heap.size, 0, none⟩ = some (.int .i64 0) := K4.out.cell 0
    have e1 : w4.cell? ⟨w.heap.size, 1, none⟩ = some (.slice none 0 0) := K4.out.cell 1
    have e2 : w4.cell? ⟨w.heap.size, 2, none⟩ = some (.slice none 0 0) := K4.out.cell 2
    have f0 := K4.out.frozen 0
    have f1 := K4.out.frozen 1
    have f2 := K4.out.frozen 2
    clear oc bc
    go_wp2_with fail
    have hb := box_cells (c := 2) (vr := .slice none 0 0) (vc := .slice Ac nc cc) K4.out
    have r0 := hb.cell 0
    have r1 := hb.cell 1
    have r2 := hb.cell 2
    refine bodyPost_ret (v := .agg #[.int .i64 2, .slice none 0 0, .slice Ac nc cc]) (by simp [results, Tryd.results16, go_sem, r0, r1, r2]) rfl ⟨_, _, by rw [HF.out], ⟨?_, ?_, none_apart _⟩, box_put K4.out G4.out (Nat.le_refl _)⟩
    · rw [HF.out]; exact World.ownsRow_nil _ _ _ _
    · rw [HF.out]; simp only [HNC.out]; exact box_row K4.out OC.out
end Go.Proofs.YtcmlnokfjbglaaaDoor
end

section
namespace Go.Proofs.YtcmlnokfjbglaaaDoor
open Go.ChangeShapes Go.WideShapes Go.ChangeAt Go.RowKit
set_option linter.unusedVariables false
set_option maxRecDepth 20000

theorem err_typeOf (v : Value) (w : World) : (Extern.ReflectliteType.typeOf #[.iface 137 v]).run Tryd.prog w = .ok (.iface 96 (.agg #[.pointer (some ⟨Tryd.prog.globals.size, 137, none⟩)])) w := by kernel_rfl
theorem err_has : (Extern.find Tryd.f93).isSome = true := by kernel_rfl
noncomputable def errCmp : Array Value → Sem Value := (Extern.find Tryd.f93).get err_has
theorem err_comparable (w : World) : (errCmp #[.agg #[.pointer (some ⟨Tryd.prog.globals.size, 137, none⟩)]]).run Tryd.prog w = .ok (.bool true) w := by kernel_rfl
theorem err_find : Extern.find Tryd.f93 = some errCmp := (Option.some_get err_has).symm
theorem err_comp : (Tryd.prog.info? 137).map (·.comparable) = some true := by kernel_rfl
theorem err_size : (Tryd.prog.info? 162).map (·.size) = some 1 := by kernel_rfl

/-- errors.Is(nil, x). -/
theorem is_nil (p : Value) (w : World) : Calls Tryd.prog 15 #[.nilIface, .iface 137 p] w fun e w' => e = .returned (.bool false) ∧ w' = w := by
  have hn := run_eql_iface_nil_left (P := Tryd.prog) w 137 p Tryd.underlying49
  go_enter Tryd.func15, Tryd.ntmps15
  go_wp2_with fail
  go_ret
  exact ⟨rfl, rfl⟩
/-- errors.is(x, x, true), x a pointer to an errors.errorString. -/
theorem is_self (a : Addr) (w : World) : Calls Tryd.prog 29 #[.iface 137 (.pointer (some a)), .iface 137 (.pointer (some a)), .bool true] w fun e w' => e = .returned (.bool true) ∧ w' = w := by
  obtain ⟨i, hi, hcmp⟩ := Option.map_eq_some_iff.1 err_comp
  obtain ⟨j, hj, hjs⟩ := Option.map_eq_some_iff.1 err_size
  have heq := run_eql_iface_ptr_same (P := Tryd.prog) w a Tryd.underlying49 Tryd.underlying137 hi hcmp hj
  go_enter Tryd.func29, Tryd.ntmps29
  go_wp2_with fail
  refine wp_loop_rounds 1 ?_
  rw [rounds_succ]
  go_wp2_with fail
  go_ret
  exact ⟨rfl, rfl⟩
/-- errors.Is(x, x). -/
theorem is_same (a : Addr) (w : World) : Calls Tryd.prog 15 #[.iface 137 (.pointer (some a)), .iface 137 (.pointer (some a))] w fun e w' => e = .returned (.bool true) ∧ w' = w := by
  have h8 := @run_callFunc_extern Tryd.prog 28 _ Extern.ReflectliteType.typeOf Tryd.func28 (by kernel_rfl) (by kernel_rfl) (by kernel_rfl) (by kernel_rfl)
  have h32 := @run_callFunc_extern Tryd.prog 93 _ errCmp Tryd.func93 (by kernel_rfl) (by kernel_rfl) (by kernel_rfl) err_find
  have tT := err_typeOf
  have cT := err_comparable
  obtain ⟨G, hG⟩ : ∃ G, Tryd.prog.globals.size = G := ⟨_, rfl⟩
  rw [hG] at cT
  simp only [hG] at tT
  clear hG
  have mR : ∀ (k : Nat) (v : Value) (w : World), (Go.method (k + 1) 96 v "Comparable").run Tryd.prog w = .ok (93, v) w := fun k v w => by kernel_rfl
  have HS := Lib.hid (fun w => is_self a w)
  go_enter Tryd.func15, Tryd.ntmps15
  go_wp2_with fail
  refine (HS.out _).mono ?_
  rintro e w1 ⟨rfl, rfl⟩
  go_wp2_with fail
  go_ret
  exact ⟨rfl, rfl⟩
end Go.Proofs.YtcmlnokfjbglaaaDoor
end

section
namespace Go.Proofs.YtcmlnokfjbglaaaDoor
open Go.ChangeShapes Go.WideShapes Go.ChangeAt Go.RowKit
set_option linter.unusedVariables false
set_option maxRecDepth 20000

set_option maxHeartbeats 1600000 in
theorem implCheck (W H : Int) (A A2 : Option Addr) (n cap n2 c2 : Nat) (L P : List Int) (hL : WfL L) (w : World) (h : IntAt w w.heap.size A n L) (h2 : IntAt w w.heap.size A2 n2 P) (hn : n ≤ 1000000000) (hn2 : n2 ≤ 1000000000) (hp : Pre w) :
    Calls Tryd.prog 6 #[.agg #[.int .i64 W, .int .i64 H, .slice A n cap], .agg #[.slice A2 n2 c2]] w (NewV (verdG W H L P) w) := by
  obtain ⟨a, he⟩ := hp.at
  have X0 := Lib.hid (vdAt_start (W := W) (H := H) (A := A) (A2 := A2) (n := n) (cap := cap) (n2 := n2) (c2 := c2) #[.int .i64 0, .slice none 0 0, .slice none 0 0] w)
  have HT := Lib.hid ((h.none (Nat.le_refl _) X0.out.g).more X0.out.g.size)
  have HT2 := Lib.hid ((h2.none (Nat.le_refl _) X0.out.g).more X0.out.g.size)
  have HE := Lib.hid (he.gb X0.out.g)
  have HDV := Lib.hid (fun w h h2 he => implDov W H A A2 n cap n2 c2 L P a hL w h h2 hn hn2 he)
  have HDL := Lib.hid (depG_len (W := W) (H := H) (L := L) (P := P))
  clear h h2 he hp hL
  cases ht : tableG W H L P with
  | false =>
    have HF := Lib.hid (verd_bad ht)
    rw [ht, depG_no ht] at HDV
    have HIS := Lib.hid (fun w => is_same a w)
    clear ht
    go_enter Tryd.func6, Tryd.ntmps6
    go_wp2_with fail
    refine (HDV.out _ HT.out HT2.out HE.out).mono ?_
    rintro e w1 ⟨vd, rfl, od, bd⟩
    obtain ⟨Ad, cd, rfl, _⟩ := own_form od
    have X1 := Lib.hid (X0.out.gb (gb_of_below bd none))
    have E1 := Lib.hid (HE.out.below bd)
    have c0 := E1.out.cell
    simp only [show errV false a = .iface 137 (.pointer (some a)) from rfl]
    clear od bd
    go_wp2_with fail
    refine (HIS.out _).mono ?_
    rintro e w2 ⟨rfl, rfl⟩
    have e0 : w2.cell? ⟨w.heap.size + 2, 0, none⟩ = some (.int .i64 0) := X1.out.v.cell 0
    have e1 : w2.cell? ⟨w.heap.size + 2, 1, none⟩ = some (.slice none 0 0) := X1.out.v.cell 1
    have e2 : w2.cell? ⟨w.heap.size + 2, 2, none⟩ = some (.slice none 0 0) := X1.out.v.cell 2
    have f0 := X1.out.v.frozen 0
    have f1 := X1.out.v.frozen 1
    have f2 := X1.out.v.frozen 2
    clear c0
    go_wp2_with fail
    have hb := vd_cells (c := 0) (vr := .slice none 0 0) (vc := .slice none 0 0) X1.out
    have r0 := hb.cell 0
    have r1 := hb.cell 1
    have r2 := hb.cell 2
    refine bodyPost_ret (v := .agg #[.int .i64 0, .slice none 0 0, .slice none 0 0]) (by simp [results, Tryd.results6, go_sem, r0, r1, r2]) rfl ⟨_, _, by rw [HF.out], ⟨?_, ?_, none_apart _⟩, vd_put X1.out⟩
    · rw [HF.out]; exact World.ownsRow_nil _ _ _ _
    · rw [HF.out]; exact World.ownsRow_nil _ _ _ _
  | true =>
    rw [ht] at HDV
    have HV := Lib.hid (judge_verd ht)
    obtain ⟨D, hD⟩ : ∃ D, depG W H L P = D := ⟨_, rfl⟩
    rw [hD] at HDV HDL HV
    have HJ := Lib.hid (fun A n cap w h hn => implJudge A n cap D w h hn)
    obtain ⟨vg, hvg⟩ : ∃ vg, judgeG D = vg := ⟨_, rfl⟩
    rw [hvg] at HJ HV
    rw [HV.out]
    have HIS := Lib.hid (fun w => is_nil (.pointer (some a)) w)
    clear ht hD hvg HV
    go_enter Tryd.func6, Tryd.ntmps6
    go_wp2_with fail
    refine (HDV.out _ HT.out HT2.out HE.out).mono ?_
    rintro e w1 ⟨vd, rfl, od, bd⟩
    obtain ⟨Ad, cd, rfl, _⟩ := own_form od
    obtain ⟨nd, hnd⟩ : ∃ nd, D.length = nd := ⟨_, rfl⟩
    rw [hnd] at od HDL
    have HDA := Lib.hid (depAt_own (B := w1.heap.size) od (Nat.le_refl _))
    rw [hnd]
    have X1 := Lib.hid (X0.out.gb (gb_of_below bd none))
    have E1 := Lib.hid (HE.out.below bd)
    have c0 := E1.out.cell
    simp only [show errV true a = .nilIface from rfl]
    clear od bd hnd
    go_wp2_with fail
    refine (HIS.out _).mono ?_
    rintro e w2 ⟨rfl, rfl⟩
    clear c0
    go_wp2_with fail
    refine (HJ.out Ad nd cd _ HDA.out (by have := HDL.out; omega)).mono ?_
    rintro e w3 ⟨vr, vc, rfl, o3, b3⟩
    have X3 := Lib.hid (X1.out.gb (gb_of_below b3 none))
    obtain ⟨Ar, cr, rfl, _⟩ := own_form o3.r
    obtain ⟨Ac, cc, rfl, _⟩ := own_form o3.c
    obtain ⟨nr, hnr⟩ : ∃ nr, vg.ranks.length = nr := ⟨_, rfl⟩
    obtain ⟨nc, hnc⟩ : ∃ nc, vg.cycle.length = nc := ⟨_, rfl⟩
    have HNR := Lib.hid hnr
    have HNC := Lib.hid hnc
    obtain ⟨z, hz⟩ : ∃ z, vg.code = z := ⟨_, rfl⟩
    have HZ := Lib.hid hz
    rw [hnr, hnc] at o3
    rw [hnr, hnc, hz]
    have O3 := Lib.hid (o3.less (show w.heap.size ≤ w2.heap.size by have := X1.out.g.size; omega))
    have e0 : w3.cell? ⟨w.heap.size + 2, 0, none⟩ = some (.int .i64 0) := X3.out.v.cell 0
    have e1 : w3.cell? ⟨w.heap.size + 2, 1, none⟩ = some (.slice none 0 0) := X3.out.v.cell 1
    have e2 : w3.cell? ⟨w.heap.size + 2, 2, none⟩ = some (.slice none 0 0) := X3.out.v.cell 2
    have f0 := X3.out.v.frozen 0
    have f1 := X3.out.v.frozen 1
    have f2 := X3.out.v.frozen 2
    clear o3 b3 hnr hnc hz
    go_wp2_with fail
    have hb := vd_cells (c := z) (vr := .slice Ar nr cr) (vc := .slice Ac nc cc) X3.out
    have r0 := hb.cell 0
    have r1 := hb.cell 1
    have r2 := hb.cell 2
    refine bodyPost_ret (v := .agg #[.int .i64 z, .slice Ar nr cr, .slice Ac nc cc]) (by simp [results, Tryd.results6, go_sem, r0, r1, r2]) rfl ⟨_, _, by rw [HZ.out], ⟨?_, ?_, O3.out.ap⟩, vd_put X3.out⟩
    · simp only [HNR.out]; exact vd_row X3.out O3.out.r
    · simp only [HNC.out]; exact vd_row X3.out O3.out.c
end Go.Proofs.YtcmlnokfjbglaaaDoor
end

section
namespace Go.Proofs.YtcmlnokfjbglaaaDoor
open Go.ChangeShapes Go.WideShapes Go.ChangeAt Go.RowKit
set_option linter.unusedVariables false

def clB (W H : Int) (A AP AQ : Option Addr) (n cap nP cP nQ cQ : Nat) (w : World) : World := (w.alloc (.cells (meshC W H A n cap) 28)).alloc (.cells #[.slice AP nP cP, .slice AQ nQ cQ] 32)
/-- The boxes as they are. -/
structure ClAt (W H : Int) (A AP AQ : Option Addr) (n cap nP cP nQ cQ : Nat) (w wr : World) : Prop where
  m : Blk wr w.heap.size 28 (meshC W H A n cap)
  t : Blk wr (w.heap.size + 1) 32 #[.slice AP nP cP, .slice AQ nQ cQ]
  g : w.grownBy wr none
section
variable {W H : Int} {A AP AQ : Option Addr} {n cap nP cP nQ cQ : Nat} {w wr w' : World}
theorem clAt_start : ClAt W H A AP AQ n cap nP cP nQ cQ w (clB W H A AP AQ n cap nP cP nQ cQ w) := by
  have ht := Blk.new (w.alloc (.cells (meshC W H A n cap) 28)) 32 #[.slice AP nP cP, .slice AQ nQ cQ]
  rw [alloc_size] at ht
  exact ⟨(Blk.new w 28 _).alloc _, ht, gb_alloc (gb_alloc (gb_refl w none) _) _⟩
theorem ClAt.gb (h : ClAt W H A AP AQ n cap nP cP nQ cQ w wr) (hg : wr.grownBy w' none) : ClAt W H A AP AQ n cap nP cP nQ cQ w w' := ⟨h.m.grown hg (by simp), h.t.grown hg (by simp), gb_trans h.g hg⟩
theorem ClAt.bl (h : ClAt W H A AP AQ n cap nP cP nQ cQ w wr) (hb : Below wr.heap.size wr w') : ClAt W H A AP AQ n cap nP cP nQ cQ w w' := h.gb (gb_of_below hb none)
theorem ClAt.at (h : ClAt W H A AP AQ n cap nP cP nQ cQ w wr) {B : Option Addr} {k : Nat} {M : List Int} (hi : IntAt w w.heap.size B k M) : IntAt wr wr.heap.size B k M := (hi.none (Nat.le_refl _) h.g).more h.g.size
theorem ClAt.sz (h : ClAt W H A AP AQ n cap nP cP nQ cQ w wr) : w.heap.size + 2 ≤ wr.heap.size := by have := h.t.lt; omega
end
end Go.Proofs.YtcmlnokfjbglaaaDoor
end

section
namespace Go.Proofs.YtcmlnokfjbglaaaDoor
open Go.ChangeShapes Go.WideShapes Go.ChangeAt Go.RowKit
set_option linter.unusedVariables false
set_option maxRecDepth 20000

theorem implTableOkV (W H : Int) (A A2 : Option Addr) (n cap n2 c2 : Nat) (L P : List Int) (b : Bool) (hb : tableG W H L P = b) (hL : WfL L) (w : World) (h : IntAt w w.heap.size A n L) (h2 : IntAt w w.heap.size A2 n2 P) (hn : n ≤ 1000000000) (hn2 : n2 ≤ 1000000000) :
    Calls Tryd.prog 27 #[.agg #[.int .i64 W, .int .i64 H, .slice A n cap], .agg #[.slice A2 n2 c2]] w (RetB b w) := hb ▸ implTableOk W H A A2 n cap n2 c2 L P hL w h h2 hn hn2
theorem implClassesOk (W H : Int) (A AP AQ : Option Addr) (n cap nP cP nQ cQ : Nat) (L P Q : List Int) (hL : WfL L) (w : World) (h : IntAt w w.heap.size A n L) (hP : IntAt w w.heap.size AP nP P) (hQ : IntAt w w.heap.size AQ nQ Q) (hn : n ≤ 1000000000) (hnP : nP ≤ 1000000000) (hnQ : nQ ≤ 1000000000) :
    Calls Tryd.prog 17 #[.agg #[.int .i64 W, .int .i64 H, .slice A n cap], .agg #[.slice AP nP cP, .slice AQ nQ cQ]] w (RetB (clsOk W H L P Q) w) := by
  have X0 := Lib.hid (clAt_start (W := W) (H := H) (A := A) (AP := AP) (AQ := AQ) (n := n) (cap := cap) (nP := nP) (cP := cP) (nQ := nQ) (cQ := cQ) (w := w))
  have HI := Lib.hid h
  have HP := Lib.hid hP
  have HQ := Lib.hid hQ
  cases ha : tableG W H L P with
  | false =>
    have HA := Lib.hid (implTableOkV W H A AP n cap nP cP L P false ha hL _ (X0.out.at h) (X0.out.at hP) hn hnP)
    have HR := Lib.hid (clsOk_no1 (Q := Q) ha)
    clear h hP hQ ha hL
    go_enter Tryd.func17, Tryd.ntmps17
    go_wp2_with fail
    refine HA.out.mono ?_
    rintro e w1 ⟨rfl, hg⟩
    have X1 := Lib.hid (X0.out.gb hg)
    clear hg
    go_wp2_with fail
    go_ret
    exact ⟨ret_bool HR.out.symm, X1.out.g⟩
  | true =>
    obtain ⟨b, hb⟩ : ∃ b, tableG W H L Q = b := ⟨_, rfl⟩
    have HA := Lib.hid (implTableOkV W H A AP n cap nP cP L P true ha hL _ (X0.out.at h) (X0.out.at hP) hn hnP)
    have HB := Lib.hid (fun w h hQ => implTableOkV W H A AQ n cap nQ cQ L Q b hb hL w h hQ hn hnQ)
    have HR := Lib.hid (show clsOk W H L P Q = b by rw [clsOk, ha, hb]; rfl)
    clear h hP hQ ha hb hL
    go_enter Tryd.func17, Tryd.ntmps17
    go_wp2_with fail
    refine HA.out.mono ?_
    rintro e w1 ⟨rfl, hg⟩
    have X1 := Lib.hid (X0.out.gb hg)
    have m0 : w1.cell? ⟨w.heap.size, 0, none⟩ = some (.int .i64 W) := X1.out.m.cell 0
    have m1 : w1.cell? ⟨w.heap.size, 1, none⟩ = some (.int .i64 H) := X1.out.m.cell 1
    have m2 : w1.cell? ⟨w.heap.size, 2, none⟩ = some (.slice A n cap) := X1.out.m.cell 2
    have t1 : w1.cell? ⟨w.heap.size + 1, 1, none⟩ = some (.slice AQ nQ cQ) := X1.out.t.cell 1
    clear hg
    go_wp2_with fail
    refine (HB.out _ (X1.out.at HI.out) (X1.out.at HQ.out)).mono ?_
    rintro e w2 ⟨rfl, hg⟩
    have X2 := Lib.hid (X1.out.gb hg)
    clear hg m0 m1 m2 t1
    go_wp2_with fail
    go_ret
    exact ⟨ret_bool HR.out.symm, X2.out.g⟩
theorem implClassesOkV (W H : Int) (A AP AQ : Option Addr) (n cap nP cP nQ cQ : Nat) (L P Q : List Int) (hL : WfL L) (b : Bool) (hb : clsOk W H L P Q = b) (w : World) (h : IntAt w w.heap.size A n L) (hP : IntAt w w.heap.size AP nP P) (hQ : IntAt w w.heap.size AQ nQ Q) (hn : n ≤ 1000000000) (hnP : nP ≤ 1000000000) (hnQ : nQ ≤ 1000000000) :
    Calls Tryd.prog 17 #[.agg #[.int .i64 W, .int .i64 H, .slice A n cap], .agg #[.slice AP nP cP, .slice AQ nQ cQ]] w (RetB b w) := hb ▸ implClassesOk W H A AP AQ n cap nP cP nQ cQ L P Q hL w h hP hQ hn hnP hnQ
end Go.Proofs.YtcmlnokfjbglaaaDoor
end

section
namespace Go.Proofs.YtcmlnokfjbglaaaDoor
open Go.ChangeShapes Go.WideShapes Go.ChangeAt Go.RowKit
set_option linter.unusedVariables false

theorem depAt_news {w : World} {B n b off : Nat} {D : List Dep} (h : DepAt w B (some ⟨b, off, none⟩) n D) : ∀ j u, (depV D)[j]? = some u → w.cell? ((⟨b, off, none⟩ : Addr).add j) = some u := fun j u hu => by
  have hj := (List.getElem?_eq_some_iff.1 hu).1
  rw [depV_length] at hj
  have hl := h.1
  obtain ⟨b', off', hA, _, hc⟩ := h.2 (by omega)
  obtain ⟨rfl, rfl⟩ : b = b' ∧ off = off' := by injection hA with h1; injection h1 with h2 h3; exact ⟨h2, h3⟩
  obtain ⟨h1, h2⟩ := depV_at D (j / 2) (by omega)
  obtain ⟨c1, c2⟩ := hc (j / 2) (by omega)
  rw [Addr.add_lit]
  rcases (show j = j / 2 * 2 ∨ j = j / 2 * 2 + 1 by omega) with e | e
  · rw [e, h1] at hu
    rw [e]
    exact c1.trans hu
  · rw [e, h2] at hu
    rw [e]
    exact c2.trans hu
theorem src_deps {w : World} {B n : Nat} {A : Option Addr} {D : List Dep} (h : DepAt w B A n D) (c : Nat) : Src Tryd.prog 2 42 (.slice A n c) n (depV D) w := by
  have hl := h.1
  rcases Nat.eq_zero_or_pos n with h0 | h0
  · subst h0
    obtain rfl : D = [] := List.eq_nil_of_length_eq_zero hl
    cases A with
    | none => exact Src.ofNil w Tryd.underlying42 c
    | some a => exact Src.ofSlice w Tryd.underlying42 a 0 c [] rfl (fun j u hu => by cases hu) (fun u hu => by cases hu)
  · obtain ⟨b, off, rfl, _⟩ := h.2 h0
    exact Src.ofSlice w Tryd.underlying42 _ n c (depV D) (by rw [depV_length, hl]) (depAt_news h) (depV_one1 D)
theorem run_app_nothingD (w : World) (ty : TypeId) (base : Option Addr) (sLen sCap : Nat) (hle : sLen ≤ sCap) (x : Value) (i0 : TypeInfo) (hi : Tryd.prog.info? 62 = some i0) (h1 : i0.size = 2) (hs : Src Tryd.prog 2 42 x 0 [] w) :
    (Builtin.append_ #[42, 42] ty #[.slice base sLen sCap, x]).run Tryd.prog w = .ok (.slice base sLen sCap) w := by
  have hc := hs.cells
  rw [← h1] at hc
  cases base <;> simp [Builtin.append_, run_underlying Tryd.underlying42, sizeOf, typeInfo, hi, hs.len, hle, hc, storeCells]
theorem run_app_ownD (w : World) (ty : TypeId) (i0 : TypeInfo) (hi : Tryd.prog.info? 62 = some i0) (hz0 : i0.zero = some (.agg #[.int .i64 0, .int .i64 0])) (hz1 : i0.size = 2) (hz2 : i0.bytes = 16)
    (base n m c B : Nat) (A : Option Addr) (X L : List Dep) (v : Value) (hown : w.ownsRow base 62 2 v n (depV X)) (h : DepAt w B A m L) (hm : n + m ≤ 4000000001) (hb : base ≤ w.heap.size) :
    ∃ v' w', (Builtin.append_ #[42, 42] ty #[v, .slice A m c]).run Tryd.prog w = .ok v' w' ∧ w'.ownsRow base 62 2 v' (n + m) (depV (X ++ L)) ∧ w.grownBy w' v.ownBlock := by
  have hl := h.1
  rcases Nat.eq_zero_or_pos m with h0 | h0
  · subst h0
    obtain rfl : L = [] := List.eq_nil_of_length_eq_zero hl
    obtain ⟨A', c', rfl, _⟩ := own_form hown
    exact ⟨_, _, run_app_nothingD w ty A' n c' (own_cap hown).1 _ i0 hi hz1 (src_deps h c), by rw [List.append_nil]; exact hown, gb_refl _ _⟩
  · obtain ⟨b, off, rfl, _⟩ := h.2 h0
    obtain ⟨v', w', h1, h2, h3, _⟩ := run_append_own (P := Tryd.prog) w base 42 ty 62 i0 (.agg #[.int .i64 0, .int .i64 0]) 2 16 Tryd.underlying42 hi hz0 hz1 hz2 rfl (by decide) v n (depV X) hown ⟨b, off, none⟩ m c (depV L)
      (by rw [depV_length, hl]) (depAt_news h) (depV_one1 L) (by unfold maxLen; omega) (by omega) hb
    exact ⟨v', w', h1, by rw [depV_append]; exact h2, h3⟩
theorem wpList_app_ownD {ops : Array Oper} {rest : List Oper} {o : Oper} {a : Act} {Q : Exit → Act → World → Prop} (w : World) (hgd : o.guard = none) (s x : Operand)
    (ho : o.op = .call { callee := .builtin .append, args := #[s, x], argTypes := #[42, 42] })
    (i0 : TypeInfo) (hi : Tryd.prog.info? 62 = some i0) (hz0 : i0.zero = some (.agg #[.int .i64 0, .int .i64 0])) (hz1 : i0.size = 2) (hz2 : i0.bytes = 16)
    (base n m c B : Nat) (A : Option Addr) (X L : List Dep) (v : Value) (hs : a.eval s = v) (hx : a.eval x = .slice A m c) (hown : w.ownsRow base 62 2 v n (depV X)) (h : DepAt w B A m L) (hm : n + m ≤ 4000000001) (hb : base ≤ w.heap.size)
    (hk : ∀ v' w', w'.ownsRow base 62 2 v' (n + m) (depV (X ++ L)) → w.grownBy w' v.ownBlock → wpList Tryd.prog ops Q rest (a.put o.dst v') w') : wpList Tryd.prog ops Q (o :: rest) a w := by
  refine wpList_plain hgd fun K hK => ?_
  obtain ⟨v', w', hr, h2, h3⟩ := run_app_ownD w o.type i0 hi hz0 hz1 hz2 base n m c B A X L v hown h hm hb
  unfold Oper.wp execOp
  simp only [ho, resolve, invoke, builtin, Sem.run_bind, Sem.run_pure, Result.andThen_ok, List.map_toArray, List.map_cons, List.map_nil, hs, hx, hr]
  exact hK _ _ (hk v' w' h2 h3)
/-- The same onto a list that is not nil: nor is what it becomes. -/
theorem wpList_app_ownN {ops : Array Oper} {rest : List Oper} {o : Oper} {a : Act} {Q : Exit → Act → World → Prop} (w : World) (hgd : o.guard = none) (s x : Operand)
    (ho : o.op = .call { callee := .builtin .append, args := #[s, x], argTypes := #[42, 42] })
    (i0 : TypeInfo) (hi : Tryd.prog.info? 62 = some i0) (hz0 : i0.zero = some (.agg #[.int .i64 0, .int .i64 0])) (hz1 : i0.size = 2) (hz2 : i0.bytes = 16)
    (base n m c B g c0 : Nat) (A : Option Addr) (X L : List Dep) (hs : a.eval s = .slice (some ⟨g, 0, none⟩) n c0) (hx : a.eval x = .slice A m c) (hown : w.ownsRow base 62 2 (.slice (some ⟨g, 0, none⟩) n c0) n (depV X)) (h : DepAt w B A m L) (hm : n + m ≤ 4000000001) (hb : base ≤ w.heap.size)
    (hk : ∀ g' c' w', w'.ownsRow base 62 2 (.slice (some ⟨g', 0, none⟩) (n + m) c') (n + m) (depV (X ++ L)) → w.grownBy w' (some g) → wpList Tryd.prog ops Q rest (a.put o.dst (.slice (some ⟨g', 0, none⟩) (n + m) c')) w') : wpList Tryd.prog ops Q (o :: rest) a w := by
  refine wpList_plain hgd fun K hK => ?_
  have key : ∃ g' c' w', (Builtin.append_ #[42, 42] o.type #[.slice (some ⟨g, 0, none⟩) n c0, .slice A m c]).run Tryd.prog w = .ok (.slice (some ⟨g', 0, none⟩) (n + m) c') w' ∧ w'.ownsRow base 62 2 (.slice (some ⟨g', 0, none⟩) (n + m) c') (n + m) (depV (X ++ L)) ∧ w.grownBy w' (some g) := by
    rcases Nat.eq_zero_or_pos m with h0 | h0
    · subst h0
      obtain rfl : L = [] := List.eq_nil_of_length_eq_zero h.1
      exact ⟨g, c0, w, run_app_nothingD w o.type _ n c0 (own_cap hown).1 _ i0 hi hz1 (src_deps h c), by rw [List.append_nil]; exact hown, gb_refl _ _⟩
    · obtain ⟨v', w', hr, h2, h3⟩ := run_app_ownD w o.type i0 hi hz0 hz1 hz2 base n m c B A X L _ hown h hm hb
      obtain ⟨A', c', rfl, hA⟩ := own_form h2
      obtain ⟨g', rfl⟩ := hA (by omega)
      exact ⟨g', c', w', hr, h2, h3⟩
  obtain ⟨g', c', w', hr, h2, h3⟩ := key
  unfold Oper.wp execOp
  simp only [ho, resolve, invoke, builtin, Sem.run_bind, Sem.run_pure, Result.andThen_ok, List.map_toArray, List.map_cons, List.map_nil, hs, hx, hr]
  exact hK _ _ (hk g' c' w' h2 h3)
/-- An empty row of the call's own. -/
theorem own_madeD (w : World) {base : Nat} (hb : base ≤ w.heap.size) : (w.alloc (.cells #[] 62)).ownsRow base 62 2 (.slice (some ⟨w.heap.size, 0, none⟩) 0 0) 0 (depV []) :=
  World.ownsRow_made (base := base) (e := 62) (size := 2) w #[] 0 hb (by decide) rfl
theorem own_emptyD {D : List Dep} (h : D = []) {w wr : World} (hb : Below w.heap.size w wr) : (wr.alloc (.cells #[] 62)).ownsRow w.heap.size 62 2 (.slice (some ⟨wr.heap.size, 0, none⟩) 0 0) D.length (depV D) ∧ Below w.heap.size w (wr.alloc (.cells #[] 62)) := by
  subst h
  exact ⟨own_madeD wr hb.size, hb.alloc hb.size _⟩
/-- The first k elements of a slice, and those behind. -/
theorem DepAt.take {w : World} {B n : Nat} {A : Option Addr} {D : List Dep} (h : DepAt w B A n D) {k : Nat} (hk : k ≤ n) : DepAt w B A k (D.take k) := ⟨by have := h.1; simp; omega, fun h0 => by
  obtain ⟨b, off, hA, hb, hc⟩ := h.2 (by omega)
  refine ⟨b, off, hA, hb, fun j hj => ?_⟩
  have e : atD (D.take k) j = atD D j := by simp [atD, List.getD_eq_getElem?_getD, List.getElem?_take_of_lt hj]
  rw [e]
  exact hc j (by omega)⟩
theorem DepAt.drop {w : World} {B n b off : Nat} {D : List Dep} (h : DepAt w B (some ⟨b, off, Option.none⟩) n D) {k : Nat} (hk : k ≤ n) : DepAt w B (some ⟨b, off + k * 2, Option.none⟩) (n - k) (D.drop k) := ⟨by have := h.1; simp; omega, fun h0 => by
  obtain ⟨b', off', hA, hb, hc⟩ := h.2 (by omega)
  obtain ⟨rfl, rfl⟩ : b = b' ∧ off = off' := by injection hA with h1; injection h1 with h2 h3; exact ⟨h2, h3⟩
  refine ⟨b, off + k * 2, rfl, hb, fun j hj => ?_⟩
  have e : atD (D.drop k) j = atD D (k + j) := by simp [atD, List.getD_eq_getElem?_getD, List.getElem?_drop]
  rw [e, show off + k * 2 + j * 2 = off + (k + j) * 2 by omega]
  exact hc (k + j) (by omega)⟩
theorem gb_made {w w' : World} {t : TypeId} (h : (w.alloc (.cells #[] t)).grownBy w' (some w.heap.size)) : w.grownBy w' none :=
  ⟨h.os, h.tape, h.output, by have := h.size; simp at this; omega, fun i hi _ => (h.block i (by simp; omega) (fun e => by have := Option.some.inj e; omega)).trans (Below.heap_alloc w _ i hi)⟩
end Go.Proofs.YtcmlnokfjbglaaaDoor
end
