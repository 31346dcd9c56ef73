/- What is proved here: the library's insertion of one dependency into a list of the caller's own: the list with the element at its place, in the same memory or in a new block. -/
import Derived.Test.YtnielgpcfgfioaaDepI
import Derived.Shelf.Spec.SlicesInsertGrow
namespace Go.Proofs.Ytnielgpcfgfioaa
open Go.ChangeShapes Go.WideShapes Go.ChangeAt Go.RowKit
set_option linter.unusedVariables false
set_option maxRecDepth 100000

/-- copy, where an element has two cells. -/
theorem run_copy_row2 {P : Program} (w : World) (dT sT ty elem : TypeId) (g o dLen dCap : Nat) (a : Addr) (sLen sCap : Nat) (cur : Array Value) (t : TypeId) (cs : List Value)
    (hu : P.underlying dT = some (.slice elem)) (hs : (P.info? elem).map (·.size) = some 2)
    (hg : w.heap[g]? = some (.cells cur t (0, 0))) (hn : cs.length = Nat.min sLen dLen * 2)
    (hsrc : ∀ j v, cs[j]? = some v → w.cell? (a.add j) = some v) (hfit : o + cs.length ≤ cur.size) (h1 : ∀ v ∈ cs, v.oneCell' = true) :
    (Builtin.copy_ #[dT, sT] ty #[.slice (some ⟨g, o, none⟩) dLen dCap, .slice (some a) sLen sCap]).run P w =
      .ok (goInt (Nat.min sLen dLen)) (w.setRow g (cur.toList.take o ++ cs ++ cur.toList.drop (o + cs.length)).toArray) := by
  have hl := run_loadCells_list (P := P) w a cs hsrc
  have hst := run_storeCells_at P g o t cs 0 cur w hg (by simpa using hfit) h1
  cases hq : P.info? elem with
  | none => simp [hq] at hs
  | some i =>
    have hi : i.size = 2 := by simpa [hq] using hs
    simp [Builtin.copy_, run_underlying hu, Builtin.lenOf, Builtin.firstCells, sizeOf, typeInfo, hq, hi, ← hn, hl, hst]

theorem shift_list {α : Type} {c V X : List α} {p n : Nat} (hV : c.take n = V) (hp : p ≤ n) (hc : n + X.length ≤ c.length) :
    let c1 := c.take (p + X.length) ++ V.drop p ++ c.drop (p + X.length + (V.drop p).length)
    ((c1.take p ++ X ++ c1.drop (p + X.length)).take (n + X.length) = V.take p ++ X ++ V.drop p) ∧ (c1.take p ++ X ++ c1.drop (p + X.length)).length = c.length ∧ c1.length = c.length := by
  intro c1
  have hVl : V.length = n := by rw [← hV, List.length_take]; omega
  have hd : (V.drop p).length = n - p := by rw [List.length_drop, hVl]
  have e1 : c1.take p = V.take p := by
    show (c.take (p + X.length) ++ V.drop p ++ c.drop (p + X.length + (V.drop p).length)).take p = V.take p
    rw [List.append_assoc, List.take_append_of_le_length (by rw [List.length_take]; omega), List.take_take, ← hV, List.take_take]
    congr 1
    omega
  have hl1 : (c.take (p + X.length)).length = p + X.length := by rw [List.length_take]; omega
  have e2 : c1.drop (p + X.length) = V.drop p ++ c.drop (p + X.length + (V.drop p).length) := by
    show (c.take (p + X.length) ++ V.drop p ++ c.drop (p + X.length + (V.drop p).length)).drop (p + X.length) = _
    rw [List.append_assoc, List.drop_left' hl1]
  rw [e1, e2]
  have hl2 : (V.take p).length = p := by rw [List.length_take]; omega
  refine ⟨?_, ?_, ?_⟩
  · rw [← List.append_assoc, List.take_append_of_le_length (by simp only [List.length_append, hl2, hd]; omega), List.take_of_length_le (by simp only [List.length_append, hl2, hd]; omega)]
  · simp only [List.length_append, hl2, hd, List.length_drop]; omega
  · show (c.take (p + X.length) ++ V.drop p ++ c.drop (p + X.length + (V.drop p).length)).length = c.length
    simp only [List.length_append, hl1, hd, List.length_drop]; omega

theorem put_cells (D : List Dep) (x : Dep) (i : Nat) : depV (D.take i ++ x :: D.drop i) = (depV D).take (i * 2) ++ [.int .i64 x.1, .int .i64 x.2] ++ (depV D).drop (i * 2) := by
  have e : D.take i ++ x :: D.drop i = D.take i ++ [x] ++ D.drop i := by simp
  rw [e, depV_append, depV_append, depV_take, depV_drop]
  rfl
theorem fn_overlaps : Try.prog.funcs[51]? = some Try.f51 := by kernel_rfl

def PutAt (base : Nat) (v : Value) (D : List Dep) (w : World) (e : Ending) (w' : World) : Prop :=
  ∃ v', e = .returned v' ∧ w'.ownsRow base 49 2 v' D.length (depV D) ∧ w.grownBy w' v.ownBlock
theorem put_own {w : World} {base : Nat} {v : Value} {D : List Dep} {k : Nat} {xs : List Value} (h : w.ownsRow base 49 2 v k xs) (hk : k = D.length) (hx : xs = depV D) : w.ownsRow base 49 2 v D.length (depV D) := by subst hk; subst hx; exact h

/-- At the end. -/
theorem libInsEnd (base n vb : Nat) (v : Value) (D : List Dep) (x : Dep) (w : World) (h : w.ownsRow base 49 2 v n (depV D)) (hb : Blk w vb 49 #[.int .i64 x.1, .int .i64 x.2]) (hbase : base ≤ w.heap.size) (hn : n ≤ 4000000000) :
    Calls Try.prog 43 #[v, .int .i64 n, .slice (some ⟨vb, 0, none⟩) 1 1] w (PutAt base v (D ++ [x]) w) := by
  obtain ⟨i0, hi, hz0, hz1, hz2⟩ := info_parts info_dep
  have hl := own_dep_length h
  have e1 := Lib.hid (show n + 1 = (D ++ [x]).length by simp [hl])
  have e2 := Lib.hid (show depV D ++ [.int .i64 x.1, .int .i64 x.2] = depV (D ++ [x]) by rw [depV_append]; rfl)
  have b2 := Lib.hid (show ∀ u ∈ [Value.int .i64 x.1, .int .i64 x.2], u.oneCell' = true by simp [Value.oneCell'])
  have b3 := Lib.hid (show n + 1 ≤ maxLen by unfold maxLen; omega)
  have b4 := Lib.hid (show (n + 1) * 16 ≤ 140737488355328 by omega)
  have HO := Lib.hid h
  have HB := Lib.hid hb
  have HBA := Lib.hid hbase
  rcases h.2 with ⟨rfl, rfl⟩ | ⟨g, cap, cur, rfl, _⟩
  · clear h hb hbase hl
    go_enter Try.func43, Try.ntmps43
    go_wp2_with (at_builtin; refine wpList_append_own _ rfl _ _ 35 rfl base 49 i0 (.agg #[.int .i64 0, .int .i64 0]) 2 16 Try.underlying35 hi hz0 hz1 hz2 rfl (by decide) _ _ _ rfl HO.out ⟨vb, 0, none⟩ 1 1 [.int .i64 x.1, .int .i64 x.2] rfl rfl (World.news_of_block HB.out) b2.out b3.out b4.out HBA.out ?_; intro v' w' hown' hgrow' _)
    go_ret
    exact ⟨v', rfl, put_own hown' e1.out e2.out, hgrow'⟩
  · clear h hb hbase hl
    go_enter Try.func43, Try.ntmps43
    go_wp2_with (at_builtin; refine wpList_append_own _ rfl _ _ 35 rfl base 49 i0 (.agg #[.int .i64 0, .int .i64 0]) 2 16 Try.underlying35 hi hz0 hz1 hz2 rfl (by decide) _ _ _ rfl HO.out ⟨vb, 0, none⟩ 1 1 [.int .i64 x.1, .int .i64 x.2] rfl rfl (World.news_of_block HB.out) b2.out b3.out b4.out HBA.out ?_; intro v' w' hown' hgrow' _)
    all_goals (go_ret; exact ⟨v', rfl, put_own hown' e1.out e2.out, hgrow'⟩)

/-- Ahead of the end, where there is room: in place. -/
theorem libInsShift (base n vb g cap i : Nat) (D : List Dep) (x : Dep) (w : World) (h : w.ownsRow base 49 2 (.slice (some ⟨g, 0, none⟩) n cap) n (depV D)) (hb : Blk w vb 49 #[.int .i64 x.1, .int .i64 x.2]) (hbase : base ≤ w.heap.size) (hn : n ≤ 4000000000) (hi : i < n) (hroom : n + 1 ≤ cap) (hne : vb ≠ g) :
    Calls Try.prog 43 #[.slice (some ⟨g, 0, none⟩) n cap, .int .i64 i, .slice (some ⟨vb, 0, none⟩) 1 1] w (PutAt base (.slice (some ⟨g, 0, none⟩) n cap) (D.take i ++ x :: D.drop i) w) := by
  obtain ⟨i0, hi0, hz0, hz1, hz2⟩ := info_parts info_dep
  have hl := own_dep_length h
  obtain ⟨cur, hgc, hcm, hcs, htk⟩ : ∃ cur, w.heap[g]? = some (.cells cur 49 (0, 0)) ∧ cap ≤ maxLen ∧ cur.size = cap * 2 ∧ cur.toList.take (n * 2) = depV D := by
    rcases h.2 with ⟨h1, _⟩ | ⟨g', cap', cur, h1, _, h2, _, h3, h4, h5⟩
    · cases h1
    · obtain ⟨rfl, rfl⟩ : g = g' ∧ cap = cap' := by
        injection h1 with e1 e2 e3
        injection e1 with e1
        injection e1 with e1
        exact ⟨e1, e3⟩
      exact ⟨cur, h2, h3, h4, h5⟩
  have hsz : (Try.prog.info? 49).map (·.size) = some 2 := by rw [hi0]; simp [hz1]
  have hst := Try.underlying35
  have hzd : ∀ w, (Go.sizeOf 49).run Try.prog w = .ok 2 w := fun w => by simp [Go.sizeOf, typeInfo, hi0, hz1]
  have hsa : w.shape? vb = some (49, 2) := by
    have hb' : w.heap[vb]? = some (.cells #[.int .i64 x.1, .int .i64 x.2] 49 (0, 0)) := hb
    simp [World.shape?, hb']
  have hsb : w.shape? g = some (49, cap * 2) := by simp [World.shape?, hgc, hcs]
  have hfa : w.frozen? ⟨vb, 0, none⟩ = false := by
    have hb' : w.heap[vb]? = some (.cells #[.int .i64 x.1, .int .i64 x.2] 49 (0, 0)) := hb
    simp [World.frozen?, hb']
  have hfe : w.frozen? ⟨vb, 2, none⟩ = false := by
    have hb' : w.heap[vb]? = some (.cells #[.int .i64 x.1, .int .i64 x.2] 49 (0, 0)) := hb
    simp [World.frozen?, hb']
  have hov : ∀ o lb cb, (callFunc 51 #[.slice (some ⟨vb, 0, none⟩) 1 1, .slice (some ⟨g, o, none⟩) lb cb]).run Try.prog w = .ok (.value (.bool false)) w := fun o lb cb => by
    rw [run_callFunc_extern fn_overlaps (by kernel_rfl) (by kernel_rfl) (by kernel_rfl) (e := Extern.SlicesOverlaps.overlaps #[35, 35] #[4]) (by kernel_rfl),
      Lib.run_overlaps_apart w 35 4 49 hst 2 hzd ⟨vb, 0, none⟩ ⟨g, o, none⟩ 1 1 lb cb hne 49 49 2 (cap * 2) hsa hsb (by omega) hfa hfe]
    rfl
  have hVl : (depV D).length = n * 2 := by rw [depV_length, hl]
  have hdl : ((depV D).drop (i * 2)).length = (n - i) * 2 := by rw [List.length_drop, hVl]; omega
  have e2 : (i + 1) * 2 = i * 2 + 2 := by omega
  have hcl : cur.toList.length = cap * 2 := by rw [Array.length_toList]; exact hcs
  obtain ⟨hs1, hs2, hs3⟩ := shift_list (X := [Value.int .i64 x.1, Value.int .i64 x.2]) (p := i * 2) htk (by omega) (by rw [hcl]; simp; omega)
  obtain ⟨c1, hc1⟩ : ∃ c1 : Array Value, c1 = (cur.toList.take ((i + 1) * 2) ++ (depV D).drop (i * 2) ++ cur.toList.drop ((i + 1) * 2 + ((depV D).drop (i * 2)).length)).toArray := ⟨_, rfl⟩
  have hc1l : c1.toList = cur.toList.take (i * 2 + 2) ++ (depV D).drop (i * 2) ++ cur.toList.drop (i * 2 + 2 + ((depV D).drop (i * 2)).length) := by rw [hc1, e2]
  have hs4 : c1.toList.length = cap * 2 := by rw [hc1l, ← hcl]; exact hs3
  obtain ⟨c2, hc2⟩ : ∃ c2 : Array Value, c2 = (c1.toList.take (i * 2) ++ [Value.int .i64 x.1, Value.int .i64 x.2] ++ c1.toList.drop (i * 2 + [Value.int .i64 x.1, Value.int .i64 x.2].length)).toArray := ⟨_, rfl⟩
  have hown2 : c2.toList.take ((n + 1) * 2) = depV (D.take i ++ x :: D.drop i) ∧ c2.size = cap * 2 := by
    have hc2l : c2.toList = c1.toList.take (i * 2) ++ [Value.int .i64 x.1, Value.int .i64 x.2] ++ c1.toList.drop (i * 2 + [Value.int .i64 x.1, Value.int .i64 x.2].length) := by rw [hc2]
    rw [hc1l] at hc2l
    refine ⟨?_, ?_⟩
    · rw [put_cells, ← hs1, hc2l, show (n + 1) * 2 = n * 2 + [Value.int IntKind.i64 x.1, Value.int IntKind.i64 x.2].length by simp; omega]
      rfl
    · rw [← Array.length_toList, hc2l, ← hcl]; exact hs2
  have hcp1 : ∀ ty dc sc, (Builtin.copy_ #[35, 35] ty #[.slice (some ⟨g, (i + 1) * 2, none⟩) (n - i) dc, .slice (some ⟨g, i * 2, none⟩) (n + 1 - i) sc]).run Try.prog w.drew = .ok (goInt ((n - i : Nat) : Int)) (w.drew.setRow g c1) := fun ty dc sc => by
    have h := run_copy_row2 (P := Try.prog) w.drew 35 35 ty 49 g ((i + 1) * 2) (n - i) dc ⟨g, i * 2, none⟩ (n + 1 - i) sc cur 49 ((depV D).drop (i * 2)) hst hsz hgc (by rw [hdl, show Nat.min (n + 1 - i) (n - i) = n - i from by show min (n + 1 - i) (n - i) = n - i; omega])
      (fun j v hj => by
        have hj2 := (List.getElem?_eq_some_iff.1 hj).1
        rw [Addr.add_lit]
        rw [List.getElem?_drop] at hj
        exact (h.cellAt (i * 2 + j) (by omega)).trans hj)
      (by rw [hdl]; omega) (fun v hv => depV_one1 D v (List.mem_of_mem_drop hv))
    rw [show Nat.min (n + 1 - i) (n - i) = n - i from by show min (n + 1 - i) (n - i) = n - i; omega, ← hc1] at h
    exact h
  have hW1 : (w.drew.setRow g c1).heap[g]? = some (.cells c1 49 (0, 0)) := setRow_heap w.drew g cur c1 49 (0, 0) hgc
  have hcp2 : ∀ (W : World), W.heap = (w.drew.setRow g c1).heap → ∀ ty dc, (Builtin.copy_ #[35, 35] ty #[.slice (some ⟨g, i * 2, none⟩) (n + 1 - i) dc, .slice (some ⟨vb, 0, none⟩) 1 1]).run Try.prog W = .ok (goInt 1) (W.setRow g c2) := fun W hW ty dc => by
    have h := run_copy_row2 (P := Try.prog) W 35 35 ty 49 g (i * 2) (n + 1 - i) dc ⟨vb, 0, none⟩ 1 1 c1 49 [Value.int .i64 x.1, Value.int .i64 x.2] hst hsz (by rw [hW]; exact hW1) (by rw [show Nat.min 1 (n + 1 - i) = 1 from by show min 1 (n + 1 - i) = 1; omega]; rfl)
      (World.news_of_block (cs := #[.int .i64 x.1, .int .i64 x.2]) (t := 49) (fr := (0, 0)) (by rw [hW]; exact (setRow_other w.drew g vb c1 hne).trans hb)) (by rw [← Array.length_toList, hs4]; simp; omega) (by simp [Value.oneCell'])
    rw [show Nat.min 1 (n + 1 - i) = 1 from by show min 1 (n + 1 - i) = 1; omega, ← hc2] at h
    exact h
  have hfin : PutAt base (.slice (some ⟨g, 0, none⟩) n cap) (D.take i ++ x :: D.drop i) w (.returned (.slice (some ⟨g, 0, none⟩) (n + 1) cap)) ((w.drew.setRow g c1).setRow g c2) := by
    have hlen : (D.take i ++ x :: D.drop i).length = n + 1 := by simp [hl]; omega
    refine ⟨_, rfl, ?_, ?_⟩
    · rw [hlen]
      exact ⟨by rw [depV_length, hlen], .inr ⟨g, cap, c2, rfl, (h.lt g rfl).1, setRow_heap _ g c1 c2 _ _ hW1, by omega, hcm, hown2.2, hown2.1⟩⟩
    · exact ⟨rfl, rfl, rfl, by simp [World.setRow], fun k _ hk => by
        have hk' : k ≠ g := fun e => hk (by rw [e]; rfl)
        rw [setRow_other _ g k c2 hk', setRow_other _ g k c1 hk']; rfl⟩
  have HF := Lib.hid hfin
  have c63 : cap ≤ 9223372036854775807 := by unfold maxLen at hcm; omega
  have f2 : ¬ ((i : Int) = (n : Int)) := by omega
  have f1 : (0 : Int) ≤ (i : Int) + 1 := by omega
  have mixed : Try.prog.follows .mixedOrders = true := by kernel_rfl
  have f0 : IntKind.i64.wrap ((i : Int) + 1) = (i : Int) + 1 := by rw [IntKind.wrap_i64]; omega
  have f5 : i ≤ n := by omega
  have f6 : ((i : Int) + 1).toNat = i + 1 := by omega
  have f7 : (i : Int) ≤ (n : Int) + 1 := by omega
  have f10 : ¬ cap = i := by omega
  have f11 : ¬ cap = i + 1 := by omega
  clear h hb hgc hcs htk hst hzd hsa hsb hfa hfe hVl hdl e2 hcl hs1 hs2 hs3 hc1 hc1l hs4 hc2 hown2 hW1 hfin
  go_enter Try.func43, Try.ntmps43
  go_wp2_with (simp only [hov])
  go_region_law_o (refine step_copy_runI rfl _ _ 35 35 rfl _ _ (by simp [Act.eval, Act.put]) (by simp [Act.eval, Act.put]) (hcp1 _ _ _) ?_)
  go_wp2_with (at_builtin; refine wpList_copy_runI _ rfl _ _ 35 35 rfl _ _ rfl rfl (hcp2 _ rfl _ _) ?_)
  go_ret
  exact HF.out

theorem grow_list {α : Type} {R V X : List α} {p : Nat} (hR : R.take p = V.take p) (hp : p ≤ V.length) (hc : V.length + X.length ≤ R.length) :
    let c1 := R.take p ++ X ++ R.drop (p + X.length)
    ((c1.take (p + X.length) ++ V.drop p ++ c1.drop (p + X.length + (V.drop p).length)).take (V.length + X.length) = V.take p ++ X ++ V.drop p) ∧ (c1.take (p + X.length) ++ V.drop p ++ c1.drop (p + X.length + (V.drop p).length)).length = R.length ∧ c1.length = R.length := by
  intro c1
  have hl : (R.take p).length = p := by rw [List.length_take]; omega
  have hd : (V.drop p).length = V.length - p := by rw [List.length_drop]
  have e1 : c1.take (p + X.length) = R.take p ++ X := by
    show (R.take p ++ X ++ R.drop (p + X.length)).take (p + X.length) = _
    rw [List.take_left' (by rw [List.length_append, hl])]
  have h1 : c1.length = R.length := by
    show (R.take p ++ X ++ R.drop (p + X.length)).length = R.length
    simp only [List.length_append, hl, List.length_drop]; omega
  have hl2 : (V.take p).length = p := by rw [List.length_take]; omega
  rw [e1, hR]
  refine ⟨?_, ?_, h1⟩
  · rw [List.take_append_of_le_length (by simp only [List.length_append, hl2, hd]; omega), List.take_of_length_le (by simp only [List.length_append, hl2, hd]; omega)]
  · simp only [List.length_append, hl2, hd, List.length_drop, h1]; omega

/-- Ahead of the end, where there is no room: in a new block. -/
theorem libInsGrow (base n vb g cap i : Nat) (D : List Dep) (x : Dep) (w : World) (h : w.ownsRow base 49 2 (.slice (some ⟨g, 0, none⟩) n cap) n (depV D)) (hb : Blk w vb 49 #[.int .i64 x.1, .int .i64 x.2]) (hbase : base ≤ w.heap.size) (hn : n ≤ 4000000000) (hi : i < n) (hroom : cap < n + 1) :
    Calls Try.prog 43 #[.slice (some ⟨g, 0, none⟩) n cap, .int .i64 i, .slice (some ⟨vb, 0, none⟩) 1 1] w (PutAt base (.slice (some ⟨g, 0, none⟩) n cap) (D.take i ++ x :: D.drop i) w) := by
  obtain ⟨i0, hi0, hz0, hz1, hz2⟩ := info_parts info_dep
  have hl := own_dep_length h
  have hnc : n ≤ cap := by
    rcases h.2 with ⟨h1, _⟩ | ⟨g', cap', cur, h1, _, h2, h3, _⟩
    · cases h1
    · injection h1 with e1 e2 e3
      omega
  have hgw := (h.lt g rfl).2
  have hvw := hb.lt
  have hsz : (Try.prog.info? 49).map (·.size) = some 2 := by rw [hi0]; simp [hz1]
  have hst := Try.underlying35
  have hVl : (depV D).length = n * 2 := by rw [depV_length, hl]
  have hdl : ((depV D).drop (i * 2)).length = (n - i) * 2 := by rw [List.length_drop, hVl]; omega
  have hkk : (n : Int) + 1 - (i : Int) = ((n + 1 - i : Nat) : Int) := by omega
  have hik : i + (n + 1 - i) = n + 1 := by omega
  have hold : (Builtin.firstCells i0.size i (.slice (some ⟨g, 0, none⟩) i cap)).run Try.prog w.drew = .ok ((depV D).take (i * 2)).toArray w.drew := by
    rw [hz1]
    exact run_firstCells_some w.drew 2 i ⟨g, 0, none⟩ i cap ((depV D).take (i * 2)) (by rw [List.length_take, hVl]; omega) (fun j v hj => by
      rw [Addr.add_lit]
      rw [List.getElem?_take] at hj
      split at hj
      · rw [Nat.zero_add]; exact (h.cellAt j (by omega)).trans hj
      · cases hj)
  obtain ⟨G, hG⟩ : ∃ G, G = grownCap w (n + 1) cap 49 := ⟨_, rfl⟩
  obtain ⟨ROW, hROW⟩ : ∃ ROW : Array Value, ROW = ((depV D).take (i * 2)).toArray ++ Builtin.zeroCells (Value.agg #[.int .i64 0, .int .i64 0]).cells (n + 1 - i) ++ Builtin.zeroCells (Value.agg #[.int .i64 0, .int .i64 0]).cells (G - (n + 1)) := ⟨_, rfl⟩
  have hrz : ∀ ty, (Builtin.append_ #[35, 3] ty #[.slice (some ⟨g, 0, none⟩) i cap, .int .i64 ((n : Int) + 1 - (i : Int))]).run Try.prog w =
      .ok (.slice (some ⟨w.heap.size, 0, none⟩) (n + 1) G) (w.drew.alloc (.cells ROW 49)) := fun ty => by
    have h := Lib.run_append_grow_zeros w 35 3 ty 49 i0 _ .i64 .i64 hst Try.underlying3 hi0 hz0 (some ⟨g, 0, none⟩) i cap ((depV D).take (i * 2)) hold (n + 1 - i) (by omega) (by omega) (by omega) (by omega) (by rw [hz2]; omega) (by rw [hz2, hik]; exact growslice_fits (by omega) (by omega))
    rw [hik] at h
    rw [hkk, hROW, hG]
    exact h
  have hGn : n + 1 ≤ G := by rw [hG]; exact grownCap_ge w _ _ _
  have hGm : G ≤ maxLen := by rw [hG]; exact grownCap_le_maxLen w (n + 1) cap _ (by unfold maxLen; omega)
  have hRs : ROW.size = G * 2 := by
    rw [hROW]
    simp only [Array.size_append, List.size_toArray, size_zeroCells, List.length_take, hVl]
    simp [Value.cells]
    omega
  have hRt : ROW.toList.take (i * 2) = (depV D).take (i * 2) := by
    rw [hROW]
    simp only [Array.toList_append, List.append_assoc]
    exact List.take_left' (by rw [List.length_take, hVl]; omega)
  obtain ⟨N, hN⟩ : ∃ N, w.heap.size = N := ⟨_, rfl⟩
  rw [hN] at hrz hgw hvw
  have hRl : ROW.toList.length = G * 2 := by rw [Array.length_toList]; exact hRs
  obtain ⟨W1, hW1⟩ : ∃ W1, W1 = w.drew.alloc (.cells ROW 49) := ⟨_, rfl⟩
  have hW1N : W1.heap[N]? = some (.cells ROW 49 (0, 0)) := by rw [hW1, ← hN]; exact heap_alloc_new w.drew _
  have hW1o : ∀ k, k < N → W1.heap[k]? = w.heap[k]? := fun k hk => by rw [hW1]; exact heap_alloc_old w.drew _ (by rw [← hN] at hk; exact hk)
  obtain ⟨hs1, hs2, hs3⟩ := grow_list (X := [Value.int .i64 x.1, Value.int .i64 x.2]) (p := i * 2) hRt (by rw [hVl]; omega) (by rw [hRl, hVl]; simp; omega)
  have e2 : (i + 1) * 2 = i * 2 + 2 := by omega
  obtain ⟨c1, hc1⟩ : ∃ c1 : Array Value, c1 = (ROW.toList.take (i * 2) ++ [Value.int .i64 x.1, Value.int .i64 x.2] ++ ROW.toList.drop (i * 2 + [Value.int .i64 x.1, Value.int .i64 x.2].length)).toArray := ⟨_, rfl⟩
  have hc1l : c1.toList = ROW.toList.take (i * 2) ++ [Value.int .i64 x.1, Value.int .i64 x.2] ++ ROW.toList.drop (i * 2 + [Value.int .i64 x.1, Value.int .i64 x.2].length) := by rw [hc1]
  have hs4 : c1.toList.length = G * 2 := by rw [hc1l, ← hRl]; exact hs3
  obtain ⟨c2, hc2⟩ : ∃ c2 : Array Value, c2 = (c1.toList.take ((i + 1) * 2) ++ (depV D).drop (i * 2) ++ c1.toList.drop ((i + 1) * 2 + ((depV D).drop (i * 2)).length)).toArray := ⟨_, rfl⟩
  have hown2 : c2.toList.take ((n + 1) * 2) = depV (D.take i ++ x :: D.drop i) ∧ c2.size = G * 2 := by
    have hc2l : c2.toList = c1.toList.take (i * 2 + 2) ++ (depV D).drop (i * 2) ++ c1.toList.drop (i * 2 + 2 + ((depV D).drop (i * 2)).length) := by rw [hc2, e2]
    rw [hc1l] at hc2l
    refine ⟨?_, ?_⟩
    · rw [put_cells, ← hs1, hc2l, show (n + 1) * 2 = (depV D).length + [Value.int IntKind.i64 x.1, Value.int IntKind.i64 x.2].length by rw [hVl]; simp; omega]
      rfl
    · rw [← Array.length_toList, hc2l, ← hRl]; exact hs2
  have hcpA : ∀ (W : World), W.heap = W1.heap → ∀ ty dc, (Builtin.copy_ #[35, 35] ty #[.slice (some ⟨N, i * 2, none⟩) (n + 1 - i) dc, .slice (some ⟨vb, 0, none⟩) 1 1]).run Try.prog W = .ok (goInt 1) (W.setRow N c1) := fun W hW ty dc => by
    have h := run_copy_row2 (P := Try.prog) W 35 35 ty 49 N (i * 2) (n + 1 - i) dc ⟨vb, 0, none⟩ 1 1 ROW 49 [Value.int .i64 x.1, Value.int .i64 x.2] hst hsz (by rw [hW]; exact hW1N) (by rw [show Nat.min 1 (n + 1 - i) = 1 from by show min 1 (n + 1 - i) = 1; omega]; rfl)
      (World.news_of_block (cs := #[.int .i64 x.1, .int .i64 x.2]) (t := 49) (fr := (0, 0)) (by rw [hW]; exact (hW1o vb hvw).trans hb)) (by rw [hRs]; simp; omega) (by simp [Value.oneCell'])
    rw [show Nat.min 1 (n + 1 - i) = 1 from by show min 1 (n + 1 - i) = 1; omega, ← hc1] at h
    exact h
  have hNg : g ≠ N := by omega
  have hcpB : ∀ (W : World), W.heap = (W1.setRow N c1).heap → ∀ ty dc sc, (Builtin.copy_ #[35, 35] ty #[.slice (some ⟨N, (i + 1) * 2, none⟩) (n - i) dc, .slice (some ⟨g, i * 2, none⟩) (n - i) sc]).run Try.prog W = .ok (goInt ((n - i : Nat) : Int)) (W.setRow N c2) := fun W hW ty dc sc => by
    have hWg : W.heap[g]? = w.heap[g]? := by rw [hW, setRow_other W1 N g c1 hNg]; exact hW1o g hgw
    have h := run_copy_row2 (P := Try.prog) W 35 35 ty 49 N ((i + 1) * 2) (n - i) dc ⟨g, i * 2, none⟩ (n - i) sc c1 49 ((depV D).drop (i * 2)) hst hsz (by rw [hW]; exact setRow_heap W1 N ROW c1 _ _ hW1N) (by rw [hdl, show Nat.min (n - i) (n - i) = n - i from by show min (n - i) (n - i) = n - i; omega])
      (fun j v hj => by
        have hj2 := (List.getElem?_eq_some_iff.1 hj).1
        rw [Addr.add_lit]
        rw [List.getElem?_drop] at hj
        exact (World.cell?_of_block hWg).trans ((h.cellAt (i * 2 + j) (by omega)).trans hj))
      (by rw [hdl, ← Array.length_toList, hs4]; omega) (fun v hv => depV_one1 D v (List.mem_of_mem_drop hv))
    rw [show Nat.min (n - i) (n - i) = n - i from by show min (n - i) (n - i) = n - i; omega, ← hc2] at h
    exact h
  have hfin : ∀ (W : World), W.heap = ((W1.setRow N c1).setRow N c2).heap → W.os = w.os → W.tape = w.tape → W.output = w.output → PutAt base (.slice (some ⟨g, 0, none⟩) n cap) (D.take i ++ x :: D.drop i) w (.returned (.slice (some ⟨N, 0, none⟩) (n + 1) G)) W := fun W hW h1 h2 h3 => by
    have hlen : (D.take i ++ x :: D.drop i).length = n + 1 := by simp [hl]; omega
    refine ⟨_, rfl, ?_, ?_⟩
    · rw [hlen]
      exact ⟨by rw [depV_length, hlen], .inr ⟨N, G, c2, rfl, by omega, by rw [hW]; exact setRow_heap _ N c1 c2 _ _ (setRow_heap W1 N ROW c1 _ _ hW1N), by omega, hGm, hown2.2, hown2.1⟩⟩
    · exact ⟨h1, h2, h3, by rw [hW]; simp [World.setRow, hW1], fun k hk _ => by
        have hk' : k ≠ N := by omega
        rw [hW, setRow_other _ N k c2 hk', setRow_other _ N k c1 hk']; exact hW1o k (by omega)⟩
  have HF := Lib.hid hfin
  have c63 : cap ≤ 9223372036854775807 := by omega
  have G63 : G ≤ 9223372036854775807 := by unfold maxLen at hGm; omega
  have f2 : ¬ ((i : Int) = (n : Int)) := by omega
  have f1 : (0 : Int) ≤ (i : Int) + 1 := by omega
  have mixed : Try.prog.follows .mixedOrders = true := by kernel_rfl
  have f0 : IntKind.i64.wrap ((i : Int) + 1) = (i : Int) + 1 := by rw [IntKind.wrap_i64]; omega
  have f5 : i ≤ n := by omega
  have f6 : ((i : Int) + 1).toNat = i + 1 := by omega
  have f7 : (i : Int) ≤ (n : Int) := by omega
  have f8 : (cap : Int) < (n : Int) + 1 := by omega
  have f10 : ¬ cap = i := by omega
  have f11 : ¬ G = i := by omega
  have f12 : ¬ G = i + 1 := by omega
  have f13 : i ≤ cap := by omega
  have HN := Lib.hid hN
  have HW1 := Lib.hid hW1
  clear h hb hst hVl hdl hkk hik hold hG hROW hRs hRt hRl hW1N hW1o hs1 hs2 hs3 e2 hc1 hc1l hs4 hc2 hown2 hfin hN hsz hnc hGm
  rw [← hW1] at hrz
  clear hW1
  go_enter Try.func43, Try.ntmps43
  go_wp2_with (first
    | (at_builtin; refine Lib.wpList_append_run _ rfl _ _ _ _ rfl _ _ rfl rfl _ _ (hrz _) ?_)
    | (at_builtin; refine wpList_copy_runI _ rfl _ _ 35 35 rfl _ _ rfl rfl (hcpA _ rfl _ _) ?_))
  go_region_law_o (refine step_copy_runI rfl _ _ 35 35 rfl (.slice (some ⟨N, (i + 1) * 2, none⟩) (n - i) (G - (i + 1))) (.slice (some ⟨g, i * 2, none⟩) (n - i) (cap - i)) (by simp [Act.eval, Act.put]) (by simp [Act.eval, Act.put]) (hcpB (W1.setRow N c1).drew rfl 3 (G - (i + 1)) (cap - i)) ?_)
  go_wp2
  go_ret
  exact HF.out _ rfl (by rw [HW1.out]; rfl) (by rw [HW1.out]; rfl) (by rw [HW1.out]; rfl)
end Go.Proofs.Ytnielgpcfgfioaa
