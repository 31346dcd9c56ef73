/- What is proved here: the model's comparison of two dependencies, and what it makes of an ascending list and one dependency: the same list if it is there, else a new list with it at its place; only new blocks are written. -/
import Derived.Test.YtnielgpcfgfioaaAppD
import Derived.Laws.StructEq
import Derived.Deep.RegionHeld3
namespace Go.Proofs.Ytnielgpcfgfioaa
open Go.ChangeShapes Go.WideShapes Go.ChangeAt Go.RowKit
set_option linter.unusedVariables false
set_option maxRecDepth 20000

theorem gb_drP {a b : World} {row : Option Nat} (h : a.drew.grownBy b row) : a.grownBy b row := ⟨h.os, h.tape, h.output, h.size, h.block⟩
theorem specLess (a b : Dep) (w : World) : Calls Try.prog 41 #[.agg #[.int .i64 a.1, .int .i64 a.2], .agg #[.int .i64 b.1, .int .i64 b.2]] w (RetB (ltD a b) w) := by
  obtain ⟨r, hr⟩ : ∃ r, ltD a b = r := ⟨_, rfl⟩
  rw [hr]
  obtain ⟨a1, a2⟩ := a
  obtain ⟨b1, b2⟩ := b
  have hr2 : r = decide (a1 < b1 ∨ a1 = b1 ∧ a2 < b2) := hr.symm
  clear hr
  by_cases h1 : a1 < b1
  · have HR := Lib.hid (show r = true by rw [hr2]; exact decide_eq_true (.inl h1))
    clear hr2
    go_enter Try.func41, Try.ntmps41
    go_wp2_with fail
    go_ret
    exact ⟨ret_bool (by rw [HR.out]), gb_alloc (gb_alloc (gb_refl _ _) _) _⟩
  · by_cases h2 : a1 = b1
    · by_cases h3 : a2 < b2
      · have HR := Lib.hid (show r = true by rw [hr2]; exact decide_eq_true (.inr ⟨h2, h3⟩))
        clear hr2
        go_enter Try.func41, Try.ntmps41
        go_wp2_with fail
        go_ret
        exact ⟨ret_bool (by rw [HR.out]), gb_alloc (gb_alloc (gb_refl _ _) _) _⟩
      · have HR := Lib.hid (show r = false by rw [hr2]; exact decide_eq_false (by omega))
        clear hr2
        go_enter Try.func41, Try.ntmps41
        go_wp2_with fail
        go_ret
        exact ⟨ret_bool (by rw [HR.out]), gb_alloc (gb_alloc (gb_refl _ _) _) _⟩
    · have HR := Lib.hid (show r = false by rw [hr2]; exact decide_eq_false (by omega))
      clear hr2
      go_enter Try.func41, Try.ntmps41
      go_wp2_with fail
      go_ret
      exact ⟨ret_bool (by rw [HR.out]), gb_alloc (gb_alloc (gb_refl _ _) _) _⟩
/-- A list of the caller's own that is not nil, or a new one. -/
def PutN (base : Nat) (D : List Dep) (w : World) (e : Ending) (w' : World) : Prop :=
  ∃ g c, e = .returned (.slice (some ⟨g, 0, none⟩) D.length c) ∧ w'.ownsRow base 49 2 (.slice (some ⟨g, 0, none⟩) D.length c) D.length (depV D) ∧ w.grownBy w' none
/-- From the end, the place k has been reached. -/
def downD (D : List Dep) (d : Dep) (k : Nat) : Prop := k ≤ D.length ∧ ∀ t, k ≤ t → t < D.length → ltD d (atD D t) = true
theorem down_put {D : List Dep} (hD : ascD D) {d : Dep} {k : Nat} (h : downD D d k) (h1 : ∀ m, k = m + 1 → ltD d (atD D m) = false ∧ atD D m ≠ d) : insD D d = D.take k ++ d :: D.drop k := by
  have key : ∀ t, t < k → ltD (atD D t) d = true := fun t ht => by
    obtain ⟨m, rfl⟩ : ∃ m, k = m + 1 := ⟨k - 1, by omega⟩
    obtain ⟨h2, h3⟩ := h1 m rfl
    have h4 : ltD (atD D m) d = true := ltD_tri h2 (fun e => h3 e.symm)
    rcases Nat.lt_or_eq_of_le (Nat.le_of_lt_succ ht) with h5 | h5
    · exact ltD_trans (asc_at hD h5 (by have := h.1; omega)) h4
    · rw [h5]; exact h4
  have hlow : lowN D d = k := lowN_of h.1 key (fun hk => ltD_asymm (h.2 k (Nat.le_refl _) hk))
  have hn : d ∉ D := fun hd => by
    obtain ⟨h2, h3⟩ := (there_iff hD).1 hd
    rw [hlow] at h2 h3
    have := h.2 k (Nat.le_refl _) h2
    rw [h3, ltD_irrefl] at this
    cases this
  rw [ins_new hn, putD, hlow]
theorem down_next {D : List Dep} {d : Dep} {m : Nat} (h : downD D d (m + 1)) (h1 : ltD d (atD D m) = true) : downD D d m :=
  ⟨by have := h.1; omega, fun t h2 h3 => by
    rcases Nat.lt_or_eq_of_le h2 with h4 | h4
    · exact h.2 t h4 h3
    · rw [← h4]; exact h1⟩

theorem run_neD {x d : Dep} (h : x ≠ d) (w : World) : (binOp .eql 49 (.agg #[.int .i64 x.1, .int .i64 x.2]) (.agg #[.int .i64 d.1, .int .i64 d.2])).run Try.prog w = .ok (.bool false) w := by
  have hst : Try.prog.stoodInHeld 49 = false := by kernel_rfl
  by_cases h1 : x.1 = d.1
  · have h2 : ¬ x.2 = d.2 := fun e => h (Prod.ext h1 e)
    simp [go_sem, Try.underlying49, Try.underlying3, hst, h1, h2]
  · simp [go_sem, Try.underlying49, Try.underlying3, hst, h1]
theorem gb_un {a b : World} {m : Nat} {row : Option Nat} (h : (a.drewN m).grownBy b row) : a.grownBy b row := ⟨h.os, h.tape, h.output, h.size, h.block⟩
theorem own_castD {w : World} {base n k : Nat} {v : Value} {X Y : List Value} (h : w.ownsRow base 49 2 v n X) (hk : n = k) (hx : X = Y) : w.ownsRow base 49 2 v k Y := by subst hk; subst hx; exact h
theorem put_ret {R : List Dep} {w w4 : World} {base B : Nat} {v : Value} {k : Nat} {X : List Dep} (hR : R = X) (hk : k = X.length) (h0 : 0 < k) (hb : base ≤ B) (ho : w4.ownsRow B 49 2 v k (depV X)) (hg : w.grownBy w4 none) : PutN base R w (.returned v) w4 := by
  subst hR
  subst hk
  obtain ⟨A, c, rfl, hA⟩ := own_form ho
  obtain ⟨g, rfl⟩ := hA h0
  exact ⟨g, c, rfl, own_less ho hb, hg⟩

theorem put_there {D R : List Dep} {w w4 : World} {base n g cap : Nat} (hR : D = R) (hl : D.length = n) (hbase : base ≤ w.heap.size) (ho : w.ownsRow base 49 2 (.slice (some ⟨g, 0, none⟩) n cap) n (depV D)) (hg : w.grownBy w4 none) : PutN base R w (.returned (.slice (some ⟨g, 0, none⟩) n cap)) w4 := by
  subst hR
  subst hl
  exact ⟨g, cap, rfl, own_none ho hg, hg⟩
theorem specPut (base n g cap : Nat) (D : List Dep) (d : Dep) (hD : ascD D) (w : World) (h : w.ownsRow base 49 2 (.slice (some ⟨g, 0, none⟩) n cap) n (depV D)) (hbase : base ≤ w.heap.size) (hn : n ≤ 2000000000) :
    Calls Try.prog 33 #[.slice (some ⟨g, 0, none⟩) n cap, .agg #[.int .i64 d.1, .int .i64 d.2]] w (PutN base (insD D d) w) := by
  obtain ⟨i0, hi, hz0, hz1, hz2⟩ := info_parts info_dep
  have hl := own_dep_length h
  have HL := Lib.hid hl
  have HO := Lib.hid h
  have HI := Lib.hid (depAt_own h (Nat.le_refl w.heap.size))
  obtain ⟨hcap, hcap2⟩ := own_cap h
  have c63 : cap ≤ 9223372036854775807 := by unfold maxLen at hcap2; omega
  have BG := Lib.hid (boxD_gb d w)
  have BB := Lib.hid (boxD_blk d w)
  have HLT := Lib.hid (fun (a b : Dep) w => specLess a b w)
  have HDP := Lib.hid (fun k (hk : downD D d k) h1 => down_put hD hk h1)
  have HTH := Lib.hid (fun (m : Nat) (hm : m < n) (e : atD D m = d) => ins_there (D := D) (d := d) (by rw [← e]; exact atD_mem (by omega)))
  obtain ⟨R, hR⟩ : ∃ R, insD D d = R := ⟨_, rfl⟩
  rw [hR] at HDP HTH
  rw [hR]
  have b2 := Lib.hid (show ∀ u ∈ [Value.int .i64 d.1, Value.int .i64 d.2], u.oneCell' = true by simp [Value.oneCell'])
  clear h hD hR hcap2
  go_enter Try.func33, Try.ntmps33
  go_wp2_with fail
  go_loopw [5] (fun i wr => ∃ k : Nat, i = .int .i64 (k : Int) ∧ k ≤ n ∧ downD D d k ∧ (boxD d w).grownBy wr none) (fun i _ => (intOf i).toNat)
  case atStart => exact ⟨n, rfl, Nat.le_refl _, ⟨by omega, fun t h1 h2 => by omega⟩, gb_refl _ _⟩
  case round =>
    obtain ⟨k, rfl, hk, hs, hg⟩ := hrel
    have HS := Lib.hid hs
    have HG := Lib.hid hg
    have HS1 := Lib.hid (show w.heap.size + 1 ≤ wr.heap.size by have := hg.size; rw [boxD, alloc_size] at this; exact this)
    have bb := BB.out.grown hg (by simp)
    have t0 : wr.cell? ⟨w.heap.size, 0, none⟩ = some (.int .i64 d.1) := bb.cell 0
    have t1 : wr.cell? ⟨w.heap.size, 1, none⟩ = some (.int .i64 d.2) := bb.cell 1
    have BBR := Lib.hid bb
    have HAIR := Lib.hid (HI.out.none (Nat.le_refl _) (gb_trans BG.out hg))
    have HK := Lib.hid hk
    clear bb hs hg
    by_cases h0 : k = 0
    · have H0 := Lib.hid h0
      have hd : decide (0 < k) = false := decide_eq_false (by omega)
      have HR := Lib.hid (HDP.out k HS.out (fun m e => by omega))
      have HAI := HAIR
      have HSW := Lib.hid (show w.heap.size ≤ wr.heap.size by have := HS1.out; omega)
      have BBW := BBR
      have GWS := Lib.hid (gb_refl wr none)
      clear h0 BBR HAIR
      by_cases hck : cap = k
      · have HCK := Lib.hid (show n - k = 0 by omega)
        have HDN := Lib.hid (show D.drop k = [] by rw [List.drop_eq_nil_iff]; omega)
        go_wp2_with fail
        go_quiet (fail)
        go_wp2_with fail
        go_quiet (fail)
        go_wp2_with (first
          | (at_builtin; refine wpList_app_ownD _ rfl (.tmp 34) (.tmp 37) rfl i0 hi hz0 hz1 hz2 wr.heap.size 0 k _ w.heap.size _ [] (D.take k) _ rfl rfl (own_madeD _ (Nat.le_refl _)) ((HAI.out.none HSW.out (gb_alloc (gb_drewN (gb_refl _ none) _) _)).take HK.out) (by omega) (by simp) ?_; intro v1 wA ho2 hg2; have HG3 := Lib.hid (gb_un (gb_made hg2)); have HS2 := Lib.hid HG3.out.size; have bb2 := BBW.out.grown HG3.out (by simp); have t2 : wA.cell? ⟨w.heap.size, 0, none⟩ = some (.int .i64 d.1) := bb2.cell 0; have t3 : wA.cell? ⟨w.heap.size, 1, none⟩ = some (.int .i64 d.2) := bb2.cell 1; have O2 := Lib.hid (own_castD ho2 (Nat.zero_add k) (congrArg depV (List.nil_append _))); clear ho2 hg2 bb2)
          | (at_builtin; refine wpList_append_own _ rfl (.tmp 39) (.tmp 41) 35 rfl wr.heap.size 49 i0 (.agg #[.int .i64 0, .int .i64 0]) 2 16 Try.underlying35 hi hz0 hz1 hz2 rfl (by decide) _ k _ rfl (O2.out.alloc _) ⟨wA.heap.size, 0, none⟩ 1 1 [.int .i64 d.1, .int .i64 d.2] rfl rfl (World.news_of_block (cs := #[.int .i64 d.1, .int .i64 d.2]) (t := 49) (fr := (0, 0)) (heap_alloc_new wA _)) b2.out (by unfold maxLen; omega) (by omega) (by have := HS2.out; simp; omega) ?_; intro v3 wB ho3 hg3 _; have B3 := Lib.hid (show Below wr.heap.size wr wB from (((gb_below_none HG3.out (Nat.le_refl _)).alloc HS2.out _).grown hg3 (by have := HS2.out; simp; omega) (fun q hq => (O2.out.lt q hq).1))); have O3 := Lib.hid (own_castD ho3 rfl (show depV (D.take k) ++ [Value.int .i64 d.1, Value.int .i64 d.2] = depV (D.take k ++ [d]) by rw [depV_append]; rfl)); clear ho3 hg3 t2 t3)
          | (at_builtin; refine wpList_app_ownD _ rfl (.tmp 43) (.tmp 46) rfl i0 hi hz0 hz1 hz2 wr.heap.size (k + 1) (n - k) _ w.heap.size _ (D.take k ++ [d]) (D.drop k) _ rfl rfl O3.out (by first | (have h5 := (HAI.out.below (B3.out.mono HSW.out)).drop HK.out; rw [Nat.zero_add] at h5; exact h5) | (have h5 := HDN.out; simp only [HCK.out, h5]; exact DepAt.nil _ _ _)) (by omega) B3.out.size ?_; intro v4 wC ho4 hg4; have O4 := Lib.hid ho4; have G4 := Lib.hid (gb_of_below (B3.out.grown hg4 B3.out.size (fun q hq => (O3.out.lt q hq).1)) none); clear ho4 hg4))
        go_ret
        exact put_ret (HR.out.trans (by simp)) (by simp [HL.out]; omega) (by omega) (Nat.le_trans hbase HSW.out) O4.out (gb_trans (gb_trans BG.out HG.out) (gb_trans GWS.out G4.out))
      · have HCK := Lib.hid hck
        have HDN := Lib.hid hck
        go_wp2_with fail
        go_quiet (fail)
        go_wp2_with fail
        go_quiet (fail)
        go_wp2_with (first
          | (at_builtin; refine wpList_app_ownD _ rfl (.tmp 34) (.tmp 37) rfl i0 hi hz0 hz1 hz2 wr.heap.size 0 k _ w.heap.size _ [] (D.take k) _ rfl rfl (own_madeD _ (Nat.le_refl _)) ((HAI.out.none HSW.out (gb_alloc (gb_drewN (gb_refl _ none) _) _)).take HK.out) (by omega) (by simp) ?_; intro v1 wA ho2 hg2; have HG3 := Lib.hid (gb_un (gb_made hg2)); have HS2 := Lib.hid HG3.out.size; have bb2 := BBW.out.grown HG3.out (by simp); have t2 : wA.cell? ⟨w.heap.size, 0, none⟩ = some (.int .i64 d.1) := bb2.cell 0; have t3 : wA.cell? ⟨w.heap.size, 1, none⟩ = some (.int .i64 d.2) := bb2.cell 1; have O2 := Lib.hid (own_castD ho2 (Nat.zero_add k) (congrArg depV (List.nil_append _))); clear ho2 hg2 bb2)
          | (at_builtin; refine wpList_append_own _ rfl (.tmp 39) (.tmp 41) 35 rfl wr.heap.size 49 i0 (.agg #[.int .i64 0, .int .i64 0]) 2 16 Try.underlying35 hi hz0 hz1 hz2 rfl (by decide) _ k _ rfl (O2.out.alloc _) ⟨wA.heap.size, 0, none⟩ 1 1 [.int .i64 d.1, .int .i64 d.2] rfl rfl (World.news_of_block (cs := #[.int .i64 d.1, .int .i64 d.2]) (t := 49) (fr := (0, 0)) (heap_alloc_new wA _)) b2.out (by unfold maxLen; omega) (by omega) (by have := HS2.out; simp; omega) ?_; intro v3 wB ho3 hg3 _; have B3 := Lib.hid (show Below wr.heap.size wr wB from (((gb_below_none HG3.out (Nat.le_refl _)).alloc HS2.out _).grown hg3 (by have := HS2.out; simp; omega) (fun q hq => (O2.out.lt q hq).1))); have O3 := Lib.hid (own_castD ho3 rfl (show depV (D.take k) ++ [Value.int .i64 d.1, Value.int .i64 d.2] = depV (D.take k ++ [d]) by rw [depV_append]; rfl)); clear ho3 hg3 t2 t3)
          | (at_builtin; refine wpList_app_ownD _ rfl (.tmp 43) (.tmp 46) rfl i0 hi hz0 hz1 hz2 wr.heap.size (k + 1) (n - k) _ w.heap.size _ (D.take k ++ [d]) (D.drop k) _ rfl rfl O3.out (by first | (have h5 := (HAI.out.below (B3.out.mono HSW.out)).drop HK.out; rw [Nat.zero_add] at h5; exact h5) | (have h5 := HDN.out; simp only [HCK.out, h5]; exact DepAt.nil _ _ _)) (by omega) B3.out.size ?_; intro v4 wC ho4 hg4; have O4 := Lib.hid ho4; have G4 := Lib.hid (gb_of_below (B3.out.grown hg4 B3.out.size (fun q hq => (O3.out.lt q hq).1)) none); clear ho4 hg4))
        go_ret
        exact put_ret (HR.out.trans (by simp)) (by simp [HL.out]; omega) (by omega) (Nat.le_trans hbase HSW.out) O4.out (gb_trans (gb_trans BG.out HG.out) (gb_trans GWS.out G4.out))
    · obtain ⟨m, hm⟩ : ∃ m, k = m + 1 := ⟨k - 1, by omega⟩
      obtain ⟨_, _, hA, _, c0, c1⟩ := HAIR.out.at m (by omega)
      injection hA with hA
      injection hA with hA1 hA2
      subst hA1
      subst hA2
      rw [Nat.zero_add] at c0 c1
      obtain ⟨x, hx⟩ : ∃ x, atD D m = x := ⟨_, rfl⟩
      rw [hx] at c0 c1
      have HX := Lib.hid hx
      have HM := Lib.hid hm
      have m0 : (0 : Int) ≤ (m : Int) := by omega
      have m1 : (m : Int) < (n : Int) := by omega
      have e2 : IntKind.i64.wrap ((k : Int) - 1) = (m : Int) := by rw [IntWalk.i64_in _ (by omega)]; omega
      have hd : decide (0 < k) = true := decide_eq_true (by omega)
      have hpos : (0 : Int) < (k : Int) := by omega
      cases hlt : ltD d x with
      | true =>
        have HL2 := Lib.hid (fun w => show Calls Try.prog 41 #[.agg #[.int .i64 d.1, .int .i64 d.2], .agg #[.int .i64 x.1, .int .i64 x.2]] w (RetB true w) from hlt ▸ HLT.out d x w)
        have HNX := Lib.hid (show downD D d m from down_next (by have := HS.out; rw [HM.out] at this; exact this) (by rw [HX.out]; exact hlt))
        clear hx hlt h0 hm
        go_wp2_with fail
        go_region_held3 (fun w' => w'.cell? ⟨w.heap.size, 0, none⟩ = some (.int .i64 d.1) ∧ w'.cell? ⟨w.heap.size, 1, none⟩ = some (.int .i64 d.2) ∧ w'.cell? ⟨g, m * 2, none⟩ = some (.int .i64 x.1) ∧ w'.cell? ⟨g, m * 2 + 1, none⟩ = some (.int .i64 x.2))
          (first | exact ⟨t0, t1, c0, c1⟩ | exact ⟨d0, d1, d2, d3⟩ | fail)
          (first
            | (go_at_call 41; (with_reducible refine (HL2.out _).mono ?_); rintro e w4 ⟨rfl, hg4⟩; have h4 := gb_drP hg4; have d0 := h4.cell t0 (by simp); have d1 := h4.cell t1 (by simp); have d2 := h4.cell c0 (by simp); have d3 := h4.cell c1 (by simp); have G4 := Lib.hid (gb_trans HG.out h4); clear h4 hg4)
            | fail)
        all_goals
          clear d0 d1 d2 d3 t0 t1 c0 c1 hd hpos e2
          go_wp2_with fail
          go_roundw
          case rel => exact ⟨m, by have := HM.out; go_num, by have := HM.out; omega, HNX.out, G4.out⟩
          case measure => have := HM.out; simp [intOf]; omega
      | false =>
        by_cases hxd : x = d
        · subst hxd
          have HL2 := Lib.hid (fun w => show Calls Try.prog 41 #[.agg #[.int .i64 x.1, .int .i64 x.2], .agg #[.int .i64 x.1, .int .i64 x.2]] w (RetB false w) from hlt ▸ HLT.out x x w)
          have HR := Lib.hid (HTH.out m (by omega) hx)
          clear hx hlt h0 hm
          go_wp2_with fail
          go_region_held3 (fun w' => w'.cell? ⟨w.heap.size, 0, none⟩ = some (.int .i64 x.1) ∧ w'.cell? ⟨w.heap.size, 1, none⟩ = some (.int .i64 x.2) ∧ w'.cell? ⟨g, m * 2, none⟩ = some (.int .i64 x.1) ∧ w'.cell? ⟨g, m * 2 + 1, none⟩ = some (.int .i64 x.2))
            (first | exact ⟨t0, t1, c0, c1⟩ | exact ⟨d0, d1, d2, d3⟩ | fail)
            (first
              | (go_at_call 41; (with_reducible refine (HL2.out _).mono ?_); rintro e w4 ⟨rfl, hg4⟩; have h4 := gb_drP hg4; have d0 := h4.cell t0 (by simp); have d1 := h4.cell t1 (by simp); have d2 := h4.cell c0 (by simp); have d3 := h4.cell c1 (by simp); have G4 := Lib.hid (gb_trans BG.out (gb_trans HG.out h4)); clear h4 hg4)
              | fail)
          all_goals
            clear t0 t1 c0 c1
            go_wp2_with fail
            go_quiet (fail)
            go_wp2_with fail
            go_ret
            exact put_there HR.out.symm HL.out hbase HO.out (gb_drewN G4.out _)
        · have HL2 := Lib.hid (fun w => show Calls Try.prog 41 #[.agg #[.int .i64 d.1, .int .i64 d.2], .agg #[.int .i64 x.1, .int .i64 x.2]] w (RetB false w) from hlt ▸ HLT.out d x w)
          have heq := run_neD hxd
          have HR := Lib.hid (HDP.out k HS.out (fun m' e => by obtain rfl : m' = m := (by omega); exact ⟨by rw [hx]; exact hlt, by rw [hx]; exact hxd⟩))
          clear hx hlt h0 hxd hm
          go_wp2_with fail
          go_region_held3 (fun w' => w'.cell? ⟨w.heap.size, 0, none⟩ = some (.int .i64 d.1) ∧ w'.cell? ⟨w.heap.size, 1, none⟩ = some (.int .i64 d.2) ∧ w'.cell? ⟨g, m * 2, none⟩ = some (.int .i64 x.1) ∧ w'.cell? ⟨g, m * 2 + 1, none⟩ = some (.int .i64 x.2))
            (first | exact ⟨t0, t1, c0, c1⟩ | exact ⟨d0, d1, d2, d3⟩ | fail)
            (first
              | (go_at_call 41; (with_reducible refine (HL2.out _).mono ?_); rintro e w4 ⟨rfl, hg4⟩; have h4 := gb_drP hg4; have d0 := h4.cell t0 (by simp); have d1 := h4.cell t1 (by simp); have d2 := h4.cell c0 (by simp); have d3 := h4.cell c1 (by simp); have G4 := Lib.hid h4; clear h4 hg4)
              | fail)
          all_goals
            have HAI := Lib.hid (HAIR.out.none (by have := HS1.out; omega) G4.out)
            have HSW := Lib.hid (show w.heap.size ≤ w4.heap.size by have := HS1.out; have := G4.out.size; omega)
            have BBW := Lib.hid (BBR.out.grown G4.out (by simp))
            have GWS := G4
            clear t0 t1 c0 c1
            by_cases hck : cap = k
            · have HCK := Lib.hid (show n - k = 0 by omega)
              have HDN := Lib.hid (show D.drop k = [] by rw [List.drop_eq_nil_iff]; omega)
              go_wp2_with fail
              go_quiet (fail)
              go_wp2_with (first
                | (at_builtin; refine wpList_app_ownD _ rfl (.tmp 34) (.tmp 37) rfl i0 hi hz0 hz1 hz2 w4.heap.size 0 k _ w.heap.size _ [] (D.take k) _ rfl rfl (own_madeD _ (Nat.le_refl _)) ((HAI.out.none HSW.out (gb_alloc (gb_drewN (gb_refl _ none) _) _)).take HK.out) (by omega) (by simp) ?_; intro v1 wA ho2 hg2; have HG3 := Lib.hid (gb_un (gb_made hg2)); have HS2 := Lib.hid HG3.out.size; have bb2 := BBW.out.grown HG3.out (by simp); have t2 : wA.cell? ⟨w.heap.size, 0, none⟩ = some (.int .i64 d.1) := bb2.cell 0; have t3 : wA.cell? ⟨w.heap.size, 1, none⟩ = some (.int .i64 d.2) := bb2.cell 1; have O2 := Lib.hid (own_castD ho2 (Nat.zero_add k) (congrArg depV (List.nil_append _))); clear ho2 hg2 bb2)
                | (at_builtin; refine wpList_append_own _ rfl (.tmp 39) (.tmp 41) 35 rfl w4.heap.size 49 i0 (.agg #[.int .i64 0, .int .i64 0]) 2 16 Try.underlying35 hi hz0 hz1 hz2 rfl (by decide) _ k _ rfl (O2.out.alloc _) ⟨wA.heap.size, 0, none⟩ 1 1 [.int .i64 d.1, .int .i64 d.2] rfl rfl (World.news_of_block (cs := #[.int .i64 d.1, .int .i64 d.2]) (t := 49) (fr := (0, 0)) (heap_alloc_new wA _)) b2.out (by unfold maxLen; omega) (by omega) (by have := HS2.out; simp; omega) ?_; intro v3 wB ho3 hg3 _; have B3 := Lib.hid (show Below w4.heap.size w4 wB from (((gb_below_none HG3.out (Nat.le_refl _)).alloc HS2.out _).grown hg3 (by have := HS2.out; simp; omega) (fun q hq => (O2.out.lt q hq).1))); have O3 := Lib.hid (own_castD ho3 rfl (show depV (D.take k) ++ [Value.int .i64 d.1, Value.int .i64 d.2] = depV (D.take k ++ [d]) by rw [depV_append]; rfl)); clear ho3 hg3 t2 t3)
                | (at_builtin; refine wpList_app_ownD _ rfl (.tmp 43) (.tmp 46) rfl i0 hi hz0 hz1 hz2 w4.heap.size (k + 1) (n - k) _ w.heap.size _ (D.take k ++ [d]) (D.drop k) _ rfl rfl O3.out (by first | (have h5 := (HAI.out.below (B3.out.mono HSW.out)).drop HK.out; rw [Nat.zero_add] at h5; exact h5) | (have h5 := HDN.out; simp only [HCK.out, h5]; exact DepAt.nil _ _ _)) (by omega) B3.out.size ?_; intro v4 wC ho4 hg4; have O4 := Lib.hid ho4; have G4 := Lib.hid (gb_of_below (B3.out.grown hg4 B3.out.size (fun q hq => (O3.out.lt q hq).1)) none); clear ho4 hg4))
              go_ret
              exact put_ret (HR.out.trans (by simp)) (by simp [HL.out]; omega) (by omega) (Nat.le_trans hbase HSW.out) O4.out (gb_trans (gb_trans BG.out HG.out) (gb_trans GWS.out G4.out))
            · have HCK := Lib.hid hck
              have HDN := Lib.hid hck
              go_wp2_with fail
              go_quiet (fail)
              go_wp2_with (first
                | (at_builtin; refine wpList_app_ownD _ rfl (.tmp 34) (.tmp 37) rfl i0 hi hz0 hz1 hz2 w4.heap.size 0 k _ w.heap.size _ [] (D.take k) _ rfl rfl (own_madeD _ (Nat.le_refl _)) ((HAI.out.none HSW.out (gb_alloc (gb_drewN (gb_refl _ none) _) _)).take HK.out) (by omega) (by simp) ?_; intro v1 wA ho2 hg2; have HG3 := Lib.hid (gb_un (gb_made hg2)); have HS2 := Lib.hid HG3.out.size; have bb2 := BBW.out.grown HG3.out (by simp); have t2 : wA.cell? ⟨w.heap.size, 0, none⟩ = some (.int .i64 d.1) := bb2.cell 0; have t3 : wA.cell? ⟨w.heap.size, 1, none⟩ = some (.int .i64 d.2) := bb2.cell 1; have O2 := Lib.hid (own_castD ho2 (Nat.zero_add k) (congrArg depV (List.nil_append _))); clear ho2 hg2 bb2)
                | (at_builtin; refine wpList_append_own _ rfl (.tmp 39) (.tmp 41) 35 rfl w4.heap.size 49 i0 (.agg #[.int .i64 0, .int .i64 0]) 2 16 Try.underlying35 hi hz0 hz1 hz2 rfl (by decide) _ k _ rfl (O2.out.alloc _) ⟨wA.heap.size, 0, none⟩ 1 1 [.int .i64 d.1, .int .i64 d.2] rfl rfl (World.news_of_block (cs := #[.int .i64 d.1, .int .i64 d.2]) (t := 49) (fr := (0, 0)) (heap_alloc_new wA _)) b2.out (by unfold maxLen; omega) (by omega) (by have := HS2.out; simp; omega) ?_; intro v3 wB ho3 hg3 _; have B3 := Lib.hid (show Below w4.heap.size w4 wB from (((gb_below_none HG3.out (Nat.le_refl _)).alloc HS2.out _).grown hg3 (by have := HS2.out; simp; omega) (fun q hq => (O2.out.lt q hq).1))); have O3 := Lib.hid (own_castD ho3 rfl (show depV (D.take k) ++ [Value.int .i64 d.1, Value.int .i64 d.2] = depV (D.take k ++ [d]) by rw [depV_append]; rfl)); clear ho3 hg3 t2 t3)
                | (at_builtin; refine wpList_app_ownD _ rfl (.tmp 43) (.tmp 46) rfl i0 hi hz0 hz1 hz2 w4.heap.size (k + 1) (n - k) _ w.heap.size _ (D.take k ++ [d]) (D.drop k) _ rfl rfl O3.out (by first | (have h5 := (HAI.out.below (B3.out.mono HSW.out)).drop HK.out; rw [Nat.zero_add] at h5; exact h5) | (have h5 := HDN.out; simp only [HCK.out, h5]; exact DepAt.nil _ _ _)) (by omega) B3.out.size ?_; intro v4 wC ho4 hg4; have O4 := Lib.hid ho4; have G4 := Lib.hid (gb_of_below (B3.out.grown hg4 B3.out.size (fun q hq => (O3.out.lt q hq).1)) none); clear ho4 hg4))
              go_ret
              exact put_ret (HR.out.trans (by simp)) (by simp [HL.out]; omega) (by omega) (Nat.le_trans hbase HSW.out) O4.out (gb_trans (gb_trans BG.out HG.out) (gb_trans GWS.out G4.out))
end Go.Proofs.Ytnielgpcfgfioaa
