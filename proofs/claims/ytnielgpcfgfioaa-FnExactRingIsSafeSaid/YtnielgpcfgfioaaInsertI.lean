/- What is proved here: what the program's insert makes of an ascending list of the caller's own and one dependency: the same list if it is there, else the list with it at its place. -/
import Derived.Test.YtnielgpcfgfioaaBsI
import Derived.Test.YtnielgpcfgfioaaInsI
import Derived.Test.YtnielgpcfgfioaaNewR
namespace Go.Proofs.Ytnielgpcfgfioaa
open Go.ChangeShapes Go.WideShapes Go.ChangeAt Go.RowKit
set_option linter.unusedVariables false
set_option maxRecDepth 20000

theorem libInsert (base n vb i : Nat) (v : Value) (D : List Dep) (x : Dep) (w : World) (h : w.ownsRow base 49 2 v n (depV D)) (hb : Blk w vb 49 #[.int .i64 x.1, .int .i64 x.2]) (hbase : base ≤ w.heap.size) (hn : n ≤ 4000000000) (hi : i ≤ n) (hne : v.ownBlock ≠ some vb) :
    Calls Try.prog 43 #[v, .int .i64 i, .slice (some ⟨vb, 0, none⟩) 1 1] w (PutAt base v (D.take i ++ x :: D.drop i) w) := by
  have hl := own_dep_length h
  rcases Nat.lt_or_eq_of_le hi with h1 | h1
  · obtain ⟨A, cap, rfl, ha⟩ := own_form h
    obtain ⟨g, rfl⟩ := ha (by omega)
    have hne' : vb ≠ g := fun e => hne (by rw [e]; rfl)
    by_cases hr : n + 1 ≤ cap
    · exact libInsShift base n vb g cap i D x w h hb hbase hn h1 hr hne'
    · exact libInsGrow base n vb g cap i D x w h hb hbase hn h1 (by omega)
  · subst h1
    have e : D.take i ++ x :: D.drop i = D ++ [x] := by rw [← hl, List.take_length, List.drop_length]
    rw [e]
    exact libInsEnd base i vb v D x w h hb hbase hn

theorem implInsert (base n : Nat) (v : Value) (D : List Dep) (d : Dep) (hD : ascD D) (w : World) (h : w.ownsRow base 49 2 v n (depV D)) (hbase : base ≤ w.heap.size) (hn : n ≤ 4000000000) :
    Calls Try.prog 34 #[v, .agg #[.int .i64 d.1, .int .i64 d.2], .func (.func 36) #[] #[]] w (PutAt base v (insD D d) w) := by
  have hl := own_dep_length h
  have hlow := lowN_le D d
  obtain ⟨A, cap, rfl, ha⟩ := own_form h
  have HO := Lib.hid h
  have BG := Lib.hid (boxD_gb d w)
  have BB := Lib.hid (boxD_blk d w)
  have h1 : (boxD d w).ownsRow base 49 2 (.slice A n cap) n (depV D) := own_none h (boxD_gb d w)
  have H1 := Lib.hid h1
  have HBS := Lib.hid (libSearch A n cap D d hD (boxD d w) (depAt_own h1 (Nat.le_refl _)) hn)
  have HIN := Lib.hid (fun (vb : Nat) (w' : World) (h' : w'.ownsRow base 49 2 (.slice A n cap) n (depV D)) (hb : Blk w' vb 49 #[.int .i64 d.1, .int .i64 d.2]) (hbase' : base ≤ w'.heap.size) (hne : (Value.slice A n cap).ownBlock ≠ some vb) =>
    libInsert base n vb (lowN D d) (.slice A n cap) D d w' h' hb hbase' hn (by omega) hne)
  clear h h1 ha
  by_cases hd : d ∈ D
  · have hr := ins_there hd
    rw [hr]
    have HD := Lib.hid (decide_eq_true hd)
    clear hd hr
    have HBS2 := Lib.hid (show Calls _ _ _ (boxD d w) fun e w' => e = .returned (.tuple #[.int .i64 (lowN D d : Nat), .bool true]) ∧ (boxD d w).grownBy w' none from (HBS.out.mono fun e w' h => ⟨by rw [h.1, HD.out], h.2⟩))
    clear HBS
    go_enter Try.func34, Try.ntmps34
    go_wp2_with fail
    refine HBS2.out.mono ?_
    rintro e w2 ⟨rfl, hg2⟩
    have G2 := Lib.hid (gb_trans BG.out hg2)
    clear hg2
    go_wp2_with fail
    go_ret
    exact ⟨_, rfl, put_own (own_none HO.out G2.out) hl.symm rfl, gb_of_none G2.out _⟩
  · have hr : insD D d = D.take (lowN D d) ++ d :: D.drop (lowN D d) := ins_new hd
    rw [hr]
    have HD := Lib.hid (decide_eq_false hd)
    clear hd hr
    have HBS2 := Lib.hid (show Calls _ _ _ (boxD d w) fun e w' => e = .returned (.tuple #[.int .i64 (lowN D d : Nat), .bool false]) ∧ (boxD d w).grownBy w' none from (HBS.out.mono fun e w' h => ⟨by rw [h.1, HD.out], h.2⟩))
    clear HBS
    obtain ⟨k, hk⟩ : ∃ k, lowN D d = k := ⟨_, rfl⟩
    rw [hk] at HBS2 HIN hlow
    rw [hk]
    obtain ⟨R, hR⟩ : ∃ R, D.take k ++ d :: D.drop k = R := ⟨_, rfl⟩
    rw [hR] at HIN
    rw [hR]
    clear hk hR
    go_enter Try.func34, Try.ntmps34
    go_wp2_with fail
    refine HBS2.out.mono ?_
    rintro e w2 ⟨rfl, hg2⟩
    have bb := BB.out.grown hg2 (by simp)
    have t0 : w2.cell? ⟨w.heap.size, 0, none⟩ = some (.int .i64 d.1) := bb.cell 0
    have t1 : w2.cell? ⟨w.heap.size, 1, none⟩ = some (.int .i64 d.2) := bb.cell 1
    have O2 := Lib.hid (own_none H1.out hg2)
    have G2 := Lib.hid (gb_trans BG.out hg2)
    clear hg2 bb
    go_wp2_with fail
    refine (HIN.out w2.heap.size _ (O2.out.alloc _) (Blk.new w2 _ _) (by have := G2.out.size; rw [alloc_size]; omega) (fun e => by have := (O2.out.lt _ e).2; omega)).mono ?_
    rintro e w3 ⟨v', rfl, ho3, hg3⟩
    have X3 := Lib.hid (show PutAt base (.slice A n cap) R w (.returned v') w3 from ⟨v', rfl, ho3, gb_trans (gb_of_none (gb_trans G2.out (gb_alloc (gb_refl _ _) _)) _) hg3⟩)
    clear t0 t1 ho3 hg3
    go_wp2_with fail
    go_ret
    exact X3.out
end Go.Proofs.Ytnielgpcfgfioaa
