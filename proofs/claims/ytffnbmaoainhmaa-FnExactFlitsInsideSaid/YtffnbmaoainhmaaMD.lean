/- What is proved here: the ways of a valid table between the nodes of a pair; nothing of the program; the program's list of the walks between all pairs of nodes: empty for a table that is not valid, else the walk of each pair in its order; only new blocks are written; what the program's TableOk returns, for all arguments; only new blocks are written; whether the program says that both tables of a pair are valid; only new blocks are written; what is known at a moment of the program's making the parts of a new network in whatever order; nothing of the program; whether the program says that all numbers of a list lie in a range, and what its BufferAt returns, for all arguments; only new blocks are written; when a network is valid, as the program asks it, part by part; nothing of the program; what the program says of the parts of a network: its lists' sizes, its buffers and its sources; only new blocks are written; what the program's NetOk, FlitsInside and FlitsWaiting return, for all arguments; only new blocks are written; the program's new network, for all arguments; only new blocks are written; the law on new networks answers true, for every draw; only new blocks are written; a slice of numbers inside an argument can be read; nothing of the program; a table that came in as an argument is a slice of numbers that can be read; nothing of the program; a slice of flits that came in as an argument can be read; nothing of the program; a slice of slices of flits that came in as an argument can be read; nothing of the program; a network that came in as an argument is numbers and slices that can be read; nothing of the program. -/
import Derived.Test.YtffnbmaoainhmaaMC
import Derived.Deep.RegionHeld3
import Derived.Deep.Slices
import Derived.Lib.SmallJoins
section
namespace Go.Proofs.Ytffnbmaoainhmaa
open Go.ChangeShapes Go.WideShapes Go.ChangeAt Go.RowKit
set_option linter.unusedVariables false
variable {W H : Int} {L P : List Int}

theorem pairW_at {k x y : Nat} (hk : cntN W H = k) (hy : y < k) : pairW W H L P (x * k + y) = walkOf W H L P x y := by
  have hki := cntN_int W H
  subst hk
  have e1 : ((x * cntN W H + y : Nat) : Int) / countG W H = x := by rw [← hki, ← Int.natCast_ediv, pair_div hy]
  have e2 : ((x * cntN W H + y : Nat) : Int) % countG W H = y := by rw [← hki, ← Int.natCast_emod, pair_mod hy]
  rw [pairW, e1, e2]
theorem walkG_valid {a b : Int} (h : tableG W H L P = true) (ha : hasG W H a = true) (hb : hasG W H b = true) : walkG W H L P a b = walkOf W H L P a b := by
  have hs := tableG_sized h
  unfold walkG
  by_cases e : a = b
  · subst e
    have he := tableG_entry h ha ha
    rw [entry_same, decide_eq_true_eq] at he
    rw [if_neg (by simp), walkOf, walkF_end he rfl]
    rfl
  · rw [if_pos ⟨by simp [askG, hs, ha, hb], e⟩]
theorem sqG_cnt {k : Nat} (hk : cntN W H = k) : sqG W H = k * k := by subst hk; rfl
end Go.Proofs.Ytffnbmaoainhmaa
end

section
namespace Go.Proofs.Ytffnbmaoainhmaa
open Go.ChangeShapes Go.WideShapes Go.ChangeAt Go.RowKit
set_option linter.unusedVariables false
set_option maxRecDepth 20000

theorem info_lists : (Try.prog.info? 26).map (fun i => (i.zero, i.size, i.bytes)) = some (some (.slice none 0 0), 1, 24) := by kernel_rfl
/-- A row of lists: element k is a row of the caller's own that holds the numbers of F k. -/
def ListsAt (w : World) (base : Nat) (v : Value) (N : Nat) (F : Nat → List Int) : Prop :=
  ∃ vs : List Value, w.ownsRow base 26 1 v N vs ∧ ∀ k, k < N → ∃ A c, vs[k]? = some (.slice A (F k).length c) ∧ w.ownsRow base 3 1 (.slice A (F k).length c) (F k).length (intsV (F k))
section
variable {w w' : World} {base : Nat} {v v' : Value} {N : Nat} {F : Nat → List Int}
theorem ListsAt.nil (w : World) (base : Nat) (F : Nat → List Int) : ListsAt w base (.slice none 0 0) 0 F := ⟨[], World.ownsRow_nil _ _ _ _, fun k h => by omega⟩
theorem ListsAt.gb (h : ListsAt w base v N F) (hg : w.grownBy w' none) : ListsAt w' base v N F := by
  obtain ⟨vs, ho, hi⟩ := h
  refine ⟨vs, own_none ho hg, fun k hk => ?_⟩
  obtain ⟨A, c, h1, h2⟩ := hi k hk
  exact ⟨A, c, h1, own_none h2 hg⟩
theorem ListsAt.below (h : ListsAt w base v N F) (hb : Below w.heap.size w w') : ListsAt w' base v N F := h.gb (gb_of_below hb none)
theorem ListsAt.less {b : Nat} (h : ListsAt w base v N F) (hb : b ≤ base) : ListsAt w b v N F := by
  obtain ⟨vs, ho, hi⟩ := h
  refine ⟨vs, own_less ho hb, fun k hk => ?_⟩
  obtain ⟨A, c, h1, h2⟩ := hi k hk
  exact ⟨A, c, h1, own_less h2 hb⟩
theorem ListsAt.form (h : ListsAt w base v N F) : ∃ A c, v = .slice A N c ∧ (0 < N → ∃ g, A = some ⟨g, 0, none⟩) := by obtain ⟨vs, ho, _⟩ := h; exact own_form ho
/-- A row of numbers does not lie where the row of lists lies. -/
theorem own_two {A : Option Addr} {n c k : Nat} {L : List Int} {vs : List Value} (h : w.ownsRow base 26 1 v N vs) (h2 : w.ownsRow base 3 1 (.slice A n c) k (intsV L)) : (Value.slice A n c).ownBlock = none ∨ (Value.slice A n c).ownBlock ≠ v.ownBlock := by
  rcases h2.2 with ⟨h3, _⟩ | ⟨g2, c2, cur2, h3, _, hg2, _⟩
  · rw [h3]; exact .inl rfl
  · right
    rw [h3]
    rcases h.2 with ⟨h4, _⟩ | ⟨g, c4, cur, h4, _, hg, _⟩
    · rw [h4]; intro e; cases e
    · rw [h4]
      intro e
      have e2 : g2 = g := Option.some.inj e
      subst e2
      rw [hg] at hg2
      have e3 := Option.some.inj hg2
      injection e3 with _ e4 _
      exact absurd e4 (by decide)
/-- One list more. -/
theorem ListsAt.app {A : Option Addr} {c : Nat} {o : Obj} {vs : List Value} {w4 : World} (ho : w.ownsRow base 26 1 v N vs) (hi : ∀ k, k < N → ∃ A c, vs[k]? = some (.slice A (F k).length c) ∧ w.ownsRow base 3 1 (.slice A (F k).length c) (F k).length (intsV (F k)))
    (h2 : w.ownsRow base 3 1 (.slice A (F N).length c) (F N).length (intsV (F N))) (ho4 : w4.ownsRow base 26 1 v' (N + 1) (vs ++ [.slice A (F N).length c])) (hg : (w.alloc o).grownBy w4 v.ownBlock) : ListsAt w4 base v' (N + 1) F := by
  have hvs : vs.length = N := by have := ho.1; omega
  have key : ∀ {A : Option Addr} {n c k : Nat} {L : List Int}, w.ownsRow base 3 1 (.slice A n c) k (intsV L) → w4.ownsRow base 3 1 (.slice A n c) k (intsV L) := fun h => (h.alloc o).kept hg (own_two ho h)
  refine ⟨_, ho4, fun k hk => ?_⟩
  rcases Nat.lt_succ_iff_lt_or_eq.1 hk with h | rfl
  · obtain ⟨A, c, h3, h4⟩ := hi k h
    exact ⟨A, c, by rw [List.getElem?_append_left (by omega)]; exact h3, key h4⟩
  · exact ⟨A, c, by rw [List.getElem?_append_right (by omega), hvs, Nat.sub_self]; rfl, key h2⟩
/-- One list of a row. -/
theorem ListsAt.at {A : Option Addr} {n c : Nat} (h : ListsAt w base (.slice A n c) N F) (k : Nat) (hk : k < N) : ∃ g B d, A = some ⟨g, 0, none⟩ ∧ w.cell? ⟨g, k, none⟩ = some (.slice B (F k).length d) ∧ w.ownsRow base 3 1 (.slice B (F k).length d) (F k).length (intsV (F k)) := by
  obtain ⟨vs, ho, hi⟩ := h
  obtain ⟨B, d, h1, h2⟩ := hi k hk
  obtain ⟨A', c', e, hA⟩ := own_form ho
  obtain ⟨g, hg⟩ := hA (by omega)
  simp only [Value.slice.injEq] at e
  obtain ⟨rfl, rfl, rfl⟩ := e
  subst hg
  exact ⟨g, B, d, rfl, by rw [ho.cellAt k (by omega)]; exact h1, h2⟩
theorem one_slice (A : Option Addr) (n c : Nat) : ∀ u ∈ [Value.slice A n c], u.oneCell' = true := by simp [Value.oneCell']
end
/-- A new row of lists. -/
def NewL (N : Nat) (F : Nat → List Int) (w : World) (e : Ending) (w' : World) : Prop :=
  ∃ v, e = .returned v ∧ ListsAt w' w.heap.size v N F ∧ Below w.heap.size w w'
/-- How many walks there are. -/
def wlkN (W H : Int) (L P : List Int) : Nat := if tableG W H L P then sqG W H else 0
theorem wlkN_no {W H : Int} {L P : List Int} (h : tableG W H L P = false) : wlkN W H L P = 0 := if_neg (by simp [h])
theorem wlkN_yes {W H : Int} {L P : List Int} (h : tableG W H L P = true) : wlkN W H L P = sqG W H := if_pos h
/-- The square of ports in its block, and the row of walks so far. -/
def WksAt (W H : Int) (A A2 : Option Addr) (n cap n2 c2 : Nat) (L P : List Int) (w : World) (g1 j : Nat) (v : Value) (wr : World) : Prop :=
  Blk wr g1 127 (cellsX (portsX W H P P.length)) ∧ ListsAt wr (w.heap.size + 2) v j (pairW W H L P) ∧ w.heap.size + 2 ≤ g1 ∧ Below (w.heap.size + 2) (twoI W H A A2 n cap n2 c2 w) wr
section
variable {W H : Int} {A A2 : Option Addr} {n cap n2 c2 : Nat} {L P : List Int} {w wr w' : World} {g1 j : Nat} {v : Value}
theorem WksAt.gb (h : WksAt W H A A2 n cap n2 c2 L P w g1 j v wr) (hg : wr.grownBy w' none) : WksAt W H A A2 n cap n2 c2 L P w g1 j v w' :=
  ⟨h.1.grown hg (by simp), h.2.1.gb hg, h.2.2.1, below_gb h.2.2.2 (by rw [twoI_size]; exact Nat.le_refl _) hg⟩
theorem twoI_bm (h : Below (w.heap.size + 2) (twoI W H A A2 n cap n2 c2 w) wr) : Blk wr w.heap.size 28 (meshC W H A n cap) :=
  ((Blk.new w 28 (meshC W H A n cap)).alloc _).below h (by omega)
theorem twoI_bo (h : Below (w.heap.size + 2) (twoI W H A A2 n cap n2 c2 w) wr) : Below w.heap.size w wr :=
  (gb_below_none twoI_gb (Nat.le_refl _)).trans (h.mono (by omega))
theorem twoI_bs (h : Below (w.heap.size + 2) (twoI W H A A2 n cap n2 c2 w) wr) : w.heap.size + 2 ≤ wr.heap.size := by have := h.size; rw [twoI_size] at this; exact this
theorem WksAt.cells (h : WksAt W H A A2 n cap n2 c2 L P w g1 j v wr) : wr.cell? ⟨w.heap.size, 0, none⟩ = some (.int .i64 W) ∧ wr.cell? ⟨w.heap.size, 1, none⟩ = some (.int .i64 H) ∧ wr.cell? ⟨w.heap.size, 2, none⟩ = some (.slice A n cap) :=
  ⟨(twoI_bm h.2.2.2).cell 0, (twoI_bm h.2.2.2).cell 1, (twoI_bm h.2.2.2).cell 2⟩
end
set_option maxHeartbeats 1600000 in
theorem implWalksOf (W H : Int) (A A2 : Option Addr) (n cap n2 c2 : Nat) (L P : List Int) (hL : WfL L) (w : World) (h : IntAt w w.heap.size A n L) (h2 : IntAt w w.heap.size A2 n2 P) (hn : n ≤ 1000000000) (hn2 : n2 ≤ 1000000000) :
    Calls Try.prog 92 #[.agg #[.int .i64 W, .int .i64 H, .slice A n cap], .agg #[.slice A2 n2 c2]] w (NewL (wlkN W H L P) (pairW W H L P) w) := by
  obtain ⟨i0, hi, hz0, hz1, hz2⟩ := info_parts info_lists
  have HI := Lib.hid h
  have HT1 := Lib.hid (h.twoI (W := W) (H := H) (A := A) (A2 := A2) (n := n) (cap := cap) (n2 := n2) (c2 := c2))
  have HT2 := Lib.hid (h2.twoI (W := W) (H := H) (A := A) (A2 := A2) (n := n) (cap := cap) (n2 := n2) (c2 := c2))
  have TZ := Lib.hid (twoI_size (W := W) (H := H) (A := A) (A2 := A2) (n := n) (cap := cap) (n2 := n2) (c2 := c2) (w := w))
  clear h h2
  obtain ⟨N, hN⟩ : ∃ N, wlkN W H L P = N := ⟨_, rfl⟩
  rw [hN]
  have HNN := Lib.hid hN
  clear hN
  cases hs : sizedG W H L P with
  | false =>
    have HPO := Lib.hid (fun w h h2 => implPortsNo W H A A2 n cap n2 c2 L P hL w h h2 hn hn2 hs)
    have HR := Lib.hid (HNN.out.symm.trans (wlkN_no (tableG_unsized hs)))
    clear hs hL
    go_enter Try.func92, Try.ntmps92
    go_wp2_with fail
    refine (HPO.out _ HT1.out HT2.out).mono ?_
    rintro e w1 ⟨rfl, hg⟩
    have HG1 := Lib.hid (show (twoI W H A A2 n cap n2 c2 w).grownBy w1 none from hg)
    clear hg
    go_wp2_with (refine wpList_storeX rfl (.tmp 5) _ rfl w1.heap.size zerosX zerosX rfl rfl (new_square w1) zerosX_length zerosX_length ?_; intro w2 hb2 hg2; have HG2 := Lib.hid (gb_square HG1.out hg2); clear hb2 hg2)
    go_ret
    exact ⟨_, rfl, by rw [HR.out]; exact ListsAt.nil _ _ _, gb_below_none (twoI_old HG2.out) (Nat.le_refl _)⟩
  | true =>
    have HPO := Lib.hid (fun w h h2 => implPortsYes W H A A2 n cap n2 c2 L P hL w h h2 hn hn2 hs)
    have HPX := Lib.hid (portsX_is hs)
    have hki := cntN_int W H
    obtain ⟨k, hk⟩ : ∃ k, cntN W H = k := ⟨_, rfl⟩
    have hk1 := cntN_le W H
    rw [hk] at hki hk1
    have HN := Lib.hid (fun w => show Calls Try.prog 38 #[.agg #[.int .i64 W, .int .i64 H]] w (RetI (k : Int) none w) from hki ▸ implNodeCount W H w)
    have HW := Lib.hid (fun (x y : Nat) (hx : x < k) (hy : y < k) w g h hb => implWalk W H A n cap L P (portsX W H P P.length) g x y hL w h hn HPX.out hb (by omega) (by omega))
    have HAT := Lib.hid (fun (x y : Nat) (hy : y < k) => pairW_at (L := L) (P := P) hk (x := x) hy)
    have HS := Lib.hid hs
    have HKI := Lib.hid hki
    have HKK := Lib.hid hk
    have HSQ := Lib.hid (sqG_cnt hk)
    clear hs hL hki hk
    go_enter Try.func92, Try.ntmps92
    go_wp2_with fail
    refine (HPO.out _ HT1.out HT2.out).mono ?_
    rintro e w1 ⟨rfl, hg⟩
    have HG1 := Lib.hid (show (twoI W H A A2 n cap n2 c2 w).grownBy w1 none from hg)
    clear hg
    go_wp2_with (refine wpList_storeX rfl (.tmp 5) _ rfl w1.heap.size zerosX (portsX W H P P.length) rfl rfl (new_square w1) zerosX_length (sqTo_length _ _ _) ?_; intro w2 hb2 hg2; have HX2 := Lib.hid (show WksAt W H A A2 n cap n2 c2 L P w w1.heap.size 0 (.slice none 0 0) w2 from ⟨hb2, ListsAt.nil _ _ _, twoI_le HG1.out, gb_below_none (gb_square HG1.out hg2) (by rw [TZ.out]; exact Nat.le_refl _)⟩); obtain ⟨a0, a1, _⟩ := HX2.out.cells; clear hb2 hg2)
    refine (HN.out _).mono ?_
    rintro e w3 ⟨rfl, hg3⟩
    have HX3 := Lib.hid (HX2.out.gb hg3)
    obtain ⟨g1, hg1⟩ : ∃ g, w1.heap.size = g := ⟨_, rfl⟩
    rw [hg1] at HX3
    clear a0 a1 hg3
    go_wp2_with fail
    (try rw [hg1])
    clear hg1
    go_loopw [7, 23] (fun v i wr => ∃ x : Nat, i = .int .i64 (x : Int) ∧ x ≤ k ∧ pairsTo W H L P x 0 ∧ WksAt W H A A2 n cap n2 c2 L P w g1 (x * k) v wr) (fun _ i _ => 17 - (intOf i).toNat)
    case atStart => exact ⟨0, rfl, Nat.zero_le _, pairs_zero, by rw [Nat.zero_mul]; exact HX3.out⟩
    case round =>
      obtain ⟨x, rfl, hxk, hpairs, hx⟩ := hrel
      have HP0 := Lib.hid hpairs
      have HX4 := Lib.hid hx
      obtain ⟨a0, a1, _⟩ := hx.cells
      clear hpairs hx
      by_cases hlt : x < k
      · have HXK := Lib.hid hlt
        have hx16 : (x : Int) < 16 := by omega
        go_wp2_with fail
        refine (HN.out _).mono ?_
        rintro e w4 ⟨rfl, hg4⟩
        have HX5 := Lib.hid (HX4.out.gb hg4)
        clear hg4 a0 a1
        go_wp2_with fail
        go_loopw [7, 29] (fun v i wr => ∃ y : Nat, i = .int .i64 (y : Int) ∧ y ≤ k ∧ pairsTo W H L P x y ∧ WksAt W H A A2 n cap n2 c2 L P w g1 (x * k + y) v wr) (fun _ i _ => 17 - (intOf i).toNat)
        case atStart => exact ⟨0, rfl, Nat.zero_le _, HP0.out, HX5.out⟩
        case round =>
          obtain ⟨y, rfl, hyk, hpairs, hy⟩ := hrel
          have HP1 := Lib.hid hpairs
          have HX6 := Lib.hid hy
          clear hpairs hy
          by_cases hlt2 : y < k
          · have hy16 : (y : Int) < 16 := by omega
            obtain ⟨a0, a1, a2⟩ := HX6.out.cells
            have hi2 := (HI.out.below (twoI_bo HX6.out.2.2.2)).more (B' := wr.heap.size) (twoI_bo HX6.out.2.2.2).size
            have HE := Lib.hid (ends_entry (W := W) (H := H) (L := L) (P := P) x y)
            obtain ⟨j, hj⟩ : ∃ j, x * k + y = j := ⟨_, rfl⟩
            have hj9 : j ≤ 256 := by
              have h1 : x * k ≤ 15 * 16 := Nat.mul_le_mul (by omega) (by omega)
              omega
            obtain ⟨R, hR⟩ : ∃ R, walkOf W H L P x y = R := ⟨_, rfl⟩
            have HF := Lib.hid (show pairW W H L P j = R by rw [← hj, ← hR]; exact HAT.out x y hlt2)
            have HW6 := Lib.hid (HW.out x y HXK.out hlt2 _ _ hi2 HX6.out.1)
            rw [hR] at HW6
            have HJ := Lib.hid hj
            rw [hj] at HX6
            clear hi2 hj hR
            go_wp2_with fail
            refine HW6.out.mono ?_
            rintro e w6 ⟨vq, rfl, ho6, hb6⟩
            have HX7 := Lib.hid (HX6.out.gb (gb_of_below hb6 none))
            obtain ⟨Aq, capq, rfl, _⟩ := own_form ho6
            have HO6 := Lib.hid (own_less ho6 (twoI_bs HX6.out.2.2.2))
            rw [HE.out]
            clear a0 a1 a2 ho6 hb6
            cases he : entryG W H L P x y with
            | false =>
              have hf := tableG_no (W := W) (H := H) (L := L) (P := P) (a := x) (b := y) (by rw [← HKI.out]; omega) (by rw [← HKI.out]; omega) he
              have HR := Lib.hid (HNN.out.symm.trans (wlkN_no hf))
              clear hf he
              go_wp2_with fail
              go_ret
              exact ⟨_, rfl, by rw [HR.out]; exact ListsAt.nil _ _ _, twoI_bo HX7.out.2.2.2⟩
            | true =>
              have HPn := Lib.hid (pairs_next HP1.out he)
              clear he
              obtain ⟨vs, hvo, hvi⟩ := HX7.out.2.1
              obtain ⟨Av, cv, rfl, _⟩ := own_form hvo
              have HVO := Lib.hid hvo
              have HVI := Lib.hid hvi
              have b3 := Lib.hid (one_slice Aq R.length capq)
              have b4 := Lib.hid (show j + 1 ≤ maxLen by unfold maxLen; omega)
              have b5 := Lib.hid (twoI_bs HX7.out.2.2.2)
              clear hvo hvi
              go_wp2_with (at_builtin; refine wpList_append_own _ rfl _ _ 116 rfl (w.heap.size + 2) 26 i0 (.slice none 0 0) 1 24 Try.underlying116 hi hz0 hz1 hz2 rfl (by decide) _ j _ rfl (HVO.out.alloc _) ⟨w6.heap.size, 0, none⟩ 1 1 [.slice Aq R.length capq] rfl rfl (World.news_of_block (cs := #[.slice Aq R.length capq]) (t := 26) (fr := (0, 0)) (heap_alloc_new w6 _)) b3.out b4.out (by omega) (by have := b5.out; simp; omega) ?_; intro v' w7 hown7 hgrow7 _)
              have HX8 := Lib.hid (show WksAt W H A A2 n cap n2 c2 L P w g1 (x * k + (y + 1)) v' w7 from by
                have h5 := HX7.out
                rw [← Nat.add_assoc, HJ.out]
                have hF := HF.out
                refine ⟨(h5.1.alloc _).grown hgrow7 (fun e => own_ne HVO.out h5.1 (by decide) e.symm), ?_, h5.2.2.1, (h5.2.2.2.alloc b5.out _).grown hgrow7 (by have := b5.out; simp; omega) (fun q hq => (HVO.out.lt q hq).1)⟩
                exact ListsAt.app (F := pairW W H L P) HVO.out HVI.out (by rw [hF]; exact HO6.out) (by rw [hF]; exact hown7) hgrow7)
              clear hown7 hgrow7
              go_wp2_with fail
              go_roundw
              case rel => exact ⟨y + 1, by go_num, by omega, HPn.out, HX8.out⟩
              case measure => simp [intOf]; omega
          · obtain rfl : y = k := by omega
            have HPr := Lib.hid (pairs_row HP1.out HKI.out)
            go_wp2_with fail
            go_roundw
            case rel => exact ⟨x + 1, by go_num, by omega, HPr.out, by rw [Nat.add_mul, Nat.one_mul]; exact HX6.out⟩
            case measure => simp [intOf]; omega
      · obtain rfl : x = k := by omega
        have hf := tableG_yes HS.out HP0.out HKI.out
        have HR := Lib.hid (show N = x * x by rw [← HNN.out, wlkN_yes hf, HSQ.out])
        clear a0 a1 hf
        go_wp2_with fail
        go_ret
        exact ⟨_, rfl, by rw [HR.out]; exact HX4.out.2.1.less (by omega), twoI_bo HX4.out.2.2.2⟩
end Go.Proofs.Ytffnbmaoainhmaa
end

section
namespace Go.Proofs.Ytffnbmaoainhmaa
open Go.ChangeShapes Go.WideShapes Go.ChangeAt Go.RowKit
set_option linter.unusedVariables false
set_option maxRecDepth 20000

theorem sqG_pos {W H : Int} {L P : List Int} (h : tableG W H L P = true) : 0 < sqG W H := by
  have hok := (meshG_ok (sizedG_mesh (tableG_sized h)).1).1
  obtain ⟨h1, _, h3, _⟩ := okG_iff.1 hok
  have hc : countG W H = W * H := by simp [countG, hok]
  have hp : 0 < W * H := Int.mul_pos (by omega) (by omega)
  have : 0 < (countG W H).toNat := by rw [hc]; omega
  exact Nat.mul_pos this this
theorem twoI_new {W H : Int} {A A2 : Option Addr} {n cap n2 c2 : Nat} {w w1 : World} (h : Below (twoI W H A A2 n cap n2 c2 w).heap.size (twoI W H A A2 n cap n2 c2 w) w1) : (twoI W H A A2 n cap n2 c2 w).grownBy w1 none := gb_of_below h none
theorem wlkN_small (W H : Int) (L P : List Int) : wlkN W H L P ≤ 256 := by
  unfold wlkN
  split
  · have h := cntN_le W H
    exact Nat.mul_le_mul h h
  · exact Nat.zero_le _

theorem implTableOk (W H : Int) (A A2 : Option Addr) (n cap n2 c2 : Nat) (L P : List Int) (hL : WfL L) (w : World) (h : IntAt w w.heap.size A n L) (h2 : IntAt w w.heap.size A2 n2 P) (hn : n ≤ 1000000000) (hn2 : n2 ≤ 1000000000) :
    Calls Try.prog 74 #[.agg #[.int .i64 W, .int .i64 H, .slice A n cap], .agg #[.slice A2 n2 c2]] w (RetB (tableG W H L P) w) := by
  have HT1 := Lib.hid (h.twoI (W := W) (H := H) (A := A) (A2 := A2) (n := n) (cap := cap) (n2 := n2) (c2 := c2))
  have HT2 := Lib.hid (h2.twoI (W := W) (H := H) (A := A) (A2 := A2) (n := n) (cap := cap) (n2 := n2) (c2 := c2))
  have HWK := Lib.hid (fun w h h2 => implWalksOf W H A A2 n cap n2 c2 L P hL w h h2 hn hn2)
  clear h h2 hL
  cases ht : tableG W H L P with
  | false =>
    rw [wlkN_no ht] at HWK
    clear ht
    go_enter Try.func74, Try.ntmps74
    go_wp2_with fail
    refine (HWK.out _ HT1.out HT2.out).mono ?_
    rintro e w1 ⟨va, rfl, hl1, hb1⟩
    obtain ⟨Aw, cw, rfl, _⟩ := hl1.form
    have G1 := Lib.hid (twoI_old (twoI_new hb1))
    clear hl1 hb1
    go_wp2_with fail
    go_ret
    exact ⟨ret_bool (by simp), G1.out⟩
  | true =>
    rw [wlkN_yes ht] at HWK
    have hp := sqG_pos ht
    obtain ⟨N, hN⟩ : ∃ N, sqG W H = N := ⟨_, rfl⟩
    rw [hN] at HWK hp
    clear ht hN
    go_enter Try.func74, Try.ntmps74
    go_wp2_with fail
    refine (HWK.out _ HT1.out HT2.out).mono ?_
    rintro e w1 ⟨va, rfl, hl1, hb1⟩
    obtain ⟨Aw, cw, rfl, _⟩ := hl1.form
    have G1 := Lib.hid (twoI_old (twoI_new hb1))
    clear hl1 hb1
    go_wp2_with fail
    go_ret
    exact ⟨ret_bool (by simp <;> omega), G1.out⟩
end Go.Proofs.Ytffnbmaoainhmaa
end

section
namespace Go.Proofs.Ytffnbmaoainhmaa
open Go.ChangeShapes Go.WideShapes Go.ChangeAt Go.RowKit
set_option linter.unusedVariables false
set_option maxRecDepth 20000

theorem implTableOkV (W H : Int) (A A2 : Option Addr) (n cap n2 c2 : Nat) (L P : List Int) (b : Bool) (hb : tableG W H L P = b) (hL : WfL L) (w : World) (h : IntAt w w.heap.size A n L) (h2 : IntAt w w.heap.size A2 n2 P) (hn : n ≤ 1000000000) (hn2 : n2 ≤ 1000000000) :
    Calls Try.prog 74 #[.agg #[.int .i64 W, .int .i64 H, .slice A n cap], .agg #[.slice A2 n2 c2]] w (RetB b w) := hb ▸ implTableOk W H A A2 n cap n2 c2 L P hL w h h2 hn hn2
theorem implClassesOk (W H : Int) (A AP AQ : Option Addr) (n cap nP cP nQ cQ : Nat) (L P Q : List Int) (hL : WfL L) (w : World) (h : IntAt w w.heap.size A n L) (hP : IntAt w w.heap.size AP nP P) (hQ : IntAt w w.heap.size AQ nQ Q) (hn : n ≤ 1000000000) (hnP : nP ≤ 1000000000) (hnQ : nQ ≤ 1000000000) :
    Calls Try.prog 37 #[.agg #[.int .i64 W, .int .i64 H, .slice A n cap], .agg #[.slice AP nP cP, .slice AQ nQ cQ]] w (RetB (clsOk W H L P Q) w) := by
  have X0 := Lib.hid (clAt_start (W := W) (H := H) (A := A) (AP := AP) (AQ := AQ) (n := n) (cap := cap) (nP := nP) (cP := cP) (nQ := nQ) (cQ := cQ) (w := w))
  have HI := Lib.hid h
  have HP := Lib.hid hP
  have HQ := Lib.hid hQ
  cases ha : tableG W H L P with
  | false =>
    have HA := Lib.hid (implTableOkV W H A AP n cap nP cP L P false ha hL _ (X0.out.at h) (X0.out.at hP) hn hnP)
    have HR := Lib.hid (clsOk_no1 (Q := Q) ha)
    clear h hP hQ ha hL
    go_enter Try.func37, Try.ntmps37
    go_wp2_with fail
    refine HA.out.mono ?_
    rintro e w1 ⟨rfl, hg⟩
    have X1 := Lib.hid (X0.out.gb hg)
    clear hg
    go_wp2_with fail
    go_ret
    exact ⟨ret_bool HR.out.symm, X1.out.g⟩
  | true =>
    obtain ⟨b, hb⟩ : ∃ b, tableG W H L Q = b := ⟨_, rfl⟩
    have HA := Lib.hid (implTableOkV W H A AP n cap nP cP L P true ha hL _ (X0.out.at h) (X0.out.at hP) hn hnP)
    have HB := Lib.hid (fun w h hQ => implTableOkV W H A AQ n cap nQ cQ L Q b hb hL w h hQ hn hnQ)
    have HR := Lib.hid (show clsOk W H L P Q = b by rw [clsOk, ha, hb]; rfl)
    clear h hP hQ ha hb hL
    go_enter Try.func37, Try.ntmps37
    go_wp2_with fail
    refine HA.out.mono ?_
    rintro e w1 ⟨rfl, hg⟩
    have X1 := Lib.hid (X0.out.gb hg)
    have m0 : w1.cell? ⟨w.heap.size, 0, none⟩ = some (.int .i64 W) := X1.out.m.cell 0
    have m1 : w1.cell? ⟨w.heap.size, 1, none⟩ = some (.int .i64 H) := X1.out.m.cell 1
    have m2 : w1.cell? ⟨w.heap.size, 2, none⟩ = some (.slice A n cap) := X1.out.m.cell 2
    have t1 : w1.cell? ⟨w.heap.size + 1, 1, none⟩ = some (.slice AQ nQ cQ) := X1.out.t.cell 1
    clear hg
    go_wp2_with fail
    refine (HB.out _ (X1.out.at HI.out) (X1.out.at HQ.out)).mono ?_
    rintro e w2 ⟨rfl, hg⟩
    have X2 := Lib.hid (X1.out.gb hg)
    clear hg m0 m1 m2 t1
    go_wp2_with fail
    go_ret
    exact ⟨ret_bool HR.out.symm, X2.out.g⟩
theorem implClassesOkV (W H : Int) (A AP AQ : Option Addr) (n cap nP cP nQ cQ : Nat) (L P Q : List Int) (hL : WfL L) (b : Bool) (hb : clsOk W H L P Q = b) (w : World) (h : IntAt w w.heap.size A n L) (hP : IntAt w w.heap.size AP nP P) (hQ : IntAt w w.heap.size AQ nQ Q) (hn : n ≤ 1000000000) (hnP : nP ≤ 1000000000) (hnQ : nQ ≤ 1000000000) :
    Calls Try.prog 37 #[.agg #[.int .i64 W, .int .i64 H, .slice A n cap], .agg #[.slice AP nP cP, .slice AQ nQ cQ]] w (RetB b w) := hb ▸ implClassesOk W H A AP AQ n cap nP cP nQ cQ L P Q hL w h hP hQ hn hnP hnQ
end Go.Proofs.Ytffnbmaoainhmaa
end

section
namespace Go.Proofs.Ytffnbmaoainhmaa
open Go.ChangeShapes Go.WideShapes Go.ChangeAt Go.RowKit
set_option linter.unusedVariables false
set_option maxRecDepth 20000

/-- What operation i has yielded. -/
def Gj (c : Nn) (B : Nat) (wr : World) (v : Value) : Nat → Prop
  | 0 => v = .agg #[.int .i64 c.W, .int .i64 c.H, .slice c.A c.n c.cap]
  | 1 => v = .agg #[.slice c.AP c.nP c.cP, .slice c.AQ c.nQ c.cQ]
  | 2 => v = .int .i64 (c.k : Int)
  | 3 => v = .int .i64 ((10 * c.k : Nat) : Int)
  | 4 => ∃ g, v = .slice (some ⟨g, 0, none⟩) (10 * c.k) (10 * c.k) ∧ wr.ownsRow B 93 1 (.slice (some ⟨g, 0, none⟩) (10 * c.k) (10 * c.k)) (10 * c.k) (List.replicate (10 * c.k) (.slice none 0 0))
  | 5 => v = .int .i64 (c.k : Int)
  | 6 => v = .int .i64 ((10 * c.k : Nat) : Int)
  | 7 => ∃ g, v = .slice (some ⟨g, 0, none⟩) (10 * c.k) (10 * c.k) ∧ wr.ownsRow B 3 1 (.slice (some ⟨g, 0, none⟩) (10 * c.k) (10 * c.k)) (10 * c.k) (intsV (List.replicate (10 * c.k) 0))
  | 8 => v = .int .i64 (c.k : Int)
  | 9 => v = .int .i64 ((5 * c.k : Nat) : Int)
  | 10 => ∃ g, v = .slice (some ⟨g, 0, none⟩) (5 * c.k) (5 * c.k) ∧ wr.ownsRow B 3 1 (.slice (some ⟨g, 0, none⟩) (5 * c.k) (5 * c.k)) (5 * c.k) (intsV (List.replicate (5 * c.k) 0))
  | 11 => v = .int .i64 (c.k : Int)
  | 12 => ∃ g, v = .slice (some ⟨g, 0, none⟩) (c.k) (c.k) ∧ wr.ownsRow B 93 1 (.slice (some ⟨g, 0, none⟩) (c.k) (c.k)) (c.k) (List.replicate (c.k) (.slice none 0 0))
  | 13 => v = .int .i64 (c.k : Int)
  | 14 => ∃ g, v = .slice (some ⟨g, 0, none⟩) (c.k) (c.k) ∧ wr.ownsRow B 93 1 (.slice (some ⟨g, 0, none⟩) (c.k) (c.k)) (c.k) (List.replicate (c.k) (.slice none 0 0))
  | 16 => ∃ g, v = .pointer (some ⟨g, 0, none⟩) ∧ Blk wr g 37 #[.int .i64 0, .int .i64 0, .slice none 0 0, .slice none 0 0, .slice none 0 0, .slice none 0 0, .slice none 0 0, .slice none 0 0, .slice none 0 0, .slice none 0 0, .int .i64 0] ∧ B ≤ g
  | _ => True
theorem Gj.keep {c : Nn} {B : Nat} {wr w' : World} {v : Value} (hg : wr.grownBy w' none) : ∀ (i : Nat), Gj c B wr v i → Gj c B w' v i
  | 0, h => h
  | 1, h => h
  | 2, h => h
  | 3, h => h
  | 4, ⟨g, h1, h2⟩ => ⟨g, h1, own_none h2 hg⟩
  | 5, h => h
  | 6, h => h
  | 7, ⟨g, h1, h2⟩ => ⟨g, h1, own_none h2 hg⟩
  | 8, h => h
  | 9, h => h
  | 10, ⟨g, h1, h2⟩ => ⟨g, h1, own_none h2 hg⟩
  | 11, h => h
  | 12, ⟨g, h1, h2⟩ => ⟨g, h1, own_none h2 hg⟩
  | 13, h => h
  | 14, ⟨g, h1, h2⟩ => ⟨g, h1, own_none h2 hg⟩
  | 15, _ => trivial
  | 16, ⟨g, h1, h2, h3⟩ => ⟨g, h1, h2.grown hg (by simp), h3⟩
  | _ + 17, _ => trivial
/-- The built value's parts. -/
def Bj (c : Nn) (vs : Nat → Value) : Prop :=
  ∃ g4 g7 g10 g12 g14, vs 4 = .slice (some ⟨g4, 0, none⟩) (10 * c.k) (10 * c.k) ∧ vs 7 = .slice (some ⟨g7, 0, none⟩) (10 * c.k) (10 * c.k) ∧ vs 10 = .slice (some ⟨g10, 0, none⟩) (5 * c.k) (5 * c.k) ∧ vs 12 = .slice (some ⟨g12, 0, none⟩) c.k c.k ∧ vs 14 = .slice (some ⟨g14, 0, none⟩) c.k c.k ∧ vs 15 = .agg #[.int .i64 c.W, .int .i64 c.H, .slice c.A c.n c.cap, .slice c.AP c.nP c.cP, .slice c.AQ c.nQ c.cQ, .slice (some ⟨g4, 0, none⟩) (10 * c.k) (10 * c.k), .slice (some ⟨g7, 0, none⟩) (10 * c.k) (10 * c.k), .slice (some ⟨g10, 0, none⟩) (5 * c.k) (5 * c.k), .slice (some ⟨g12, 0, none⟩) c.k c.k, .slice (some ⟨g14, 0, none⟩) c.k c.k, .int .i64 0]
/-- What is known at a moment: L tells which operations have been carried out. -/
structure Sj (c : Nn) (w0 : World) (L : Nat → Bool) (vs : Nat → Value) (wr : World) : Prop where
  g : w0.grownBy wr none
  G : ∀ k, L k = true → Gj c w0.heap.size wr (vs k) k
  K : L 7 = true → L 10 = true → Apart (vs 7) (vs 10)
  B : L 15 = true → (L 4 = true ∧ L 7 = true ∧ L 10 = true ∧ L 12 = true ∧ L 14 = true) ∧ Bj c vs
section
variable {c : Nn} {w0 wr w' : World} {L : Nat → Bool} {vs : Nat → Value}
theorem Bj.upd {i : Nat} {v : Value} (h : Bj c vs) (hi : i ≠ 4 ∧ i ≠ 7 ∧ i ≠ 10 ∧ i ≠ 12 ∧ i ≠ 14 ∧ i ≠ 15) : Bj c (upd vs i v) := by
  obtain ⟨g4, g7, g10, g12, g14, h4, h7, h10, h12, h14, h15⟩ := h
  obtain ⟨n4, n7, n10, n12, n14, n15⟩ := hi
  exact ⟨g4, g7, g10, g12, g14, by rw [upd_ne _ _ (Ne.symm n4), h4], by rw [upd_ne _ _ (Ne.symm n7), h7], by rw [upd_ne _ _ (Ne.symm n10), h10], by rw [upd_ne _ _ (Ne.symm n12), h12], by rw [upd_ne _ _ (Ne.symm n14), h14], by rw [upd_ne _ _ (Ne.symm n15), h15]⟩
/-- One operation more. -/
theorem Sj.step (h : Sj c w0 L vs wr) {i : Nat} (hL : L i = false) (h15 : i ≠ 15) {v : Value} (hg : wr.grownBy w' none) (hv : Gj c w0.heap.size w' v i) (hn : ∀ k, v.ownBlock = some k → wr.heap.size ≤ k) :
    Sj c w0 (fun j => if j = i then true else L j) (upd vs i v) w' := by
  have lt7 : L 7 = true → ∀ k, (vs 7).ownBlock = some k → k < wr.heap.size := fun h7 k hk => by
    obtain ⟨g, e, o⟩ := h.G 7 h7
    rw [e] at hk
    exact (o.lt k hk).2
  have lt10 : L 10 = true → ∀ k, (vs 10).ownBlock = some k → k < wr.heap.size := fun h7 k hk => by
    obtain ⟨g, e, o⟩ := h.G 10 h7
    rw [e] at hk
    exact (o.lt k hk).2
  refine ⟨gb_trans h.g hg, fun k hk => ?_, fun h7 h10 => ?_, fun hk => ?_⟩
  · by_cases e : k = i
    · subst e; rw [upd_at]; exact hv
    · rw [if_neg e] at hk; rw [upd_ne _ _ e]; exact (h.G k hk).keep hg
  · by_cases e7 : 7 = i
    · subst e7
      rw [if_neg (by decide)] at h10
      rw [upd_at, upd_ne _ _ (by decide)]
      exact fun k h1 h2 => by have h3 := hn k h1; have h4 := lt10 h10 k h2; omega
    · rw [if_neg e7] at h7
      rw [upd_ne _ _ e7]
      by_cases e10 : 10 = i
      · subst e10
        rw [upd_at]
        exact fun k h1 h2 => by have h3 := hn k h2; have h4 := lt7 h7 k h1; omega
      · rw [if_neg e10] at h10
        rw [upd_ne _ _ e10]
        exact h.K h7 h10
  · rw [if_neg (Ne.symm h15)] at hk
    obtain ⟨⟨h4, h7, h10, h12, h14⟩, hb⟩ := h.B hk
    have ne : ∀ j, L j = true → i ≠ j := fun j hj e => by
      rw [← e, hL] at hj
      cases hj
    have on : ∀ j, L j = true → (if j = i then true else L j) = true := fun j hj => by rw [hj]; split <;> rfl
    exact ⟨⟨on 4 h4, on 7 h7, on 10 h10, on 12 h12, on 14 h14⟩, hb.upd ⟨ne 4 h4, ne 7 h7, ne 10 h10, ne 12 h12, ne 14 h14, h15⟩⟩
/-- One operation more that makes nothing. -/
theorem Sj.quiet (h : Sj c w0 L vs wr) {i : Nat} (hL : L i = false) (h15 : i ≠ 15) {v : Value} (hv : Gj c w0.heap.size wr v i) (hn : v.ownBlock = none) :
    Sj c w0 (fun j => if j = i then true else L j) (upd vs i v) wr := h.step hL h15 (gb_refl wr none) hv (fun k hk => by rw [hn] at hk; cases hk)
/-- The value is built. -/
theorem Sj.build (h : Sj c w0 L vs wr) (hL : L 15 = false) (hl : L 4 = true ∧ L 7 = true ∧ L 10 = true ∧ L 12 = true ∧ L 14 = true) {v : Value} (hb : Bj c (upd vs 15 v)) :
    Sj c w0 (fun j => if j = 15 then true else L j) (upd vs 15 v) wr := by
  refine ⟨h.g, fun k hk => ?_, fun h7 h10 => ?_, fun _ => ⟨hl, hb⟩⟩
  · by_cases e : k = 15
    · subst e; exact trivial
    · rw [if_neg e] at hk; rw [upd_ne _ _ e]; exact h.G k hk
  · rw [upd_ne _ _ (by decide), upd_ne _ _ (by decide)]
    exact h.K h7 h10
theorem Sj.start : Sj c w0 (fun _ => false) vs w0 := ⟨gb_refl _ _, fun k hk => (by cases hk), fun hk => (by cases hk), fun hk => (by cases hk)⟩
end
end Go.Proofs.Ytffnbmaoainhmaa
end

section
namespace Go.Proofs.Ytffnbmaoainhmaa
open Go.ChangeShapes Go.WideShapes Go.ChangeAt Go.RowKit
set_option linter.unusedVariables false
set_option maxRecDepth 20000

def withL (lo hi : Int) (L : List Int) : Bool := L.all fun x => decide (lo ≤ x ∧ x ≤ hi)
theorem withL_no {lo hi : Int} {L : List Int} {k : Nat} {x : Int} (h : L[k]? = some x) (hf : ¬ (lo ≤ x ∧ x ≤ hi)) : withL lo hi L = false := by
  cases ha : withL lo hi L with
  | false => rfl
  | true =>
    rw [withL, List.all_eq_true] at ha
    exact absurd (of_decide_eq_true (ha x (List.mem_of_getElem? h))) hf
theorem withL_yes {lo hi : Int} {L : List Int} (h : ∀ (k : Nat) x, L[k]? = some x → lo ≤ x ∧ x ≤ hi) : withL lo hi L = true := by
  rw [withL, List.all_eq_true]
  intro x hx
  obtain ⟨k, hk, e⟩ := List.getElem_of_mem hx
  exact decide_eq_true (h k x (by rw [List.getElem?_eq_getElem hk, e]))
theorem withL_one (lo hi x : Int) : withL lo hi [x] = decide (lo ≤ x ∧ x ≤ hi) := by simp [withL]
set_option maxHeartbeats 1600000 in
theorem implWithinV (lo hi : Int) (A : Option Addr) (n cap : Nat) (L : List Int) (r : Bool) (hr : withL lo hi L = r) (w : World) (h : IntAt w w.heap.size A n L) (hn : n ≤ 1000000000) :
    Calls Try.prog 44 #[.int .i64 lo, .int .i64 hi, .slice A n cap] w (RetB r w) := by
  have HI := Lib.hid h
  have hl := h.1
  have HNO := Lib.hid (fun k x => withL_no (lo := lo) (hi := hi) (L := L) (k := k) (x := x))
  have HYES := Lib.hid (withL_yes (lo := lo) (hi := hi) (L := L))
  rw [hr] at HNO HYES
  clear h hr
  go_enter Try.func44, Try.ntmps44
  go_wp2_with fail
  go_loopw [11] (fun i wr => ∃ k : Nat, i = .int .i64 (k : Int) ∧ k ≤ n ∧ (∀ (j : Nat) x, j < k → L[j]? = some x → lo ≤ x ∧ x ≤ hi) ∧ w.grownBy wr none) (fun i _ => n - (intOf i).toNat)
  case atStart => exact ⟨0, rfl, Nat.zero_le _, fun j x hj => by omega, gb_refl _ _⟩
  case round =>
    obtain ⟨k, rfl, hk, hs, hg⟩ := hrel
    have HS := Lib.hid hs
    have HG := Lib.hid hg
    by_cases hlt : k < n
    · have hkL : k < L.length := by omega
      obtain ⟨x, hx⟩ : ∃ x, L[k]? = some x := ⟨_, List.getElem?_eq_getElem hkL⟩
      obtain ⟨b, off, rfl, _, c0⟩ := (HI.out.none (Nat.le_refl _) hg).at k hlt
      rw [List.getD_eq_getElem?_getD, hx, Option.getD_some] at c0
      have HX := Lib.hid hx
      have k0 : (0 : Int) ≤ (k : Int) := by omega
      have k1 : (k : Int) < (n : Int) := by omega
      clear hs hg hx
      by_cases h1 : x < lo
      · have HR := Lib.hid (HNO.out k x HX.out (by omega))
        go_wp2_with fail
        go_ret
        exact ⟨ret_bool HR.out.symm, HG.out⟩
      · by_cases h2 : x > hi
        · have HR := Lib.hid (HNO.out k x HX.out (by omega))
          go_wp2_with fail
          go_ret
          exact ⟨ret_bool HR.out.symm, HG.out⟩
        · have HIN := Lib.hid (show lo ≤ x ∧ x ≤ hi by omega)
          go_wp2_with fail
          go_roundw
          case rel => exact ⟨k + 1, by go_num, by omega, fun j z hj hz => by
            rcases Nat.lt_or_ge j k with h1 | h1
            · exact HS.out j z h1 hz
            · obtain rfl : j = k := by omega
              rw [HX.out] at hz
              cases hz
              exact HIN.out, HG.out⟩
          case measure => simp [intOf]; omega
    · have k1 : ¬ (k : Int) < (n : Int) := by omega
      have HR := Lib.hid (HYES.out (fun j x hx => HS.out j x (by have := (List.getElem?_eq_some_iff.1 hx).1; omega) hx))
      clear hs hg
      go_wp2_with fail
      go_ret
      exact ⟨ret_bool HR.out.symm, HG.out⟩
/-- One number. -/
theorem int_new (w : World) (x : Int) : IntAt (w.alloc (.cells #[.int .i64 x] 3)) (w.alloc (.cells #[.int .i64 x] 3)).heap.size (some ⟨w.heap.size, 0, none⟩) 1 [x] :=
  ⟨rfl, fun _ => ⟨w.heap.size, 0, rfl, by rw [alloc_size]; omega, fun k z hk => by
    cases k with
    | zero => cases hk; exact (Blk.new w 3 #[.int .i64 x]).cell 0
    | succ k => simp at hk⟩⟩
theorem implWithin1 (lo hi x : Int) (r : Bool) (hr : decide (lo ≤ x ∧ x ≤ hi) = r) (w : World) :
    Calls Try.prog 44 #[.int .i64 lo, .int .i64 hi, .slice (some ⟨w.heap.size, 0, none⟩) 1 1] (w.alloc (.cells #[.int .i64 x] 3)) (fun e w' => e = .returned (.bool r) ∧ w.grownBy w' none) :=
  (implWithinV lo hi _ 1 1 [x] r ((withL_one lo hi x).trans hr) _ (int_new w x) (by omega)).mono fun e w' ⟨h1, h2⟩ => ⟨h1, gb_trans (gb_alloc (gb_refl _ _) _) h2⟩
theorem implIsClassN (c : Int) (b : Bool) (hb : decide (0 ≤ c ∧ c ≤ 1) = b) (w : World) :
    Calls Try.prog 46 #[.int .i64 c] w fun e w' => e = .returned (.bool b) ∧ w = w' := by
  have HB := Lib.hid hb
  clear hb
  by_cases h0 : c = 0
  · have HN := Lib.hid (show true = b by rw [← HB.out]; exact (decide_eq_true (by omega)).symm)
    subst h0
    go_enter Try.func46, Try.ntmps46
    go_wp2_with fail
    go_ret
    exact ⟨ret_bool HN.out, rfl⟩
  · have HN := Lib.hid (show (c == 1) = b by rw [← HB.out]; exact Bool.eq_iff_iff.2 (by simp; omega))
    have q0 : (c == 0) = false := by simpa using h0
    go_enter Try.func46, Try.ntmps46
    go_wp2_with fail
    go_ret
    exact ⟨ret_bool (by first | exact HN.out | (rw [← HN.out]; simp)), rfl⟩

theorem implBufferAt (n p c : Int) (w : World) :
    Calls Try.prog 16 #[.int .i64 n, .int .i64 p, .int .i64 c] w (RetI (bufN n p c) none w) := by
  have HR := Lib.hid (fun (x lo hi : Int) (b : Bool) (hb : decide (lo ≤ x ∧ x ≤ hi) = b) w => implWithin1 lo hi x b hb w)
  have HC := Lib.hid (fun (b : Bool) (hb : decide (0 ≤ c ∧ c ≤ 1) = b) w => implIsClassN c b hb w)
  cases h1 : decide (0 ≤ n ∧ n ≤ 15) with
  | false =>
    have hr := Lib.hid (show (-1 : Int) = bufN n p c from (if_neg (fun h => of_decide_eq_false h1 h.1)).symm)
    have H1 := Lib.hid (HR.out n 0 15 false h1)
    clear h1
    go_enter Try.func16, Try.ntmps16
    go_wp2_with fail
    refine (H1.out _).mono ?_
    rintro e w1 ⟨rfl, g1⟩
    have G1 := Lib.hid g1
    clear g1
    go_wp2_with fail
    go_ret
    exact ⟨ret_int64 hr.out, G1.out⟩
  | true =>
    have hn := of_decide_eq_true h1
    have H1 := Lib.hid (HR.out n 0 15 true h1)
    cases h2 : decide (0 ≤ p ∧ p ≤ 4) with
    | false =>
      have hr := Lib.hid (show (-1 : Int) = bufN n p c from (if_neg (fun h => of_decide_eq_false h2 h.2.1)).symm)
      have H2 := Lib.hid (HR.out p 0 4 false h2)
      clear h1 h2
      go_enter Try.func16, Try.ntmps16
      go_wp2_with fail
      refine (H1.out _).mono ?_
      rintro e w1 ⟨rfl, g1⟩
      have G1 := Lib.hid g1
      clear g1
      go_wp2_with fail
      refine (H2.out _).mono ?_
      rintro e w2 ⟨rfl, g2⟩
      have G2 := Lib.hid (gb_trans G1.out g2)
      clear g2
      go_wp2_with fail
      go_ret
      exact ⟨ret_int64 hr.out, G2.out⟩
    | true =>
      have hp := of_decide_eq_true h2
      have H2 := Lib.hid (HR.out p 0 4 true h2)
      cases h3 : decide (0 ≤ c ∧ c ≤ 1) with
      | false =>
        have hr := Lib.hid (show (-1 : Int) = bufN n p c from (if_neg (fun h => of_decide_eq_false h3 h.2.2)).symm)
        have H3 := Lib.hid (HC.out false h3)
        clear h1 h2 h3
        go_enter Try.func16, Try.ntmps16
        go_wp2_with fail
        refine (H1.out _).mono ?_
        rintro e w1 ⟨rfl, g1⟩
        have G1 := Lib.hid g1
        clear g1
        go_wp2_with fail
        refine (H2.out _).mono ?_
        rintro e w2 ⟨rfl, g2⟩
        have G2 := Lib.hid (gb_trans G1.out g2)
        clear g2
        go_wp2_with fail
        refine (H3.out _).mono ?_
        rintro e w3 ⟨rfl, rfl⟩
        go_wp2_with fail
        go_ret
        exact ⟨ret_int64 hr.out, G2.out⟩
      | true =>
        have hc := of_decide_eq_true h3
        have H3 := Lib.hid (HC.out true h3)
        have hr := Lib.hid (show 10 * n + 2 * p + c = bufN n p c by rw [bufN, if_pos ⟨hn, hp, hc⟩]; omega)
        have e1 : wrap64 (10 * n) = 10 * n := IntWalk.wrap64_in _ (by omega)
        have e2 : IntKind.i64.wrap (10 * n) = 10 * n := IntWalk.i64_in _ (by omega)
        have e3 : wrap64 (2 * p) = 2 * p := IntWalk.wrap64_in _ (by omega)
        have e4 : IntKind.i64.wrap (2 * p) = 2 * p := IntWalk.i64_in _ (by omega)
        have e5 : IntKind.i64.wrap (10 * n + 2 * p) = 10 * n + 2 * p := IntWalk.i64_in _ (by omega)
        have e6 : IntKind.i64.wrap (10 * n + 2 * p + c) = 10 * n + 2 * p + c := IntWalk.i64_in _ (by omega)
        clear h1 h2 h3
        go_enter Try.func16, Try.ntmps16
        go_wp2_with fail
        refine (H1.out _).mono ?_
        rintro e w1 ⟨rfl, g1⟩
        have G1 := Lib.hid g1
        clear g1
        go_wp2_with fail
        refine (H2.out _).mono ?_
        rintro e w2 ⟨rfl, g2⟩
        have G2 := Lib.hid (gb_trans G1.out g2)
        clear g2
        go_wp2_with fail
        refine (H3.out _).mono ?_
        rintro e w3 ⟨rfl, rfl⟩
        go_wp2_with fail
        go_ret
        exact ⟨ret_int64 hr.out, G2.out⟩
end Go.Proofs.Ytffnbmaoainhmaa
end

section
namespace Go.Proofs.Ytffnbmaoainhmaa
open Go.ChangeShapes Go.WideShapes Go.ChangeAt Go.RowKit
set_option linter.unusedVariables false
set_option maxRecDepth 20000

def sizesI (N : Nt) : Bool := decide (((N.bu.length : Nat) : Int) = 10 * countG N.W N.H ∧ ((N.ow.length : Nat) : Int) = 10 * countG N.W N.H ∧ ((N.tu.length : Nat) : Int) = 5 * countG N.W N.H ∧ ((N.so.length : Nat) : Int) = countG N.W N.H ∧ ((N.ar.length : Nat) : Int) = countG N.W N.H)
def bufJ (W H : Int) (i : Nat) (D : List Flt) : Bool := decide (D.length ≤ 3) && (lstOk W H D && D.all fun x => decide (x.cl = ((i % 2 : Nat) : Int)))
def bufsI (N : Nt) : Bool := (List.range N.bu.length).all fun i => bufJ N.W N.H i (N.bu.getD i [])
def srcsI (N : Nt) : Bool := N.so.all (srcOk N.W N.H)
theorem netOk_iff {N : Nt} : netOk N = true ↔ clsOk N.W N.H N.br N.ta N.tb = true ∧ sizesI N = true ∧ bufsI N = true ∧ srcsI N = true ∧ withL (-1) 4 N.ow = true ∧ withL 0 9 N.tu = true ∧ withL 0 1000000 [N.ti] = true := by
  constructor
  · intro h
    rw [netOk, Bool.and_eq_true, Bool.and_eq_true, Bool.and_eq_true, Bool.and_eq_true] at h
    obtain ⟨h1, h2, h3, h4, h5⟩ := h
    have h2' := of_decide_eq_true h2
    rw [List.all_eq_true] at h3 h4
    have key : ∀ i, i < N.bu.length → decide ((N.bu.getD i []).length ≤ 3) = true ∧ lstOk N.W N.H (N.bu.getD i []) = true ∧ decide (-1 ≤ N.ow.getD i 0 ∧ N.ow.getD i 0 ≤ 4) = true ∧ ((N.bu.getD i []).all fun x => decide (x.cl = ((i % 2 : Nat) : Int))) = true := fun i hi => by
      have h6 := h3 i (List.mem_range.2 hi)
      rw [bufOk, Bool.and_eq_true, Bool.and_eq_true, Bool.and_eq_true] at h6
      exact h6
    refine ⟨h1, decide_eq_true ⟨h2'.1, h2'.2.1, h2'.2.2.1, h2'.2.2.2.1, h2'.2.2.2.2.1⟩, ?_, h5, withL_yes (fun k x hx => ?_), withL_yes (fun k x hx => ?_), ?_⟩
    · rw [bufsI, List.all_eq_true]
      intro i hi
      obtain ⟨k1, k2, _, k4⟩ := key i (List.mem_range.1 hi)
      rw [bufJ, k1, k2, k4]
      rfl
    · have hk := (List.getElem?_eq_some_iff.1 hx).1
      have k3 := (key k (by omega)).2.2.1
      rw [List.getD_eq_getElem?_getD (l := N.ow), hx] at k3
      exact of_decide_eq_true k3
    · exact of_decide_eq_true (h4 x (List.mem_of_getElem? hx))
    · rw [withL_one]
      exact decide_eq_true h2'.2.2.2.2.2
  · rintro ⟨h1, h2, h3, h4, h5, h6, h7⟩
    have h2' := of_decide_eq_true h2
    rw [bufsI, List.all_eq_true] at h3
    rw [srcsI, List.all_eq_true] at h4
    rw [withL, List.all_eq_true] at h5 h6
    rw [withL_one] at h7
    refine nk_yes h1 (decide_eq_true ⟨h2'.1, h2'.2.1, h2'.2.2.1, h2'.2.2.2.1, h2'.2.2.2.2, of_decide_eq_true h7⟩) (fun i hi => ?_) (fun i t ht => h6 t (List.mem_of_getElem? ht)) (fun i D hD => h4 D (List.mem_of_getElem? hD))
    have h8 := h3 i (List.mem_range.2 hi)
    rw [bufJ, Bool.and_eq_true, Bool.and_eq_true] at h8
    have ho : N.ow.getD i 0 ∈ N.ow := by
      have hi2 : i < N.ow.length := by omega
      rw [List.getD_eq_getElem?_getD, List.getElem?_eq_getElem hi2]
      exact List.getElem_mem hi2
    rw [bufOk, h8.1, h8.2.1, h8.2.2, h5 _ ho]
    rfl
theorem netOk_no {N : Nt} (h : ¬ (clsOk N.W N.H N.br N.ta N.tb = true ∧ sizesI N = true ∧ bufsI N = true ∧ srcsI N = true ∧ withL (-1) 4 N.ow = true ∧ withL 0 9 N.tu = true ∧ withL 0 1000000 [N.ti] = true)) : false = netOk N := by
  cases hk : netOk N with
  | false => rfl
  | true => exact absurd (netOk_iff.1 hk) h
theorem bufsI_no {N : Nt} {i : Nat} (hi : i < N.bu.length) (h : bufJ N.W N.H i (N.bu.getD i []) = false) : bufsI N = false := by
  cases ha : bufsI N with
  | false => rfl
  | true =>
    rw [bufsI, List.all_eq_true] at ha
    rw [ha i (List.mem_range.2 hi)] at h
    cases h
theorem bufsI_yes {N : Nt} (h : ∀ i, i < N.bu.length → bufJ N.W N.H i (N.bu.getD i []) = true) : bufsI N = true := by
  rw [bufsI, List.all_eq_true]
  exact fun i hi => h i (List.mem_range.1 hi)
theorem bufJ_no1 {W H : Int} {i : Nat} {D : List Flt} (h : ¬ D.length ≤ 3) : bufJ W H i D = false := by rw [bufJ, decide_eq_false h]; rfl
theorem bufJ_no2 {W H : Int} {i : Nat} {D : List Flt} (h : lstOk W H D = false) : bufJ W H i D = false := by rw [bufJ, h, Bool.false_and, Bool.and_false]
theorem bufJ_no3 {W H : Int} {i q : Nat} {D : List Flt} {x : Flt} (hx : D[q]? = some x) (h : x.cl ≠ ((i % 2 : Nat) : Int)) : bufJ W H i D = false := by
  have h1 : (D.all fun x => decide (x.cl = ((i % 2 : Nat) : Int))) = false := by
    cases ha : D.all fun x => decide (x.cl = ((i % 2 : Nat) : Int)) with
    | false => rfl
    | true =>
      rw [List.all_eq_true] at ha
      exact absurd (of_decide_eq_true (ha x (List.mem_of_getElem? hx))) h
  rw [bufJ, h1, Bool.and_false, Bool.and_false]
theorem bufJ_yes {W H : Int} {i : Nat} {D : List Flt} (h1 : D.length ≤ 3) (h2 : lstOk W H D = true) (h4 : ∀ (q : Nat) x, D[q]? = some x → x.cl = ((i % 2 : Nat) : Int)) : bufJ W H i D = true := by
  have g4 : (D.all fun x => decide (x.cl = ((i % 2 : Nat) : Int))) = true := by
    rw [List.all_eq_true]
    intro x hx
    obtain ⟨q, hq, e⟩ := List.getElem_of_mem hx
    exact decide_eq_true (h4 q x (List.getElem?_eq_some_iff.2 ⟨hq, e⟩))
  rw [bufJ, decide_eq_true h1, h2, g4]
  rfl
theorem srcsI_no {N : Nt} {i : Nat} {D : List Flt} (hD : N.so[i]? = some D) (h : srcOk N.W N.H D = false) : srcsI N = false := by
  cases ha : srcsI N with
  | false => rfl
  | true =>
    rw [srcsI, List.all_eq_true] at ha
    rw [ha D (List.mem_of_getElem? hD)] at h
    cases h
theorem srcsI_yes {N : Nt} (h : ∀ (i : Nat) D, N.so[i]? = some D → srcOk N.W N.H D = true) : srcsI N = true := by
  rw [srcsI, List.all_eq_true]
  intro D hD
  obtain ⟨i, hi, e⟩ := List.getElem_of_mem hD
  exact h i D (List.getElem?_eq_some_iff.2 ⟨hi, e⟩)
theorem tmod_twoI (x : Nat) : Int.tmod (x : Int) 2 = ((x % 2 : Nat) : Int) := by
  rw [Int.tmod_eq_emod_of_nonneg (by omega)]; rfl
theorem sizesI_no {N : Nt} {k : Nat} (hk : countG N.W N.H = (k : Int)) (h : ¬ (N.bu.length = 10 * k ∧ N.ow.length = 10 * k ∧ N.tu.length = 5 * k ∧ N.so.length = k ∧ N.ar.length = k)) : sizesI N = false :=
  decide_eq_false (fun e => h (by rw [hk] at e; omega))
theorem sizesI_yes {N : Nt} {k : Nat} (hk : countG N.W N.H = (k : Int)) (h : N.bu.length = 10 * k ∧ N.ow.length = 10 * k ∧ N.tu.length = 5 * k ∧ N.so.length = k ∧ N.ar.length = k) : sizesI N = true :=
  decide_eq_true (by rw [hk]; omega)
end Go.Proofs.Ytffnbmaoainhmaa
end

section
namespace Go.Proofs.Ytffnbmaoainhmaa
open Go.ChangeShapes Go.WideShapes Go.ChangeAt Go.RowKit
set_option linter.unusedVariables false
set_option maxRecDepth 20000

/-- Each flit of a list goes to a node of the grid in a class that there is. -/
theorem implLeadsV (y : Na) (N : Nt) (A : Option Addr) (n cap : Nat) (D : List Flt) (r : Bool) (hr : lstOk N.W N.H D = r) (w : World) (h : RecAt 5 fltC w w.heap.size A n D) (hn : n ≤ 1000000000) :
    Calls Try.prog 79 #[.agg #[.int .i64 N.W, .int .i64 N.H, .slice y.br.A N.br.length y.br.c, .slice y.ta.A N.ta.length y.ta.c, .slice y.tb.A N.tb.length y.tb.c, .slice y.bu.A N.bu.length y.bu.c, .slice y.ow.A N.ow.length y.ow.c, .slice y.tu.A N.tu.length y.tu.c, .slice y.so.A N.so.length y.so.c, .slice y.ar.A N.ar.length y.ar.c, .int .i64 N.ti], .slice A n cap] w (RetB r w) := by
  have HI := Lib.hid h
  have hl := h.1
  have HYES := Lib.hid (lstOk_yes (W := N.W) (H := N.H) (D := D))
  have HNO := Lib.hid (fun k x hx hf => lstOk_no (W := N.W) (H := N.H) (D := D) (k := k) (x := x) hx hf)
  rw [hr] at HYES HNO
  have X0 := Lib.hid (nkAt_start (w := w) (y := y) (N := N))
  have HHN := Lib.hid (fun (n : Int) (b : Bool) (hb : hasG N.W N.H n = b) w => show Calls Try.prog 94 #[.agg #[.int .i64 N.W, .int .i64 N.H], .int .i64 n] w (RetB b w) from hb ▸ implHasNode N.W N.H n w)
  have HIC := Lib.hid (fun (c : Int) (b : Bool) (hb : decide (0 ≤ c ∧ c ≤ 1) = b) w => implIsClassN c b hb w)
  clear h hr
  go_enter Try.func79, Try.ntmps79
  go_wp2_with fail
  go_loopw [9] (fun i wr => ∃ k : Nat, i = .int .i64 (k : Int) ∧ k ≤ n ∧ (∀ (j : Nat) x, j < k → D[j]? = some x → fltOk N.W N.H x = true) ∧ NkAt w y N wr) (fun i _ => n - (intOf i).toNat)
  case atStart => exact ⟨0, rfl, Nat.zero_le _, fun j x hj => by omega, X0.out⟩
  case round =>
    obtain ⟨k, rfl, hk, hall, hx0⟩ := hrel
    have HALL := Lib.hid hall
    have XR := Lib.hid hx0
    by_cases hlt : k < n
    · obtain ⟨b, o, x, rfl, _, hx, hc⟩ := (HI.out.none (Nat.le_refl _) hx0.g).at k hlt
      obtain ⟨a0, a1, a2, a3, a4⟩ := flt_five hc
      have k0 : (0 : Int) ≤ (k : Int) := by omega
      have k1 : (k : Int) < (n : Int) := by omega
      have HX := Lib.hid hx
      have hxb := hx0.gb (gb_alloc (gb_refl wr none) (.cells #[.int .i64 x.pk, .int .i64 x.to, .int .i64 x.cl, .bool x.hd, .bool x.tl] 96))
      have g0 : (wr.alloc (.cells #[.int .i64 x.pk, .int .i64 x.to, .int .i64 x.cl, .bool x.hd, .bool x.tl] 96)).cell? ⟨w.heap.size, 0, none⟩ = some (.int .i64 N.W) := hxb.b.cell 0
      have g1 : (wr.alloc (.cells #[.int .i64 x.pk, .int .i64 x.to, .int .i64 x.cl, .bool x.hd, .bool x.tl] 96)).cell? ⟨w.heap.size, 1, none⟩ = some (.int .i64 N.H) := hxb.b.cell 1
      have XB := Lib.hid hxb
      have KB := Lib.hid (Blk.new wr 96 #[.int .i64 x.pk, .int .i64 x.to, .int .i64 x.cl, .bool x.hd, .bool x.tl])
      obtain ⟨pk, to, cl, hd, tl⟩ := x
      dsimp only at a0 a1 a2 a3 a4 g0 g1 XB KB
      clear hx hc hall hx0 hxb
      cases hh : hasG N.W N.H to with
      | false =>
        have C1 := Lib.hid (HHN.out to false hh)
        have HR := Lib.hid (HNO.out k _ HX.out (show fltOk N.W N.H ⟨pk, to, cl, hd, tl⟩ = false by rw [fltOk, hh]; rfl))
        clear hh
        go_wp2_with fail
        refine (C1.out _).mono ?_
        rintro e w4 ⟨rfl, g4⟩
        have X4 := Lib.hid (XB.out.gb g4)
        clear g4 g0 g1 a0 a1 a2 a3 a4
        go_wp2_with fail
        go_ret
        exact ⟨ret_bool HR.out.symm, X4.out.g⟩
      | true =>
        have C1 := Lib.hid (HHN.out to true hh)
        cases hcb : decide (0 ≤ cl ∧ cl ≤ 1) with
        | false =>
          have C2 := Lib.hid (HIC.out cl false hcb)
          have HR := Lib.hid (HNO.out k _ HX.out (show fltOk N.W N.H ⟨pk, to, cl, hd, tl⟩ = false by rw [fltOk, hh, hcb]; rfl))
          clear hh hcb
          go_wp2_with fail
          refine (C1.out _).mono ?_
          rintro e w4 ⟨rfl, g4⟩
          have X4 := Lib.hid (XB.out.gb g4)
          have f2 : w4.cell? ⟨wr.heap.size, 2, none⟩ = some (.int .i64 cl) := (KB.out.grown g4 (by simp)).cell 2
          clear g4 g0 g1 a0 a1 a2 a3 a4
          go_wp2_with fail
          refine (C2.out _).mono ?_
          rintro e w5 ⟨rfl, rfl⟩
          go_wp2_with fail
          go_ret
          exact ⟨ret_bool HR.out.symm, X4.out.g⟩
        | true =>
          have C2 := Lib.hid (HIC.out cl true hcb)
          have HF := Lib.hid (show fltOk N.W N.H ⟨pk, to, cl, hd, tl⟩ = true by rw [fltOk, hh, hcb]; rfl)
          clear hh hcb
          go_wp2_with fail
          refine (C1.out _).mono ?_
          rintro e w4 ⟨rfl, g4⟩
          have X4 := Lib.hid (XB.out.gb g4)
          have f2 : w4.cell? ⟨wr.heap.size, 2, none⟩ = some (.int .i64 cl) := (KB.out.grown g4 (by simp)).cell 2
          clear g4 g0 g1 a0 a1 a2 a3 a4
          go_wp2_with fail
          refine (C2.out _).mono ?_
          rintro e w5 ⟨rfl, rfl⟩
          clear f2
          go_wp2_with fail
          go_roundw
          case rel => exact ⟨k + 1, by go_num, by omega, fun j z hj hz => by
            rcases Nat.lt_or_ge j k with h1 | h1
            · exact HALL.out j z h1 hz
            · obtain rfl : j = k := by omega
              rw [HX.out] at hz
              cases hz
              exact HF.out, X4.out⟩
          case measure => simp [intOf]; omega
    · have k1 : ¬ (k : Int) < (n : Int) := by omega
      have HR := Lib.hid (HYES.out (fun j x hx => HALL.out j x (by have := (List.getElem?_eq_some_iff.1 hx).1; omega) hx))
      clear hall hx0
      go_wp2_with fail
      go_ret
      exact ⟨ret_bool HR.out.symm, XR.out.g⟩
/-- The lists have as many elements as the mesh has nodes, ports and classes. -/
theorem implSizesV (y : Na) (N : Nt) (r : Bool) (hr : sizesI N = r) (w : World) :
    Calls Try.prog 41 #[.agg #[.int .i64 N.W, .int .i64 N.H, .slice y.br.A N.br.length y.br.c, .slice y.ta.A N.ta.length y.ta.c, .slice y.tb.A N.tb.length y.tb.c, .slice y.bu.A N.bu.length y.bu.c, .slice y.ow.A N.ow.length y.ow.c, .slice y.tu.A N.tu.length y.tu.c, .slice y.so.A N.so.length y.so.c, .slice y.ar.A N.ar.length y.ar.c, .int .i64 N.ti]] w (RetB r w) := by
  obtain ⟨kk, hkk⟩ : ∃ kk : Nat, countG N.W N.H = (kk : Int) := ⟨(countG N.W N.H).toNat, by have := (countG_le N.W N.H).1; omega⟩
  have hk16 : kk ≤ 16 := by have := (countG_le N.W N.H).2; omega
  have HNC : Hid (∀ w, Calls Try.prog 38 #[.agg #[.int .i64 N.W, .int .i64 N.H]] w (RetI (kk : Int) none w)) := Lib.hid (fun w => by have h := implNodeCount N.W N.H w; rw [hkk] at h; exact h)
  have HSN := Lib.hid (sizesI_no hkk)
  have HSY := Lib.hid (sizesI_yes hkk)
  rw [hr] at HSN HSY
  obtain ⟨b10, hb10⟩ : ∃ b, 10 * kk = b := ⟨_, rfl⟩
  obtain ⟨b5, hb5⟩ : ∃ b, 5 * kk = b := ⟨_, rfl⟩
  rw [hb10, hb5] at HSN HSY
  have e10 : wrap64 (10 * (kk : Int)) = (b10 : Int) := by rw [IntWalk.wrap64_in _ (by omega)]; omega
  have e5 : wrap64 (5 * (kk : Int)) = (b5 : Int) := by rw [IntWalk.wrap64_in _ (by omega)]; omega
  have e10b : IntKind.i64.wrap (10 * (kk : Int)) = (b10 : Int) := by rw [IntWalk.i64_in _ (by omega)]; omega
  have e5b : IntKind.i64.wrap (5 * (kk : Int)) = (b5 : Int) := by rw [IntWalk.i64_in _ (by omega)]; omega
  have X0 := Lib.hid (nkAt_start (w := w) (y := y) (N := N))
  clear hkk hr hb10 hb5
  go_enter Try.func41, Try.ntmps41
  go_wp2_with fail
  refine (HNC.out _).mono ?_
  rintro e w1 ⟨rfl, g1⟩
  have X1 := Lib.hid (X0.out.gb g1)
  have a5 : w1.cell? ⟨w.heap.size, 5, none⟩ = some (.slice y.bu.A N.bu.length y.bu.c) := X1.out.b.cell 5
  have a6 : w1.cell? ⟨w.heap.size, 6, none⟩ = some (.slice y.ow.A N.ow.length y.ow.c) := X1.out.b.cell 6
  have a7 : w1.cell? ⟨w.heap.size, 7, none⟩ = some (.slice y.tu.A N.tu.length y.tu.c) := X1.out.b.cell 7
  have a8 : w1.cell? ⟨w.heap.size, 8, none⟩ = some (.slice y.so.A N.so.length y.so.c) := X1.out.b.cell 8
  have a9 : w1.cell? ⟨w.heap.size, 9, none⟩ = some (.slice y.ar.A N.ar.length y.ar.c) := X1.out.b.cell 9
  clear g1
  by_cases hbu : N.bu.length = b10
  rotate_left
  · have HE := Lib.hid (show false = r from (HSN.out (fun e => hbu (by omega))).symm)
    have pbu : ((N.bu.length : Int) == (b10 : Int)) = false := by simp; omega
    have qbu : ¬ (N.bu.length : Int) = (b10 : Int) := by omega
    clear hbu
    go_wp2_with fail
    go_ret
    exact ⟨ret_bool HE.out, X1.out.g⟩
  have pbu : ((N.bu.length : Int) == (b10 : Int)) = true := by simp; omega
  have qbu : (N.bu.length : Int) = (b10 : Int) := by omega
  have Hbu := Lib.hid hbu
  clear hbu
  by_cases how : N.ow.length = b10
  rotate_left
  · have HE := Lib.hid (show false = r from (HSN.out (fun e => how (by omega))).symm)
    have pow : ((N.ow.length : Int) == (b10 : Int)) = false := by simp; omega
    have qow : ¬ (N.ow.length : Int) = (b10 : Int) := by omega
    clear how
    go_wp2_with fail
    go_ret
    exact ⟨ret_bool HE.out, X1.out.g⟩
  have pow : ((N.ow.length : Int) == (b10 : Int)) = true := by simp; omega
  have qow : (N.ow.length : Int) = (b10 : Int) := by omega
  have How := Lib.hid how
  clear how
  by_cases htu : N.tu.length = b5
  rotate_left
  · have HE := Lib.hid (show false = r from (HSN.out (fun e => htu (by omega))).symm)
    have ptu : ((N.tu.length : Int) == (b5 : Int)) = false := by simp; omega
    have qtu : ¬ (N.tu.length : Int) = (b5 : Int) := by omega
    clear htu
    go_wp2_with fail
    go_ret
    exact ⟨ret_bool HE.out, X1.out.g⟩
  have ptu : ((N.tu.length : Int) == (b5 : Int)) = true := by simp; omega
  have qtu : (N.tu.length : Int) = (b5 : Int) := by omega
  have Htu := Lib.hid htu
  clear htu
  by_cases hso : N.so.length = kk
  rotate_left
  · have HE := Lib.hid (show false = r from (HSN.out (fun e => hso (by omega))).symm)
    have pso : ((N.so.length : Int) == (kk : Int)) = false := by simp; omega
    have qso : ¬ (N.so.length : Int) = (kk : Int) := by omega
    clear hso
    go_wp2_with fail
    go_ret
    exact ⟨ret_bool HE.out, X1.out.g⟩
  have pso : ((N.so.length : Int) == (kk : Int)) = true := by simp; omega
  have qso : (N.so.length : Int) = (kk : Int) := by omega
  have Hso := Lib.hid hso
  clear hso
  by_cases har : N.ar.length = kk
  rotate_left
  · have HE := Lib.hid (show false = r from (HSN.out (fun e => har (by omega))).symm)
    have par : ((N.ar.length : Int) == (kk : Int)) = false := by simp; omega
    have qar : ¬ (N.ar.length : Int) = (kk : Int) := by omega
    clear har
    go_wp2_with fail
    go_ret
    exact ⟨ret_bool HE.out, X1.out.g⟩
  have par : ((N.ar.length : Int) == (kk : Int)) = true := by simp; omega
  have qar : (N.ar.length : Int) = (kk : Int) := by omega
  have Har := Lib.hid har
  clear har
  have HE := Lib.hid (show true = r from (HSY.out ⟨Hbu.out, How.out, Htu.out, Hso.out, Har.out⟩).symm)
  go_wp2_with fail
  go_ret
  exact ⟨ret_bool HE.out, X1.out.g⟩
set_option maxHeartbeats 1600000 in
/-- No buffer holds too many flits or one that does not belong there. -/
theorem implBufsV (y : Na) (N : Nt) (r : Bool) (hr : bufsI N = r) (w : World) (h : NetIn w w.heap.size y N) (hn : NetSm N) :
    Calls Try.prog 42 #[.agg #[.int .i64 N.W, .int .i64 N.H, .slice y.br.A N.br.length y.br.c, .slice y.ta.A N.ta.length y.ta.c, .slice y.tb.A N.tb.length y.tb.c, .slice y.bu.A N.bu.length y.bu.c, .slice y.ow.A N.ow.length y.ow.c, .slice y.tu.A N.tu.length y.tu.c, .slice y.so.A N.so.length y.so.c, .slice y.ar.A N.ar.length y.ar.c, .int .i64 N.ti]] w (RetB r w) := by
  have HI := Lib.hid h
  have HSM := Lib.hid hn
  have HNO := Lib.hid (fun i => bufsI_no (N := N) (i := i))
  have HYES := Lib.hid (bufsI_yes (N := N))
  rw [hr] at HNO HYES
  have X0 := Lib.hid (nkAt_start (w := w) (y := y) (N := N))
  have HLD := Lib.hid (fun A n cap D r hr w h hn => implLeadsV y N A n cap D r hr w h hn)
  have h9 : N.bu.length ≤ 1000000000 := hn.bu
  clear h hr hn
  obtain ⟨⟨A0, c0⟩, ⟨A1, c1⟩, ⟨A2, c2⟩, ⟨A3, c3⟩, ⟨A4, c4⟩, ⟨A5, c5⟩, ⟨A6, c6⟩, ⟨A7, c7⟩⟩ := y
  dsimp only at HLD ⊢
  go_enter Try.func42, Try.ntmps42
  go_wp2_with fail
  go_loopw [10] (fun i wr => ∃ k : Nat, i = .int .i64 (k : Int) ∧ k ≤ N.bu.length ∧ (∀ j, j < k → bufJ N.W N.H j (N.bu.getD j []) = true) ∧ NkAt w ⟨⟨A0, c0⟩, ⟨A1, c1⟩, ⟨A2, c2⟩, ⟨A3, c3⟩, ⟨A4, c4⟩, ⟨A5, c5⟩, ⟨A6, c6⟩, ⟨A7, c7⟩⟩ N wr) (fun i _ => N.bu.length - (intOf i).toNat)
  case atStart => exact ⟨0, rfl, Nat.zero_le _, fun j hj => by omega, X0.out⟩
  case round =>
    obtain ⟨k, rfl, hk, hall, hx⟩ := hrel
    have HALL := Lib.hid hall
    have X1 := Lib.hid hx
    clear hall hx
    by_cases hlt : k < N.bu.length
    · obtain ⟨b, off, D, A', c', hA, _, hD, hcell, hcap, hrec⟩ := (X1.out.in HI.out).bu.at k hlt
      have hA' : A3 = some ⟨b, off, none⟩ := hA
      subst hA'
      have hgd : N.bu.getD k [] = D := getD_of hD
      have HJ := Lib.hid (fun (b : Bool) (hb : bufJ N.W N.H k D = b) => show bufJ N.W N.H k (N.bu.getD k []) = b by rw [hgd]; exact hb)
      have HREC := Lib.hid hrec
      have hat := sumL_at hD
      have h8 : D.length ≤ 1000000000 := by have := HSM.out.sbu; omega
      have k0 : (0 : Int) ≤ (k : Int) := by omega
      have k1 : (k : Int) < (N.bu.length : Int) := by omega
      have HKL := Lib.hid hlt
      clear hA hgd hat hD hrec hcap
      by_cases h3 : D.length ≤ 3
      rotate_left
      · have HR := Lib.hid (HNO.out k hlt (HJ.out false (bufJ_no1 h3)))
        have p3 : (D.length : Int) > 3 := by omega
        clear h3
        go_wp2_with fail
        go_ret
        exact ⟨ret_bool HR.out.symm, X1.out.g⟩
      have p3 : ¬ (D.length : Int) > 3 := by omega
      have a0 : wr.cell? ⟨w.heap.size, 0, none⟩ = some (.int .i64 N.W) := X1.out.b.cell 0
      have a1 : wr.cell? ⟨w.heap.size, 1, none⟩ = some (.int .i64 N.H) := X1.out.b.cell 1
      have a2 : wr.cell? ⟨w.heap.size, 2, none⟩ = some (.slice A0 N.br.length c0) := X1.out.b.cell 2
      have a3 : wr.cell? ⟨w.heap.size, 3, none⟩ = some (.slice A1 N.ta.length c1) := X1.out.b.cell 3
      have a4 : wr.cell? ⟨w.heap.size, 4, none⟩ = some (.slice A2 N.tb.length c2) := X1.out.b.cell 4
      have a5 : wr.cell? ⟨w.heap.size, 5, none⟩ = some (.slice (some ⟨b, off, none⟩) N.bu.length c3) := X1.out.b.cell 5
      have a6 : wr.cell? ⟨w.heap.size, 6, none⟩ = some (.slice A4 N.ow.length c4) := X1.out.b.cell 6
      have a7 : wr.cell? ⟨w.heap.size, 7, none⟩ = some (.slice A5 N.tu.length c5) := X1.out.b.cell 7
      have a8 : wr.cell? ⟨w.heap.size, 8, none⟩ = some (.slice A6 N.so.length c6) := X1.out.b.cell 8
      have a9 : wr.cell? ⟨w.heap.size, 9, none⟩ = some (.slice A7 N.ar.length c7) := X1.out.b.cell 9
      have a10 : wr.cell? ⟨w.heap.size, 10, none⟩ = some (.int .i64 N.ti) := X1.out.b.cell 10
      cases hlo : lstOk N.W N.H D with
      | false =>
        have HC := Lib.hid (HLD.out A' D.length c' D false hlo _ HREC.out h8)
        have HR := Lib.hid (HNO.out k hlt (HJ.out false (bufJ_no2 hlo)))
        clear hlo
        go_wp2_with fail
        refine HC.out.mono ?_
        rintro e w2 ⟨rfl, g2⟩
        have X2 := Lib.hid (X1.out.gb g2)
        clear g2 a0 a1 a2 a3 a4 a5 a6 a7 a8 a9 a10 hcell
        go_wp2_with fail
        go_ret
        exact ⟨ret_bool HR.out.symm, X2.out.g⟩
      | true =>
        have HC := Lib.hid (HLD.out A' D.length c' D true hlo _ HREC.out h8)
        have HN4 := Lib.hid (fun q x hx h => HNO.out k HKL.out (HJ.out false (bufJ_no3 (q := q) (x := x) hx h)))
        have HYB := Lib.hid (fun h => HJ.out true (bufJ_yes h3 hlo h))
        have em : Int.tmod (k : Int) 2 = ((k % 2 : Nat) : Int) := tmod_twoI k
        obtain ⟨md, hmd⟩ : ∃ m : Nat, k % 2 = m := ⟨_, rfl⟩
        have hmd2 : md < 2 := by omega
        rw [hmd] at em HYB HN4
        have em2 : IntKind.i64.wrap (md : Int) = (md : Int) := IntWalk.i64_in _ (by omega)
        have em3 : wrap64 (md : Int) = (md : Int) := IntWalk.wrap64_in _ (by omega)
        clear hlo hmd
        go_wp2_with fail
        refine HC.out.mono ?_
        rintro e w2 ⟨rfl, g2⟩
        have X2 := Lib.hid (X1.out.gb g2)
        have RE2 := Lib.hid (HREC.out.none (Nat.le_refl _) g2)
        have SZ2 := Lib.hid g2.size
        obtain ⟨gs, hgs⟩ : ∃ g, wr.heap.size = g := ⟨_, rfl⟩
        rw [hgs] at SZ2 RE2
        clear hgs
        clear g2 a0 a1 a2 a3 a4 a5 a6 a7 a8 a9 a10 hcell
        go_wp2_with fail
        go_loopw [26] (fun j ws => ∃ q : Nat, j = .int .i64 (q : Int) ∧ q ≤ D.length ∧ (∀ (p : Nat) x, p < q → D[p]? = some x → x.cl = (md : Int)) ∧ NkAt w ⟨⟨A0, c0⟩, ⟨A1, c1⟩, ⟨A2, c2⟩, ⟨some ⟨b, off, none⟩, c3⟩, ⟨A4, c4⟩, ⟨A5, c5⟩, ⟨A6, c6⟩, ⟨A7, c7⟩⟩ N ws ∧ gs ≤ ws.heap.size ∧ RecAt 5 fltC ws gs A' D.length D) (fun j _ => 4 - (intOf j).toNat)
        case atStart => exact ⟨0, rfl, Nat.zero_le _, fun p x hp => by omega, X2.out, SZ2.out, RE2.out⟩
        case round =>
          obtain ⟨q, rfl, hq, hqa, hx, hsw, hre⟩ := hrel
          have HSW := Lib.hid hsw
          have HQA := Lib.hid hqa
          have X5 := Lib.hid hx
          have REC5 := Lib.hid hre
          clear hqa hx hre hsw
          by_cases hql : q < D.length
          · obtain ⟨fb, fo, x, rfl, hfb, hx, hfc⟩ := REC5.out.at q hql
            obtain ⟨f0, f1, f2, f3, f4⟩ := flt_five hfc
            have q0 : (0 : Int) ≤ (q : Int) := by omega
            have q1 : (q : Int) < (D.length : Int) := by omega
            have HX := Lib.hid hx
            have hga := gb_alloc (gb_refl wr none) (.cells #[.int .i64 x.pk, .int .i64 x.to, .int .i64 x.cl, .bool x.hd, .bool x.tl] 96)
            have X6 := Lib.hid (X5.out.gb hga)
            have REC6 := Lib.hid (show RecAt 5 fltC (wr.alloc (.cells #[.int .i64 x.pk, .int .i64 x.to, .int .i64 x.cl, .bool x.hd, .bool x.tl] 96)) gs (some ⟨fb, fo, none⟩) D.length D from REC5.out.none HSW.out hga)
            obtain ⟨pk, to, cl, hd, tl⟩ := x
            dsimp only at f0 f1 f2 f3 f4 X6 REC6
            clear hx hfc hga
            by_cases hce : cl = (md : Int)
            · have HCE := Lib.hid hce
              subst hce
              have pce : ((md : Int) == (md : Int)) = true := by simp
              go_wp2_with fail
              go_roundw
              case rel => exact ⟨q + 1, by go_num, by omega, fun p z hp hz => by
                rcases Nat.lt_or_ge p q with h1 | h1
                · exact HQA.out p z h1 hz
                · obtain rfl : p = q := by omega
                  rw [HX.out] at hz
                  cases hz
                  rfl, X6.out, by rw [alloc_size]; have := HSW.out; omega, REC6.out⟩
              case measure => simp [intOf]; omega
            · have HR := Lib.hid (HN4.out q _ HX.out hce)
              have pce : (cl == (md : Int)) = false := by simpa using hce
              go_wp2_with fail
              go_ret
              exact ⟨ret_bool HR.out.symm, X6.out.g⟩
          · have q1 : ¬ (q : Int) < (D.length : Int) := by omega
            have HBO := Lib.hid (HYB.out (fun p x hx => HQA.out p x (by have := (List.getElem?_eq_some_iff.1 hx).1; omega) hx))
            go_wp2_with fail
            go_roundw
            case rel => exact ⟨k + 1, by go_num, by omega, fun j hj => by
              rcases Nat.lt_or_ge j k with h1 | h1
              · exact HALL.out j h1
              · obtain rfl : j = k := by omega
                exact HBO.out, X5.out⟩
            case measure => simp [intOf]; omega
    · have k1 : ¬ (k : Int) < (N.bu.length : Int) := by omega
      have HR := Lib.hid (HYES.out (fun i hi => HALL.out i (by omega)))
      go_wp2_with fail
      go_ret
      exact ⟨ret_bool HR.out.symm, X1.out.g⟩
/-- No source holds too many flits or one that cannot be sent. -/
theorem implSrcsV (y : Na) (N : Nt) (r : Bool) (hr : srcsI N = r) (w : World) (h : NetIn w w.heap.size y N) (hn : NetSm N) :
    Calls Try.prog 43 #[.agg #[.int .i64 N.W, .int .i64 N.H, .slice y.br.A N.br.length y.br.c, .slice y.ta.A N.ta.length y.ta.c, .slice y.tb.A N.tb.length y.tb.c, .slice y.bu.A N.bu.length y.bu.c, .slice y.ow.A N.ow.length y.ow.c, .slice y.tu.A N.tu.length y.tu.c, .slice y.so.A N.so.length y.so.c, .slice y.ar.A N.ar.length y.ar.c, .int .i64 N.ti]] w (RetB r w) := by
  have HI := Lib.hid h
  have HSM := Lib.hid hn
  have HNO := Lib.hid (fun i D => srcsI_no (N := N) (i := i) (D := D))
  have HYES := Lib.hid (srcsI_yes (N := N))
  rw [hr] at HNO HYES
  have X0 := Lib.hid (nkAt_start (w := w) (y := y) (N := N))
  have HLD := Lib.hid (fun A n cap D r hr w h hn => implLeadsV y N A n cap D r hr w h hn)
  have h9 : N.so.length ≤ 1000000000 := hn.so
  clear h hr hn
  obtain ⟨⟨A0, c0⟩, ⟨A1, c1⟩, ⟨A2, c2⟩, ⟨A3, c3⟩, ⟨A4, c4⟩, ⟨A5, c5⟩, ⟨A6, c6⟩, ⟨A7, c7⟩⟩ := y
  dsimp only at HLD ⊢
  go_enter Try.func43, Try.ntmps43
  go_wp2_with fail
  go_loopw [8] (fun i wr => ∃ k : Nat, i = .int .i64 (k : Int) ∧ k ≤ N.so.length ∧ (∀ (j : Nat) D, j < k → N.so[j]? = some D → srcOk N.W N.H D = true) ∧ NkAt w ⟨⟨A0, c0⟩, ⟨A1, c1⟩, ⟨A2, c2⟩, ⟨A3, c3⟩, ⟨A4, c4⟩, ⟨A5, c5⟩, ⟨A6, c6⟩, ⟨A7, c7⟩⟩ N wr) (fun i _ => N.so.length - (intOf i).toNat)
  case atStart => exact ⟨0, rfl, Nat.zero_le _, fun j D hj => by omega, X0.out⟩
  case round =>
    obtain ⟨k, rfl, hk, hall, hx⟩ := hrel
    have HALL := Lib.hid hall
    have X1 := Lib.hid hx
    clear hall hx
    by_cases hlt : k < N.so.length
    · obtain ⟨b, off, D, A', c', hA, _, hD, hcell, hcap, hrec⟩ := (X1.out.in HI.out).so.at k hlt
      have hA' : A6 = some ⟨b, off, none⟩ := hA
      subst hA'
      have HREC := Lib.hid hrec
      have HDD := Lib.hid hD
      have hat := sumL_at hD
      have h8 : D.length ≤ 1000000000 := by have := HSM.out.sso; omega
      have k0 : (0 : Int) ≤ (k : Int) := by omega
      have k1 : (k : Int) < (N.so.length : Int) := by omega
      clear hA hat hD hrec hcap
      by_cases h3 : D.length ≤ 60
      rotate_left
      · have HR := Lib.hid (HNO.out k D HDD.out (src_no1 h3))
        have p3 : (D.length : Int) > 60 := by omega
        clear h3
        go_wp2_with fail
        go_ret
        exact ⟨ret_bool HR.out.symm, X1.out.g⟩
      have p3 : ¬ (D.length : Int) > 60 := by omega
      have a0 : wr.cell? ⟨w.heap.size, 0, none⟩ = some (.int .i64 N.W) := X1.out.b.cell 0
      have a1 : wr.cell? ⟨w.heap.size, 1, none⟩ = some (.int .i64 N.H) := X1.out.b.cell 1
      have a2 : wr.cell? ⟨w.heap.size, 2, none⟩ = some (.slice A0 N.br.length c0) := X1.out.b.cell 2
      have a3 : wr.cell? ⟨w.heap.size, 3, none⟩ = some (.slice A1 N.ta.length c1) := X1.out.b.cell 3
      have a4 : wr.cell? ⟨w.heap.size, 4, none⟩ = some (.slice A2 N.tb.length c2) := X1.out.b.cell 4
      have a5 : wr.cell? ⟨w.heap.size, 5, none⟩ = some (.slice A3 N.bu.length c3) := X1.out.b.cell 5
      have a6 : wr.cell? ⟨w.heap.size, 6, none⟩ = some (.slice A4 N.ow.length c4) := X1.out.b.cell 6
      have a7 : wr.cell? ⟨w.heap.size, 7, none⟩ = some (.slice A5 N.tu.length c5) := X1.out.b.cell 7
      have a8 : wr.cell? ⟨w.heap.size, 8, none⟩ = some (.slice (some ⟨b, off, none⟩) N.so.length c6) := X1.out.b.cell 8
      have a9 : wr.cell? ⟨w.heap.size, 9, none⟩ = some (.slice A7 N.ar.length c7) := X1.out.b.cell 9
      have a10 : wr.cell? ⟨w.heap.size, 10, none⟩ = some (.int .i64 N.ti) := X1.out.b.cell 10
      cases hlo : lstOk N.W N.H D with
      | false =>
        have HC := Lib.hid (HLD.out A' D.length c' D false hlo _ HREC.out h8)
        have HR := Lib.hid (HNO.out k D HDD.out (src_is h3 hlo))
        clear hlo
        go_wp2_with fail
        refine HC.out.mono ?_
        rintro e w2 ⟨rfl, g2⟩
        have X2 := Lib.hid (X1.out.gb g2)
        clear g2 a0 a1 a2 a3 a4 a5 a6 a7 a8 a9 a10 hcell
        go_wp2_with fail
        go_ret
        exact ⟨ret_bool HR.out.symm, X2.out.g⟩
      | true =>
        have HC := Lib.hid (HLD.out A' D.length c' D true hlo _ HREC.out h8)
        have HS := Lib.hid (src_is h3 hlo)
        clear hlo
        go_wp2_with fail
        refine HC.out.mono ?_
        rintro e w2 ⟨rfl, g2⟩
        have X2 := Lib.hid (X1.out.gb g2)
        clear g2 a0 a1 a2 a3 a4 a5 a6 a7 a8 a9 a10 hcell
        go_wp2_with fail
        go_roundw
        case rel => exact ⟨k + 1, by go_num, by omega, fun j E hj hE => by
          rcases Nat.lt_or_ge j k with h1 | h1
          · exact HALL.out j E h1 hE
          · obtain rfl : j = k := by omega
            rw [HDD.out] at hE
            cases hE
            exact HS.out, X2.out⟩
        case measure => simp [intOf]; omega
    · have k1 : ¬ (k : Int) < (N.so.length : Int) := by omega
      have HR := Lib.hid (HYES.out (fun i D hD => HALL.out i D (by have := (List.getElem?_eq_some_iff.1 hD).1; omega) hD))
      go_wp2_with fail
      go_ret
      exact ⟨ret_bool HR.out.symm, X1.out.g⟩
end Go.Proofs.Ytffnbmaoainhmaa
end

section
namespace Go.Proofs.Ytffnbmaoainhmaa
open Go.ChangeShapes Go.WideShapes Go.ChangeAt Go.RowKit
set_option linter.unusedVariables false
set_option maxRecDepth 20000

set_option maxHeartbeats 3200000 in
theorem implNetOk (y : Na) (N : Nt) (w : World) (h : NetIn w w.heap.size y N) (hn : NetSm N) (hc : NetCap y N) (hL : WfL N.br) :
    Calls Try.prog 13 #[.agg #[.int .i64 N.W, .int .i64 N.H, .slice y.br.A N.br.length y.br.c, .slice y.ta.A N.ta.length y.ta.c, .slice y.tb.A N.tb.length y.tb.c, .slice y.bu.A N.bu.length y.bu.c, .slice y.ow.A N.ow.length y.ow.c, .slice y.tu.A N.tu.length y.tu.c, .slice y.so.A N.so.length y.so.c, .slice y.ar.A N.ar.length y.ar.c, .int .i64 N.ti]] w (RetB (netOk N) w) := by
  have HI := Lib.hid h
  have X0 := Lib.hid (nkAt_start (w := w) (y := y) (N := N))
  have HC0 := Lib.hid (fun (b : Bool) (hb : clsOk N.W N.H N.br N.ta N.tb = b) w (h : NetIn w w.heap.size y N) => implClassesOkV N.W N.H y.br.A y.ta.A y.tb.A N.br.length y.br.c N.ta.length y.ta.c N.tb.length y.tb.c N.br N.ta N.tb hL b hb w h.br h.ta h.tb hn.br hn.ta hn.tb)
  have HC1 := Lib.hid (fun (b : Bool) (hb : sizesI N = b) w => implSizesV y N b hb w)
  have HC2 := Lib.hid (fun (b : Bool) (hb : bufsI N = b) w (h : NetIn w w.heap.size y N) => implBufsV y N b hb w h hn)
  have HC3 := Lib.hid (fun (b : Bool) (hb : srcsI N = b) w (h : NetIn w w.heap.size y N) => implSrcsV y N b hb w h hn)
  have HC4 := Lib.hid (fun (b : Bool) (hb : withL (-1) 4 N.ow = b) w h => implWithinV (-1) 4 y.ow.A N.ow.length y.ow.c N.ow b hb w h hn.ow)
  have HC5 := Lib.hid (fun (b : Bool) (hb : withL 0 9 N.tu = b) w h => implWithinV 0 9 y.tu.A N.tu.length y.tu.c N.tu b hb w h hn.tu)
  have HC6 := Lib.hid (fun (b : Bool) (hb : withL 0 1000000 [N.ti] = b) w => implWithin1 0 1000000 N.ti b ((withL_one _ _ _).symm.trans hb) w)
  have HNO := Lib.hid (netOk_no (N := N))
  clear h hc
  cases h0 : clsOk N.W N.H N.br N.ta N.tb with
  | false =>
    have C0 := Lib.hid (HC0.out false h0)
    have R := Lib.hid (HNO.out (by rw [h0]; simp))
    clear h0
    go_enter Try.func13, Try.ntmps13
    go_wp2_with fail
    refine (C0.out _ (X0.out.in HI.out)).mono ?_
    rintro e w1 ⟨rfl, g1⟩
    have X1 := Lib.hid (X0.out.gb g1)
    clear g1
    go_wp2_with fail
    go_ret
    exact ⟨ret_bool R.out, X1.out.g⟩
  | true =>
    have C0 := Lib.hid (HC0.out true h0)
    cases h1 : sizesI N with
    | false =>
      have C1 := Lib.hid (HC1.out false h1)
      have R := Lib.hid (HNO.out (by rw [h1]; simp))
      clear h0 h1
      go_enter Try.func13, Try.ntmps13
      go_wp2_with fail
      refine (C0.out _ (X0.out.in HI.out)).mono ?_
      rintro e w1 ⟨rfl, g1⟩
      have X1 := Lib.hid (X0.out.gb g1)
      clear g1
      have a0 : w1.cell? ⟨w.heap.size, 0, none⟩ = some (.int .i64 N.W) := X1.out.b.cell 0
      have a1 : w1.cell? ⟨w.heap.size, 1, none⟩ = some (.int .i64 N.H) := X1.out.b.cell 1
      have a2 : w1.cell? ⟨w.heap.size, 2, none⟩ = some (.slice y.br.A N.br.length y.br.c) := X1.out.b.cell 2
      have a3 : w1.cell? ⟨w.heap.size, 3, none⟩ = some (.slice y.ta.A N.ta.length y.ta.c) := X1.out.b.cell 3
      have a4 : w1.cell? ⟨w.heap.size, 4, none⟩ = some (.slice y.tb.A N.tb.length y.tb.c) := X1.out.b.cell 4
      have a5 : w1.cell? ⟨w.heap.size, 5, none⟩ = some (.slice y.bu.A N.bu.length y.bu.c) := X1.out.b.cell 5
      have a6 : w1.cell? ⟨w.heap.size, 6, none⟩ = some (.slice y.ow.A N.ow.length y.ow.c) := X1.out.b.cell 6
      have a7 : w1.cell? ⟨w.heap.size, 7, none⟩ = some (.slice y.tu.A N.tu.length y.tu.c) := X1.out.b.cell 7
      have a8 : w1.cell? ⟨w.heap.size, 8, none⟩ = some (.slice y.so.A N.so.length y.so.c) := X1.out.b.cell 8
      have a9 : w1.cell? ⟨w.heap.size, 9, none⟩ = some (.slice y.ar.A N.ar.length y.ar.c) := X1.out.b.cell 9
      have a10 : w1.cell? ⟨w.heap.size, 10, none⟩ = some (.int .i64 N.ti) := X1.out.b.cell 10
      go_wp2_with fail
      refine (C1.out _).mono ?_
      rintro e w2 ⟨rfl, g2⟩
      have X2 := Lib.hid (X1.out.gb g2)
      clear g2
      clear a0 a1 a2 a3 a4 a5 a6 a7 a8 a9 a10
      go_wp2_with fail
      go_ret
      exact ⟨ret_bool R.out, X2.out.g⟩
    | true =>
      have C1 := Lib.hid (HC1.out true h1)
      cases h2 : bufsI N with
      | false =>
        have C2 := Lib.hid (HC2.out false h2)
        have R := Lib.hid (HNO.out (by rw [h2]; simp))
        clear h0 h1 h2
        go_enter Try.func13, Try.ntmps13
        go_wp2_with fail
        refine (C0.out _ (X0.out.in HI.out)).mono ?_
        rintro e w1 ⟨rfl, g1⟩
        have X1 := Lib.hid (X0.out.gb g1)
        clear g1
        have a0 : w1.cell? ⟨w.heap.size, 0, none⟩ = some (.int .i64 N.W) := X1.out.b.cell 0
        have a1 : w1.cell? ⟨w.heap.size, 1, none⟩ = some (.int .i64 N.H) := X1.out.b.cell 1
        have a2 : w1.cell? ⟨w.heap.size, 2, none⟩ = some (.slice y.br.A N.br.length y.br.c) := X1.out.b.cell 2
        have a3 : w1.cell? ⟨w.heap.size, 3, none⟩ = some (.slice y.ta.A N.ta.length y.ta.c) := X1.out.b.cell 3
        have a4 : w1.cell? ⟨w.heap.size, 4, none⟩ = some (.slice y.tb.A N.tb.length y.tb.c) := X1.out.b.cell 4
        have a5 : w1.cell? ⟨w.heap.size, 5, none⟩ = some (.slice y.bu.A N.bu.length y.bu.c) := X1.out.b.cell 5
        have a6 : w1.cell? ⟨w.heap.size, 6, none⟩ = some (.slice y.ow.A N.ow.length y.ow.c) := X1.out.b.cell 6
        have a7 : w1.cell? ⟨w.heap.size, 7, none⟩ = some (.slice y.tu.A N.tu.length y.tu.c) := X1.out.b.cell 7
        have a8 : w1.cell? ⟨w.heap.size, 8, none⟩ = some (.slice y.so.A N.so.length y.so.c) := X1.out.b.cell 8
        have a9 : w1.cell? ⟨w.heap.size, 9, none⟩ = some (.slice y.ar.A N.ar.length y.ar.c) := X1.out.b.cell 9
        have a10 : w1.cell? ⟨w.heap.size, 10, none⟩ = some (.int .i64 N.ti) := X1.out.b.cell 10
        go_wp2_with fail
        refine (C1.out _).mono ?_
        rintro e w2 ⟨rfl, g2⟩
        have X2 := Lib.hid (X1.out.gb g2)
        clear g2
        clear a0 a1 a2 a3 a4 a5 a6 a7 a8 a9 a10
        have a0 : w2.cell? ⟨w.heap.size, 0, none⟩ = some (.int .i64 N.W) := X2.out.b.cell 0
        have a1 : w2.cell? ⟨w.heap.size, 1, none⟩ = some (.int .i64 N.H) := X2.out.b.cell 1
        have a2 : w2.cell? ⟨w.heap.size, 2, none⟩ = some (.slice y.br.A N.br.length y.br.c) := X2.out.b.cell 2
        have a3 : w2.cell? ⟨w.heap.size, 3, none⟩ = some (.slice y.ta.A N.ta.length y.ta.c) := X2.out.b.cell 3
        have a4 : w2.cell? ⟨w.heap.size, 4, none⟩ = some (.slice y.tb.A N.tb.length y.tb.c) := X2.out.b.cell 4
        have a5 : w2.cell? ⟨w.heap.size, 5, none⟩ = some (.slice y.bu.A N.bu.length y.bu.c) := X2.out.b.cell 5
        have a6 : w2.cell? ⟨w.heap.size, 6, none⟩ = some (.slice y.ow.A N.ow.length y.ow.c) := X2.out.b.cell 6
        have a7 : w2.cell? ⟨w.heap.size, 7, none⟩ = some (.slice y.tu.A N.tu.length y.tu.c) := X2.out.b.cell 7
        have a8 : w2.cell? ⟨w.heap.size, 8, none⟩ = some (.slice y.so.A N.so.length y.so.c) := X2.out.b.cell 8
        have a9 : w2.cell? ⟨w.heap.size, 9, none⟩ = some (.slice y.ar.A N.ar.length y.ar.c) := X2.out.b.cell 9
        have a10 : w2.cell? ⟨w.heap.size, 10, none⟩ = some (.int .i64 N.ti) := X2.out.b.cell 10
        go_wp2_with fail
        refine (C2.out _ (X2.out.in HI.out)).mono ?_
        rintro e w3 ⟨rfl, g3⟩
        have X3 := Lib.hid (X2.out.gb g3)
        clear g3
        clear a0 a1 a2 a3 a4 a5 a6 a7 a8 a9 a10
        go_wp2_with fail
        go_ret
        exact ⟨ret_bool R.out, X3.out.g⟩
      | true =>
        have C2 := Lib.hid (HC2.out true h2)
        cases h3 : srcsI N with
        | false =>
          have C3 := Lib.hid (HC3.out false h3)
          have R := Lib.hid (HNO.out (by rw [h3]; simp))
          clear h0 h1 h2 h3
          go_enter Try.func13, Try.ntmps13
          go_wp2_with fail
          refine (C0.out _ (X0.out.in HI.out)).mono ?_
          rintro e w1 ⟨rfl, g1⟩
          have X1 := Lib.hid (X0.out.gb g1)
          clear g1
          have a0 : w1.cell? ⟨w.heap.size, 0, none⟩ = some (.int .i64 N.W) := X1.out.b.cell 0
          have a1 : w1.cell? ⟨w.heap.size, 1, none⟩ = some (.int .i64 N.H) := X1.out.b.cell 1
          have a2 : w1.cell? ⟨w.heap.size, 2, none⟩ = some (.slice y.br.A N.br.length y.br.c) := X1.out.b.cell 2
          have a3 : w1.cell? ⟨w.heap.size, 3, none⟩ = some (.slice y.ta.A N.ta.length y.ta.c) := X1.out.b.cell 3
          have a4 : w1.cell? ⟨w.heap.size, 4, none⟩ = some (.slice y.tb.A N.tb.length y.tb.c) := X1.out.b.cell 4
          have a5 : w1.cell? ⟨w.heap.size, 5, none⟩ = some (.slice y.bu.A N.bu.length y.bu.c) := X1.out.b.cell 5
          have a6 : w1.cell? ⟨w.heap.size, 6, none⟩ = some (.slice y.ow.A N.ow.length y.ow.c) := X1.out.b.cell 6
          have a7 : w1.cell? ⟨w.heap.size, 7, none⟩ = some (.slice y.tu.A N.tu.length y.tu.c) := X1.out.b.cell 7
          have a8 : w1.cell? ⟨w.heap.size, 8, none⟩ = some (.slice y.so.A N.so.length y.so.c) := X1.out.b.cell 8
          have a9 : w1.cell? ⟨w.heap.size, 9, none⟩ = some (.slice y.ar.A N.ar.length y.ar.c) := X1.out.b.cell 9
          have a10 : w1.cell? ⟨w.heap.size, 10, none⟩ = some (.int .i64 N.ti) := X1.out.b.cell 10
          go_wp2_with fail
          refine (C1.out _).mono ?_
          rintro e w2 ⟨rfl, g2⟩
          have X2 := Lib.hid (X1.out.gb g2)
          clear g2
          clear a0 a1 a2 a3 a4 a5 a6 a7 a8 a9 a10
          have a0 : w2.cell? ⟨w.heap.size, 0, none⟩ = some (.int .i64 N.W) := X2.out.b.cell 0
          have a1 : w2.cell? ⟨w.heap.size, 1, none⟩ = some (.int .i64 N.H) := X2.out.b.cell 1
          have a2 : w2.cell? ⟨w.heap.size, 2, none⟩ = some (.slice y.br.A N.br.length y.br.c) := X2.out.b.cell 2
          have a3 : w2.cell? ⟨w.heap.size, 3, none⟩ = some (.slice y.ta.A N.ta.length y.ta.c) := X2.out.b.cell 3
          have a4 : w2.cell? ⟨w.heap.size, 4, none⟩ = some (.slice y.tb.A N.tb.length y.tb.c) := X2.out.b.cell 4
          have a5 : w2.cell? ⟨w.heap.size, 5, none⟩ = some (.slice y.bu.A N.bu.length y.bu.c) := X2.out.b.cell 5
          have a6 : w2.cell? ⟨w.heap.size, 6, none⟩ = some (.slice y.ow.A N.ow.length y.ow.c) := X2.out.b.cell 6
          have a7 : w2.cell? ⟨w.heap.size, 7, none⟩ = some (.slice y.tu.A N.tu.length y.tu.c) := X2.out.b.cell 7
          have a8 : w2.cell? ⟨w.heap.size, 8, none⟩ = some (.slice y.so.A N.so.length y.so.c) := X2.out.b.cell 8
          have a9 : w2.cell? ⟨w.heap.size, 9, none⟩ = some (.slice y.ar.A N.ar.length y.ar.c) := X2.out.b.cell 9
          have a10 : w2.cell? ⟨w.heap.size, 10, none⟩ = some (.int .i64 N.ti) := X2.out.b.cell 10
          go_wp2_with fail
          refine (C2.out _ (X2.out.in HI.out)).mono ?_
          rintro e w3 ⟨rfl, g3⟩
          have X3 := Lib.hid (X2.out.gb g3)
          clear g3
          clear a0 a1 a2 a3 a4 a5 a6 a7 a8 a9 a10
          have a0 : w3.cell? ⟨w.heap.size, 0, none⟩ = some (.int .i64 N.W) := X3.out.b.cell 0
          have a1 : w3.cell? ⟨w.heap.size, 1, none⟩ = some (.int .i64 N.H) := X3.out.b.cell 1
          have a2 : w3.cell? ⟨w.heap.size, 2, none⟩ = some (.slice y.br.A N.br.length y.br.c) := X3.out.b.cell 2
          have a3 : w3.cell? ⟨w.heap.size, 3, none⟩ = some (.slice y.ta.A N.ta.length y.ta.c) := X3.out.b.cell 3
          have a4 : w3.cell? ⟨w.heap.size, 4, none⟩ = some (.slice y.tb.A N.tb.length y.tb.c) := X3.out.b.cell 4
          have a5 : w3.cell? ⟨w.heap.size, 5, none⟩ = some (.slice y.bu.A N.bu.length y.bu.c) := X3.out.b.cell 5
          have a6 : w3.cell? ⟨w.heap.size, 6, none⟩ = some (.slice y.ow.A N.ow.length y.ow.c) := X3.out.b.cell 6
          have a7 : w3.cell? ⟨w.heap.size, 7, none⟩ = some (.slice y.tu.A N.tu.length y.tu.c) := X3.out.b.cell 7
          have a8 : w3.cell? ⟨w.heap.size, 8, none⟩ = some (.slice y.so.A N.so.length y.so.c) := X3.out.b.cell 8
          have a9 : w3.cell? ⟨w.heap.size, 9, none⟩ = some (.slice y.ar.A N.ar.length y.ar.c) := X3.out.b.cell 9
          have a10 : w3.cell? ⟨w.heap.size, 10, none⟩ = some (.int .i64 N.ti) := X3.out.b.cell 10
          go_wp2_with fail
          refine (C3.out _ (X3.out.in HI.out)).mono ?_
          rintro e w4 ⟨rfl, g4⟩
          have X4 := Lib.hid (X3.out.gb g4)
          clear g4
          clear a0 a1 a2 a3 a4 a5 a6 a7 a8 a9 a10
          go_wp2_with fail
          go_ret
          exact ⟨ret_bool R.out, X4.out.g⟩
        | true =>
          have C3 := Lib.hid (HC3.out true h3)
          cases h4 : withL (-1) 4 N.ow with
          | false =>
            have C4 := Lib.hid (HC4.out false h4)
            have R := Lib.hid (HNO.out (by rw [h4]; simp))
            clear h0 h1 h2 h3 h4
            go_enter Try.func13, Try.ntmps13
            go_wp2_with fail
            refine (C0.out _ (X0.out.in HI.out)).mono ?_
            rintro e w1 ⟨rfl, g1⟩
            have X1 := Lib.hid (X0.out.gb g1)
            clear g1
            have a0 : w1.cell? ⟨w.heap.size, 0, none⟩ = some (.int .i64 N.W) := X1.out.b.cell 0
            have a1 : w1.cell? ⟨w.heap.size, 1, none⟩ = some (.int .i64 N.H) := X1.out.b.cell 1
            have a2 : w1.cell? ⟨w.heap.size, 2, none⟩ = some (.slice y.br.A N.br.length y.br.c) := X1.out.b.cell 2
            have a3 : w1.cell? ⟨w.heap.size, 3, none⟩ = some (.slice y.ta.A N.ta.length y.ta.c) := X1.out.b.cell 3
            have a4 : w1.cell? ⟨w.heap.size, 4, none⟩ = some (.slice y.tb.A N.tb.length y.tb.c) := X1.out.b.cell 4
            have a5 : w1.cell? ⟨w.heap.size, 5, none⟩ = some (.slice y.bu.A N.bu.length y.bu.c) := X1.out.b.cell 5
            have a6 : w1.cell? ⟨w.heap.size, 6, none⟩ = some (.slice y.ow.A N.ow.length y.ow.c) := X1.out.b.cell 6
            have a7 : w1.cell? ⟨w.heap.size, 7, none⟩ = some (.slice y.tu.A N.tu.length y.tu.c) := X1.out.b.cell 7
            have a8 : w1.cell? ⟨w.heap.size, 8, none⟩ = some (.slice y.so.A N.so.length y.so.c) := X1.out.b.cell 8
            have a9 : w1.cell? ⟨w.heap.size, 9, none⟩ = some (.slice y.ar.A N.ar.length y.ar.c) := X1.out.b.cell 9
            have a10 : w1.cell? ⟨w.heap.size, 10, none⟩ = some (.int .i64 N.ti) := X1.out.b.cell 10
            go_wp2_with fail
            refine (C1.out _).mono ?_
            rintro e w2 ⟨rfl, g2⟩
            have X2 := Lib.hid (X1.out.gb g2)
            clear g2
            clear a0 a1 a2 a3 a4 a5 a6 a7 a8 a9 a10
            have a0 : w2.cell? ⟨w.heap.size, 0, none⟩ = some (.int .i64 N.W) := X2.out.b.cell 0
            have a1 : w2.cell? ⟨w.heap.size, 1, none⟩ = some (.int .i64 N.H) := X2.out.b.cell 1
            have a2 : w2.cell? ⟨w.heap.size, 2, none⟩ = some (.slice y.br.A N.br.length y.br.c) := X2.out.b.cell 2
            have a3 : w2.cell? ⟨w.heap.size, 3, none⟩ = some (.slice y.ta.A N.ta.length y.ta.c) := X2.out.b.cell 3
            have a4 : w2.cell? ⟨w.heap.size, 4, none⟩ = some (.slice y.tb.A N.tb.length y.tb.c) := X2.out.b.cell 4
            have a5 : w2.cell? ⟨w.heap.size, 5, none⟩ = some (.slice y.bu.A N.bu.length y.bu.c) := X2.out.b.cell 5
            have a6 : w2.cell? ⟨w.heap.size, 6, none⟩ = some (.slice y.ow.A N.ow.length y.ow.c) := X2.out.b.cell 6
            have a7 : w2.cell? ⟨w.heap.size, 7, none⟩ = some (.slice y.tu.A N.tu.length y.tu.c) := X2.out.b.cell 7
            have a8 : w2.cell? ⟨w.heap.size, 8, none⟩ = some (.slice y.so.A N.so.length y.so.c) := X2.out.b.cell 8
            have a9 : w2.cell? ⟨w.heap.size, 9, none⟩ = some (.slice y.ar.A N.ar.length y.ar.c) := X2.out.b.cell 9
            have a10 : w2.cell? ⟨w.heap.size, 10, none⟩ = some (.int .i64 N.ti) := X2.out.b.cell 10
            go_wp2_with fail
            refine (C2.out _ (X2.out.in HI.out)).mono ?_
            rintro e w3 ⟨rfl, g3⟩
            have X3 := Lib.hid (X2.out.gb g3)
            clear g3
            clear a0 a1 a2 a3 a4 a5 a6 a7 a8 a9 a10
            have a0 : w3.cell? ⟨w.heap.size, 0, none⟩ = some (.int .i64 N.W) := X3.out.b.cell 0
            have a1 : w3.cell? ⟨w.heap.size, 1, none⟩ = some (.int .i64 N.H) := X3.out.b.cell 1
            have a2 : w3.cell? ⟨w.heap.size, 2, none⟩ = some (.slice y.br.A N.br.length y.br.c) := X3.out.b.cell 2
            have a3 : w3.cell? ⟨w.heap.size, 3, none⟩ = some (.slice y.ta.A N.ta.length y.ta.c) := X3.out.b.cell 3
            have a4 : w3.cell? ⟨w.heap.size, 4, none⟩ = some (.slice y.tb.A N.tb.length y.tb.c) := X3.out.b.cell 4
            have a5 : w3.cell? ⟨w.heap.size, 5, none⟩ = some (.slice y.bu.A N.bu.length y.bu.c) := X3.out.b.cell 5
            have a6 : w3.cell? ⟨w.heap.size, 6, none⟩ = some (.slice y.ow.A N.ow.length y.ow.c) := X3.out.b.cell 6
            have a7 : w3.cell? ⟨w.heap.size, 7, none⟩ = some (.slice y.tu.A N.tu.length y.tu.c) := X3.out.b.cell 7
            have a8 : w3.cell? ⟨w.heap.size, 8, none⟩ = some (.slice y.so.A N.so.length y.so.c) := X3.out.b.cell 8
            have a9 : w3.cell? ⟨w.heap.size, 9, none⟩ = some (.slice y.ar.A N.ar.length y.ar.c) := X3.out.b.cell 9
            have a10 : w3.cell? ⟨w.heap.size, 10, none⟩ = some (.int .i64 N.ti) := X3.out.b.cell 10
            go_wp2_with fail
            refine (C3.out _ (X3.out.in HI.out)).mono ?_
            rintro e w4 ⟨rfl, g4⟩
            have X4 := Lib.hid (X3.out.gb g4)
            clear g4
            clear a0 a1 a2 a3 a4 a5 a6 a7 a8 a9 a10
            have a0 : w4.cell? ⟨w.heap.size, 0, none⟩ = some (.int .i64 N.W) := X4.out.b.cell 0
            have a1 : w4.cell? ⟨w.heap.size, 1, none⟩ = some (.int .i64 N.H) := X4.out.b.cell 1
            have a2 : w4.cell? ⟨w.heap.size, 2, none⟩ = some (.slice y.br.A N.br.length y.br.c) := X4.out.b.cell 2
            have a3 : w4.cell? ⟨w.heap.size, 3, none⟩ = some (.slice y.ta.A N.ta.length y.ta.c) := X4.out.b.cell 3
            have a4 : w4.cell? ⟨w.heap.size, 4, none⟩ = some (.slice y.tb.A N.tb.length y.tb.c) := X4.out.b.cell 4
            have a5 : w4.cell? ⟨w.heap.size, 5, none⟩ = some (.slice y.bu.A N.bu.length y.bu.c) := X4.out.b.cell 5
            have a6 : w4.cell? ⟨w.heap.size, 6, none⟩ = some (.slice y.ow.A N.ow.length y.ow.c) := X4.out.b.cell 6
            have a7 : w4.cell? ⟨w.heap.size, 7, none⟩ = some (.slice y.tu.A N.tu.length y.tu.c) := X4.out.b.cell 7
            have a8 : w4.cell? ⟨w.heap.size, 8, none⟩ = some (.slice y.so.A N.so.length y.so.c) := X4.out.b.cell 8
            have a9 : w4.cell? ⟨w.heap.size, 9, none⟩ = some (.slice y.ar.A N.ar.length y.ar.c) := X4.out.b.cell 9
            have a10 : w4.cell? ⟨w.heap.size, 10, none⟩ = some (.int .i64 N.ti) := X4.out.b.cell 10
            go_wp2_with fail
            refine (C4.out _ (X4.out.in HI.out).ow).mono ?_
            rintro e w5 ⟨rfl, g5⟩
            have X5 := Lib.hid (X4.out.gb g5)
            clear g5
            clear a0 a1 a2 a3 a4 a5 a6 a7 a8 a9 a10
            go_wp2_with fail
            go_ret
            exact ⟨ret_bool R.out, X5.out.g⟩
          | true =>
            have C4 := Lib.hid (HC4.out true h4)
            cases h5 : withL 0 9 N.tu with
            | false =>
              have C5 := Lib.hid (HC5.out false h5)
              have R := Lib.hid (HNO.out (by rw [h5]; simp))
              clear h0 h1 h2 h3 h4 h5
              go_enter Try.func13, Try.ntmps13
              go_wp2_with fail
              refine (C0.out _ (X0.out.in HI.out)).mono ?_
              rintro e w1 ⟨rfl, g1⟩
              have X1 := Lib.hid (X0.out.gb g1)
              clear g1
              have a0 : w1.cell? ⟨w.heap.size, 0, none⟩ = some (.int .i64 N.W) := X1.out.b.cell 0
              have a1 : w1.cell? ⟨w.heap.size, 1, none⟩ = some (.int .i64 N.H) := X1.out.b.cell 1
              have a2 : w1.cell? ⟨w.heap.size, 2, none⟩ = some (.slice y.br.A N.br.length y.br.c) := X1.out.b.cell 2
              have a3 : w1.cell? ⟨w.heap.size, 3, none⟩ = some (.slice y.ta.A N.ta.length y.ta.c) := X1.out.b.cell 3
              have a4 : w1.cell? ⟨w.heap.size, 4, none⟩ = some (.slice y.tb.A N.tb.length y.tb.c) := X1.out.b.cell 4
              have a5 : w1.cell? ⟨w.heap.size, 5, none⟩ = some (.slice y.bu.A N.bu.length y.bu.c) := X1.out.b.cell 5
              have a6 : w1.cell? ⟨w.heap.size, 6, none⟩ = some (.slice y.ow.A N.ow.length y.ow.c) := X1.out.b.cell 6
              have a7 : w1.cell? ⟨w.heap.size, 7, none⟩ = some (.slice y.tu.A N.tu.length y.tu.c) := X1.out.b.cell 7
              have a8 : w1.cell? ⟨w.heap.size, 8, none⟩ = some (.slice y.so.A N.so.length y.so.c) := X1.out.b.cell 8
              have a9 : w1.cell? ⟨w.heap.size, 9, none⟩ = some (.slice y.ar.A N.ar.length y.ar.c) := X1.out.b.cell 9
              have a10 : w1.cell? ⟨w.heap.size, 10, none⟩ = some (.int .i64 N.ti) := X1.out.b.cell 10
              go_wp2_with fail
              refine (C1.out _).mono ?_
              rintro e w2 ⟨rfl, g2⟩
              have X2 := Lib.hid (X1.out.gb g2)
              clear g2
              clear a0 a1 a2 a3 a4 a5 a6 a7 a8 a9 a10
              have a0 : w2.cell? ⟨w.heap.size, 0, none⟩ = some (.int .i64 N.W) := X2.out.b.cell 0
              have a1 : w2.cell? ⟨w.heap.size, 1, none⟩ = some (.int .i64 N.H) := X2.out.b.cell 1
              have a2 : w2.cell? ⟨w.heap.size, 2, none⟩ = some (.slice y.br.A N.br.length y.br.c) := X2.out.b.cell 2
              have a3 : w2.cell? ⟨w.heap.size, 3, none⟩ = some (.slice y.ta.A N.ta.length y.ta.c) := X2.out.b.cell 3
              have a4 : w2.cell? ⟨w.heap.size, 4, none⟩ = some (.slice y.tb.A N.tb.length y.tb.c) := X2.out.b.cell 4
              have a5 : w2.cell? ⟨w.heap.size, 5, none⟩ = some (.slice y.bu.A N.bu.length y.bu.c) := X2.out.b.cell 5
              have a6 : w2.cell? ⟨w.heap.size, 6, none⟩ = some (.slice y.ow.A N.ow.length y.ow.c) := X2.out.b.cell 6
              have a7 : w2.cell? ⟨w.heap.size, 7, none⟩ = some (.slice y.tu.A N.tu.length y.tu.c) := X2.out.b.cell 7
              have a8 : w2.cell? ⟨w.heap.size, 8, none⟩ = some (.slice y.so.A N.so.length y.so.c) := X2.out.b.cell 8
              have a9 : w2.cell? ⟨w.heap.size, 9, none⟩ = some (.slice y.ar.A N.ar.length y.ar.c) := X2.out.b.cell 9
              have a10 : w2.cell? ⟨w.heap.size, 10, none⟩ = some (.int .i64 N.ti) := X2.out.b.cell 10
              go_wp2_with fail
              refine (C2.out _ (X2.out.in HI.out)).mono ?_
              rintro e w3 ⟨rfl, g3⟩
              have X3 := Lib.hid (X2.out.gb g3)
              clear g3
              clear a0 a1 a2 a3 a4 a5 a6 a7 a8 a9 a10
              have a0 : w3.cell? ⟨w.heap.size, 0, none⟩ = some (.int .i64 N.W) := X3.out.b.cell 0
              have a1 : w3.cell? ⟨w.heap.size, 1, none⟩ = some (.int .i64 N.H) := X3.out.b.cell 1
              have a2 : w3.cell? ⟨w.heap.size, 2, none⟩ = some (.slice y.br.A N.br.length y.br.c) := X3.out.b.cell 2
              have a3 : w3.cell? ⟨w.heap.size, 3, none⟩ = some (.slice y.ta.A N.ta.length y.ta.c) := X3.out.b.cell 3
              have a4 : w3.cell? ⟨w.heap.size, 4, none⟩ = some (.slice y.tb.A N.tb.length y.tb.c) := X3.out.b.cell 4
              have a5 : w3.cell? ⟨w.heap.size, 5, none⟩ = some (.slice y.bu.A N.bu.length y.bu.c) := X3.out.b.cell 5
              have a6 : w3.cell? ⟨w.heap.size, 6, none⟩ = some (.slice y.ow.A N.ow.length y.ow.c) := X3.out.b.cell 6
              have a7 : w3.cell? ⟨w.heap.size, 7, none⟩ = some (.slice y.tu.A N.tu.length y.tu.c) := X3.out.b.cell 7
              have a8 : w3.cell? ⟨w.heap.size, 8, none⟩ = some (.slice y.so.A N.so.length y.so.c) := X3.out.b.cell 8
              have a9 : w3.cell? ⟨w.heap.size, 9, none⟩ = some (.slice y.ar.A N.ar.length y.ar.c) := X3.out.b.cell 9
              have a10 : w3.cell? ⟨w.heap.size, 10, none⟩ = some (.int .i64 N.ti) := X3.out.b.cell 10
              go_wp2_with fail
              refine (C3.out _ (X3.out.in HI.out)).mono ?_
              rintro e w4 ⟨rfl, g4⟩
              have X4 := Lib.hid (X3.out.gb g4)
              clear g4
              clear a0 a1 a2 a3 a4 a5 a6 a7 a8 a9 a10
              have a0 : w4.cell? ⟨w.heap.size, 0, none⟩ = some (.int .i64 N.W) := X4.out.b.cell 0
              have a1 : w4.cell? ⟨w.heap.size, 1, none⟩ = some (.int .i64 N.H) := X4.out.b.cell 1
              have a2 : w4.cell? ⟨w.heap.size, 2, none⟩ = some (.slice y.br.A N.br.length y.br.c) := X4.out.b.cell 2
              have a3 : w4.cell? ⟨w.heap.size, 3, none⟩ = some (.slice y.ta.A N.ta.length y.ta.c) := X4.out.b.cell 3
              have a4 : w4.cell? ⟨w.heap.size, 4, none⟩ = some (.slice y.tb.A N.tb.length y.tb.c) := X4.out.b.cell 4
              have a5 : w4.cell? ⟨w.heap.size, 5, none⟩ = some (.slice y.bu.A N.bu.length y.bu.c) := X4.out.b.cell 5
              have a6 : w4.cell? ⟨w.heap.size, 6, none⟩ = some (.slice y.ow.A N.ow.length y.ow.c) := X4.out.b.cell 6
              have a7 : w4.cell? ⟨w.heap.size, 7, none⟩ = some (.slice y.tu.A N.tu.length y.tu.c) := X4.out.b.cell 7
              have a8 : w4.cell? ⟨w.heap.size, 8, none⟩ = some (.slice y.so.A N.so.length y.so.c) := X4.out.b.cell 8
              have a9 : w4.cell? ⟨w.heap.size, 9, none⟩ = some (.slice y.ar.A N.ar.length y.ar.c) := X4.out.b.cell 9
              have a10 : w4.cell? ⟨w.heap.size, 10, none⟩ = some (.int .i64 N.ti) := X4.out.b.cell 10
              go_wp2_with fail
              refine (C4.out _ (X4.out.in HI.out).ow).mono ?_
              rintro e w5 ⟨rfl, g5⟩
              have X5 := Lib.hid (X4.out.gb g5)
              clear g5
              clear a0 a1 a2 a3 a4 a5 a6 a7 a8 a9 a10
              have a0 : w5.cell? ⟨w.heap.size, 0, none⟩ = some (.int .i64 N.W) := X5.out.b.cell 0
              have a1 : w5.cell? ⟨w.heap.size, 1, none⟩ = some (.int .i64 N.H) := X5.out.b.cell 1
              have a2 : w5.cell? ⟨w.heap.size, 2, none⟩ = some (.slice y.br.A N.br.length y.br.c) := X5.out.b.cell 2
              have a3 : w5.cell? ⟨w.heap.size, 3, none⟩ = some (.slice y.ta.A N.ta.length y.ta.c) := X5.out.b.cell 3
              have a4 : w5.cell? ⟨w.heap.size, 4, none⟩ = some (.slice y.tb.A N.tb.length y.tb.c) := X5.out.b.cell 4
              have a5 : w5.cell? ⟨w.heap.size, 5, none⟩ = some (.slice y.bu.A N.bu.length y.bu.c) := X5.out.b.cell 5
              have a6 : w5.cell? ⟨w.heap.size, 6, none⟩ = some (.slice y.ow.A N.ow.length y.ow.c) := X5.out.b.cell 6
              have a7 : w5.cell? ⟨w.heap.size, 7, none⟩ = some (.slice y.tu.A N.tu.length y.tu.c) := X5.out.b.cell 7
              have a8 : w5.cell? ⟨w.heap.size, 8, none⟩ = some (.slice y.so.A N.so.length y.so.c) := X5.out.b.cell 8
              have a9 : w5.cell? ⟨w.heap.size, 9, none⟩ = some (.slice y.ar.A N.ar.length y.ar.c) := X5.out.b.cell 9
              have a10 : w5.cell? ⟨w.heap.size, 10, none⟩ = some (.int .i64 N.ti) := X5.out.b.cell 10
              go_wp2_with fail
              refine (C5.out _ (X5.out.in HI.out).tu).mono ?_
              rintro e w6 ⟨rfl, g6⟩
              have X6 := Lib.hid (X5.out.gb g6)
              clear g6
              clear a0 a1 a2 a3 a4 a5 a6 a7 a8 a9 a10
              go_wp2_with fail
              go_ret
              exact ⟨ret_bool R.out, X6.out.g⟩
            | true =>
              have C5 := Lib.hid (HC5.out true h5)
              cases h6 : withL 0 1000000 [N.ti] with
              | false =>
                have C6 := Lib.hid (HC6.out false h6)
                have R := Lib.hid (HNO.out (by rw [h6]; simp))
                clear h0 h1 h2 h3 h4 h5 h6
                go_enter Try.func13, Try.ntmps13
                go_wp2_with fail
                refine (C0.out _ (X0.out.in HI.out)).mono ?_
                rintro e w1 ⟨rfl, g1⟩
                have X1 := Lib.hid (X0.out.gb g1)
                clear g1
                have a0 : w1.cell? ⟨w.heap.size, 0, none⟩ = some (.int .i64 N.W) := X1.out.b.cell 0
                have a1 : w1.cell? ⟨w.heap.size, 1, none⟩ = some (.int .i64 N.H) := X1.out.b.cell 1
                have a2 : w1.cell? ⟨w.heap.size, 2, none⟩ = some (.slice y.br.A N.br.length y.br.c) := X1.out.b.cell 2
                have a3 : w1.cell? ⟨w.heap.size, 3, none⟩ = some (.slice y.ta.A N.ta.length y.ta.c) := X1.out.b.cell 3
                have a4 : w1.cell? ⟨w.heap.size, 4, none⟩ = some (.slice y.tb.A N.tb.length y.tb.c) := X1.out.b.cell 4
                have a5 : w1.cell? ⟨w.heap.size, 5, none⟩ = some (.slice y.bu.A N.bu.length y.bu.c) := X1.out.b.cell 5
                have a6 : w1.cell? ⟨w.heap.size, 6, none⟩ = some (.slice y.ow.A N.ow.length y.ow.c) := X1.out.b.cell 6
                have a7 : w1.cell? ⟨w.heap.size, 7, none⟩ = some (.slice y.tu.A N.tu.length y.tu.c) := X1.out.b.cell 7
                have a8 : w1.cell? ⟨w.heap.size, 8, none⟩ = some (.slice y.so.A N.so.length y.so.c) := X1.out.b.cell 8
                have a9 : w1.cell? ⟨w.heap.size, 9, none⟩ = some (.slice y.ar.A N.ar.length y.ar.c) := X1.out.b.cell 9
                have a10 : w1.cell? ⟨w.heap.size, 10, none⟩ = some (.int .i64 N.ti) := X1.out.b.cell 10
                go_wp2_with fail
                refine (C1.out _).mono ?_
                rintro e w2 ⟨rfl, g2⟩
                have X2 := Lib.hid (X1.out.gb g2)
                clear g2
                clear a0 a1 a2 a3 a4 a5 a6 a7 a8 a9 a10
                have a0 : w2.cell? ⟨w.heap.size, 0, none⟩ = some (.int .i64 N.W) := X2.out.b.cell 0
                have a1 : w2.cell? ⟨w.heap.size, 1, none⟩ = some (.int .i64 N.H) := X2.out.b.cell 1
                have a2 : w2.cell? ⟨w.heap.size, 2, none⟩ = some (.slice y.br.A N.br.length y.br.c) := X2.out.b.cell 2
                have a3 : w2.cell? ⟨w.heap.size, 3, none⟩ = some (.slice y.ta.A N.ta.length y.ta.c) := X2.out.b.cell 3
                have a4 : w2.cell? ⟨w.heap.size, 4, none⟩ = some (.slice y.tb.A N.tb.length y.tb.c) := X2.out.b.cell 4
                have a5 : w2.cell? ⟨w.heap.size, 5, none⟩ = some (.slice y.bu.A N.bu.length y.bu.c) := X2.out.b.cell 5
                have a6 : w2.cell? ⟨w.heap.size, 6, none⟩ = some (.slice y.ow.A N.ow.length y.ow.c) := X2.out.b.cell 6
                have a7 : w2.cell? ⟨w.heap.size, 7, none⟩ = some (.slice y.tu.A N.tu.length y.tu.c) := X2.out.b.cell 7
                have a8 : w2.cell? ⟨w.heap.size, 8, none⟩ = some (.slice y.so.A N.so.length y.so.c) := X2.out.b.cell 8
                have a9 : w2.cell? ⟨w.heap.size, 9, none⟩ = some (.slice y.ar.A N.ar.length y.ar.c) := X2.out.b.cell 9
                have a10 : w2.cell? ⟨w.heap.size, 10, none⟩ = some (.int .i64 N.ti) := X2.out.b.cell 10
                go_wp2_with fail
                refine (C2.out _ (X2.out.in HI.out)).mono ?_
                rintro e w3 ⟨rfl, g3⟩
                have X3 := Lib.hid (X2.out.gb g3)
                clear g3
                clear a0 a1 a2 a3 a4 a5 a6 a7 a8 a9 a10
                have a0 : w3.cell? ⟨w.heap.size, 0, none⟩ = some (.int .i64 N.W) := X3.out.b.cell 0
                have a1 : w3.cell? ⟨w.heap.size, 1, none⟩ = some (.int .i64 N.H) := X3.out.b.cell 1
                have a2 : w3.cell? ⟨w.heap.size, 2, none⟩ = some (.slice y.br.A N.br.length y.br.c) := X3.out.b.cell 2
                have a3 : w3.cell? ⟨w.heap.size, 3, none⟩ = some (.slice y.ta.A N.ta.length y.ta.c) := X3.out.b.cell 3
                have a4 : w3.cell? ⟨w.heap.size, 4, none⟩ = some (.slice y.tb.A N.tb.length y.tb.c) := X3.out.b.cell 4
                have a5 : w3.cell? ⟨w.heap.size, 5, none⟩ = some (.slice y.bu.A N.bu.length y.bu.c) := X3.out.b.cell 5
                have a6 : w3.cell? ⟨w.heap.size, 6, none⟩ = some (.slice y.ow.A N.ow.length y.ow.c) := X3.out.b.cell 6
                have a7 : w3.cell? ⟨w.heap.size, 7, none⟩ = some (.slice y.tu.A N.tu.length y.tu.c) := X3.out.b.cell 7
                have a8 : w3.cell? ⟨w.heap.size, 8, none⟩ = some (.slice y.so.A N.so.length y.so.c) := X3.out.b.cell 8
                have a9 : w3.cell? ⟨w.heap.size, 9, none⟩ = some (.slice y.ar.A N.ar.length y.ar.c) := X3.out.b.cell 9
                have a10 : w3.cell? ⟨w.heap.size, 10, none⟩ = some (.int .i64 N.ti) := X3.out.b.cell 10
                go_wp2_with fail
                refine (C3.out _ (X3.out.in HI.out)).mono ?_
                rintro e w4 ⟨rfl, g4⟩
                have X4 := Lib.hid (X3.out.gb g4)
                clear g4
                clear a0 a1 a2 a3 a4 a5 a6 a7 a8 a9 a10
                have a0 : w4.cell? ⟨w.heap.size, 0, none⟩ = some (.int .i64 N.W) := X4.out.b.cell 0
                have a1 : w4.cell? ⟨w.heap.size, 1, none⟩ = some (.int .i64 N.H) := X4.out.b.cell 1
                have a2 : w4.cell? ⟨w.heap.size, 2, none⟩ = some (.slice y.br.A N.br.length y.br.c) := X4.out.b.cell 2
                have a3 : w4.cell? ⟨w.heap.size, 3, none⟩ = some (.slice y.ta.A N.ta.length y.ta.c) := X4.out.b.cell 3
                have a4 : w4.cell? ⟨w.heap.size, 4, none⟩ = some (.slice y.tb.A N.tb.length y.tb.c) := X4.out.b.cell 4
                have a5 : w4.cell? ⟨w.heap.size, 5, none⟩ = some (.slice y.bu.A N.bu.length y.bu.c) := X4.out.b.cell 5
                have a6 : w4.cell? ⟨w.heap.size, 6, none⟩ = some (.slice y.ow.A N.ow.length y.ow.c) := X4.out.b.cell 6
                have a7 : w4.cell? ⟨w.heap.size, 7, none⟩ = some (.slice y.tu.A N.tu.length y.tu.c) := X4.out.b.cell 7
                have a8 : w4.cell? ⟨w.heap.size, 8, none⟩ = some (.slice y.so.A N.so.length y.so.c) := X4.out.b.cell 8
                have a9 : w4.cell? ⟨w.heap.size, 9, none⟩ = some (.slice y.ar.A N.ar.length y.ar.c) := X4.out.b.cell 9
                have a10 : w4.cell? ⟨w.heap.size, 10, none⟩ = some (.int .i64 N.ti) := X4.out.b.cell 10
                go_wp2_with fail
                refine (C4.out _ (X4.out.in HI.out).ow).mono ?_
                rintro e w5 ⟨rfl, g5⟩
                have X5 := Lib.hid (X4.out.gb g5)
                clear g5
                clear a0 a1 a2 a3 a4 a5 a6 a7 a8 a9 a10
                have a0 : w5.cell? ⟨w.heap.size, 0, none⟩ = some (.int .i64 N.W) := X5.out.b.cell 0
                have a1 : w5.cell? ⟨w.heap.size, 1, none⟩ = some (.int .i64 N.H) := X5.out.b.cell 1
                have a2 : w5.cell? ⟨w.heap.size, 2, none⟩ = some (.slice y.br.A N.br.length y.br.c) := X5.out.b.cell 2
                have a3 : w5.cell? ⟨w.heap.size, 3, none⟩ = some (.slice y.ta.A N.ta.length y.ta.c) := X5.out.b.cell 3
                have a4 : w5.cell? ⟨w.heap.size, 4, none⟩ = some (.slice y.tb.A N.tb.length y.tb.c) := X5.out.b.cell 4
                have a5 : w5.cell? ⟨w.heap.size, 5, none⟩ = some (.slice y.bu.A N.bu.length y.bu.c) := X5.out.b.cell 5
                have a6 : w5.cell? ⟨w.heap.size, 6, none⟩ = some (.slice y.ow.A N.ow.length y.ow.c) := X5.out.b.cell 6
                have a7 : w5.cell? ⟨w.heap.size, 7, none⟩ = some (.slice y.tu.A N.tu.length y.tu.c) := X5.out.b.cell 7
                have a8 : w5.cell? ⟨w.heap.size, 8, none⟩ = some (.slice y.so.A N.so.length y.so.c) := X5.out.b.cell 8
                have a9 : w5.cell? ⟨w.heap.size, 9, none⟩ = some (.slice y.ar.A N.ar.length y.ar.c) := X5.out.b.cell 9
                have a10 : w5.cell? ⟨w.heap.size, 10, none⟩ = some (.int .i64 N.ti) := X5.out.b.cell 10
                go_wp2_with fail
                refine (C5.out _ (X5.out.in HI.out).tu).mono ?_
                rintro e w6 ⟨rfl, g6⟩
                have X6 := Lib.hid (X5.out.gb g6)
                clear g6
                clear a0 a1 a2 a3 a4 a5 a6 a7 a8 a9 a10
                have a0 : w6.cell? ⟨w.heap.size, 0, none⟩ = some (.int .i64 N.W) := X6.out.b.cell 0
                have a1 : w6.cell? ⟨w.heap.size, 1, none⟩ = some (.int .i64 N.H) := X6.out.b.cell 1
                have a2 : w6.cell? ⟨w.heap.size, 2, none⟩ = some (.slice y.br.A N.br.length y.br.c) := X6.out.b.cell 2
                have a3 : w6.cell? ⟨w.heap.size, 3, none⟩ = some (.slice y.ta.A N.ta.length y.ta.c) := X6.out.b.cell 3
                have a4 : w6.cell? ⟨w.heap.size, 4, none⟩ = some (.slice y.tb.A N.tb.length y.tb.c) := X6.out.b.cell 4
                have a5 : w6.cell? ⟨w.heap.size, 5, none⟩ = some (.slice y.bu.A N.bu.length y.bu.c) := X6.out.b.cell 5
                have a6 : w6.cell? ⟨w.heap.size, 6, none⟩ = some (.slice y.ow.A N.ow.length y.ow.c) := X6.out.b.cell 6
                have a7 : w6.cell? ⟨w.heap.size, 7, none⟩ = some (.slice y.tu.A N.tu.length y.tu.c) := X6.out.b.cell 7
                have a8 : w6.cell? ⟨w.heap.size, 8, none⟩ = some (.slice y.so.A N.so.length y.so.c) := X6.out.b.cell 8
                have a9 : w6.cell? ⟨w.heap.size, 9, none⟩ = some (.slice y.ar.A N.ar.length y.ar.c) := X6.out.b.cell 9
                have a10 : w6.cell? ⟨w.heap.size, 10, none⟩ = some (.int .i64 N.ti) := X6.out.b.cell 10
                go_wp2_with fail
                refine (C6.out _).mono ?_
                rintro e w7 ⟨rfl, g7⟩
                have X7 := Lib.hid (X6.out.gb g7)
                clear g7
                clear a0 a1 a2 a3 a4 a5 a6 a7 a8 a9 a10
                go_wp2_with fail
                go_ret
                exact ⟨ret_bool R.out, X7.out.g⟩
              | true =>
                have C6 := Lib.hid (HC6.out true h6)
                have R := Lib.hid (show true = netOk N from (netOk_iff.2 ⟨h0, h1, h2, h3, h4, h5, h6⟩).symm)
                clear h0 h1 h2 h3 h4 h5 h6
                go_enter Try.func13, Try.ntmps13
                go_wp2_with fail
                refine (C0.out _ (X0.out.in HI.out)).mono ?_
                rintro e w1 ⟨rfl, g1⟩
                have X1 := Lib.hid (X0.out.gb g1)
                clear g1
                have a0 : w1.cell? ⟨w.heap.size, 0, none⟩ = some (.int .i64 N.W) := X1.out.b.cell 0
                have a1 : w1.cell? ⟨w.heap.size, 1, none⟩ = some (.int .i64 N.H) := X1.out.b.cell 1
                have a2 : w1.cell? ⟨w.heap.size, 2, none⟩ = some (.slice y.br.A N.br.length y.br.c) := X1.out.b.cell 2
                have a3 : w1.cell? ⟨w.heap.size, 3, none⟩ = some (.slice y.ta.A N.ta.length y.ta.c) := X1.out.b.cell 3
                have a4 : w1.cell? ⟨w.heap.size, 4, none⟩ = some (.slice y.tb.A N.tb.length y.tb.c) := X1.out.b.cell 4
                have a5 : w1.cell? ⟨w.heap.size, 5, none⟩ = some (.slice y.bu.A N.bu.length y.bu.c) := X1.out.b.cell 5
                have a6 : w1.cell? ⟨w.heap.size, 6, none⟩ = some (.slice y.ow.A N.ow.length y.ow.c) := X1.out.b.cell 6
                have a7 : w1.cell? ⟨w.heap.size, 7, none⟩ = some (.slice y.tu.A N.tu.length y.tu.c) := X1.out.b.cell 7
                have a8 : w1.cell? ⟨w.heap.size, 8, none⟩ = some (.slice y.so.A N.so.length y.so.c) := X1.out.b.cell 8
                have a9 : w1.cell? ⟨w.heap.size, 9, none⟩ = some (.slice y.ar.A N.ar.length y.ar.c) := X1.out.b.cell 9
                have a10 : w1.cell? ⟨w.heap.size, 10, none⟩ = some (.int .i64 N.ti) := X1.out.b.cell 10
                go_wp2_with fail
                refine (C1.out _).mono ?_
                rintro e w2 ⟨rfl, g2⟩
                have X2 := Lib.hid (X1.out.gb g2)
                clear g2
                clear a0 a1 a2 a3 a4 a5 a6 a7 a8 a9 a10
                have a0 : w2.cell? ⟨w.heap.size, 0, none⟩ = some (.int .i64 N.W) := X2.out.b.cell 0
                have a1 : w2.cell? ⟨w.heap.size, 1, none⟩ = some (.int .i64 N.H) := X2.out.b.cell 1
                have a2 : w2.cell? ⟨w.heap.size, 2, none⟩ = some (.slice y.br.A N.br.length y.br.c) := X2.out.b.cell 2
                have a3 : w2.cell? ⟨w.heap.size, 3, none⟩ = some (.slice y.ta.A N.ta.length y.ta.c) := X2.out.b.cell 3
                have a4 : w2.cell? ⟨w.heap.size, 4, none⟩ = some (.slice y.tb.A N.tb.length y.tb.c) := X2.out.b.cell 4
                have a5 : w2.cell? ⟨w.heap.size, 5, none⟩ = some (.slice y.bu.A N.bu.length y.bu.c) := X2.out.b.cell 5
                have a6 : w2.cell? ⟨w.heap.size, 6, none⟩ = some (.slice y.ow.A N.ow.length y.ow.c) := X2.out.b.cell 6
                have a7 : w2.cell? ⟨w.heap.size, 7, none⟩ = some (.slice y.tu.A N.tu.length y.tu.c) := X2.out.b.cell 7
                have a8 : w2.cell? ⟨w.heap.size, 8, none⟩ = some (.slice y.so.A N.so.length y.so.c) := X2.out.b.cell 8
                have a9 : w2.cell? ⟨w.heap.size, 9, none⟩ = some (.slice y.ar.A N.ar.length y.ar.c) := X2.out.b.cell 9
                have a10 : w2.cell? ⟨w.heap.size, 10, none⟩ = some (.int .i64 N.ti) := X2.out.b.cell 10
                go_wp2_with fail
                refine (C2.out _ (X2.out.in HI.out)).mono ?_
                rintro e w3 ⟨rfl, g3⟩
                have X3 := Lib.hid (X2.out.gb g3)
                clear g3
                clear a0 a1 a2 a3 a4 a5 a6 a7 a8 a9 a10
                have a0 : w3.cell? ⟨w.heap.size, 0, none⟩ = some (.int .i64 N.W) := X3.out.b.cell 0
                have a1 : w3.cell? ⟨w.heap.size, 1, none⟩ = some (.int .i64 N.H) := X3.out.b.cell 1
                have a2 : w3.cell? ⟨w.heap.size, 2, none⟩ = some (.slice y.br.A N.br.length y.br.c) := X3.out.b.cell 2
                have a3 : w3.cell? ⟨w.heap.size, 3, none⟩ = some (.slice y.ta.A N.ta.length y.ta.c) := X3.out.b.cell 3
                have a4 : w3.cell? ⟨w.heap.size, 4, none⟩ = some (.slice y.tb.A N.tb.length y.tb.c) := X3.out.b.cell 4
                have a5 : w3.cell? ⟨w.heap.size, 5, none⟩ = some (.slice y.bu.A N.bu.length y.bu.c) := X3.out.b.cell 5
                have a6 : w3.cell? ⟨w.heap.size, 6, none⟩ = some (.slice y.ow.A N.ow.length y.ow.c) := X3.out.b.cell 6
                have a7 : w3.cell? ⟨w.heap.size, 7, none⟩ = some (.slice y.tu.A N.tu.length y.tu.c) := X3.out.b.cell 7
                have a8 : w3.cell? ⟨w.heap.size, 8, none⟩ = some (.slice y.so.A N.so.length y.so.c) := X3.out.b.cell 8
                have a9 : w3.cell? ⟨w.heap.size, 9, none⟩ = some (.slice y.ar.A N.ar.length y.ar.c) := X3.out.b.cell 9
                have a10 : w3.cell? ⟨w.heap.size, 10, none⟩ = some (.int .i64 N.ti) := X3.out.b.cell 10
                go_wp2_with fail
                refine (C3.out _ (X3.out.in HI.out)).mono ?_
                rintro e w4 ⟨rfl, g4⟩
                have X4 := Lib.hid (X3.out.gb g4)
                clear g4
                clear a0 a1 a2 a3 a4 a5 a6 a7 a8 a9 a10
                have a0 : w4.cell? ⟨w.heap.size, 0, none⟩ = some (.int .i64 N.W) := X4.out.b.cell 0
                have a1 : w4.cell? ⟨w.heap.size, 1, none⟩ = some (.int .i64 N.H) := X4.out.b.cell 1
                have a2 : w4.cell? ⟨w.heap.size, 2, none⟩ = some (.slice y.br.A N.br.length y.br.c) := X4.out.b.cell 2
                have a3 : w4.cell? ⟨w.heap.size, 3, none⟩ = some (.slice y.ta.A N.ta.length y.ta.c) := X4.out.b.cell 3
                have a4 : w4.cell? ⟨w.heap.size, 4, none⟩ = some (.slice y.tb.A N.tb.length y.tb.c) := X4.out.b.cell 4
                have a5 : w4.cell? ⟨w.heap.size, 5, none⟩ = some (.slice y.bu.A N.bu.length y.bu.c) := X4.out.b.cell 5
                have a6 : w4.cell? ⟨w.heap.size, 6, none⟩ = some (.slice y.ow.A N.ow.length y.ow.c) := X4.out.b.cell 6
                have a7 : w4.cell? ⟨w.heap.size, 7, none⟩ = some (.slice y.tu.A N.tu.length y.tu.c) := X4.out.b.cell 7
                have a8 : w4.cell? ⟨w.heap.size, 8, none⟩ = some (.slice y.so.A N.so.length y.so.c) := X4.out.b.cell 8
                have a9 : w4.cell? ⟨w.heap.size, 9, none⟩ = some (.slice y.ar.A N.ar.length y.ar.c) := X4.out.b.cell 9
                have a10 : w4.cell? ⟨w.heap.size, 10, none⟩ = some (.int .i64 N.ti) := X4.out.b.cell 10
                go_wp2_with fail
                refine (C4.out _ (X4.out.in HI.out).ow).mono ?_
                rintro e w5 ⟨rfl, g5⟩
                have X5 := Lib.hid (X4.out.gb g5)
                clear g5
                clear a0 a1 a2 a3 a4 a5 a6 a7 a8 a9 a10
                have a0 : w5.cell? ⟨w.heap.size, 0, none⟩ = some (.int .i64 N.W) := X5.out.b.cell 0
                have a1 : w5.cell? ⟨w.heap.size, 1, none⟩ = some (.int .i64 N.H) := X5.out.b.cell 1
                have a2 : w5.cell? ⟨w.heap.size, 2, none⟩ = some (.slice y.br.A N.br.length y.br.c) := X5.out.b.cell 2
                have a3 : w5.cell? ⟨w.heap.size, 3, none⟩ = some (.slice y.ta.A N.ta.length y.ta.c) := X5.out.b.cell 3
                have a4 : w5.cell? ⟨w.heap.size, 4, none⟩ = some (.slice y.tb.A N.tb.length y.tb.c) := X5.out.b.cell 4
                have a5 : w5.cell? ⟨w.heap.size, 5, none⟩ = some (.slice y.bu.A N.bu.length y.bu.c) := X5.out.b.cell 5
                have a6 : w5.cell? ⟨w.heap.size, 6, none⟩ = some (.slice y.ow.A N.ow.length y.ow.c) := X5.out.b.cell 6
                have a7 : w5.cell? ⟨w.heap.size, 7, none⟩ = some (.slice y.tu.A N.tu.length y.tu.c) := X5.out.b.cell 7
                have a8 : w5.cell? ⟨w.heap.size, 8, none⟩ = some (.slice y.so.A N.so.length y.so.c) := X5.out.b.cell 8
                have a9 : w5.cell? ⟨w.heap.size, 9, none⟩ = some (.slice y.ar.A N.ar.length y.ar.c) := X5.out.b.cell 9
                have a10 : w5.cell? ⟨w.heap.size, 10, none⟩ = some (.int .i64 N.ti) := X5.out.b.cell 10
                go_wp2_with fail
                refine (C5.out _ (X5.out.in HI.out).tu).mono ?_
                rintro e w6 ⟨rfl, g6⟩
                have X6 := Lib.hid (X5.out.gb g6)
                clear g6
                clear a0 a1 a2 a3 a4 a5 a6 a7 a8 a9 a10
                have a0 : w6.cell? ⟨w.heap.size, 0, none⟩ = some (.int .i64 N.W) := X6.out.b.cell 0
                have a1 : w6.cell? ⟨w.heap.size, 1, none⟩ = some (.int .i64 N.H) := X6.out.b.cell 1
                have a2 : w6.cell? ⟨w.heap.size, 2, none⟩ = some (.slice y.br.A N.br.length y.br.c) := X6.out.b.cell 2
                have a3 : w6.cell? ⟨w.heap.size, 3, none⟩ = some (.slice y.ta.A N.ta.length y.ta.c) := X6.out.b.cell 3
                have a4 : w6.cell? ⟨w.heap.size, 4, none⟩ = some (.slice y.tb.A N.tb.length y.tb.c) := X6.out.b.cell 4
                have a5 : w6.cell? ⟨w.heap.size, 5, none⟩ = some (.slice y.bu.A N.bu.length y.bu.c) := X6.out.b.cell 5
                have a6 : w6.cell? ⟨w.heap.size, 6, none⟩ = some (.slice y.ow.A N.ow.length y.ow.c) := X6.out.b.cell 6
                have a7 : w6.cell? ⟨w.heap.size, 7, none⟩ = some (.slice y.tu.A N.tu.length y.tu.c) := X6.out.b.cell 7
                have a8 : w6.cell? ⟨w.heap.size, 8, none⟩ = some (.slice y.so.A N.so.length y.so.c) := X6.out.b.cell 8
                have a9 : w6.cell? ⟨w.heap.size, 9, none⟩ = some (.slice y.ar.A N.ar.length y.ar.c) := X6.out.b.cell 9
                have a10 : w6.cell? ⟨w.heap.size, 10, none⟩ = some (.int .i64 N.ti) := X6.out.b.cell 10
                go_wp2_with fail
                refine (C6.out _).mono ?_
                rintro e w7 ⟨rfl, g7⟩
                have X7 := Lib.hid (X6.out.gb g7)
                clear g7
                clear a0 a1 a2 a3 a4 a5 a6 a7 a8 a9 a10
                go_wp2_with fail
                go_ret
                exact ⟨ret_bool R.out, X7.out.g⟩
set_option maxHeartbeats 1600000 in
theorem implCount (A : Option Addr) (n cap : Nat) (DD : List (List Flt)) (w : World) (h : RecsAt 5 fltC w w.heap.size A n DD) (hn : n ≤ 1000000000) (hs : sumL DD ≤ 1000000000) :
    Calls Try.prog 45 #[.slice A n cap] w (RetI (sumL DD : Int) none w) := by
  have HI := Lib.hid h
  have hl := h.1
  have HZ := Lib.hid (sumL_zero DD)
  clear h
  go_enter Try.func45, Try.ntmps45
  go_wp2_with fail
  go_loopw [3, 8] (fun c i wr => ∃ k : Nat, i = .int .i64 (k : Int) ∧ k ≤ n ∧ c = .int .i64 (sumL (DD.take k) : Int) ∧ w.grownBy wr none) (fun _ i _ => n - (intOf i).toNat)
  case atStart => exact ⟨0, rfl, Nat.zero_le _, by rw [HZ.out]; rfl, gb_refl _ _⟩
  case round =>
    obtain ⟨k, rfl, hk, rfl, hg⟩ := hrel
    have HG := Lib.hid hg
    obtain ⟨t, ht⟩ : ∃ t, sumL (DD.take k) = t := ⟨_, rfl⟩
    by_cases hlt : k < n
    · obtain ⟨b, off, D, A', c', rfl, _, hD, hc, _, _⟩ := (HI.out.none (Nat.le_refl _) hg).at k hlt
      have hat := sumL_at hD
      have HNX := Lib.hid (sumL_next hD)
      rw [ht] at hat HNX ⊢
      obtain ⟨x, hx⟩ : ∃ x, D.length = x := ⟨_, rfl⟩
      rw [hx] at hc hat HNX
      have e1 : IntKind.i64.wrap ((t : Int) + (x : Int)) = ((t + x : Nat) : Int) := by rw [IntWalk.i64_in _ (by omega)]; omega
      have k0 : (0 : Int) ≤ (k : Int) := by omega
      have k1 : (k : Int) < (n : Int) := by omega
      clear hD hg ht hx hat
      go_wp2_with fail
      go_roundw
      case rel => exact ⟨k + 1, by go_num, by omega, by rw [HNX.out]; simp, by first | exact HG.out | exact gb_drewN HG.out _⟩
      case measure => simp [intOf]; omega
    · have hkn : k = n := by omega
      have HR := Lib.hid (show sumL (DD.take k) = sumL DD by rw [hkn, ← hl, sumL_all])
      have k1 : ¬ (k : Int) < (n : Int) := by omega
      clear hg ht hkn
      go_wp2_with fail
      go_ret
      exact ⟨by rw [HR.out]; rfl, HG.out⟩
theorem implFlitsInside (y : Na) (N : Nt) (w : World) (h : NetIn w w.heap.size y N) (hn : NetSm N) (hc : NetCap y N) (hL : WfL N.br) :
    Calls Try.prog 14 #[.agg #[.int .i64 N.W, .int .i64 N.H, .slice y.br.A N.br.length y.br.c, .slice y.ta.A N.ta.length y.ta.c, .slice y.tb.A N.tb.length y.tb.c, .slice y.bu.A N.bu.length y.bu.c, .slice y.ow.A N.ow.length y.ow.c, .slice y.tu.A N.tu.length y.tu.c, .slice y.so.A N.so.length y.so.c, .slice y.ar.A N.ar.length y.ar.c, .int .i64 N.ti]] w (RetI (insideG N) none w) := by
  have X0 := Lib.hid (nkAt_start (w := w) (y := y) (N := N))
  have h0 := X0.out.in h
  have HV := Lib.hid (fun (b : Bool) (hb : netOk N = b) w (h : NetIn w w.heap.size y N) => show Calls Try.prog 13 #[.agg #[.int .i64 N.W, .int .i64 N.H, .slice y.br.A N.br.length y.br.c, .slice y.ta.A N.ta.length y.ta.c, .slice y.tb.A N.tb.length y.tb.c, .slice y.bu.A N.bu.length y.bu.c, .slice y.ow.A N.ow.length y.ow.c, .slice y.tu.A N.tu.length y.tu.c, .slice y.so.A N.so.length y.so.c, .slice y.ar.A N.ar.length y.ar.c, .int .i64 N.ti]] w (RetB b w) from hb ▸ implNetOk y N w h hn hc hL)
  cases hb : netOk N with
  | false =>
    have HN := Lib.hid (HV.out false hb _ h0)
    have HR := Lib.hid (show (-1 : Int) = insideG N by rw [insideG, hb]; rfl)
    clear h hn h0 hb
    go_enter Try.func14, Try.ntmps14
    go_wp2_with fail
    refine HN.out.mono ?_
    rintro e w1 ⟨rfl, hg⟩
    have X1 := Lib.hid (X0.out.gb hg)
    clear hg
    go_wp2_with fail
    go_ret
    exact ⟨ret_int64 HR.out, X1.out.g⟩
  | true =>
    have HN := Lib.hid (HV.out true hb _ h0)
    have HR := Lib.hid (show ((sumL N.bu : Nat) : Int) = insideG N by rw [insideG, hb]; rfl)
    have HI := Lib.hid h
    have HSM := Lib.hid hn
    clear h hn h0 hb
    go_enter Try.func14, Try.ntmps14
    go_wp2_with fail
    refine HN.out.mono ?_
    rintro e w1 ⟨rfl, hg⟩
    have X1 := Lib.hid (X0.out.gb hg)
    have a1 : w1.cell? ⟨w.heap.size, 5, none⟩ = some (.slice y.bu.A N.bu.length y.bu.c) := X1.out.b.cell 5
    clear hg
    go_wp2_with fail
    refine (implCount _ _ _ N.bu _ (X1.out.in HI.out).bu HSM.out.bu HSM.out.sbu).mono ?_
    rintro e w2 ⟨rfl, hg⟩
    have X2 := Lib.hid (X1.out.gb hg)
    clear hg a1
    go_wp2_with fail
    go_ret
    exact ⟨ret_int64 HR.out, X2.out.g⟩
theorem implFlitsWaiting (y : Na) (N : Nt) (w : World) (h : NetIn w w.heap.size y N) (hn : NetSm N) (hc : NetCap y N) (hL : WfL N.br) :
    Calls Try.prog 15 #[.agg #[.int .i64 N.W, .int .i64 N.H, .slice y.br.A N.br.length y.br.c, .slice y.ta.A N.ta.length y.ta.c, .slice y.tb.A N.tb.length y.tb.c, .slice y.bu.A N.bu.length y.bu.c, .slice y.ow.A N.ow.length y.ow.c, .slice y.tu.A N.tu.length y.tu.c, .slice y.so.A N.so.length y.so.c, .slice y.ar.A N.ar.length y.ar.c, .int .i64 N.ti]] w (RetI (waitingG N) none w) := by
  have X0 := Lib.hid (nkAt_start (w := w) (y := y) (N := N))
  have h0 := X0.out.in h
  have HV := Lib.hid (fun (b : Bool) (hb : netOk N = b) w (h : NetIn w w.heap.size y N) => show Calls Try.prog 13 #[.agg #[.int .i64 N.W, .int .i64 N.H, .slice y.br.A N.br.length y.br.c, .slice y.ta.A N.ta.length y.ta.c, .slice y.tb.A N.tb.length y.tb.c, .slice y.bu.A N.bu.length y.bu.c, .slice y.ow.A N.ow.length y.ow.c, .slice y.tu.A N.tu.length y.tu.c, .slice y.so.A N.so.length y.so.c, .slice y.ar.A N.ar.length y.ar.c, .int .i64 N.ti]] w (RetB b w) from hb ▸ implNetOk y N w h hn hc hL)
  cases hb : netOk N with
  | false =>
    have HN := Lib.hid (HV.out false hb _ h0)
    have HR := Lib.hid (show (-1 : Int) = waitingG N by rw [waitingG, hb]; rfl)
    clear h hn h0 hb
    go_enter Try.func15, Try.ntmps15
    go_wp2_with fail
    refine HN.out.mono ?_
    rintro e w1 ⟨rfl, hg⟩
    have X1 := Lib.hid (X0.out.gb hg)
    clear hg
    go_wp2_with fail
    go_ret
    exact ⟨ret_int64 HR.out, X1.out.g⟩
  | true =>
    have HN := Lib.hid (HV.out true hb _ h0)
    have HR := Lib.hid (show ((sumL N.so : Nat) : Int) = waitingG N by rw [waitingG, hb]; rfl)
    have HI := Lib.hid h
    have HSM := Lib.hid hn
    clear h hn h0 hb
    go_enter Try.func15, Try.ntmps15
    go_wp2_with fail
    refine HN.out.mono ?_
    rintro e w1 ⟨rfl, hg⟩
    have X1 := Lib.hid (X0.out.gb hg)
    have a1 : w1.cell? ⟨w.heap.size, 8, none⟩ = some (.slice y.so.A N.so.length y.so.c) := X1.out.b.cell 8
    clear hg
    go_wp2_with fail
    refine (implCount _ _ _ N.so _ (X1.out.in HI.out).so HSM.out.so HSM.out.sso).mono ?_
    rintro e w2 ⟨rfl, hg⟩
    have X2 := Lib.hid (X1.out.gb hg)
    clear hg a1
    go_wp2_with fail
    go_ret
    exact ⟨ret_int64 HR.out, X2.out.g⟩
end Go.Proofs.Ytffnbmaoainhmaa
end

section
namespace Go.Proofs.Ytffnbmaoainhmaa
open Go.ChangeShapes Go.WideShapes Go.ChangeAt Go.RowKit
set_option linter.unusedVariables false
set_option maxRecDepth 20000

/-- A row of empty lists can be read. -/
theorem recs_nils {wr : World} {base g m : Nat} (h : wr.ownsRow base 93 1 (.slice (some ⟨g, 0, none⟩) m m) m (List.replicate m (.slice none 0 0))) : RecsAt 5 fltC wr wr.heap.size (some ⟨g, 0, none⟩) m (List.replicate m []) := by
  have h2 : Fams 93 96 5 fltC wr base (.slice (some ⟨g, 0, none⟩) m m) (List.replicate m (.slice none 0 0)) (List.replicate m []) := ⟨by rw [List.length_replicate]; exact h, fam_nils wr base m⟩
  have h3 := h2.at fltL (by decide) (Nat.le_refl wr.heap.size)
  rwa [List.length_replicate] at h3
theorem own_row (m q : Nat) (h : q < m) : (intsV (List.replicate q (-1) ++ List.replicate (m - q) 0)).set q (.int .i64 (-1)) = intsV (List.replicate (q + 1) (-1) ++ List.replicate (m - (q + 1)) 0) := by
  have h1 := set_rep (List.replicate q (-1 : Int)) 0 (-1) m (by rw [List.length_replicate]; exact h)
  rw [List.length_replicate] at h1
  rw [intsV_set, h1, List.length_append, List.length_replicate, List.length_singleton, ← List.replicate_succ']
/-- The frame ahead of, in and behind the making of the parts. -/
def FRj (W H : Int) (A AP AQ : Option Addr) (n cap nP cP nQ cQ kk : Nat) (w : World) (vs : Nat → Value) : Act := ⟨#[.agg #[.int .i64 W, .int .i64 H, .slice A n cap], .agg #[.slice AP nP cP, .slice AQ nQ cQ], .pointer (some ⟨w.heap.size, 0, none⟩), .pointer (some ⟨w.heap.size + 1, 0, none⟩), .pointer (some ⟨w.heap.size + 1 + 1, 0, none⟩), .bool false, .int .i64 (kk : Int), vs 16, undef, .agg #[.int .i64 W, .int .i64 H, .slice A n cap], .agg #[.slice AP nP cP, .slice AQ nQ cQ], .bool true, .bool false, undef, .pointer (some ⟨w.heap.size, 0, none⟩), .agg #[.int .i64 W, .int .i64 H], .int .i64 (kk : Int), vs 0, vs 1, vs 2, vs 3, vs 4, vs 5, vs 6, vs 7, vs 8, vs 9, vs 10, vs 11, vs 12, vs 13, vs 14, vs 15, undef, undef, undef, undef, undef, undef, undef, undef, undef, undef, undef, undef, undef], []⟩
/-- Which operations have been carried out, and what they left. -/
def Ij (W H : Int) (A AP AQ : Option Addr) (n cap nP cP nQ cQ : Nat) (L P Q : List Int) (kk : Nat) (w w2 : World) (Lf : Nat → Bool) (a : Act) (wr : World) : Prop :=
  ((∀ k, k < 18 → Lf k = true) ∧ ∃ L2 vs w9 g cs, (∀ k, k < 17 → L2 k = true) ∧ a = FRj W H A AP AQ n cap nP cP nQ cQ kk w vs ∧ Sj ⟨W, H, A, AP, AQ, n, cap, nP, cP, nQ, cQ, L, P, Q, kk⟩ w2.drew L2 vs w9 ∧ vs 16 = .pointer (some ⟨g, 0, none⟩) ∧ vs 15 = .agg cs ∧ w2.heap.size ≤ g ∧ Blk wr g 37 cs ∧ Chg g (g + 1) w9 wr) ∨
  (Lf 17 = false ∧ ∃ vs, a = FRj W H A AP AQ n cap nP cP nQ cQ kk w vs ∧ Sj ⟨W, H, A, AP, AQ, n, cap, nP, cP, nQ, cQ, L, P, Q, kk⟩ w2.drew Lf vs wr)
set_option maxHeartbeats 6400000 in
theorem implNetNew (W H : Int) (A AP AQ : Option Addr) (n cap nP cP nQ cQ : Nat) (L P Q : List Int) (hL : WfL L) (w : World) (h : IntAt w w.heap.size A n L) (hP : IntAt w w.heap.size AP nP P) (hQ : IntAt w w.heap.size AQ nQ Q) (hn : n ≤ 1000000000) (hnP : nP ≤ 1000000000) (hnQ : nQ ≤ 1000000000) :
    Calls Try.prog 11 #[.agg #[.int .i64 W, .int .i64 H, .slice A n cap], .agg #[.slice AP nP cP, .slice AQ nQ cQ]] w (RetNet (netNewG W H L P Q) (clsOk W H L P Q) w) := by
  have HI := Lib.hid h
  have HP := Lib.hid hP
  have HQ := Lib.hid hQ
  have k0 := ((Blk.new w 28 #[.int .i64 W, .int .i64 H, .slice A n cap]).alloc (.cells #[.slice AP nP cP, .slice AQ nQ cQ] 32)).alloc (.cells #[.int .i64 0, .int .i64 0, .slice none 0 0, .slice none 0 0, .slice none 0 0, .slice none 0 0, .slice none 0 0, .slice none 0 0, .slice none 0 0, .slice none 0 0, .int .i64 0] 37)
  have k1 := (Blk.new (w.alloc (.cells #[.int .i64 W, .int .i64 H, .slice A n cap] 28)) 32 #[.slice AP nP cP, .slice AQ nQ cQ]).alloc (.cells #[.int .i64 0, .int .i64 0, .slice none 0 0, .slice none 0 0, .slice none 0 0, .slice none 0 0, .slice none 0 0, .slice none 0 0, .slice none 0 0, .slice none 0 0, .int .i64 0] 37)
  have k2 := Blk.new ((w.alloc (.cells #[.int .i64 W, .int .i64 H, .slice A n cap] 28)).alloc (.cells #[.slice AP nP cP, .slice AQ nQ cQ] 32)) 37 #[.int .i64 0, .int .i64 0, .slice none 0 0, .slice none 0 0, .slice none 0 0, .slice none 0 0, .slice none 0 0, .slice none 0 0, .slice none 0 0, .slice none 0 0, .int .i64 0]
  have ge := gb_alloc (gb_alloc (gb_alloc (gb_refl w none) (.cells #[.int .i64 W, .int .i64 H, .slice A n cap] 28)) (.cells #[.slice AP nP cP, .slice AQ nQ cQ] 32)) (.cells #[.int .i64 0, .int .i64 0, .slice none 0 0, .slice none 0 0, .slice none 0 0, .slice none 0 0, .slice none 0 0, .slice none 0 0, .slice none 0 0, .slice none 0 0, .int .i64 0] 37)
  have hsz : (((w.alloc (.cells #[.int .i64 W, .int .i64 H, .slice A n cap] 28)).alloc (.cells #[.slice AP nP cP, .slice AQ nQ cQ] 32)).alloc (.cells #[.int .i64 0, .int .i64 0, .slice none 0 0, .slice none 0 0, .slice none 0 0, .slice none 0 0, .slice none 0 0, .slice none 0 0, .slice none 0 0, .slice none 0 0, .int .i64 0] 37)).heap.size = w.heap.size + 3 := by simp only [alloc_size]
  simp only [alloc_size] at k1 k2
  have hin := (h.none (Nat.le_refl _) ge).more ge.size
  have hinP := (hP.none (Nat.le_refl _) ge).more ge.size
  have hinQ := (hQ.none (Nat.le_refl _) ge).more ge.size
  cases hc : clsOk W H L P Q with
  | false =>
    have HCK := Lib.hid (implClassesOkV W H A AP AQ n cap nP cP nQ cQ L P Q hL false hc _ hin hinP hinQ hn hnP hnQ)
    have HN := Lib.hid (show netNewG W H L P Q = zeroNet by rw [netNewG, hc]; rfl)
    have HSZ := Lib.hid hsz
    have K2 := Lib.hid k2
    clear h hP hQ hin hinP hinQ hc
    go_enter Try.func11, Try.ntmps11
    go_wp2_with fail
    have GE := Lib.hid ge
    clear ge k0 k1 k2 hsz
    generalize ((w.alloc (.cells #[.int .i64 W, .int .i64 H, .slice A n cap] 28)).alloc (.cells #[.slice AP nP cP, .slice AQ nQ cQ] 32)).alloc (.cells #[.int .i64 0, .int .i64 0, .slice none 0 0, .slice none 0 0, .slice none 0 0, .slice none 0 0, .slice none 0 0, .slice none 0 0, .slice none 0 0, .slice none 0 0, .int .i64 0] 37) = wx at *
    refine HCK.out.mono ?_
    rintro e w1 ⟨rfl, g1⟩
    have kr := K2.out.grown g1 (by simp)
    have G1 := Lib.hid (gb_trans GE.out g1)
    have S1 := Lib.hid (show w.heap.size + 3 ≤ w1.heap.size by have h1 := g1.size; have h2 := HSZ.out; omega)
    have KR := Lib.hid kr
    have y0 : w1.cell? ⟨w.heap.size + 1 + 1, 0, none⟩ = some (.int .i64 0) := kr.cell 0
    have x0 := kr.frozen 0
    have y1 : w1.cell? ⟨w.heap.size + 1 + 1, 1, none⟩ = some (.int .i64 0) := kr.cell 1
    have x1 := kr.frozen 1
    have y2 : w1.cell? ⟨w.heap.size + 1 + 1, 2, none⟩ = some (.slice none 0 0) := kr.cell 2
    have x2 := kr.frozen 2
    have y3 : w1.cell? ⟨w.heap.size + 1 + 1, 3, none⟩ = some (.slice none 0 0) := kr.cell 3
    have x3 := kr.frozen 3
    have y4 : w1.cell? ⟨w.heap.size + 1 + 1, 4, none⟩ = some (.slice none 0 0) := kr.cell 4
    have x4 := kr.frozen 4
    have y5 : w1.cell? ⟨w.heap.size + 1 + 1, 5, none⟩ = some (.slice none 0 0) := kr.cell 5
    have x5 := kr.frozen 5
    have y6 : w1.cell? ⟨w.heap.size + 1 + 1, 6, none⟩ = some (.slice none 0 0) := kr.cell 6
    have x6 := kr.frozen 6
    have y7 : w1.cell? ⟨w.heap.size + 1 + 1, 7, none⟩ = some (.slice none 0 0) := kr.cell 7
    have x7 := kr.frozen 7
    have y8 : w1.cell? ⟨w.heap.size + 1 + 1, 8, none⟩ = some (.slice none 0 0) := kr.cell 8
    have x8 := kr.frozen 8
    have y9 : w1.cell? ⟨w.heap.size + 1 + 1, 9, none⟩ = some (.slice none 0 0) := kr.cell 9
    have x9 := kr.frozen 9
    have y10 : w1.cell? ⟨w.heap.size + 1 + 1, 10, none⟩ = some (.int .i64 0) := kr.cell 10
    have x10 := kr.frozen 10
    clear kr g1
    go_wp2_with fail
    have kf : Blk (((((((((((w1.setCell ⟨w.heap.size + 1 + 1, 0, none⟩ (.int .i64 0)).setCell ⟨w.heap.size + 1 + 1, 1, none⟩ (.int .i64 0)).setCell ⟨w.heap.size + 1 + 1, 2, none⟩ (.slice none 0 0)).setCell ⟨w.heap.size + 1 + 1, 3, none⟩ (.slice none 0 0)).setCell ⟨w.heap.size + 1 + 1, 4, none⟩ (.slice none 0 0)).setCell ⟨w.heap.size + 1 + 1, 5, none⟩ (.slice none 0 0)).setCell ⟨w.heap.size + 1 + 1, 6, none⟩ (.slice none 0 0)).setCell ⟨w.heap.size + 1 + 1, 7, none⟩ (.slice none 0 0)).setCell ⟨w.heap.size + 1 + 1, 8, none⟩ (.slice none 0 0)).setCell ⟨w.heap.size + 1 + 1, 9, none⟩ (.slice none 0 0)).setCell ⟨w.heap.size + 1 + 1, 10, none⟩ (.int .i64 0)) (w.heap.size + 1 + 1) 37 #[.int .i64 0, .int .i64 0, .slice none 0 0, .slice none 0 0, .slice none 0 0, .slice none 0 0, .slice none 0 0, .slice none 0 0, .slice none 0 0, .slice none 0 0, .int .i64 0] := by
      have hz := (((((((((((KR.out.set_ 0 (.int .i64 0)).set_ 1 (.int .i64 0)).set_ 2 (.slice none 0 0)).set_ 3 (.slice none 0 0)).set_ 4 (.slice none 0 0)).set_ 5 (.slice none 0 0)).set_ 6 (.slice none 0 0)).set_ 7 (.slice none 0 0)).set_ 8 (.slice none 0 0)).set_ 9 (.slice none 0 0)).set_ 10 (.int .i64 0))
      simpa using hz
    have qz : Chg (w.heap.size + 1 + 1) (w.heap.size + 1 + 1 + 1) w1 (((((((((((w1.setCell ⟨w.heap.size + 1 + 1, 0, none⟩ (.int .i64 0)).setCell ⟨w.heap.size + 1 + 1, 1, none⟩ (.int .i64 0)).setCell ⟨w.heap.size + 1 + 1, 2, none⟩ (.slice none 0 0)).setCell ⟨w.heap.size + 1 + 1, 3, none⟩ (.slice none 0 0)).setCell ⟨w.heap.size + 1 + 1, 4, none⟩ (.slice none 0 0)).setCell ⟨w.heap.size + 1 + 1, 5, none⟩ (.slice none 0 0)).setCell ⟨w.heap.size + 1 + 1, 6, none⟩ (.slice none 0 0)).setCell ⟨w.heap.size + 1 + 1, 7, none⟩ (.slice none 0 0)).setCell ⟨w.heap.size + 1 + 1, 8, none⟩ (.slice none 0 0)).setCell ⟨w.heap.size + 1 + 1, 9, none⟩ (.slice none 0 0)).setCell ⟨w.heap.size + 1 + 1, 10, none⟩ (.int .i64 0)) := (((((((((((st_in _ _ _ _).sx _ _).sx _ _).sx _ _).sx _ _).sx _ _).sx _ _).sx _ _).sx _ _).sx _ _).sx _ _)
    generalize (((((((((((w1.setCell ⟨w.heap.size + 1 + 1, 0, none⟩ (.int .i64 0)).setCell ⟨w.heap.size + 1 + 1, 1, none⟩ (.int .i64 0)).setCell ⟨w.heap.size + 1 + 1, 2, none⟩ (.slice none 0 0)).setCell ⟨w.heap.size + 1 + 1, 3, none⟩ (.slice none 0 0)).setCell ⟨w.heap.size + 1 + 1, 4, none⟩ (.slice none 0 0)).setCell ⟨w.heap.size + 1 + 1, 5, none⟩ (.slice none 0 0)).setCell ⟨w.heap.size + 1 + 1, 6, none⟩ (.slice none 0 0)).setCell ⟨w.heap.size + 1 + 1, 7, none⟩ (.slice none 0 0)).setCell ⟨w.heap.size + 1 + 1, 8, none⟩ (.slice none 0 0)).setCell ⟨w.heap.size + 1 + 1, 9, none⟩ (.slice none 0 0)).setCell ⟨w.heap.size + 1 + 1, 10, none⟩ (.int .i64 0)) = wz at *
    have r0 := kf.cell 0
    have r1 := kf.cell 1
    have r2 := kf.cell 2
    have r3 := kf.cell 3
    have r4 := kf.cell 4
    have r5 := kf.cell 5
    have r6 := kf.cell 6
    have r7 := kf.cell 7
    have r8 := kf.cell 8
    have r9 := kf.cell 9
    have r10 := kf.cell 10
    simp only [List.getElem?_toArray, List.getElem?_cons_zero, List.getElem?_cons_succ] at r0 r1 r2 r3 r4 r5 r6 r7 r8 r9 r10
    rw [HN.out]
    refine bodyPost_ret (v := .tuple #[.agg #[.int .i64 0, .int .i64 0, .slice none 0 0, .slice none 0 0, .slice none 0 0, .slice none 0 0, .slice none 0 0, .slice none 0 0, .slice none 0 0, .slice none 0 0, .int .i64 0], .bool false]) (by simp [results, Try.results11, go_sem, r0, r1, r2, r3, r4, r5, r6, r7, r8, r9, r10]) rfl ⟨zeroNa, rfl, netOwn_zero _ _, (gb_below_none G1.out (Nat.le_refl _)).trans (qz.below (.inl (by omega)) (by have h2 := S1.out; omega))⟩
  | true =>
    have HCK := Lib.hid (implClassesOkV W H A AP AQ n cap nP cP nQ cQ L P Q hL true hc _ hin hinP hinQ hn hnP hnQ)
    have HN := Lib.hid (show netNewG W H L P Q = newNet W H L P Q by rw [netNewG, hc]; rfl)
    obtain ⟨kk, hkk⟩ : ∃ kk : Nat, countG W H = (kk : Int) := ⟨(countG W H).toNat, by have := (countG_le W H).1; omega⟩
    have hk16 : kk ≤ 16 := by have := (countG_le W H).2; omega
    have HNC : Hid (∀ w, Calls Try.prog 38 #[.agg #[.int .i64 W, .int .i64 H]] w (RetI (kk : Int) none w)) := Lib.hid (fun w => by have h := implNodeCount W H w; rw [hkk] at h; exact h)
    have HKK := Lib.hid hkk
    clear h hP hQ hin hinP hinQ hkk hc
    go_enter Try.func11, Try.ntmps11
    go_wp2_with fail
    have GE := Lib.hid ge
    have K0 := Lib.hid k0
    have K1 := Lib.hid k1
    have K2 := Lib.hid k2
    have HSZ := Lib.hid hsz
    clear ge k0 k1 k2 hsz
    generalize ((w.alloc (.cells #[.int .i64 W, .int .i64 H, .slice A n cap] 28)).alloc (.cells #[.slice AP nP cP, .slice AQ nQ cQ] 32)).alloc (.cells #[.int .i64 0, .int .i64 0, .slice none 0 0, .slice none 0 0, .slice none 0 0, .slice none 0 0, .slice none 0 0, .slice none 0 0, .slice none 0 0, .slice none 0 0, .int .i64 0] 37) = wx at *
    refine HCK.out.mono ?_
    rintro e w1 ⟨rfl, g1⟩
    have G1 := Lib.hid g1
    have kk0 := K0.out.grown g1 (by simp)
    have a0 : w1.cell? ⟨w.heap.size, 0, none⟩ = some (.int .i64 W) := kk0.cell 0
    have a1 : w1.cell? ⟨w.heap.size, 1, none⟩ = some (.int .i64 H) := kk0.cell 1
    clear kk0 g1
    go_wp2_with fail
    refine (HNC.out _).mono ?_
    rintro e w2 ⟨rfl, g2⟩
    have G2 := Lib.hid (gb_trans G1.out g2)
    have kk0 := K0.out.grown G2.out (by simp)
    have b0 : w2.cell? ⟨w.heap.size, 0, none⟩ = some (.int .i64 W) := kk0.cell 0
    have b1 : w2.cell? ⟨w.heap.size, 1, none⟩ = some (.int .i64 H) := kk0.cell 1
    have b2 : w2.cell? ⟨w.heap.size, 2, none⟩ = some (.slice A n cap) := kk0.cell 2
    have kk1 := K1.out.grown G2.out (by simp)
    have c0 : w2.cell? ⟨w.heap.size + 1, 0, none⟩ = some (.slice AP nP cP) := kk1.cell 0
    have c1 : w2.cell? ⟨w.heap.size + 1, 1, none⟩ = some (.slice AQ nQ cQ) := kk1.cell 1
    clear kk0 kk1 g2 a0 a1 G1
    obtain ⟨f0, fi, fz0, fz1, fz2⟩ := info_parts info_fss
    obtain ⟨i0, ii, iz0, iz1, iz2⟩ := info_parts info_int
    have e10w : IntKind.i64.wrap (10 * (kk : Int)) = ((10 * kk : Nat) : Int) := by rw [IntWalk.i64_in _ (by omega)]; omega
    have e5w : IntKind.i64.wrap (5 * (kk : Int)) = ((5 * kk : Nat) : Int) := by rw [IntWalk.i64_in _ (by omega)]; omega
    have e10 : wrap64 (10 * (kk : Int)) = ((10 * kk : Nat) : Int) := by rw [IntWalk.wrap64_in _ (by omega)]; omega
    have e5 : wrap64 (5 * (kk : Int)) = ((5 * kk : Nat) : Int) := by rw [IntWalk.wrap64_in _ (by omega)]; omega
    go_wp2_with fail
    have IA := Lib.hid (show ∀ wr, w2.grownBy wr none → IntAt wr wr.heap.size A n L from fun wr hg => (HI.out.none (Nat.le_refl _) (gb_trans (gb_trans GE.out G2.out) hg)).more (gb_trans (gb_trans GE.out G2.out) hg).size)
    have IP := Lib.hid (show ∀ wr, w2.grownBy wr none → IntAt wr wr.heap.size AP nP P from fun wr hg => (HP.out.none (Nat.le_refl _) (gb_trans (gb_trans GE.out G2.out) hg)).more (gb_trans (gb_trans GE.out G2.out) hg).size)
    have IQ := Lib.hid (show ∀ wr, w2.grownBy wr none → IntAt wr wr.heap.size AQ nQ Q from fun wr hg => (HQ.out.none (Nat.le_refl _) (gb_trans (gb_trans GE.out G2.out) hg)).more (gb_trans (gb_trans GE.out G2.out) hg).size)
    have CB := Lib.hid (show ∀ wr, w2.grownBy wr none → wr.cell? ⟨w.heap.size, 0, none⟩ = some (.int .i64 W) ∧ wr.cell? ⟨w.heap.size, 1, none⟩ = some (.int .i64 H) ∧ wr.cell? ⟨w.heap.size, 2, none⟩ = some (.slice A n cap) ∧ wr.cell? ⟨w.heap.size + 1, 0, none⟩ = some (.slice AP nP cP) ∧ wr.cell? ⟨w.heap.size + 1, 1, none⟩ = some (.slice AQ nQ cQ) from fun wr hg => ⟨hg.cell b0 (by simp), hg.cell b1 (by simp), hg.cell b2 (by simp), hg.cell c0 (by simp), hg.cell c1 (by simp)⟩)
    clear b0 b1 b2 c0 c1
    refine region_inv (by kernel_rfl) (by kernel_rfl) (Ij W H A AP AQ n cap nP cP nQ cQ L P Q kk w w2) (.inr ⟨rfl, fun _ => undef, rfl, Sj.start⟩) ?_ ?_
    · intro Lf a wr hI i o ho hLi he K' hK
      rcases hI with ⟨hall, _⟩ | ⟨h17, vs, rfl, hS⟩
      · have h18 := (Array.getElem?_eq_some_iff.1 ho).1
        rw [hall i h18] at hLi
        cases hLi
      · have h18 : i < 18 := (Array.getElem?_eq_some_iff.1 ho).1
        have hg2 : w2.grownBy wr none := ⟨hS.g.os, hS.g.tape, hS.g.output, hS.g.size, hS.g.block⟩
        have hB0 : w2.drew.heap.size ≤ wr.heap.size := hS.g.size
        obtain ⟨m0, m1, m2, m3, m4⟩ := CB.out wr hg2
        have hc18 : i = 0 ∨ i = 1 ∨ i = 2 ∨ i = 3 ∨ i = 4 ∨ i = 5 ∨ i = 6 ∨ i = 7 ∨ i = 8 ∨ i = 9 ∨ i = 10 ∨ i = 11 ∨ i = 12 ∨ i = 13 ∨ i = 14 ∨ i = 15 ∨ i = 16 ∨ i = 17 := by omega
        rcases hc18 with rfl | rfl | rfl | rfl | rfl | rfl | rfl | rfl | rfl | rfl | rfl | rfl | rfl | rfl | rfl | rfl | rfl | rfl
        all_goals (simp only [List.getElem?_toArray, List.getElem?_cons_zero, List.getElem?_cons_succ, Option.some.injEq] at ho; subst ho)
        · skip
          simp only [FRj] at *
          go_simp
          exact hK.out _ _ (.inr ⟨(by simpa using h17), upd vs 0 (.agg #[.int .i64 W, .int .i64 H, .slice A n cap]), rfl, hS.quiet hLi (by decide) rfl rfl⟩)
        · skip
          simp only [FRj] at *
          go_simp
          exact hK.out _ _ (.inr ⟨(by simpa using h17), upd vs 1 (.agg #[.slice AP nP cP, .slice AQ nQ cQ]), rfl, hS.quiet hLi (by decide) rfl rfl⟩)
        · skip
          simp only [FRj] at *
          go_simp
          exact hK.out _ _ (.inr ⟨(by simpa using h17), upd vs 2 (.int .i64 (kk : Int)), rfl, hS.quiet hLi (by decide) rfl rfl⟩)
        · skip
          have vv : vs 2 = .int .i64 (kk : Int) := hS.G 2 (he ⟨2, .data⟩ (by simp) rfl)
          simp only [FRj] at *
          go_simp
          exact hK.out _ _ (.inr ⟨(by simpa using h17), upd vs 3 (.int .i64 ((10 * kk : Nat) : Int)), (by simp [FRj, upd, vv]), hS.quiet hLi (by decide) rfl rfl⟩)
        · have vv : vs 3 = .int .i64 ((10 * kk : Nat) : Int) := hS.G 3 (he ⟨3, .data⟩ (by simp) rfl)
          refine step_make_full wr rfl (.tmp 20) (.tmp 20) 35 rfl w2.drew.heap.size 93 f0 (.slice none 0 0) 1 Try.underlying35 fi fz0 fz1 .i64 .i64 _ _ (10 * kk) vv vv rfl rfl (by rw [fz2]; omega) (by unfold maxLen; omega) hB0 ?_
          intro w' o g
          rw [made_nils] at o
          exact hK.out _ _ (.inr ⟨(by simpa using h17), upd vs 4 (.slice (some ⟨wr.heap.size, 0, none⟩) (10 * kk) (10 * kk)), by simp [FRj, upd, Act.put], hS.step hLi (by decide) g ⟨wr.heap.size, rfl, o⟩ (fun k hk => by cases hk; exact Nat.le_refl _)⟩)
        · skip
          simp only [FRj] at *
          go_simp
          exact hK.out _ _ (.inr ⟨(by simpa using h17), upd vs 5 (.int .i64 (kk : Int)), rfl, hS.quiet hLi (by decide) rfl rfl⟩)
        · skip
          have vv : vs 5 = .int .i64 (kk : Int) := hS.G 5 (he ⟨5, .data⟩ (by simp) rfl)
          simp only [FRj] at *
          go_simp
          exact hK.out _ _ (.inr ⟨(by simpa using h17), upd vs 6 (.int .i64 ((10 * kk : Nat) : Int)), (by simp [FRj, upd, vv]), hS.quiet hLi (by decide) rfl rfl⟩)
        · have vv : vs 6 = .int .i64 ((10 * kk : Nat) : Int) := hS.G 6 (he ⟨6, .data⟩ (by simp) rfl)
          refine step_make_full wr rfl (.tmp 23) (.tmp 23) 26 rfl w2.drew.heap.size 3 i0 (.int .i64 0) 1 Try.underlying26 ii iz0 iz1 .i64 .i64 _ _ (10 * kk) vv vv rfl rfl (by rw [iz2]; omega) (by unfold maxLen; omega) hB0 ?_
          intro w' o g
          rw [made_ints] at o
          exact hK.out _ _ (.inr ⟨(by simpa using h17), upd vs 7 (.slice (some ⟨wr.heap.size, 0, none⟩) (10 * kk) (10 * kk)), by simp [FRj, upd, Act.put], hS.step hLi (by decide) g ⟨wr.heap.size, rfl, o⟩ (fun k hk => by cases hk; exact Nat.le_refl _)⟩)
        · skip
          simp only [FRj] at *
          go_simp
          exact hK.out _ _ (.inr ⟨(by simpa using h17), upd vs 8 (.int .i64 (kk : Int)), rfl, hS.quiet hLi (by decide) rfl rfl⟩)
        · skip
          have vv : vs 8 = .int .i64 (kk : Int) := hS.G 8 (he ⟨8, .data⟩ (by simp) rfl)
          simp only [FRj] at *
          go_simp
          exact hK.out _ _ (.inr ⟨(by simpa using h17), upd vs 9 (.int .i64 ((5 * kk : Nat) : Int)), (by simp [FRj, upd, vv]), hS.quiet hLi (by decide) rfl rfl⟩)
        · have vv : vs 9 = .int .i64 ((5 * kk : Nat) : Int) := hS.G 9 (he ⟨9, .data⟩ (by simp) rfl)
          refine step_make_full wr rfl (.tmp 26) (.tmp 26) 26 rfl w2.drew.heap.size 3 i0 (.int .i64 0) 1 Try.underlying26 ii iz0 iz1 .i64 .i64 _ _ (5 * kk) vv vv rfl rfl (by rw [iz2]; omega) (by unfold maxLen; omega) hB0 ?_
          intro w' o g
          rw [made_ints] at o
          exact hK.out _ _ (.inr ⟨(by simpa using h17), upd vs 10 (.slice (some ⟨wr.heap.size, 0, none⟩) (5 * kk) (5 * kk)), by simp [FRj, upd, Act.put], hS.step hLi (by decide) g ⟨wr.heap.size, rfl, o⟩ (fun k hk => by cases hk; exact Nat.le_refl _)⟩)
        · skip
          simp only [FRj] at *
          go_simp
          exact hK.out _ _ (.inr ⟨(by simpa using h17), upd vs 11 (.int .i64 (kk : Int)), rfl, hS.quiet hLi (by decide) rfl rfl⟩)
        · have vv : vs 11 = .int .i64 ((kk : Nat) : Int) := hS.G 11 (he ⟨11, .data⟩ (by simp) rfl)
          refine step_make_full wr rfl (.tmp 28) (.tmp 28) 35 rfl w2.drew.heap.size 93 f0 (.slice none 0 0) 1 Try.underlying35 fi fz0 fz1 .i64 .i64 _ _ (kk) vv vv rfl rfl (by rw [fz2]; omega) (by unfold maxLen; omega) hB0 ?_
          intro w' o g
          rw [made_nils] at o
          exact hK.out _ _ (.inr ⟨(by simpa using h17), upd vs 12 (.slice (some ⟨wr.heap.size, 0, none⟩) (kk) (kk)), by simp [FRj, upd, Act.put], hS.step hLi (by decide) g ⟨wr.heap.size, rfl, o⟩ (fun k hk => by cases hk; exact Nat.le_refl _)⟩)
        · skip
          simp only [FRj] at *
          go_simp
          exact hK.out _ _ (.inr ⟨(by simpa using h17), upd vs 13 (.int .i64 (kk : Int)), rfl, hS.quiet hLi (by decide) rfl rfl⟩)
        · have vv : vs 13 = .int .i64 ((kk : Nat) : Int) := hS.G 13 (he ⟨13, .data⟩ (by simp) rfl)
          refine step_make_full wr rfl (.tmp 30) (.tmp 30) 35 rfl w2.drew.heap.size 93 f0 (.slice none 0 0) 1 Try.underlying35 fi fz0 fz1 .i64 .i64 _ _ (kk) vv vv rfl rfl (by rw [fz2]; omega) (by unfold maxLen; omega) hB0 ?_
          intro w' o g
          rw [made_nils] at o
          exact hK.out _ _ (.inr ⟨(by simpa using h17), upd vs 14 (.slice (some ⟨wr.heap.size, 0, none⟩) (kk) (kk)), by simp [FRj, upd, Act.put], hS.step hLi (by decide) g ⟨wr.heap.size, rfl, o⟩ (fun k hk => by cases hk; exact Nat.le_refl _)⟩)
        · have v0 : vs 0 = .agg #[.int .i64 W, .int .i64 H, .slice A n cap] := hS.G 0 (he ⟨0, .data⟩ (by simp) rfl)
          have v1 : vs 1 = .agg #[.slice AP nP cP, .slice AQ nQ cQ] := hS.G 1 (he ⟨1, .data⟩ (by simp) rfl)
          obtain ⟨g4, v4, _⟩ := hS.G 4 (he ⟨4, .data⟩ (by simp) rfl)
          obtain ⟨g7, v7, _⟩ := hS.G 7 (he ⟨7, .data⟩ (by simp) rfl)
          obtain ⟨g10, v10, _⟩ := hS.G 10 (he ⟨10, .data⟩ (by simp) rfl)
          obtain ⟨g12, v12, _⟩ := hS.G 12 (he ⟨12, .data⟩ (by simp) rfl)
          obtain ⟨g14, v14, _⟩ := hS.G 14 (he ⟨14, .data⟩ (by simp) rfl)
          simp only [FRj] at *
          go_simp
          exact hK.out _ _ (.inr ⟨(by simpa using h17), upd vs 15 (.agg #[.int .i64 W, .int .i64 H, .slice A n cap, .slice AP nP cP, .slice AQ nQ cQ, .slice (some ⟨g4, 0, none⟩) (10 * kk) (10 * kk), .slice (some ⟨g7, 0, none⟩) (10 * kk) (10 * kk), .slice (some ⟨g10, 0, none⟩) (5 * kk) (5 * kk), .slice (some ⟨g12, 0, none⟩) (kk) (kk), .slice (some ⟨g14, 0, none⟩) (kk) (kk), .int .i64 0]), by simp [FRj, upd, v0, v1, v4, v7, v10, v12, v14], hS.build hLi ⟨(he ⟨4, .data⟩ (by simp) rfl), (he ⟨7, .data⟩ (by simp) rfl), (he ⟨10, .data⟩ (by simp) rfl), (he ⟨12, .data⟩ (by simp) rfl), (he ⟨14, .data⟩ (by simp) rfl)⟩ ⟨g4, g7, g10, g12, g14, by rw [upd_ne _ _ (by decide), v4], by rw [upd_ne _ _ (by decide), v7], by rw [upd_ne _ _ (by decide), v10], by rw [upd_ne _ _ (by decide), v12], by rw [upd_ne _ _ (by decide), v14], by rw [upd_at]⟩⟩)
        · skip
          simp only [FRj] at *
          go_simp
          exact hK.out _ _ (.inr ⟨(by simpa using h17), upd vs 16 (.pointer (some ⟨wr.heap.size, 0, none⟩)), by simp [FRj, upd], hS.step hLi (by decide) (gb_alloc (gb_refl wr none) _) ⟨wr.heap.size, rfl, Blk.new wr _ _, hB0⟩ (fun k hk => by cases hk)⟩)
        · have p0 := (he ⟨0, .phase⟩ (by simp) rfl)
          have p1 := (he ⟨1, .phase⟩ (by simp) rfl)
          have p2 := (he ⟨2, .phase⟩ (by simp) rfl)
          have p3 := (he ⟨3, .phase⟩ (by simp) rfl)
          have p4 := (he ⟨4, .phase⟩ (by simp) rfl)
          have p5 := (he ⟨5, .phase⟩ (by simp) rfl)
          have p6 := (he ⟨6, .phase⟩ (by simp) rfl)
          have p7 := (he ⟨7, .phase⟩ (by simp) rfl)
          have p8 := (he ⟨8, .phase⟩ (by simp) rfl)
          have p9 := (he ⟨9, .phase⟩ (by simp) rfl)
          have p10 := (he ⟨10, .phase⟩ (by simp) rfl)
          have p11 := (he ⟨11, .phase⟩ (by simp) rfl)
          have p12 := (he ⟨12, .phase⟩ (by simp) rfl)
          have p13 := (he ⟨13, .phase⟩ (by simp) rfl)
          have p14 := (he ⟨14, .phase⟩ (by simp) rfl)
          have p15 := (he ⟨15, .phase⟩ (by simp) rfl)
          have p16 := (he ⟨16, .phase⟩ (by simp) rfl)
          have hall : ∀ k, k < 17 → Lf k = true := fun k hk => by
            have hk17 : k = 0 ∨ k = 1 ∨ k = 2 ∨ k = 3 ∨ k = 4 ∨ k = 5 ∨ k = 6 ∨ k = 7 ∨ k = 8 ∨ k = 9 ∨ k = 10 ∨ k = 11 ∨ k = 12 ∨ k = 13 ∨ k = 14 ∨ k = 15 ∨ k = 16 := by omega
            rcases hk17 with rfl | rfl | rfl | rfl | rfl | rfl | rfl | rfl | rfl | rfl | rfl | rfl | rfl | rfl | rfl | rfl | rfl <;> assumption
          obtain ⟨g, v16, bk, hlo⟩ := hS.G 16 p16
          obtain ⟨g4, g7, g10, g12, g14, v4, v7, v10, v12, v14, v15⟩ := (hS.B p15).2
          have z0 : wr.cell? ⟨g, 0, none⟩ = some (.int .i64 0) := bk.cell 0
          have y0 := bk.frozen 0
          have z1 : wr.cell? ⟨g, 1, none⟩ = some (.int .i64 0) := bk.cell 1
          have y1 := bk.frozen 1
          have z2 : wr.cell? ⟨g, 2, none⟩ = some (.slice none 0 0) := bk.cell 2
          have y2 := bk.frozen 2
          have z3 : wr.cell? ⟨g, 3, none⟩ = some (.slice none 0 0) := bk.cell 3
          have y3 := bk.frozen 3
          have z4 : wr.cell? ⟨g, 4, none⟩ = some (.slice none 0 0) := bk.cell 4
          have y4 := bk.frozen 4
          have z5 : wr.cell? ⟨g, 5, none⟩ = some (.slice none 0 0) := bk.cell 5
          have y5 := bk.frozen 5
          have z6 : wr.cell? ⟨g, 6, none⟩ = some (.slice none 0 0) := bk.cell 6
          have y6 := bk.frozen 6
          have z7 : wr.cell? ⟨g, 7, none⟩ = some (.slice none 0 0) := bk.cell 7
          have y7 := bk.frozen 7
          have z8 : wr.cell? ⟨g, 8, none⟩ = some (.slice none 0 0) := bk.cell 8
          have y8 := bk.frozen 8
          have z9 : wr.cell? ⟨g, 9, none⟩ = some (.slice none 0 0) := bk.cell 9
          have y9 := bk.frozen 9
          have z10 : wr.cell? ⟨g, 10, none⟩ = some (.int .i64 0) := bk.cell 10
          have y10 := bk.frozen 10
          have BK := Lib.hid bk
          have HS17 := Lib.hid hS
          clear bk p0 p1 p2 p3 p4 p5 p6 p7 p8 p9 p10 p11 p12 p13 p14 p15 p16
          simp only [FRj] at *
          go_simp
          exact hK.out _ _ (.inl ⟨fun k hk => by show (if k = 17 then true else Lf k) = true; split; rfl; exact hall k (by omega), Lf, vs, wr, g, #[.int .i64 W, .int .i64 H, .slice A n cap, .slice AP nP cP, .slice AQ nQ cQ, .slice (some ⟨g4, 0, none⟩) (10 * kk) (10 * kk), .slice (some ⟨g7, 0, none⟩) (10 * kk) (10 * kk), .slice (some ⟨g10, 0, none⟩) (5 * kk) (5 * kk), .slice (some ⟨g12, 0, none⟩) (kk) (kk), .slice (some ⟨g14, 0, none⟩) (kk) (kk), .int .i64 0], hall, by simp [FRj, v4, v7, v10, v12, v14, v15, v16], HS17.out, v16, v15, hlo, by have hz := (((((((((((BK.out.set_ 0 (.int .i64 W)).set_ 1 (.int .i64 H)).set_ 2 (.slice A n cap)).set_ 3 (.slice AP nP cP)).set_ 4 (.slice AQ nQ cQ)).set_ 5 (.slice (some ⟨g4, 0, none⟩) (10 * kk) (10 * kk))).set_ 6 (.slice (some ⟨g7, 0, none⟩) (10 * kk) (10 * kk))).set_ 7 (.slice (some ⟨g10, 0, none⟩) (5 * kk) (5 * kk))).set_ 8 (.slice (some ⟨g12, 0, none⟩) (kk) (kk))).set_ 9 (.slice (some ⟨g14, 0, none⟩) (kk) (kk))).set_ 10 (.int .i64 0)); simpa using hz, (((((((((((st_in _ _ _ _).sx _ _).sx _ _).sx _ _).sx _ _).sx _ _).sx _ _).sx _ _).sx _ _).sx _ _).sx _ _)⟩)
    · intro Lf a wo hI hall
      rcases hI with ⟨_, L2, vs, w9, g, cs, hl2, rfl, hS, v16, v15, hgB, hbk, hch⟩ | ⟨h17, _⟩
      · obtain ⟨g4, g7, g10, g12, g14, v4, v7, v10, v12, v14, hv15⟩ := (hS.B (hl2 15 (by omega))).2
        rw [v15] at hv15
        injection hv15 with hcs
        subst hcs
        have hg29 : w2.grownBy w9 none := ⟨hS.g.os, hS.g.tape, hS.g.output, hS.g.size, hS.g.block⟩
        have hs2 : w.heap.size + 3 ≤ w2.heap.size := by have h1 := G2.out.size; have h2 := HSZ.out; omega
        have hgw : g < wo.heap.size := hbk.lt
        have row : ∀ {t : TypeId} {m q : Nat} {xs : List Value}, w9.ownsRow w2.drew.heap.size t 1 (.slice (some ⟨q, 0, none⟩) m m) m xs → q ≠ g → wo.ownsRow w2.heap.size t 1 (.slice (some ⟨q, 0, none⟩) m m) m xs := fun ho hne => own_chg ho (fun e => hne (by cases e; rfl)) hch
        have K9 : ∃ cs9, Blk w9 g 37 cs9 := by
          obtain ⟨g', e, b, _⟩ := hS.G 16 (hl2 16 (by omega))
          rw [v16] at e
          cases e
          exact ⟨_, b⟩
        obtain ⟨cs9, hk9⟩ := K9
        have ne : ∀ {t : TypeId} {m q : Nat} {xs : List Value}, w9.ownsRow w2.drew.heap.size t 1 (.slice (some ⟨q, 0, none⟩) m m) m xs → t ≠ 37 → q ≠ g := fun ho ht e => own_ne ho hk9 ht (by rw [e]; rfl)
        have o4 : wo.ownsRow w2.heap.size 93 1 (.slice (some ⟨g4, 0, none⟩) (10 * kk) (10 * kk)) (10 * kk) (List.replicate (10 * kk) (.slice none 0 0)) := by
          obtain ⟨q, e, o⟩ := hS.G 4 (hl2 4 (by omega))
          rw [v4] at e
          cases e
          exact row o (ne o (by decide))
        have o7 : wo.ownsRow w2.heap.size 3 1 (.slice (some ⟨g7, 0, none⟩) (10 * kk) (10 * kk)) (10 * kk) (intsV (List.replicate (10 * kk) 0)) := by
          obtain ⟨q, e, o⟩ := hS.G 7 (hl2 7 (by omega))
          rw [v7] at e
          cases e
          exact row o (ne o (by decide))
        have o10 : wo.ownsRow w2.heap.size 3 1 (.slice (some ⟨g10, 0, none⟩) (5 * kk) (5 * kk)) (5 * kk) (intsV (List.replicate (5 * kk) 0)) := by
          obtain ⟨q, e, o⟩ := hS.G 10 (hl2 10 (by omega))
          rw [v10] at e
          cases e
          exact row o (ne o (by decide))
        have o12 : wo.ownsRow w2.heap.size 93 1 (.slice (some ⟨g12, 0, none⟩) (kk) (kk)) (kk) (List.replicate (kk) (.slice none 0 0)) := by
          obtain ⟨q, e, o⟩ := hS.G 12 (hl2 12 (by omega))
          rw [v12] at e
          cases e
          exact row o (ne o (by decide))
        have o14 : wo.ownsRow w2.heap.size 93 1 (.slice (some ⟨g14, 0, none⟩) (kk) (kk)) (kk) (List.replicate (kk) (.slice none 0 0)) := by
          obtain ⟨q, e, o⟩ := hS.G 14 (hl2 14 (by omega))
          rw [v14] at e
          cases e
          exact row o (ne o (by decide))
        have ap : g10 ≠ g7 := by
          have h1 := hS.K (hl2 7 (by omega)) (hl2 10 (by omega))
          rw [v7, v10] at h1
          exact fun e => h1 g7 rfl (by rw [e]; rfl)
        have nz : g ≠ g7 := by
          obtain ⟨q, e, o⟩ := hS.G 7 (hl2 7 (by omega))
          rw [v7] at e
          cases e
          exact fun e => ne o (by decide) e.symm
        have n4 : g4 ≠ g7 := fun e => own_typesG o7 o4 (by decide) (k := g7) rfl (by rw [e]; rfl)
        have n12 : g12 ≠ g7 := fun e => own_typesG o7 o12 (by decide) (k := g7) rfl (by rw [e]; rfl)
        have n14 : g14 ≠ g7 := fun e => own_typesG o7 o14 (by decide) (k := g7) rfl (by rw [e]; rfl)
        have O4 := Lib.hid o4
        have O7 := Lib.hid o7
        have O10 := Lib.hid o10
        have O12 := Lib.hid o12
        have O14 := Lib.hid o14
        have NE := Lib.hid (And.intro nz (And.intro ap (And.intro n4 (And.intro n12 n14))))
        have BK := Lib.hid hbk
        have KR := Lib.hid (((K2.out.grown G2.out (by simp)).grown hg29 (by simp)).chg hch (.inl (by omega)))
        have BR := Lib.hid ((gb_below_none (gb_trans (gb_trans GE.out G2.out) hg29) (Nat.le_refl _)).trans (hch.below (.inl (by omega)) (by have h1 := hg29.size; omega)))
        have HGS := Lib.hid (And.intro hgB (And.intro hgw hs2))
        have h7lt := o7.lt g7 rfl
        have H7L := Lib.hid h7lt
        simp only [FRj, v16]
        have z3 : wo.cell? ⟨g, 6, none⟩ = some (.slice (some ⟨g7, 0, none⟩) (10 * kk) (10 * kk)) := hbk.cell 6
        clear hbk hgB hgw hg29 hs2 hch hS hl2 v4 v7 v10 v12 v14 v15 v16 hall row ne hk9 o4 o7 o10 o12 o14 ap nz n4 n12 n14 h7lt
        go_wp2_with fail
        clear z3
        go_loopw [36] (fun i wr => ∃ q : Nat, i = .int .i64 (q : Int) ∧ q ≤ 10 * kk ∧ wr.ownsRow w2.heap.size 3 1 (.slice (some ⟨g7, 0, none⟩) (10 * kk) (10 * kk)) (10 * kk) (intsV (List.replicate q (-1) ++ List.replicate (10 * kk - q) 0)) ∧ Chg g7 (g7 + 1) wo wr) (fun i _ => 10 * kk - (intOf i).toNat)
        case atStart => exact ⟨0, rfl, Nat.zero_le _, by simpa using O7.out, Chg.refl _ _ _⟩
        case round =>
          obtain ⟨q, rfl, hq, how, hcl⟩ := hrel
          have HOW := Lib.hid how
          have CL := Lib.hid hcl
          have hbl := BK.out.chg hcl (by have h1 := NE.out.1; omega)
          have hsl := hcl.size
          by_cases hlt : q < 10 * kk
          · have l0 : (0 : Int) ≤ (q : Int) := by omega
            have l1 : (q : Int) < ((10 * kk : Nat) : Int) := by omega
            have l2 : (q : Int) < 10 * (kk : Int) := by omega
            have z6 : wr.cell? ⟨g, 6, none⟩ = some (.slice (some ⟨g7, 0, none⟩) (10 * kk) (10 * kk)) := hbl.cell 6
            have hcell := how.cellAt q (by omega)
            have hlen : q < (intsV (List.replicate q (-1) ++ List.replicate (10 * kk - q) 0)).length := by simp [intsV]; omega
            obtain ⟨x, hx⟩ : ∃ x, (intsV (List.replicate q (-1) ++ List.replicate (10 * kk - q) 0))[q]? = some x := ⟨_, List.getElem?_eq_getElem hlen⟩
            rw [hx] at hcell
            have hfz := how.frozenAt q
            obtain ⟨o5, g5⟩ := how.stored q (.int .i64 (-1))
            rw [own_row _ _ hlt] at o5
            have O5 := Lib.hid o5
            have C5 := Lib.hid (hcl.si (i := q) (.int .i64 (-1)))
            have HQ := Lib.hid hlt
            clear how hcl hbl hlen hx o5 g5
            go_wp2_with fail
            go_roundw
            case rel => exact ⟨q + 1, by go_num, by have := HQ.out; omega, O5.out, C5.out⟩
            case measure => have := HQ.out; simp [intOf]; omega
          · obtain rfl : q = 10 * kk := by omega
            have l1 : ¬ ((10 * kk : Nat) : Int) < ((10 * kk : Nat) : Int) := by omega
            have l2 : ¬ 10 * (kk : Int) < 10 * (kk : Int) := by omega
            have hbw := BR.out.trans (hcl.below (B := w.heap.size) (.inl (by have h1 := H7L.out; have h2 := HGS.out; omega)) (by have h2 := HGS.out; omega))
            have e7 : wr.ownsRow w2.heap.size 3 1 (.slice (some ⟨g7, 0, none⟩) (10 * kk) (10 * kk)) (10 * kk) (intsV (List.replicate (10 * kk) (-1))) := by simpa using how
            have oc : ∀ {t : TypeId} {m k : Nat} {xs : List Value}, wo.ownsRow w2.heap.size t 1 (.slice (some ⟨k, 0, none⟩) m m) m xs → k ≠ g7 → wr.ownsRow w2.heap.size t 1 (.slice (some ⟨k, 0, none⟩) m m) m xs := fun ho hne => own_chg ho (fun e => hne (by cases e; rfl)) hcl
            obtain ⟨_, n10, n4, n12, n14⟩ := NE.out
            obtain ⟨NN, hNN⟩ : ∃ NN, newNet W H L P Q = NN := ⟨_, rfl⟩
            have HNN := Lib.hid (HN.out.trans hNN)
            have hlL : L.length = n := HI.out.1
            have hlP : P.length = nP := HP.out.1
            have hlQ : Q.length = nQ := HQ.out.1
            have hnn : NN = ⟨W, H, L, P, Q, List.replicate (10 * kk) [], List.replicate (10 * kk) (-1), List.replicate (5 * kk) 0, List.replicate kk [], List.replicate kk [], 0⟩ := by
              rw [← hNN]
              unfold newNet
              rw [HKK.out]
              rfl
            have hin : NetIn wr wr.heap.size ⟨⟨A, cap⟩, ⟨AP, cP⟩, ⟨AQ, cQ⟩, ⟨some ⟨g4, 0, none⟩, 10 * kk⟩, ⟨some ⟨g7, 0, none⟩, 10 * kk⟩, ⟨some ⟨g10, 0, none⟩, 5 * kk⟩, ⟨some ⟨g12, 0, none⟩, kk⟩, ⟨some ⟨g14, 0, none⟩, kk⟩⟩ NN := by
              have r4 := recs_nils (oc O4.out n4)
              have r12 := recs_nils (oc O12.out n12)
              have r14 := recs_nils (oc O14.out n14)
              have i7 := intAt_own e7 (by simp) (Nat.le_refl _)
              have i10 := intAt_own (oc O10.out n10) (by simp) (Nat.le_refl _)
              have iA := (HI.out.below hbw).more hbw.size
              have iP := (HP.out.below hbw).more hbw.size
              have iQ := (HQ.out.below hbw).more hbw.size
              rw [hnn]
              refine ⟨?_, ?_, ?_, ?_, ?_, ?_, ?_, ?_⟩
              · show IntAt _ _ A L.length L; rw [hlL]; exact iA
              · show IntAt _ _ AP P.length P; rw [hlP]; exact iP
              · show IntAt _ _ AQ Q.length Q; rw [hlQ]; exact iQ
              · show IntAt _ _ (some ⟨g7, 0, none⟩) (List.replicate (10 * kk) (-1)).length _; rw [List.length_replicate]; exact i7
              · show IntAt _ _ (some ⟨g10, 0, none⟩) (List.replicate (5 * kk) 0).length _; rw [List.length_replicate]; exact i10
              · show RecsAt 5 fltC _ _ (some ⟨g4, 0, none⟩) (List.replicate (10 * kk) []).length _; rw [List.length_replicate]; exact r4
              · show RecsAt 5 fltC _ _ (some ⟨g12, 0, none⟩) (List.replicate kk []).length _; rw [List.length_replicate]; exact r12
              · show RecsAt 5 fltC _ _ (some ⟨g14, 0, none⟩) (List.replicate kk []).length _; rw [List.length_replicate]; exact r14
            have hsm : NetSm NN := by
              rw [hnn]
              refine ⟨?_, ?_, ?_, ?_, ?_, ?_, ?_, ?_, ?_, ?_, ?_⟩
              all_goals simp [sumL_rep]
              all_goals omega
            have hcn := implClone _ NN wr hin hsm
            have HCN : Hid (Calls Try.prog 39 #[.agg #[.int .i64 W, .int .i64 H, .slice A n cap, .slice AP nP cP, .slice AQ nQ cQ, .slice (some ⟨g4, 0, none⟩) (10 * kk) (10 * kk), .slice (some ⟨g7, 0, none⟩) (10 * kk) (10 * kk), .slice (some ⟨g10, 0, none⟩) (5 * kk) (5 * kk), .slice (some ⟨g12, 0, none⟩) (kk) (kk), .slice (some ⟨g14, 0, none⟩) (kk) (kk), .int .i64 0]] wr (NewNet NN wr)) := Lib.hid (by
              have e : (.agg #[.int .i64 NN.W, .int .i64 NN.H, .slice A NN.br.length cap, .slice AP NN.ta.length cP, .slice AQ NN.tb.length cQ, .slice (some ⟨g4, 0, none⟩) NN.bu.length (10 * kk), .slice (some ⟨g7, 0, none⟩) NN.ow.length (10 * kk), .slice (some ⟨g10, 0, none⟩) NN.tu.length (5 * kk), .slice (some ⟨g12, 0, none⟩) NN.so.length kk, .slice (some ⟨g14, 0, none⟩) NN.ar.length kk, .int .i64 NN.ti] : Value) = .agg #[.int .i64 W, .int .i64 H, .slice A n cap, .slice AP nP cP, .slice AQ nQ cQ, .slice (some ⟨g4, 0, none⟩) (10 * kk) (10 * kk), .slice (some ⟨g7, 0, none⟩) (10 * kk) (10 * kk), .slice (some ⟨g10, 0, none⟩) (5 * kk) (5 * kk), .slice (some ⟨g12, 0, none⟩) (kk) (kk), .slice (some ⟨g14, 0, none⟩) (kk) (kk), .int .i64 0] := by
                rw [hnn]
                simp [hlL, hlP, hlQ]
              exact e ▸ hcn)
            have kr := KR.out.chg hcl (.inl (by have h1 := H7L.out; have h2 := HGS.out; omega))
            have KRL := Lib.hid kr
            have BW := Lib.hid hbw
            have SW := Lib.hid (show w.heap.size + 3 ≤ wr.heap.size by have h1 := HGS.out; omega)
            have z0 : wr.cell? ⟨g, 0, none⟩ = some (.int .i64 W) := hbl.cell 0
            have z1 : wr.cell? ⟨g, 1, none⟩ = some (.int .i64 H) := hbl.cell 1
            have z2 : wr.cell? ⟨g, 2, none⟩ = some (.slice A n cap) := hbl.cell 2
            have z3 : wr.cell? ⟨g, 3, none⟩ = some (.slice AP nP cP) := hbl.cell 3
            have z4 : wr.cell? ⟨g, 4, none⟩ = some (.slice AQ nQ cQ) := hbl.cell 4
            have z5 : wr.cell? ⟨g, 5, none⟩ = some (.slice (some ⟨g4, 0, none⟩) (10 * kk) (10 * kk)) := hbl.cell 5
            have z6 : wr.cell? ⟨g, 6, none⟩ = some (.slice (some ⟨g7, 0, none⟩) (10 * kk) (10 * kk)) := hbl.cell 6
            have z7 : wr.cell? ⟨g, 7, none⟩ = some (.slice (some ⟨g10, 0, none⟩) (5 * kk) (5 * kk)) := hbl.cell 7
            have z8 : wr.cell? ⟨g, 8, none⟩ = some (.slice (some ⟨g12, 0, none⟩) (kk) (kk)) := hbl.cell 8
            have z9 : wr.cell? ⟨g, 9, none⟩ = some (.slice (some ⟨g14, 0, none⟩) (kk) (kk)) := hbl.cell 9
            have z10 : wr.cell? ⟨g, 10, none⟩ = some (.int .i64 0) := hbl.cell 10
            clear how hcl hbl hbw e7 oc n10 n4 n12 n14 hNN hlL hlP hlQ hnn hin hsm hcn kr
            go_wp2_with fail
            refine HCN.out.mono ?_
            rintro e w4 ⟨y, rfl, hown, hbel⟩
            have HOWN := Lib.hid hown
            have HBEL := Lib.hid hbel
            have kr := KRL.out.grown (gb_of_below hbel none) (by simp)
            have KR4 := Lib.hid kr
            have y0 : w4.cell? ⟨w.heap.size + 1 + 1, 0, none⟩ = some (.int .i64 0) := kr.cell 0
            have x0 := kr.frozen 0
            have y1 : w4.cell? ⟨w.heap.size + 1 + 1, 1, none⟩ = some (.int .i64 0) := kr.cell 1
            have x1 := kr.frozen 1
            have y2 : w4.cell? ⟨w.heap.size + 1 + 1, 2, none⟩ = some (.slice none 0 0) := kr.cell 2
            have x2 := kr.frozen 2
            have y3 : w4.cell? ⟨w.heap.size + 1 + 1, 3, none⟩ = some (.slice none 0 0) := kr.cell 3
            have x3 := kr.frozen 3
            have y4 : w4.cell? ⟨w.heap.size + 1 + 1, 4, none⟩ = some (.slice none 0 0) := kr.cell 4
            have x4 := kr.frozen 4
            have y5 : w4.cell? ⟨w.heap.size + 1 + 1, 5, none⟩ = some (.slice none 0 0) := kr.cell 5
            have x5 := kr.frozen 5
            have y6 : w4.cell? ⟨w.heap.size + 1 + 1, 6, none⟩ = some (.slice none 0 0) := kr.cell 6
            have x6 := kr.frozen 6
            have y7 : w4.cell? ⟨w.heap.size + 1 + 1, 7, none⟩ = some (.slice none 0 0) := kr.cell 7
            have x7 := kr.frozen 7
            have y8 : w4.cell? ⟨w.heap.size + 1 + 1, 8, none⟩ = some (.slice none 0 0) := kr.cell 8
            have x8 := kr.frozen 8
            have y9 : w4.cell? ⟨w.heap.size + 1 + 1, 9, none⟩ = some (.slice none 0 0) := kr.cell 9
            have x9 := kr.frozen 9
            have y10 : w4.cell? ⟨w.heap.size + 1 + 1, 10, none⟩ = some (.int .i64 0) := kr.cell 10
            have x10 := kr.frozen 10
            clear kr hown hbel z0 z1 z2 z3 z4 z5 z6 z7 z8 z9 z10
            go_wp2_with fail
            have kf : Blk (((((((((((w4.setCell ⟨w.heap.size + 1 + 1, 0, none⟩ (.int .i64 NN.W)).setCell ⟨w.heap.size + 1 + 1, 1, none⟩ (.int .i64 NN.H)).setCell ⟨w.heap.size + 1 + 1, 2, none⟩ (.slice y.br.A NN.br.length y.br.c)).setCell ⟨w.heap.size + 1 + 1, 3, none⟩ (.slice y.ta.A NN.ta.length y.ta.c)).setCell ⟨w.heap.size + 1 + 1, 4, none⟩ (.slice y.tb.A NN.tb.length y.tb.c)).setCell ⟨w.heap.size + 1 + 1, 5, none⟩ (.slice y.bu.A NN.bu.length y.bu.c)).setCell ⟨w.heap.size + 1 + 1, 6, none⟩ (.slice y.ow.A NN.ow.length y.ow.c)).setCell ⟨w.heap.size + 1 + 1, 7, none⟩ (.slice y.tu.A NN.tu.length y.tu.c)).setCell ⟨w.heap.size + 1 + 1, 8, none⟩ (.slice y.so.A NN.so.length y.so.c)).setCell ⟨w.heap.size + 1 + 1, 9, none⟩ (.slice y.ar.A NN.ar.length y.ar.c)).setCell ⟨w.heap.size + 1 + 1, 10, none⟩ (.int .i64 NN.ti)) (w.heap.size + 1 + 1) 37 #[.int .i64 NN.W, .int .i64 NN.H, .slice y.br.A NN.br.length y.br.c, .slice y.ta.A NN.ta.length y.ta.c, .slice y.tb.A NN.tb.length y.tb.c, .slice y.bu.A NN.bu.length y.bu.c, .slice y.ow.A NN.ow.length y.ow.c, .slice y.tu.A NN.tu.length y.tu.c, .slice y.so.A NN.so.length y.so.c, .slice y.ar.A NN.ar.length y.ar.c, .int .i64 NN.ti] := by
              have hz := (((((((((((KR4.out.set_ 0 (.int .i64 NN.W)).set_ 1 (.int .i64 NN.H)).set_ 2 (.slice y.br.A NN.br.length y.br.c)).set_ 3 (.slice y.ta.A NN.ta.length y.ta.c)).set_ 4 (.slice y.tb.A NN.tb.length y.tb.c)).set_ 5 (.slice y.bu.A NN.bu.length y.bu.c)).set_ 6 (.slice y.ow.A NN.ow.length y.ow.c)).set_ 7 (.slice y.tu.A NN.tu.length y.tu.c)).set_ 8 (.slice y.so.A NN.so.length y.so.c)).set_ 9 (.slice y.ar.A NN.ar.length y.ar.c)).set_ 10 (.int .i64 NN.ti))
              simpa using hz
            have qz : Chg (w.heap.size + 1 + 1) (w.heap.size + 1 + 1 + 1) w4 (((((((((((w4.setCell ⟨w.heap.size + 1 + 1, 0, none⟩ (.int .i64 NN.W)).setCell ⟨w.heap.size + 1 + 1, 1, none⟩ (.int .i64 NN.H)).setCell ⟨w.heap.size + 1 + 1, 2, none⟩ (.slice y.br.A NN.br.length y.br.c)).setCell ⟨w.heap.size + 1 + 1, 3, none⟩ (.slice y.ta.A NN.ta.length y.ta.c)).setCell ⟨w.heap.size + 1 + 1, 4, none⟩ (.slice y.tb.A NN.tb.length y.tb.c)).setCell ⟨w.heap.size + 1 + 1, 5, none⟩ (.slice y.bu.A NN.bu.length y.bu.c)).setCell ⟨w.heap.size + 1 + 1, 6, none⟩ (.slice y.ow.A NN.ow.length y.ow.c)).setCell ⟨w.heap.size + 1 + 1, 7, none⟩ (.slice y.tu.A NN.tu.length y.tu.c)).setCell ⟨w.heap.size + 1 + 1, 8, none⟩ (.slice y.so.A NN.so.length y.so.c)).setCell ⟨w.heap.size + 1 + 1, 9, none⟩ (.slice y.ar.A NN.ar.length y.ar.c)).setCell ⟨w.heap.size + 1 + 1, 10, none⟩ (.int .i64 NN.ti)) := (((((((((((st_in w4 (w.heap.size + 1 + 1) 0 (.int .i64 NN.W)).sx 1 (.int .i64 NN.H)).sx 2 (.slice y.br.A NN.br.length y.br.c)).sx 3 (.slice y.ta.A NN.ta.length y.ta.c)).sx 4 (.slice y.tb.A NN.tb.length y.tb.c)).sx 5 (.slice y.bu.A NN.bu.length y.bu.c)).sx 6 (.slice y.ow.A NN.ow.length y.ow.c)).sx 7 (.slice y.tu.A NN.tu.length y.tu.c)).sx 8 (.slice y.so.A NN.so.length y.so.c)).sx 9 (.slice y.ar.A NN.ar.length y.ar.c)).sx 10 (.int .i64 NN.ti))
            generalize (((((((((((w4.setCell ⟨w.heap.size + 1 + 1, 0, none⟩ (.int .i64 NN.W)).setCell ⟨w.heap.size + 1 + 1, 1, none⟩ (.int .i64 NN.H)).setCell ⟨w.heap.size + 1 + 1, 2, none⟩ (.slice y.br.A NN.br.length y.br.c)).setCell ⟨w.heap.size + 1 + 1, 3, none⟩ (.slice y.ta.A NN.ta.length y.ta.c)).setCell ⟨w.heap.size + 1 + 1, 4, none⟩ (.slice y.tb.A NN.tb.length y.tb.c)).setCell ⟨w.heap.size + 1 + 1, 5, none⟩ (.slice y.bu.A NN.bu.length y.bu.c)).setCell ⟨w.heap.size + 1 + 1, 6, none⟩ (.slice y.ow.A NN.ow.length y.ow.c)).setCell ⟨w.heap.size + 1 + 1, 7, none⟩ (.slice y.tu.A NN.tu.length y.tu.c)).setCell ⟨w.heap.size + 1 + 1, 8, none⟩ (.slice y.so.A NN.so.length y.so.c)).setCell ⟨w.heap.size + 1 + 1, 9, none⟩ (.slice y.ar.A NN.ar.length y.ar.c)).setCell ⟨w.heap.size + 1 + 1, 10, none⟩ (.int .i64 NN.ti)) = wz at *
            have r0 := kf.cell 0
            have r1 := kf.cell 1
            have r2 := kf.cell 2
            have r3 := kf.cell 3
            have r4 := kf.cell 4
            have r5 := kf.cell 5
            have r6 := kf.cell 6
            have r7 := kf.cell 7
            have r8 := kf.cell 8
            have r9 := kf.cell 9
            have r10 := kf.cell 10
            simp only [List.getElem?_toArray, List.getElem?_cons_zero, List.getElem?_cons_succ] at r0 r1 r2 r3 r4 r5 r6 r7 r8 r9 r10
            have hb1 := BW.out.trans (HBEL.out.mono BW.out.size)
            have hnet : NetOwn wz wr.heap.size w4.heap.size y NN := HOWN.out.heap (fun k h1 h2 => qz.block k h2 (by have h3 := SW.out; omega))
            rw [HNN.out]
            refine bodyPost_ret (v := .tuple #[.agg #[.int .i64 NN.W, .int .i64 NN.H, .slice y.br.A NN.br.length y.br.c, .slice y.ta.A NN.ta.length y.ta.c, .slice y.tb.A NN.tb.length y.tb.c, .slice y.bu.A NN.bu.length y.bu.c, .slice y.ow.A NN.ow.length y.ow.c, .slice y.tu.A NN.tu.length y.tu.c, .slice y.so.A NN.so.length y.so.c, .slice y.ar.A NN.ar.length y.ar.c, .int .i64 NN.ti], .bool true]) (by simp [results, Try.results11, go_sem, r0, r1, r2, r3, r4, r5, r6, r7, r8, r9, r10]) rfl ⟨y, rfl, (hnet.less BW.out.size).upto qz.size, hb1.trans (qz.below (.inl (by omega)) (by have h1 := hb1.size; omega))⟩
      · rw [hall 17 (by simp)] at h17
        cases h17
end Go.Proofs.Ytffnbmaoainhmaa
end

section
namespace Go.Proofs.Ytffnbmaoainhmaa
open Go.ChangeShapes Go.WideShapes Go.ChangeAt Go.RowKit
set_option linter.unusedVariables false
set_option maxRecDepth 20000

theorem sqN_le {W H : Int} : sqG W H ≤ 256 := by
  have h := cntN_le W H
  exact Nat.mul_le_mul h h
theorem buf_is {a b c : Int} (ha : 0 ≤ a ∧ a ≤ 15) (hb : 0 ≤ b ∧ b ≤ 4) (hc : 0 ≤ c ∧ c ≤ 1) : bufN a b c = 10 * a + 2 * b + c := by
  unfold bufN
  rw [if_pos ⟨ha, hb, hc⟩]
  omega
theorem tmod_in {x m : Int} (hx : 0 ≤ x) (hm : 0 < m) : 0 ≤ Int.tmod x m ∧ Int.tmod x m ≤ m - 1 := by
  have h1 := Int.tmod_nonneg m hx
  have h2 := Int.tmod_lt_of_pos x hm
  omega
set_option maxHeartbeats 8000000 in
theorem walk_FnNewNets (A : Option Addr) (n cap : Nat) (w : World) (hr : ByteRow w w.heap.size A n) :
    Calls Try.prog 3 #[.slice A n cap] w fun e w' => e = .returned (.bool true) ∧ Below w.heap.size w w' := by
  by_cases hbig : 1048576 < n
  · go_enter Try.func3, Try.ntmps3
    go_wp2_with fail
    refine (lawsBig A n cap _).mono ?_
    rintro e w1 ⟨rfl, rfl⟩
    rw [decide_eq_true hbig]
    go_wp2_with fail
    go_ret
    exact ⟨rfl, Below.refl _ _⟩
  have HR := Lib.hid hr
  have hn : n ≤ 1048576 := by omega
  clear hr
  go_enter Try.func3, Try.ntmps3
  go_wp2_with fail
  refine (lawsBig A n cap _).mono ?_
  rintro e w1 ⟨rfl, rfl⟩
  rw [decide_eq_false hbig]
  clear hbig
  go_wp2_with fail
  refine (drawClasses A n cap _ HR.out hn).mono ?_
  rintro e w2 ⟨W, H, r, s, v, u, rfl, hok, ⟨hr1, hr4, hs1, hs4⟩, ho2, hb2⟩
  have htA := (std_facts hok hr1 hr4).1
  have htB := (std_facts hok hs1 hs4).1
  have hl1 : (stdTab W H r).length ≤ 256 := by unfold stdTab; rw [stdTo_len]; exact sqN_le
  have hl2 : (stdTab W H s).length ≤ 256 := by unfold stdTab; rw [stdTo_len]; exact sqN_le
  obtain ⟨P, hP⟩ : ∃ P, stdTab W H r = P := ⟨_, rfl⟩
  obtain ⟨Q, hQ⟩ : ∃ Q, stdTab W H s = Q := ⟨_, rfl⟩
  rw [hP] at htA hl1 ho2
  rw [hQ] at htB hl2 ho2
  have hcl := clsOk_yes htA htB
  have WN : WfL [] := fun x h => by cases h
  obtain ⟨Ap, cp, rfl, _⟩ := own_form ho2.r
  obtain ⟨Aq, cq, rfl, _⟩ := own_form ho2.c
  have HNN := Lib.hid (fun w h h2 => implNetNew W H none Ap Aq 0 0 P.length cp Q.length cq [] P Q WN w (IntAt.nil w w.heap.size none) h h2 (by omega) (by omega) (by omega))
  have hnn : netNewG W H [] P Q = newNet W H [] P Q := by rw [netNewG, if_pos hcl]
  have hok' := newNet_ok hcl
  have hins := newNet_inside hcl
  have hsm := (netNew_sm (W := W) (H := H) (L := []) (P := P) (Q := Q) (by simp) (by omega) (by omega)).1
  have hti : (newNet W H [] P Q).ti = 0 := rfl
  rw [hnn] at HNN hsm
  rw [hcl] at HNN
  obtain ⟨N, hN⟩ : ∃ N, newNet W H [] P Q = N := ⟨_, rfl⟩
  rw [hN] at HNN hok' hins hsm hti
  have hwf : WfL N.br := by rw [← hN]; exact WN
  have HOK := Lib.hid (fun y w h hc => implNetOk y N w h hsm hc hwf)
  have HIN := Lib.hid (fun y w h hc => implFlitsInside y N w h hsm hc hwf)
  have HWA := Lib.hid (fun y w h hc => implFlitsWaiting y N w h hsm hc hwf)
  rw [hok', hti] at HOK
  rw [hins.1, hti] at HIN
  rw [hins.2, hti] at HWA
  have F2 := Lib.hid (((fix_vrow ho2).al (.cells #[.int .i64 W, .int .i64 H, .slice none 0 0] 28)).al (.cells #[.slice Ap P.length cp, .slice Aq Q.length cq] 32))
  have BE := Lib.hid (below_gb hb2 (Nat.le_refl _) (gb_alloc (gb_alloc (gb_refl w2 none) (.cells #[.int .i64 W, .int .i64 H, .slice none 0 0] 28)) (.cells #[.slice Ap P.length cp, .slice Aq Q.length cq] 32)))
  clear hok hr1 hr4 hs1 hs4 ho2 hb2 htA htB hP hQ hcl hnn hok' hins hsm hN hl1 hl2 WN hwf
  go_wp2_with fail
  refine (HNN.out _ (intAt_own F2.out.here.r rfl (Nat.le_refl _)) (intAt_own F2.out.here.c rfl (Nat.le_refl _))).mono ?_
  rintro e w3 ⟨y, rfl, o3, b3⟩
  have F3 := Lib.hid ((fix_net o3).al (.cells #[.int .i64 N.W, .int .i64 N.H, .slice y.br.A N.br.length y.br.c, .slice y.ta.A N.ta.length y.ta.c, .slice y.tb.A N.tb.length y.tb.c, .slice y.bu.A N.bu.length y.bu.c, .slice y.ow.A N.ow.length y.ow.c, .slice y.tu.A N.tu.length y.tu.c, .slice y.so.A N.so.length y.so.c, .slice y.ar.A N.ar.length y.ar.c, .int .i64 0] 37))
  have K3 := Lib.hid (Blk.new w3 37 #[.int .i64 N.W, .int .i64 N.H, .slice y.br.A N.br.length y.br.c, .slice y.ta.A N.ta.length y.ta.c, .slice y.tb.A N.tb.length y.tb.c, .slice y.bu.A N.bu.length y.bu.c, .slice y.ow.A N.ow.length y.ow.c, .slice y.tu.A N.tu.length y.tu.c, .slice y.so.A N.so.length y.so.c, .slice y.ar.A N.ar.length y.ar.c, .int .i64 0])
  have R3 := Lib.hid (((Chg.refl 0 0 ((w2.alloc (.cells #[.int .i64 W, .int .i64 H, .slice none 0 0] 28)).alloc (.cells #[.slice Ap P.length cp, .slice Aq Q.length cq] 32))).bl b3).al (.cells #[.int .i64 N.W, .int .i64 N.H, .slice y.br.A N.br.length y.br.c, .slice y.ta.A N.ta.length y.ta.c, .slice y.tb.A N.tb.length y.tb.c, .slice y.bu.A N.bu.length y.bu.c, .slice y.ow.A N.ow.length y.ow.c, .slice y.tu.A N.tu.length y.tu.c, .slice y.so.A N.so.length y.so.c, .slice y.ar.A N.ar.length y.ar.c, .int .i64 0] 37))
  clear o3 b3
  go_wp2_with fail
  have BX := Lib.hid (BE.out.trans (R3.out.below (.inr (Nat.le_refl _)) BE.out.size))
  refine (drawPlaces A n cap _ ((HR.out.keep (fun p hp => World.cell?_of_block (BX.out.block p.block hp))).more BX.out.size) hn).mono ?_
  rintro e w4 ⟨pb, pc, l, rfl, hl, hlx, hlc, b4⟩
  have R4 := Lib.hid (chg_gb 0 0 (gb_of_below b4 none))
  have K4 := Lib.hid (K3.out.nx R4.out)
  have F4 := Lib.hid (F3.out.nx R4.out)
  have B4 := Lib.hid (BX.out.trans (b4.mono BX.out.size))
  obtain ⟨x0, hx0⟩ : ∃ x, l[0]? = some x := ⟨_, List.getElem?_eq_getElem (by omega)⟩
  obtain ⟨x1, hx1⟩ : ∃ x, l[1]? = some x := ⟨_, List.getElem?_eq_getElem (by omega)⟩
  obtain ⟨x2, hx2⟩ : ∃ x, l[2]? = some x := ⟨_, List.getElem?_eq_getElem (by omega)⟩
  have p0 := hlc 0 x0 hx0
  have p1 := hlc 1 x1 hx1
  have p2 := hlc 2 x2 hx2
  have i0 := tmod_in (hlx x0 (List.mem_of_getElem? hx0)).1 (show (0 : Int) < 16 by omega)
  have i1 := tmod_in (hlx x1 (List.mem_of_getElem? hx1)).1 (show (0 : Int) < 5 by omega)
  have i2 := tmod_in (hlx x2 (List.mem_of_getElem? hx2)).1 (show (0 : Int) < 2 by omega)
  obtain ⟨a, ha⟩ : ∃ a, Int.tmod x0 16 = a := ⟨_, rfl⟩
  obtain ⟨b, hb⟩ : ∃ a, Int.tmod x1 5 = a := ⟨_, rfl⟩
  obtain ⟨c, hc⟩ : ∃ a, Int.tmod x2 2 = a := ⟨_, rfl⟩
  rw [ha] at i0
  rw [hb] at i1
  rw [hc] at i2
  have hbuf := buf_is (a := a) (b := b) (c := c) (by omega) (by omega) (by omega)
  obtain ⟨z, hz⟩ : ∃ z, 10 * a + 2 * b + c = z := ⟨_, rfl⟩
  rw [hz] at hbuf
  have HBU := Lib.hid (fun w => implBufferAt a b c w)
  rw [hbuf] at HBU
  have e1 : IntKind.i64.wrap a = a := IntWalk.i64_in _ (by omega)
  have e2 : IntKind.i64.wrap b = b := IntWalk.i64_in _ (by omega)
  have e3 : IntKind.i64.wrap c = c := IntWalk.i64_in _ (by omega)
  obtain ⟨a10, h10⟩ : ∃ t, 10 * a = t := ⟨_, rfl⟩
  obtain ⟨b2, h2⟩ : ∃ t, 2 * b = t := ⟨_, rfl⟩
  have e4 : IntKind.i64.wrap (10 * a) = a10 := by rw [IntWalk.i64_in _ (by omega)]; exact h10
  have e5 : wrap64 (10 * a) = a10 := by rw [IntWalk.wrap64_in _ (by omega)]; exact h10
  have e6 : IntKind.i64.wrap (2 * b) = b2 := by rw [IntWalk.i64_in _ (by omega)]; exact h2
  have e7 : wrap64 (2 * b) = b2 := by rw [IntWalk.wrap64_in _ (by omega)]; exact h2
  obtain ⟨ab, hab⟩ : ∃ t, a10 + b2 = t := ⟨_, rfl⟩
  have e8 : IntKind.i64.wrap (a10 + b2) = ab := by rw [IntWalk.i64_in _ (by omega)]; exact hab
  have e9 : wrap64 (a10 + b2) = ab := by rw [IntWalk.wrap64_in _ (by omega)]; exact hab
  have e10 : IntKind.i64.wrap (ab + c) = z := by rw [IntWalk.i64_in _ (by omega)]; omega
  have e11 : wrap64 (ab + c) = z := by rw [IntWalk.wrap64_in _ (by omega)]; omega
  have P0 := Lib.hid p0
  have P1 := Lib.hid p1
  have P2 := Lib.hid p2
  have HTI := Lib.hid hti
  have KP := Lib.hid (fun (w' : World) (hq : Chg 0 0 w4 w') => (show w'.cell? ⟨w3.heap.size, 0, none⟩ = some (.int .i64 N.W) ∧ w'.cell? ⟨w3.heap.size, 1, none⟩ = some (.int .i64 N.H) ∧ w'.cell? ⟨w3.heap.size, 2, none⟩ = some (.slice y.br.A N.br.length y.br.c) ∧ w'.cell? ⟨w3.heap.size, 3, none⟩ = some (.slice y.ta.A N.ta.length y.ta.c) ∧ w'.cell? ⟨w3.heap.size, 4, none⟩ = some (.slice y.tb.A N.tb.length y.tb.c) ∧ w'.cell? ⟨w3.heap.size, 5, none⟩ = some (.slice y.bu.A N.bu.length y.bu.c) ∧ w'.cell? ⟨w3.heap.size, 6, none⟩ = some (.slice y.ow.A N.ow.length y.ow.c) ∧ w'.cell? ⟨w3.heap.size, 7, none⟩ = some (.slice y.tu.A N.tu.length y.tu.c) ∧ w'.cell? ⟨w3.heap.size, 8, none⟩ = some (.slice y.so.A N.so.length y.so.c) ∧ w'.cell? ⟨w3.heap.size, 9, none⟩ = some (.slice y.ar.A N.ar.length y.ar.c) ∧ w'.cell? ⟨w3.heap.size, 10, none⟩ = some (.int .i64 0) ∧ w'.cell? ⟨pb, 0, none⟩ = some (.int .i64 x0) ∧ w'.cell? ⟨pb, 1, none⟩ = some (.int .i64 x1) ∧ w'.cell? ⟨pb, 2, none⟩ = some (.int .i64 x2) from ⟨(K4.out.nx hq).cell 0, (K4.out.nx hq).cell 1, (K4.out.nx hq).cell 2, (K4.out.nx hq).cell 3, (K4.out.nx hq).cell 4, (K4.out.nx hq).cell 5, (K4.out.nx hq).cell 6, (K4.out.nx hq).cell 7, (K4.out.nx hq).cell 8, (K4.out.nx hq).cell 9, (K4.out.nx hq).cell 10, hq.still.cell P0.out (by simp), hq.still.cell P1.out (by simp), hq.still.cell P2.out (by simp)⟩))
  have NA := Lib.hid (fun (w' : World) (hq : Chg 0 0 w4 w') => (F4.out.nx hq).here.at (Nat.le_refl _))
  have NC := Lib.hid F4.out.here.cap
  have U0 := Lib.hid (Chg.refl 0 0 w4)
  clear b4 hl hlx hlc hx0 hx1 hx2 p0 p1 p2 i0 i1 i2 hbuf hz h10 h2 hab
  go_wp2_with fail
  go_region_held3 (fun w' => w'.cell? ⟨w3.heap.size, 0, none⟩ = some (.int .i64 N.W) ∧ w'.cell? ⟨w3.heap.size, 1, none⟩ = some (.int .i64 N.H) ∧ w'.cell? ⟨w3.heap.size, 2, none⟩ = some (.slice y.br.A N.br.length y.br.c) ∧ w'.cell? ⟨w3.heap.size, 3, none⟩ = some (.slice y.ta.A N.ta.length y.ta.c) ∧ w'.cell? ⟨w3.heap.size, 4, none⟩ = some (.slice y.tb.A N.tb.length y.tb.c) ∧ w'.cell? ⟨w3.heap.size, 5, none⟩ = some (.slice y.bu.A N.bu.length y.bu.c) ∧ w'.cell? ⟨w3.heap.size, 6, none⟩ = some (.slice y.ow.A N.ow.length y.ow.c) ∧ w'.cell? ⟨w3.heap.size, 7, none⟩ = some (.slice y.tu.A N.tu.length y.tu.c) ∧ w'.cell? ⟨w3.heap.size, 8, none⟩ = some (.slice y.so.A N.so.length y.so.c) ∧ w'.cell? ⟨w3.heap.size, 9, none⟩ = some (.slice y.ar.A N.ar.length y.ar.c) ∧ w'.cell? ⟨w3.heap.size, 10, none⟩ = some (.int .i64 0) ∧ w'.cell? ⟨pb, 0, none⟩ = some (.int .i64 x0) ∧ w'.cell? ⟨pb, 1, none⟩ = some (.int .i64 x1) ∧ w'.cell? ⟨pb, 2, none⟩ = some (.int .i64 x2))
    (first | with_reducible exact KP.out _ U0.out | with_reducible exact KP.out _ U0.out.dr | with_reducible exact KP.out _ U5.out | with_reducible exact KP.out _ U6.out | with_reducible exact KP.out _ U7.out | with_reducible exact KP.out _ U8.out | fail)
    (first
      | (go_at_call 13; (with_reducible refine (HOK.out y _ (NA.out _ U0.out.dr) NC.out).mono ?_); rintro e w5 ⟨rfl, g5⟩; have U5 := Lib.hid (U0.out.dr.gb g5); clear g5)
      | (go_at_call 14; (with_reducible refine (HIN.out y _ (NA.out _ U5.out) NC.out).mono ?_); rintro e w6 ⟨rfl, g6⟩; have U6 := Lib.hid (U5.out.gb g6); clear g6)
      | (go_at_call 15; (with_reducible refine (HWA.out y _ (NA.out _ U6.out) NC.out).mono ?_); rintro e w7 ⟨rfl, g7⟩; have U7 := Lib.hid (U6.out.gb g7); clear g7)
      | (go_at_call 16; (with_reducible refine (HBU.out _).mono ?_); rintro e w8 ⟨rfl, g8⟩; have U8 := Lib.hid (U7.out.gb g8); clear g8)
      | fail)
  all_goals
    go_wp2_with fail
    go_ret
    exact ⟨rfl, B4.out.trans (U8.out.below (.inr (Nat.le_refl _)) B4.out.size)⟩
end Go.Proofs.Ytffnbmaoainhmaa
end

section
namespace Go.Proofs.Ytffnbmaoainhmaa
open Go.ChangeShapes Go.WideShapes Go.ChangeAt Go.RowKit
set_option linter.unusedVariables false

section
variable {H : Type} {enc : TypeId × Value → H} {w : World} {spare : Nat → Bool} {held : Bool} {base fuel : Nat}

theorem intAt_of (x : Addr) (l : Nat) (zs : List Int) (hl : l ≤ zs.length) (hcell : ∀ i, i < zs.length → w.cell? (x.add i) = some (.int .i64 (zs.getD i 0))) :
    IntAt w w.heap.size (some x) l (zs.take l) := ⟨by simp; omega, fun hn => by
  obtain ⟨b, off, spot⟩ := x
  have hc := hcell 0 (by omega)
  have hspot : spot = none := by simpa [Addr.add] using World.cell?_spot hc
  subst hspot
  have hlt : b < w.heap.size := by simpa [Addr.add] using World.block_lt_of_cell? _ _ hc
  refine ⟨b, off, rfl, hlt, fun k y hy => ?_⟩
  have hkl : k < l := by
    rcases Nat.lt_or_ge k l with h1 | h1
    · exact h1
    · rw [List.getElem?_eq_none (by simp; omega)] at hy; cases hy
  rw [List.getElem?_take_of_lt hkl] at hy
  have h2 := hcell k (by omega)
  rw [List.getD_eq_getElem?_getD, hy] at h2
  simpa [Addr.add_lit] using h2⟩

/-- A cell that reads as a slice of integers. -/
theorem open_intS {cs : List Value} {y : DataW H × List MemPlace} (hf : DataW.trod enc Try.prog w base spare held fuel 26 cs = some y) :
    ∃ (A : Option Addr) (n cap : Nat) (L : List Int), cs = [.slice A n cap] ∧ n ≤ cap ∧ cap ≤ maxLen ∧ IntAt w w.heap.size A n L ∧ ∀ x ∈ L, (Lit.int .i64 x).wf = true := by
  rcases open_ints Try.underlying26 Try.underlying3 (by kernel_rfl) hf with ⟨hcs, _⟩ | ⟨x, l, c, zs, hcs, _, hl, hm, hz, _, hcell, hwz⟩
  · exact ⟨none, 0, 0, [], hcs, Nat.le_refl _, Nat.zero_le _, IntAt.nil _ _ _, fun x h => by cases h⟩
  · refine ⟨some x, l, c, zs.take l, hcs, hl, hm, intAt_of x l zs (by rw [hz]; split <;> omega) hcell, fun y hy => hwz y (List.mem_of_mem_take hy)⟩
end
end Go.Proofs.Ytffnbmaoainhmaa
end

section
namespace Go.Proofs.Ytffnbmaoainhmaa
open Go.ChangeShapes Go.WideShapes Go.ChangeAt Go.RowKit
set_option linter.unusedVariables false
set_option maxRecDepth 20000

section
variable {H : Type} {enc : TypeId × Value → H} {w : World} {spare : Nat → Bool} {held : Bool} {base : Nat}
theorem open_table {r : Reach} {b0 : Nat} {v : Value} {d : DataW H} {p : List MemPlace}
    (hv : Value.okWide Try.prog w r b0 48 v) (h : DataW.Trod enc Try.prog w base spare held 48 v d p) :
    ∃ (A : Option Addr) (n cap : Nat) (P : List Int), v = .agg #[.slice A n cap] ∧ n ≤ cap ∧ cap ≤ maxLen ∧ IntAt w w.heap.size A n P ∧ ∀ x ∈ P, (Lit.int .i64 x).wf = true := by
  obtain ⟨cs, rfl, hsz⟩ := okWide_struct Try.underlying48 hv
  have hC : Try.prog.cellsOf 48 = 1 := by kernel_rfl
  have hS : Try.prog.cellsOf 26 = 1 := by kernel_rfl
  obtain ⟨c0, rfl⟩ : ∃ c, cs = #[c] := by
    obtain ⟨l⟩ := cs
    have h1 : l.length = 1 := hsz.trans hC
    obtain ⟨c, rfl⟩ := List.length_eq_one_iff.1 h1
    exact ⟨c, rfl⟩
  obtain ⟨fuel, hf⟩ := h
  obtain ⟨y0, n, hx, _, h0⟩ := trod_struct1 Try.underlying48 hf
  simp [Value.cells, hS] at h0
  obtain ⟨A, l, cap, P, e2, i1, i2, i3, i4⟩ := open_intS h0
  simp at e2
  subst e2
  exact ⟨A, l, cap, P, rfl, i1, i2, i3, i4⟩
end
end Go.Proofs.Ytffnbmaoainhmaa
end

section
namespace Go.Proofs.Ytffnbmaoainhmaa
open Go.ChangeShapes Go.WideShapes Go.ChangeAt Go.RowKit
set_option linter.unusedVariables false

theorem choose_flt {n : Nat} {p : Nat → Flt → Prop} (h : ∀ i, i < n → ∃ d, p i d) : ∃ D : List Flt, D.length = n ∧ ∀ i x, D[i]? = some x → p i x := by
  induction n with
  | zero => exact ⟨[], rfl, fun i x hx => by simp at hx⟩
  | succ n ih =>
    obtain ⟨D, hl, hD⟩ := ih (fun i hi => h i (by omega))
    obtain ⟨d, hd⟩ := h n (by omega)
    refine ⟨D ++ [d], by simp [hl], fun i x hx => ?_⟩
    rcases Nat.lt_or_ge i D.length with h1 | h1
    · rw [List.getElem?_append_left h1] at hx
      exact hD i x hx
    · rw [List.getElem?_append_right h1] at hx
      rcases Nat.eq_zero_or_pos (i - D.length) with h2 | h2
      · rw [h2] at hx
        have e : d = x := by simpa using hx
        subst e
        rw [show i = n by omega]
        exact hd
      · rw [List.getElem?_eq_none (by simp; omega)] at hx; cases hx
section
variable {H : Type} {enc : TypeId × Value → H} {w : World} {spare : Nat → Bool} {held : Bool} {base fuel : Nat}
theorem five_list {α : Type} {cs : List α} (h : cs.length = 5) : ∃ a b c d e, cs = [a, b, c, d, e] := by
  match cs, h with
  | [a, b, c, d, e], _ => exact ⟨a, b, c, d, e, rfl⟩
theorem five_array {α : Type} {cs : Array α} (h : cs.size = 5) : ∃ a b c d e, cs = #[a, b, c, d, e] := by
  obtain ⟨cs⟩ := cs
  obtain ⟨a, b, c, d, e, rfl⟩ := five_list (cs := cs) (by simpa using h)
  exact ⟨a, b, c, d, e, rfl⟩
set_option maxRecDepth 100000 in
theorem open_flit {cs : List Value} {y : DataW H × List MemPlace} (hl : cs.length = 5) (hf : DataW.trod enc Try.prog w base spare held fuel 123 cs = some y) : ∃ x : Flt, cs = fltC x ∧ wfF x := by
  have hI : Try.prog.cellsOf 3 = 1 := by kernel_rfl
  have hB : Try.prog.cellsOf 4 = 1 := by kernel_rfl
  obtain ⟨c0, c1, c2, c3, c4, rfl⟩ := five_list hl
  obtain ⟨xs, k, _, _, _, hxl, hh⟩ := DataW.trod_struct Try.underlying123 hf
  obtain ⟨y0, y1, y2, y3, y4, rfl⟩ := five_list (cs := xs) (by simpa using hxl)
  have g0 := hh 0 _ rfl
  have g1 := hh 1 _ rfl
  have g2 := hh 2 _ rfl
  have g3 := hh 3 _ rfl
  have g4 := hh 4 _ rfl
  simp [hI, hB] at g0 g1 g2 g3 g4
  obtain ⟨z0, e0, _, w0⟩ := DataW.trod_int Try.underlying3 g0
  obtain ⟨z1, e1, _, w1⟩ := DataW.trod_int Try.underlying3 g1
  obtain ⟨z2, e2, _, w2⟩ := DataW.trod_int Try.underlying3 g2
  obtain ⟨b3, e3, _⟩ := DataW.trod_bool Try.underlying4 g3
  obtain ⟨b4, e4, _⟩ := DataW.trod_bool Try.underlying4 g4
  simp at e0 e1 e2 e3 e4
  subst e0 e1 e2 e3 e4
  exact ⟨⟨z0, z1, z2, b3, b4⟩, rfl, w0, w1, w2⟩
theorem open_fltS {cs : List Value} {y : DataW H × List MemPlace} (hf : DataW.trod enc Try.prog w base spare held fuel 111 cs = some y) :
    ∃ (A : Option Addr) (n cap : Nat) (D : List Flt), cs = [.slice A n cap] ∧ n ≤ cap ∧ cap ≤ maxLen ∧ RecAt 5 fltC w w.heap.size A n D ∧ ∀ d ∈ D, wfF d := by
  have hC : Try.prog.cellsOf 123 = 5 := by kernel_rfl
  rcases Go.Deep.open_slice Try.underlying111 hf with ⟨hcs, _⟩ | ⟨x, len, cap, m, k, V, Pl, hcs, _, hl, hm, hmm, _, hx⟩
  · exact ⟨none, 0, 0, [], hcs, Nat.le_refl _, Nat.zero_le _, RecAt.nil _ _ _, fun d h => by cases h⟩
  · have hlm : len ≤ m := by rw [hmm]; split <;> omega
    rw [hC] at hx
    obtain ⟨D, hD, hd⟩ := choose_flt (n := len) (p := fun i d => (∀ j v, (fltC d)[j]? = some v → w.cell? (x.add (i * 5 + j)) = some v) ∧ wfF d) (fun i hi => by
      obtain ⟨cs', h1, h2⟩ := hx i (by omega)
      obtain ⟨_, hlen, hcell⟩ := World.cells?_some h1
      obtain ⟨d, rfl, hw⟩ := open_flit hlen h2
      refine ⟨d, fun j v hv => ?_, hw⟩
      have hj := (List.getElem?_eq_some_iff.1 hv).1
      have e0 := hcell j hj
      rw [Go.Deep.add_add] at e0
      rw [e0]
      exact hv)
    refine ⟨some x, len, cap, D, hcs, hl, hm, ⟨hD, fun hn => ?_⟩, fun d hdm => ?_⟩
    · have h0 : D[0]? = some D[0] := List.getElem?_eq_getElem (by omega)
      have hc := (hd 0 _ h0).1 0 _ rfl
      obtain ⟨b, off, spot⟩ := x
      have hspot : spot = none := by simpa [Addr.add] using World.cell?_spot hc
      subst hspot
      have hlt : b < w.heap.size := by simpa [Addr.add] using World.block_lt_of_cell? _ _ hc
      refine ⟨b, off, rfl, hlt, fun j y hy i v hv => ?_⟩
      have h1 := (hd j y hy).1 i v hv
      rw [Addr.add_lit] at h1
      rw [Nat.add_assoc]
      exact h1
    · obtain ⟨j, hj, e⟩ := List.getElem_of_mem hdm
      exact (hd j d (by rw [List.getElem?_eq_getElem hj, e])).2
end
end Go.Proofs.Ytffnbmaoainhmaa
end

section
namespace Go.Proofs.Ytffnbmaoainhmaa
open Go.ChangeShapes Go.WideShapes Go.ChangeAt Go.RowKit
set_option linter.unusedVariables false

theorem choose_list {α : Type} {n : Nat} {p : Nat → α → Prop} (h : ∀ i, i < n → ∃ d, p i d) : ∃ D : List α, D.length = n ∧ ∀ i x, D[i]? = some x → p i x := by
  induction n with
  | zero => exact ⟨[], rfl, fun i x hx => by simp at hx⟩
  | succ n ih =>
    obtain ⟨D, hl, hD⟩ := ih (fun i hi => h i (by omega))
    obtain ⟨d, hd⟩ := h n (by omega)
    refine ⟨D ++ [d], by simp [hl], fun i x hx => ?_⟩
    rcases Nat.lt_or_ge i D.length with h1 | h1
    · rw [List.getElem?_append_left h1] at hx
      exact hD i x hx
    · rw [List.getElem?_append_right h1] at hx
      rcases Nat.eq_zero_or_pos (i - D.length) with h2 | h2
      · rw [h2] at hx
        have e : d = x := by simpa using hx
        subst e
        rw [show i = n by omega]
        exact hd
      · rw [List.getElem?_eq_none (by simp; omega)] at hx; cases hx
section
variable {H : Type} {enc : TypeId × Value → H} {w : World} {spare : Nat → Bool} {held : Bool} {base fuel : Nat}
theorem open_fltSS {cs : List Value} {y : DataW H × List MemPlace} (hf : DataW.trod enc Try.prog w base spare held fuel 62 cs = some y) :
    ∃ (A : Option Addr) (n cap : Nat) (DD : List (List Flt)), cs = [.slice A n cap] ∧ n ≤ cap ∧ cap ≤ maxLen ∧ RecsAt 5 fltC w w.heap.size A n DD ∧ ∀ D ∈ DD, ∀ d ∈ D, wfF d := by
  have hC : Try.prog.cellsOf 111 = 1 := by kernel_rfl
  rcases Go.Deep.open_slice Try.underlying62 hf with ⟨hcs, _⟩ | ⟨x, len, cap, m, k, V, Pl, hcs, _, hl, hm, hmm, _, hx⟩
  · exact ⟨none, 0, 0, [], hcs, Nat.le_refl _, Nat.zero_le _, RecsAt.nil _ _ _, fun D h => by cases h⟩
  · have hlm : len ≤ m := by rw [hmm]; split <;> omega
    rw [hC] at hx
    obtain ⟨DD, hD, hd⟩ := choose_list (n := len) (p := fun i D => (∃ A' c', w.cell? (x.add i) = some (.slice A' D.length c') ∧ (D.length ≤ c' ∧ c' ≤ maxLen) ∧ RecAt 5 fltC w w.heap.size A' D.length D) ∧ ∀ d ∈ D, wfF d) (fun i hi => by
      obtain ⟨cs', h1, h2⟩ := hx i (by omega)
      obtain ⟨_, hlen, hcell⟩ := World.cells?_some h1
      obtain ⟨A', n', c', D, rfl, h3, h4, h5, h6⟩ := open_fltS h2
      have e0 := hcell 0 (by omega)
      rw [Go.Deep.add_add, Nat.mul_one, Nat.add_zero] at e0
      have hn' := h5.1
      subst hn'
      exact ⟨D, ⟨A', c', by rw [e0]; rfl, ⟨h3, h4⟩, h5⟩, h6⟩)
    refine ⟨some x, len, cap, DD, hcs, hl, hm, ⟨hD, fun hn => ?_⟩, fun D hDm => ?_⟩
    · have h0 : DD[0]? = some DD[0] := List.getElem?_eq_getElem (by omega)
      obtain ⟨⟨A', c', hc, _⟩, _⟩ := hd 0 _ h0
      obtain ⟨b, off, spot⟩ := x
      have hspot : spot = none := by simpa [Addr.add] using World.cell?_spot hc
      subst hspot
      have hlt : b < w.heap.size := by simpa [Addr.add] using World.block_lt_of_cell? _ _ hc
      refine ⟨b, off, rfl, hlt, fun j D hj => ?_⟩
      obtain ⟨⟨A2, c2, hc2, h3, h4⟩, _⟩ := hd j D hj
      rw [Addr.add_lit] at hc2
      exact ⟨A2, c2, hc2, h3, h4⟩
    · obtain ⟨j, hj, e⟩ := List.getElem_of_mem hDm
      exact (hd j D (by rw [List.getElem?_eq_getElem hj, e])).2
end
end Go.Proofs.Ytffnbmaoainhmaa
end

section
namespace Go.Proofs.Ytffnbmaoainhmaa
open Go.ChangeShapes Go.WideShapes Go.ChangeAt Go.RowKit
set_option linter.unusedVariables false

/-- The numbers in a network fit into 64 bits. -/
structure NetWf (N : Nt) : Prop where
  W : (Lit.int .i64 N.W).wf = true
  H : (Lit.int .i64 N.H).wf = true
  ti : (Lit.int .i64 N.ti).wf = true
  br : ∀ x ∈ N.br, (Lit.int .i64 x).wf = true
  ta : ∀ x ∈ N.ta, (Lit.int .i64 x).wf = true
  tb : ∀ x ∈ N.tb, (Lit.int .i64 x).wf = true
  ow : ∀ x ∈ N.ow, (Lit.int .i64 x).wf = true
  tu : ∀ x ∈ N.tu, (Lit.int .i64 x).wf = true
  bu : ∀ D ∈ N.bu, ∀ d ∈ D, wfF d
  so : ∀ D ∈ N.so, ∀ d ∈ D, wfF d
  ar : ∀ D ∈ N.ar, ∀ d ∈ D, wfF d
theorem eleven_array {α : Type} {cs : Array α} (h : cs.size = 11) : ∃ c0 c1 c2 c3 c4 c5 c6 c7 c8 c9 c10, cs = #[c0, c1, c2, c3, c4, c5, c6, c7, c8, c9, c10] := by
  obtain ⟨l⟩ := cs
  match l, h with
  | [c0, c1, c2, c3, c4, c5, c6, c7, c8, c9, c10], _ => exact ⟨c0, c1, c2, c3, c4, c5, c6, c7, c8, c9, c10, rfl⟩
section
variable {H : Type} {enc : TypeId × Value → H} {w : World} {spare : Nat → Bool} {held : Bool} {base fuel : Nat}
set_option maxRecDepth 100000 in
theorem open_net {r : Reach} {b0 : Nat} {v : Value} {d : DataW H} {p : List MemPlace}
    (hv : Value.okWide Try.prog w r b0 64 v) (h : DataW.Trod enc Try.prog w base spare held 64 v d p) :
    ∃ (y : Na) (N : Nt), v = .agg #[.int .i64 N.W, .int .i64 N.H, .slice y.br.A N.br.length y.br.c, .slice y.ta.A N.ta.length y.ta.c, .slice y.tb.A N.tb.length y.tb.c, .slice y.bu.A N.bu.length y.bu.c, .slice y.ow.A N.ow.length y.ow.c, .slice y.tu.A N.tu.length y.tu.c, .slice y.so.A N.so.length y.so.c, .slice y.ar.A N.ar.length y.ar.c, .int .i64 N.ti] ∧ NetCap y N ∧ NetIn w w.heap.size y N ∧ NetWf N := by
  obtain ⟨cs, rfl, hsz⟩ := okWide_struct Try.underlying64 hv
  have hC : Try.prog.cellsOf 64 = 11 := by kernel_rfl
  have hM : Try.prog.cellsOf 47 = 3 := by kernel_rfl
  have hG : Try.prog.cellsOf 45 = 2 := by kernel_rfl
  have hL : Try.prog.cellsOf 50 = 2 := by kernel_rfl
  have hT : Try.prog.cellsOf 48 = 1 := by kernel_rfl
  have hS : Try.prog.cellsOf 26 = 1 := by kernel_rfl
  have hF : Try.prog.cellsOf 62 = 1 := by kernel_rfl
  have hI : Try.prog.cellsOf 3 = 1 := by kernel_rfl
  obtain ⟨c0, c1, c2, c3, c4, c5, c6, c7, c8, c9, c10, rfl⟩ := eleven_array (hsz.trans hC)
  obtain ⟨fuel, hf⟩ := h
  obtain ⟨xs, k, _, _, _, hxl, hh⟩ := DataW.trod_struct Try.underlying64 hf
  match xs, hxl with
  | [y0, y1, y2, y3, y4, y5, y6, y7], _ =>
    have g0 := hh 0 _ rfl
    have g1 := hh 1 _ rfl
    have g2 := hh 2 _ rfl
    have g3 := hh 3 _ rfl
    have g4 := hh 4 _ rfl
    have g5 := hh 5 _ rfl
    have g6 := hh 6 _ rfl
    have g7 := hh 7 _ rfl
    simp [Value.cells, hM, hL, hF, hS, hI] at g0 g1 g2 g3 g4 g5 g6 g7
    obtain ⟨z0, z1, m, _, _, gg, gb⟩ := trod_struct2 Try.underlying47 g0
    simp [hG, hS] at gg gb
    obtain ⟨z2, z3, m2, _, _, gw, gh⟩ := trod_struct2 Try.underlying45 gg
    simp [hI] at gw gh
    obtain ⟨u0, u1, m3, _, _, ga, gc⟩ := trod_struct2 Try.underlying50 g1
    simp [hT] at ga gc
    obtain ⟨u2, m4, _, _, ga2⟩ := trod_struct1 Try.underlying48 ga
    obtain ⟨u3, m5, _, _, gc2⟩ := trod_struct1 Try.underlying48 gc
    simp [hS] at ga2 gc2
    obtain ⟨W, e0, _, w0⟩ := DataW.trod_int Try.underlying3 gw
    obtain ⟨Hh, e1, _, w1⟩ := DataW.trod_int Try.underlying3 gh
    obtain ⟨Ti, e10, _, w10⟩ := DataW.trod_int Try.underlying3 g7
    obtain ⟨Abr, nbr, cbr, Lbr, e2, ibr1, ibr2, ibr3, ibr4⟩ := open_intS gb
    obtain ⟨Ata, nta, cta, Lta, e3, ita1, ita2, ita3, ita4⟩ := open_intS ga2
    obtain ⟨Atb, ntb, ctb, Ltb, e4, itb1, itb2, itb3, itb4⟩ := open_intS gc2
    obtain ⟨Abu, nbu, cbu, Lbu, e5, ibu1, ibu2, ibu3, ibu4⟩ := open_fltSS g2
    obtain ⟨Aow, now, cow, Low, e6, iow1, iow2, iow3, iow4⟩ := open_intS g3
    obtain ⟨Atu, ntu, ctu, Ltu, e7, itu1, itu2, itu3, itu4⟩ := open_intS g4
    obtain ⟨Aso, nso, cso, Lso, e8, iso1, iso2, iso3, iso4⟩ := open_fltSS g5
    obtain ⟨Aar, nar, car, Lar, e9, iar1, iar2, iar3, iar4⟩ := open_fltSS g6
    simp at e0 e1 e2 e3 e4 e5 e6 e7 e8 e9 e10
    subst e0 e1 e2 e3 e4 e5 e6 e7 e8 e9 e10
    have hlbr := ibr3.1
    subst hlbr
    have hlta := ita3.1
    subst hlta
    have hltb := itb3.1
    subst hltb
    have hlbu := ibu3.1
    subst hlbu
    have hlow := iow3.1
    subst hlow
    have hltu := itu3.1
    subst hltu
    have hlso := iso3.1
    subst hlso
    have hlar := iar3.1
    subst hlar
    exact ⟨⟨⟨Abr, cbr⟩, ⟨Ata, cta⟩, ⟨Atb, ctb⟩, ⟨Abu, cbu⟩, ⟨Aow, cow⟩, ⟨Atu, ctu⟩, ⟨Aso, cso⟩, ⟨Aar, car⟩⟩, ⟨W, Hh, Lbr, Lta, Ltb, Lbu, Low, Ltu, Lso, Lar, Ti⟩, rfl, ⟨⟨ibr1, ibr2⟩, ⟨ita1, ita2⟩, ⟨itb1, itb2⟩, ⟨ibu1, ibu2⟩, ⟨iow1, iow2⟩, ⟨itu1, itu2⟩, ⟨iso1, iso2⟩, ⟨iar1, iar2⟩⟩, ⟨ibr3, ita3, itb3, iow3, itu3, ibu3, iso3, iar3⟩, ⟨w0, w1, w10, ibr4, ita4, itb4, iow4, itu4, ibu4, iso4, iar4⟩⟩
end
end Go.Proofs.Ytffnbmaoainhmaa
end
