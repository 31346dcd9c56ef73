/- What is proved here: merging two ascending lists of dependencies by taking the least head each time, as mathematics; nothing of the program; what the program's MergeDepends returns; only new blocks are written; what the program's ShiftDepends returns; only new blocks are written; the program's dependencies of two classes; only new blocks are written; the program's verdict on two classes; only new blocks are written; what 'append' yields where a whole slice of numbers is appended: onto a row of the call's own, and onto a slice without spare memory; nothing of the program; the contract of a function that returns a new table and whether there is one; nothing of the program; the table of a class as mathematics, and what a function that returns a table and whether there is one gives; nothing of the program; the program's table of a class, and the library's copy of a slice of numbers; only new blocks are written; the law on classes answers true, for every draw, where the sentinel holds an error; only new blocks are written. -/
import Derived.Test.YtcmlnokfjbglaaaDoorMC
import Derived.OwnWalk
import Derived.Deep.RegionHeld3
import Derived.Deep.AppendSrc
import Derived.Lib.SliceRun
section
namespace Go.Proofs.YtcmlnokfjbglaaaDoor
open Go.ChangeShapes Go.WideShapes Go.ChangeAt Go.RowKit
set_option linter.unusedVariables false

/-- D and E have been merged up to M; A and B are left of them. -/
structure Mrg (D E M A B : List Dep) : Prop where
  asc : ascD M
  ascA : ascD A
  ascB : ascD B
  lt : ∀ m ∈ M, ∀ x, x ∈ A ∨ x ∈ B → ltD m x = true
  mem : ∀ x, x ∈ M ∨ x ∈ A ∨ x ∈ B ↔ x ∈ D ∨ x ∈ E
  len : M.length + A.length + B.length ≤ D.length + E.length
theorem Mrg.start {D E : List Dep} (hD : ascD D) (hE : ascD E) : Mrg D E [] D E :=
  ⟨asc_nil, hD, hE, (fun m hm => by cases hm), (fun x => by simp), (by simp)⟩
theorem mrg_asc {M : List Dep} {x : Dep} (hM : ascD M) (h : ∀ m ∈ M, ltD m x = true) : ascD (M ++ [x]) :=
  List.pairwise_append.2 ⟨hM, List.pairwise_singleton _ _, fun m hm y hy => by rw [List.mem_singleton.1 hy]; exact h m hm⟩
section
variable {D E M A B : List Dep} {a b : Dep}
/-- The first list's head is the least. -/
theorem Mrg.left (h : Mrg D E M (a :: A) (b :: B)) (hab : ltD a b = true) : Mrg D E (M ++ [a]) A (b :: B) := by
  obtain ⟨h1, h2⟩ := List.pairwise_cons.1 h.ascA
  obtain ⟨h3, h4⟩ := List.pairwise_cons.1 h.ascB
  refine ⟨mrg_asc h.asc fun m hm => h.lt m hm a (.inl (List.mem_cons_self ..)), h2, h.ascB, ?_, ?_, ?_⟩
  · intro m hm x hx
    rcases List.mem_append.1 hm with hm | hm
    · exact h.lt m hm x (hx.imp (List.mem_cons_of_mem _) id)
    · rw [List.mem_singleton.1 hm]
      rcases hx with hx | hx
      · exact h1 x hx
      · rcases List.mem_cons.1 hx with rfl | hx
        · exact hab
        · exact ltD_trans hab (h3 x hx)
  · intro x
    rw [← h.mem x]
    simp only [List.mem_append, List.mem_cons, List.not_mem_nil, or_false]
    constructor
    · rintro ((k | k) | k | k)
      · exact .inl k
      · exact .inr (.inl (.inl k))
      · exact .inr (.inl (.inr k))
      · exact .inr (.inr k)
    · rintro (k | (k | k) | k)
      · exact .inl (.inl k)
      · exact .inl (.inr k)
      · exact .inr (.inl k)
      · exact .inr (.inr k)
  · have := h.len
    simp at this ⊢
    omega
/-- The second list's head is the least. -/
theorem Mrg.right (h : Mrg D E M (a :: A) (b :: B)) (hba : ltD b a = true) : Mrg D E (M ++ [b]) (a :: A) B := by
  have hs : Mrg E D M (b :: B) (a :: A) := ⟨h.asc, h.ascB, h.ascA, fun m hm x hx => h.lt m hm x hx.symm, fun x => by
    have := h.mem x
    constructor
    · rintro (k | k | k)
      · exact (this.1 (.inl k)).symm
      · exact (this.1 (.inr (.inr k))).symm
      · exact (this.1 (.inr (.inl k))).symm
    · intro k
      rcases this.2 k.symm with k | k | k
      · exact .inl k
      · exact .inr (.inr k)
      · exact .inr (.inl k), by have := h.len; omega⟩
  have hr := hs.left hba
  exact ⟨hr.asc, hr.ascB, hr.ascA, fun m hm x hx => hr.lt m hm x hx.symm, fun x => by
    have := hr.mem x
    constructor
    · rintro (k | k | k)
      · exact (this.1 (.inl k)).symm
      · exact (this.1 (.inr (.inr k))).symm
      · exact (this.1 (.inr (.inl k))).symm
    · intro k
      rcases this.2 k.symm with k | k | k
      · exact .inl k
      · exact .inr (.inr k)
      · exact .inr (.inl k), by have := hr.len; omega⟩
/-- Both heads are the same element. -/
theorem Mrg.both (h : Mrg D E M (a :: A) (a :: B)) : Mrg D E (M ++ [a]) A B := by
  obtain ⟨h1, h2⟩ := List.pairwise_cons.1 h.ascA
  obtain ⟨h3, h4⟩ := List.pairwise_cons.1 h.ascB
  refine ⟨mrg_asc h.asc fun m hm => h.lt m hm a (.inl (List.mem_cons_self ..)), h2, h4, ?_, ?_, ?_⟩
  · intro m hm x hx
    rcases List.mem_append.1 hm with hm | hm
    · exact h.lt m hm x (hx.imp (List.mem_cons_of_mem _) (List.mem_cons_of_mem _))
    · rw [List.mem_singleton.1 hm]
      rcases hx with hx | hx
      · exact h1 x hx
      · exact h3 x hx
  · intro x
    rw [← h.mem x]
    simp only [List.mem_append, List.mem_cons, List.not_mem_nil, or_false]
    constructor
    · rintro ((k | k) | k | k)
      · exact .inl k
      · exact .inr (.inl (.inl k))
      · exact .inr (.inl (.inr k))
      · exact .inr (.inr (.inr k))
    · rintro (k | (k | k) | (k | k))
      · exact .inl (.inl k)
      · exact .inl (.inr k)
      · exact .inr (.inl k)
      · exact .inl (.inr k)
      · exact .inr (.inr k)
  · have := h.len
    simp at this ⊢
    omega
/-- One list is used up: what is left goes to the end. -/
theorem Mrg.stop (h : Mrg D E M A B) (hD : ascD D) (he : A = [] ∨ B = []) : M ++ A ++ B = insAll D E := by
  have hab : ascD (A ++ B) := by
    rcases he with rfl | rfl
    · exact h.ascB
    · rw [List.append_nil]; exact h.ascA
  have hall : ascD (M ++ (A ++ B)) := List.pairwise_append.2 ⟨h.asc, hab, fun m hm x hx => h.lt m hm x (List.mem_append.1 hx)⟩
  rw [List.append_assoc]
  refine asc_ext _ _ hall (insAll_asc hD E) fun x => ?_
  rw [mem_insAll, ← h.mem x, List.mem_append, List.mem_append]
/-- The same by places: the heads are the elements i and j. -/
theorem drop_cons {D : List Dep} {i : Nat} (h : i < D.length) : D.drop i = atD D i :: D.drop (i + 1) := by
  rw [atD_get h]
  exact List.drop_eq_getElem_cons h
end
end Go.Proofs.YtcmlnokfjbglaaaDoor
end

section
namespace Go.Proofs.YtcmlnokfjbglaaaDoor
open Go.ChangeShapes Go.WideShapes Go.ChangeAt Go.RowKit
set_option linter.unusedVariables false
set_option maxRecDepth 20000

/-- A list of the call's own that has become M; Da and Ea are left of the arguments. -/
structure MgAt (D E M Da Ea : List Dep) (A1 A2 : Option Addr) (n1 c1 n2 c2 : Nat) (w : World) (v : Value) (wr : World) : Prop where
  mrg : Mrg D E M Da Ea
  a : DepAt w w.heap.size A1 n1 Da
  b : DepAt w w.heap.size A2 n2 Ea
  ca : n1 ≤ c1
  cb : n2 ≤ c2
  own : wr.ownsRow w.heap.size 62 2 v M.length (depV M)
  lb : Below w.heap.size w wr
def lenMg : Value → Nat | .slice _ n _ => n | _ => 0
section
variable {D E M Da Ea : List Dep} {A1 A2 : Option Addr} {n1 c1 n2 c2 : Nat} {w wr w' : World} {v : Value}
theorem MgAt.gb (h : MgAt D E M Da Ea A1 A2 n1 c1 n2 c2 w v wr) (hg : wr.grownBy w' none) : MgAt D E M Da Ea A1 A2 n1 c1 n2 c2 w v w' := ⟨h.mrg, h.a, h.b, h.ca, h.cb, own_none h.own hg, below_gb h.lb (Nat.le_refl _) hg⟩
end
theorem run_eqlDI {x d : Dep} {b : Bool} (h : decide (x = d) = b) (w : World) : (binOp .eql 62 (.agg #[.int .i64 x.1, .int .i64 x.2]) (.agg #[.int .i64 d.1, .int .i64 d.2])).run Tryd.prog w = .ok (.bool b) w := by
  have hst : Tryd.prog.stoodInHeld 62 = false := by kernel_rfl
  subst h
  by_cases h1 : x.1 = d.1
  · by_cases h2 : x.2 = d.2
    · have h3 : x = d := Prod.ext h1 h2
      simp [go_sem, Tryd.underlying62, Tryd.underlying3, hst, h3]
    · have h3 : ¬ x = d := fun e => h2 (by rw [e])
      simp [go_sem, Tryd.underlying62, Tryd.underlying3, hst, h1, h2, h3]
  · have h3 : ¬ x = d := fun e => h1 (by rw [e])
    simp [go_sem, Tryd.underlying62, Tryd.underlying3, hst, h1, h3]
/-- The first element and the rest of a slice that is not empty. -/
theorem depAt_head {w : World} {B n : Nat} {A : Option Addr} {D : List Dep} (h : DepAt w B A n D) (hn : 0 < n) : ∃ b off x D', A = some ⟨b, off, none⟩ ∧ b < B ∧ D = x :: D' ∧ DepAt w B (some ⟨b, off + 2, none⟩) (n - 1) D' := by
  have hl := h.1
  cases D with
  | nil => simp at hl; omega
  | cons x D' =>
    obtain ⟨b, off, rfl, hb, _⟩ := h.at 0 hn
    exact ⟨b, off, x, D', rfl, hb, rfl, h.drop (k := 1) hn⟩
theorem depAt_cells {w : World} {B n b off : Nat} {x : Dep} {D : List Dep} (h : DepAt w B (some ⟨b, off, none⟩) n (x :: D)) (hn : 0 < n) : w.cell? ⟨b, off, none⟩ = some (.int .i64 x.1) ∧ w.cell? ⟨b, off + 1, none⟩ = some (.int .i64 x.2) := by
  obtain ⟨b', off', e, _, h1, h2⟩ := h.at 0 hn
  injection e with e
  injection e with e1 e2
  subst e1 e2
  rw [Nat.zero_mul, Nat.add_zero] at h1 h2
  exact ⟨h1, h2⟩
theorem gb_drM {a b : World} {row : Option Nat} (h : a.drew.grownBy b row) : a.grownBy b row := ⟨h.os, h.tape, h.output, h.size, h.block⟩
theorem depAt_less {w : World} {B n : Nat} {A A' : Option Addr} {D : List Dep} (h : DepAt w B A n D) (h0 : n = 0) : DepAt w B A' n D := ⟨h.1, fun hp => by omega⟩

set_option maxHeartbeats 3200000 in
theorem implMerge (A A2 : Option Addr) (n cap n2 c2 : Nat) (D E : List Dep) (w : World) (h : DepAt w w.heap.size A n D) (h2 : DepAt w w.heap.size A2 n2 E) (hn : n ≤ 1000000000) (hn2 : n2 ≤ 1000000000) (hc : n ≤ cap) (hc2 : n2 ≤ c2) :
    Calls Tryd.prog 19 #[.slice A n cap, .slice A2 n2 c2] w (NewD (mergeD D E) w) := by
  obtain ⟨i0, hi, hz0, hz1, hz2⟩ := info_parts info_dep
  have hl := h.1
  have hl2 := h2.1
  have HI := Lib.hid h
  have HI2 := Lib.hid h2
  have HOK := Lib.hid (implDependsOk A n cap D w h (by omega))
  have HOK2 := Lib.hid (fun (w' : World) (h' : DepAt w' w'.heap.size A2 n2 E) => implDependsOk A2 n2 c2 E w' h' (by omega))
  have HCMP := Lib.hid (fun x y w => implCompare x y w)
  clear h h2
  cases hok : okD D with
  | false =>
    rw [merge_no1 hok]
    rw [hok] at HOK
    clear hok
    go_enter Tryd.func19, Tryd.ntmps19
    go_wp2_with fail
    refine HOK.out.mono ?_
    rintro e w1 ⟨rfl, hg1⟩
    have G1 := Lib.hid hg1
    clear hg1
    go_wp2_with fail
    go_ret
    exact ⟨_, rfl, own_nilD rfl _ _, gb_below_none G1.out (Nat.le_refl _)⟩
  | true =>
    rw [hok] at HOK
    cases hok2 : okD E with
    | false =>
      rw [merge_no2 hok2]
      rw [hok2] at HOK2
      clear hok hok2
      go_enter Tryd.func19, Tryd.ntmps19
      go_wp2_with fail
      refine HOK.out.mono ?_
      rintro e w1 ⟨rfl, hg1⟩
      have G1 := Lib.hid hg1
      clear hg1
      go_wp2_with fail
      refine (HOK2.out _ ((HI2.out.none (Nat.le_refl _) G1.out).more G1.out.size)).mono ?_
      rintro e w2 ⟨rfl, hg2⟩
      have G2 := Lib.hid (gb_trans G1.out hg2)
      clear hg2
      go_wp2_with fail
      go_ret
      exact ⟨_, rfl, own_nilD rfl _ _, gb_below_none G2.out (Nat.le_refl _)⟩
    | true =>
      have HM := Lib.hid (merge_yes hok hok2)
      have HASC := Lib.hid (okD_asc hok)
      have HST := Lib.hid (Mrg.start (okD_asc hok) (okD_asc hok2))
      rw [hok2] at HOK2
      obtain ⟨R, hR⟩ : ∃ R, mergeD D E = R := ⟨_, rfl⟩
      rw [hR] at HM
      rw [hR]
      have hcs : IntKind.i64.wrap ((n : Int) + (n2 : Int)) = (n : Int) + (n2 : Int) := IntWalk.i64_in _ (by omega)
      clear hok hok2 hR
      go_enter Tryd.func19, Tryd.ntmps19
      go_wp2_with fail
      refine HOK.out.mono ?_
      rintro e w1 ⟨rfl, hg1⟩
      have G1 := Lib.hid hg1
      clear hg1
      go_wp2_with fail
      refine (HOK2.out _ ((HI2.out.none (Nat.le_refl _) G1.out).more G1.out.size)).mono ?_
      rintro e w2 ⟨rfl, hg2⟩
      have G2 := Lib.hid (gb_trans G1.out hg2)
      clear hg2
      go_wp2_with (at_make; refine wpList_make_own _ rfl _ _ 42 rfl w.heap.size 62 i0 (.agg #[.int .i64 0, .int .i64 0]) 2 Tryd.underlying42 hi hz0 hz1 .i64 .i64 _ (n + n2) rfl rfl (by omega) (by rw [hz2]; omega) (by unfold maxLen; omega) G2.out.size ?_; intro w3 hown3 hgrow3)
      have X3 := Lib.hid (show MgAt D E [] D E A A2 n cap n2 c2 w _ w3 from ⟨HST.out, HI.out, HI2.out, hc, hc2, hown3, gb_below_none (gb_trans G2.out hgrow3) (Nat.le_refl _)⟩)
      clear hown3 hgrow3 hcs hc hc2
      go_loopw [0, 1, 5] (fun s t v wr => ∃ (M Da Ea : List Dep) (A1 A2 : Option Addr) (n1 c1 n2 c2 : Nat), s = .slice A1 n1 c1 ∧ t = .slice A2 n2 c2 ∧ MgAt D E M Da Ea A1 A2 n1 c1 n2 c2 w v wr) (fun s t _ _ => lenMg s + lenMg t)
      case atStart => exact ⟨[], D, E, A, A2, n, cap, n2, c2, rfl, rfl, X3.out⟩
      case round =>
        obtain ⟨M, Da, Ea, A1, A3, n1, c1, n3, c3, rfl, rfl, hx⟩ := hrel
        have X4 := Lib.hid hx
        obtain ⟨Av, cv, rfl, _⟩ := own_form hx.own
        have hlm := hx.mrg.len
        have ha1 := hx.a.1
        have hb1 := hx.b.1
        have hsz := hx.lb.size
        by_cases hp1 : 0 < n1
        · by_cases hp3 : 0 < n3
          · obtain ⟨b1, o1, x, Da, rfl, hbb1, rfl, ha2⟩ := depAt_head hx.a hp1
            obtain ⟨b3, o3, y, Ea, rfl, hbb3, rfl, hb2⟩ := depAt_head hx.b hp3
            have HA := Lib.hid (And.intro hx.ca ha2)
            have HB := Lib.hid (And.intro hx.cb hb2)
            have hca := hx.ca
            have hcb := hx.cb
            obtain ⟨hx0, hx1⟩ := depAt_cells (hx.a.below hx.lb) hp1
            have q1 : (0 : Int) < (n1 : Int) := by omega
            have q3 : (0 : Int) < (n3 : Int) := by omega
            clear hx ha2 hb2
            simp only [List.length_cons] at ha1 hb1 hlm
            by_cases hlt : ltD y x = true
            · have hc0 : cmpD y x < 0 := cmpD_neg.2 hlt
              have hne : x ≠ y := fun e => by rw [e, ltD_irrefl] at hlt; cases hlt
              have HE1 := run_eqlDI (x := x) (d := y) (b := false) (decide_eq_false hne)
              have HE2 := run_eqlDI (x := y) (d := y) (b := true) (decide_eq_true rfl)
              have HMR := Lib.hid (show Mrg D E (M ++ [y]) (x :: Da) Ea from X4.out.mrg.right hlt)
              go_wp2_with fail
              change Code.wp _ _ _ _ (boxD x wr)
              have L1 := Lib.hid (boxD_gb x wr)
              have K1 := Lib.hid (boxD_blk x wr)
              have X5 := Lib.hid (X4.out.gb L1.out)
              obtain ⟨hy0, hy1⟩ := depAt_cells (X5.out.b.below X5.out.lb) hp3
              have hk0 : (boxD x wr).cell? ⟨wr.heap.size, 0, none⟩ = some (.int .i64 x.1) := K1.out.cell 0
              have hk1 : (boxD x wr).cell? ⟨wr.heap.size, 1, none⟩ = some (.int .i64 x.2) := K1.out.cell 1
              have HW1 := Lib.hid (show wr.heap.size < (boxD x wr).heap.size from K1.out.lt)
              clear hx0 hx1
              obtain ⟨W1, hW1⟩ : ∃ W1, boxD x wr = W1 := ⟨_, rfl⟩
              rw [hW1] at L1 K1 X5 hy0 hy1 hk0 hk1 HW1 ⊢
              obtain ⟨gx, hgx⟩ : ∃ gx, wr.heap.size = gx := ⟨_, rfl⟩
              have HGX := Lib.hid hgx
              rw [hgx] at K1 hk0 hk1 HW1 hsz ⊢
              clear hW1 hgx
              go_wp2_with fail
              go_region_held3 (fun w' => w'.cell? ⟨gx, 0, none⟩ = some (.int .i64 x.1) ∧ w'.cell? ⟨gx, 1, none⟩ = some (.int .i64 x.2) ∧ w'.cell? ⟨b3, o3, none⟩ = some (.int .i64 y.1) ∧ w'.cell? ⟨b3, o3 + 1, none⟩ = some (.int .i64 y.2))
                (first | exact ⟨hk0, hk1, hy0, hy1⟩ | exact ⟨d0, d1, d2, d3⟩ | fail)
                (first
                  | (go_at_call 23; (with_reducible refine (HCMP.out y x _).mono ?_); rintro e w4 ⟨rfl, hg4⟩; have h4 := gb_drM hg4; have d0 := h4.cell hk0 (by simp); have d1 := h4.cell hk1 (by simp); have d2 := h4.cell hy0 (by simp); have d3 := h4.cell hy1 (by simp); have L4 := Lib.hid (gb_trans L1.out h4); have K4 := Lib.hid (K1.out.grown h4 (by simp)); clear h4 hg4)
                  | fail)
              all_goals
                clear hk0 hk1 hy0 hy1
                have f0 := K4.out.frozen 0
                have f1 := K4.out.frozen 1
                have L5 := Lib.hid (show wr.grownBy ((w4.setCell ⟨gx, 0, none⟩ (.int .i64 y.1)).setCell ⟨gx, 1, none⟩ (.int .i64 y.2)) none from gb_setCell (gb_setCell L4.out (.inr (Nat.le_of_eq HGX.out)) _) (.inr (Nat.le_of_eq HGX.out)) _)
                have K5 := Lib.hid (show Blk ((w4.setCell ⟨gx, 0, none⟩ (.int .i64 y.1)).setCell ⟨gx, 1, none⟩ (.int .i64 y.2)) gx 62 #[.int .i64 y.1, .int .i64 y.2] by have := (K4.out.set_ 0 (.int .i64 y.1)).set_ 1 (.int .i64 y.2); simpa using this)
                have e0 : ((w4.setCell ⟨gx, 0, none⟩ (.int .i64 y.1)).setCell ⟨gx, 1, none⟩ (.int .i64 y.2)).cell? ⟨gx, 0, none⟩ = some (.int .i64 y.1) := K5.out.cell 0
                have e1 : ((w4.setCell ⟨gx, 0, none⟩ (.int .i64 y.1)).setCell ⟨gx, 1, none⟩ (.int .i64 y.2)).cell? ⟨gx, 1, none⟩ = some (.int .i64 y.2) := K5.out.cell 1
                have S5 : ((w4.setCell ⟨gx, 0, none⟩ (.int .i64 y.1)).setCell ⟨gx, 1, none⟩ (.int .i64 y.2)).heap.size = w4.heap.size := by simp
                have L6 := Lib.hid (gb_alloc L5.out (.cells #[.int .i64 y.1, .int .i64 y.2] 62))
                have X6 := Lib.hid (X4.out.gb L6.out)
                have hnw := heap_alloc_new ((w4.setCell ⟨gx, 0, none⟩ (.int .i64 y.1)).setCell ⟨gx, 1, none⟩ (.int .i64 y.2)) (.cells #[.int .i64 y.1, .int .i64 y.2] 62)
                rw [S5] at hnw
                have HNW := Lib.hid (World.news_of_block (cs := #[.int .i64 y.1, .int .i64 y.2]) (t := 62) (fr := (0, 0)) hnw)
                clear hnw
                have K6 := Lib.hid (K5.out.alloc (.cells #[.int .i64 y.1, .int .i64 y.2] 62))
                have b3' := Lib.hid (show ∀ u ∈ [Value.int .i64 y.1, Value.int .i64 y.2], u.oneCell' = true by simp [Value.oneCell'])
                have b4' := Lib.hid (show M.length + 1 ≤ maxLen by unfold maxLen; omega)
                have SZ6 := Lib.hid (show w.heap.size ≤ (((w4.setCell ⟨gx, 0, none⟩ (.int .i64 y.1)).setCell ⟨gx, 1, none⟩ (.int .i64 y.2)).alloc (.cells #[.int .i64 y.1, .int .i64 y.2] 62)).heap.size from Nat.le_trans (HGX.out ▸ hsz) L6.out.size)
                clear d0 d1 d2 d3
                go_wp2_with (at_builtin; refine wpList_append_own _ rfl _ _ 42 rfl w.heap.size 62 i0 (.agg #[.int .i64 0, .int .i64 0]) 2 16 Tryd.underlying42 hi hz0 hz1 hz2 rfl (by decide) _ M.length _ rfl X6.out.own ⟨w4.heap.size, 0, none⟩ 1 1 [.int .i64 y.1, .int .i64 y.2] rfl rfl HNW.out b3'.out b4'.out (by omega) SZ6.out ?_; intro v' w7 hown7 hgrow7 _; have K7 := Lib.hid (K6.out.grown hgrow7 (fun e => by have := (X4.out.own.lt gx e.symm).2; have := HGX.out; omega)); have O7 := Lib.hid (show w7.ownsRow w.heap.size 62 2 v' (M ++ [y]).length (depV (M ++ [y])) by rw [List.length_append, depV_append]; exact hown7); have B7 := Lib.hid (X6.out.lb.grown hgrow7 SZ6.out (fun j hj => (X6.out.own.lt j hj).1)); obtain ⟨hx0, hx1⟩ := depAt_cells (X4.out.a.below B7.out) hp1; obtain ⟨hy0, hy1⟩ := depAt_cells (X4.out.b.below B7.out) hp3; have e0 : w7.cell? ⟨gx, 0, none⟩ = some (.int .i64 y.1) := K7.out.cell 0; have e1 : w7.cell? ⟨gx, 1, none⟩ = some (.int .i64 y.2) := K7.out.cell 1; clear hown7 hgrow7)
                by_cases hc3 : c3 = 1
                · subst hc3
                  obtain rfl : n3 = 1 := by have := HB.out.1; omega
                  go_quiet (fail)
                  go_wp2_with fail
                  go_quiet (fail)
                  go_wp2_with fail
                  go_roundw
                  case rel => exact ⟨M ++ [y], (x :: Da), Ea, _, _, _, _, _, _, rfl, rfl, (show MgAt D E (M ++ [y]) (x :: Da) Ea (some ⟨b1, o1, none⟩) (some ⟨b3, o3, none⟩) n1 c1 0 0 w _ w7 from ⟨HMR.out, X4.out.a, (depAt_less HB.out.2 rfl), by omega, by omega, O7.out, B7.out⟩).gb (by first | exact gb_refl _ _ | exact gb_drewN (gb_refl _ none) _ | exact gb_drewN (gb_drewN (gb_refl _ none) _) _)⟩
                  case measure => simp [lenMg] <;> omega
                · have hc31 : ¬ c3 = 1 := hc3
                  go_quiet (fail)
                  go_wp2_with fail
                  go_quiet (fail)
                  go_wp2_with fail
                  go_roundw
                  case rel => exact ⟨M ++ [y], (x :: Da), Ea, _, _, _, _, _, _, rfl, rfl, (show MgAt D E (M ++ [y]) (x :: Da) Ea (some ⟨b1, o1, none⟩) (some ⟨b3, o3 + 2, none⟩) n1 c1 (n3 - 1) (c3 - 1) w _ w7 from ⟨HMR.out, X4.out.a, HB.out.2, by omega, by omega, O7.out, B7.out⟩).gb (by first | exact gb_refl _ _ | exact gb_drewN (gb_refl _ none) _ | exact gb_drewN (gb_drewN (gb_refl _ none) _) _)⟩
                  case measure => simp [lenMg] <;> omega
            · have hc0 : ¬ cmpD y x < 0 := fun e => hlt (cmpD_neg.1 e)
              by_cases hne : x = y
              · subst hne
                have HE1 := run_eqlDI (x := x) (d := x) (b := true) (decide_eq_true rfl)
                have HMR := Lib.hid (show Mrg D E (M ++ [x]) Da Ea from X4.out.mrg.both)
                go_wp2_with fail
                change Code.wp _ _ _ _ (boxD x wr)
                have L1 := Lib.hid (boxD_gb x wr)
                have K1 := Lib.hid (boxD_blk x wr)
                have X5 := Lib.hid (X4.out.gb L1.out)
                obtain ⟨hy0, hy1⟩ := depAt_cells (X5.out.b.below X5.out.lb) hp3
                have hk0 : (boxD x wr).cell? ⟨wr.heap.size, 0, none⟩ = some (.int .i64 x.1) := K1.out.cell 0
                have hk1 : (boxD x wr).cell? ⟨wr.heap.size, 1, none⟩ = some (.int .i64 x.2) := K1.out.cell 1
                have HW1 := Lib.hid (show wr.heap.size < (boxD x wr).heap.size from K1.out.lt)
                clear hx0 hx1
                obtain ⟨W1, hW1⟩ : ∃ W1, boxD x wr = W1 := ⟨_, rfl⟩
                rw [hW1] at L1 K1 X5 hy0 hy1 hk0 hk1 HW1 ⊢
                obtain ⟨gx, hgx⟩ : ∃ gx, wr.heap.size = gx := ⟨_, rfl⟩
                have HGX := Lib.hid hgx
                rw [hgx] at K1 hk0 hk1 HW1 hsz ⊢
                clear hW1 hgx
                go_wp2_with fail
                go_region_held3 (fun w' => w'.cell? ⟨gx, 0, none⟩ = some (.int .i64 x.1) ∧ w'.cell? ⟨gx, 1, none⟩ = some (.int .i64 x.2) ∧ w'.cell? ⟨b3, o3, none⟩ = some (.int .i64 x.1) ∧ w'.cell? ⟨b3, o3 + 1, none⟩ = some (.int .i64 x.2))
                  (first | exact ⟨hk0, hk1, hy0, hy1⟩ | exact ⟨d0, d1, d2, d3⟩ | fail)
                  (first
                    | (go_at_call 23; (with_reducible refine (HCMP.out x x _).mono ?_); rintro e w4 ⟨rfl, hg4⟩; have h4 := gb_drM hg4; have d0 := h4.cell hk0 (by simp); have d1 := h4.cell hk1 (by simp); have d2 := h4.cell hy0 (by simp); have d3 := h4.cell hy1 (by simp); have L4 := Lib.hid (gb_trans L1.out h4); have K4 := Lib.hid (K1.out.grown h4 (by simp)); clear h4 hg4)
                    | fail)
                all_goals
                  clear hk0 hk1 hy0 hy1
                  have L5 := L4
                  have K5 := K4
                  have e0 : w4.cell? ⟨gx, 0, none⟩ = some (.int .i64 x.1) := K5.out.cell 0
                  have e1 : w4.cell? ⟨gx, 1, none⟩ = some (.int .i64 x.2) := K5.out.cell 1
                  have S5 : w4.heap.size = w4.heap.size := rfl
                  have L6 := Lib.hid (gb_alloc L5.out (.cells #[.int .i64 x.1, .int .i64 x.2] 62))
                  have X6 := Lib.hid (X4.out.gb L6.out)
                  have hnw := heap_alloc_new w4 (.cells #[.int .i64 x.1, .int .i64 x.2] 62)
                  skip
                  have HNW := Lib.hid (World.news_of_block (cs := #[.int .i64 x.1, .int .i64 x.2]) (t := 62) (fr := (0, 0)) hnw)
                  clear hnw
                  have K6 := Lib.hid (K5.out.alloc (.cells #[.int .i64 x.1, .int .i64 x.2] 62))
                  have b3' := Lib.hid (show ∀ u ∈ [Value.int .i64 x.1, Value.int .i64 x.2], u.oneCell' = true by simp [Value.oneCell'])
                  have b4' := Lib.hid (show M.length + 1 ≤ maxLen by unfold maxLen; omega)
                  have SZ6 := Lib.hid (show w.heap.size ≤ (w4.alloc (.cells #[.int .i64 x.1, .int .i64 x.2] 62)).heap.size from Nat.le_trans (HGX.out ▸ hsz) L6.out.size)
                  clear d0 d1 d2 d3
                  go_wp2_with (at_builtin; refine wpList_append_own _ rfl _ _ 42 rfl w.heap.size 62 i0 (.agg #[.int .i64 0, .int .i64 0]) 2 16 Tryd.underlying42 hi hz0 hz1 hz2 rfl (by decide) _ M.length _ rfl X6.out.own ⟨w4.heap.size, 0, none⟩ 1 1 [.int .i64 x.1, .int .i64 x.2] rfl rfl HNW.out b3'.out b4'.out (by omega) SZ6.out ?_; intro v' w7 hown7 hgrow7 _; have K7 := Lib.hid (K6.out.grown hgrow7 (fun e => by have := (X4.out.own.lt gx e.symm).2; have := HGX.out; omega)); have O7 := Lib.hid (show w7.ownsRow w.heap.size 62 2 v' (M ++ [x]).length (depV (M ++ [x])) by rw [List.length_append, depV_append]; exact hown7); have B7 := Lib.hid (X6.out.lb.grown hgrow7 SZ6.out (fun j hj => (X6.out.own.lt j hj).1)); obtain ⟨hx0, hx1⟩ := depAt_cells (X4.out.a.below B7.out) hp1; obtain ⟨hy0, hy1⟩ := depAt_cells (X4.out.b.below B7.out) hp3; have e0 : w7.cell? ⟨gx, 0, none⟩ = some (.int .i64 x.1) := K7.out.cell 0; have e1 : w7.cell? ⟨gx, 1, none⟩ = some (.int .i64 x.2) := K7.out.cell 1; clear hown7 hgrow7)
                  by_cases hc1 : c1 = 1
                  · subst hc1
                    obtain rfl : n1 = 1 := by have := HA.out.1; omega
                    by_cases hc3 : c3 = 1
                    · subst hc3
                      obtain rfl : n3 = 1 := by have := HB.out.1; omega
                      go_quiet (fail)
                      go_wp2_with fail
                      go_quiet (fail)
                      go_wp2_with fail
                      go_roundw
                      case rel => exact ⟨M ++ [x], Da, Ea, _, _, _, _, _, _, rfl, rfl, (show MgAt D E (M ++ [x]) Da Ea (some ⟨b1, o1, none⟩) (some ⟨b3, o3, none⟩) 0 0 0 0 w _ w7 from ⟨HMR.out, (depAt_less HA.out.2 rfl), (depAt_less HB.out.2 rfl), by omega, by omega, O7.out, B7.out⟩).gb (by first | exact gb_refl _ _ | exact gb_drewN (gb_refl _ none) _ | exact gb_drewN (gb_drewN (gb_refl _ none) _) _)⟩
                      case measure => simp [lenMg] <;> omega
                    · have hc31 : ¬ c3 = 1 := hc3
                      go_quiet (fail)
                      go_wp2_with fail
                      go_quiet (fail)
                      go_wp2_with fail
                      go_roundw
                      case rel => exact ⟨M ++ [x], Da, Ea, _, _, _, _, _, _, rfl, rfl, (show MgAt D E (M ++ [x]) Da Ea (some ⟨b1, o1, none⟩) (some ⟨b3, o3 + 2, none⟩) 0 0 (n3 - 1) (c3 - 1) w _ w7 from ⟨HMR.out, (depAt_less HA.out.2 rfl), HB.out.2, by omega, by omega, O7.out, B7.out⟩).gb (by first | exact gb_refl _ _ | exact gb_drewN (gb_refl _ none) _ | exact gb_drewN (gb_drewN (gb_refl _ none) _) _)⟩
                      case measure => simp [lenMg] <;> omega
                  · have hc11 : ¬ c1 = 1 := hc1
                    by_cases hc3 : c3 = 1
                    · subst hc3
                      obtain rfl : n3 = 1 := by have := HB.out.1; omega
                      go_quiet (fail)
                      go_wp2_with fail
                      go_quiet (fail)
                      go_wp2_with fail
                      go_roundw
                      case rel => exact ⟨M ++ [x], Da, Ea, _, _, _, _, _, _, rfl, rfl, (show MgAt D E (M ++ [x]) Da Ea (some ⟨b1, o1 + 2, none⟩) (some ⟨b3, o3, none⟩) (n1 - 1) (c1 - 1) 0 0 w _ w7 from ⟨HMR.out, HA.out.2, (depAt_less HB.out.2 rfl), by omega, by omega, O7.out, B7.out⟩).gb (by first | exact gb_refl _ _ | exact gb_drewN (gb_refl _ none) _ | exact gb_drewN (gb_drewN (gb_refl _ none) _) _)⟩
                      case measure => simp [lenMg] <;> omega
                    · have hc31 : ¬ c3 = 1 := hc3
                      go_quiet (fail)
                      go_wp2_with fail
                      go_quiet (fail)
                      go_wp2_with fail
                      go_roundw
                      case rel => exact ⟨M ++ [x], Da, Ea, _, _, _, _, _, _, rfl, rfl, (show MgAt D E (M ++ [x]) Da Ea (some ⟨b1, o1 + 2, none⟩) (some ⟨b3, o3 + 2, none⟩) (n1 - 1) (c1 - 1) (n3 - 1) (c3 - 1) w _ w7 from ⟨HMR.out, HA.out.2, HB.out.2, by omega, by omega, O7.out, B7.out⟩).gb (by first | exact gb_refl _ _ | exact gb_drewN (gb_refl _ none) _ | exact gb_drewN (gb_drewN (gb_refl _ none) _) _)⟩
                      case measure => simp [lenMg] <;> omega
              · have hlt2 : ltD x y = true := ltD_tri (by simpa using hlt) (fun e => hne e.symm)
                have HE1 := run_eqlDI (x := x) (d := x) (b := true) (decide_eq_true rfl)
                have HE2 := run_eqlDI (x := y) (d := x) (b := false) (decide_eq_false (fun e => hne e.symm))
                have HMR := Lib.hid (show Mrg D E (M ++ [x]) Da (y :: Ea) from X4.out.mrg.left hlt2)
                go_wp2_with fail
                change Code.wp _ _ _ _ (boxD x wr)
                have L1 := Lib.hid (boxD_gb x wr)
                have K1 := Lib.hid (boxD_blk x wr)
                have X5 := Lib.hid (X4.out.gb L1.out)
                obtain ⟨hy0, hy1⟩ := depAt_cells (X5.out.b.below X5.out.lb) hp3
                have hk0 : (boxD x wr).cell? ⟨wr.heap.size, 0, none⟩ = some (.int .i64 x.1) := K1.out.cell 0
                have hk1 : (boxD x wr).cell? ⟨wr.heap.size, 1, none⟩ = some (.int .i64 x.2) := K1.out.cell 1
                have HW1 := Lib.hid (show wr.heap.size < (boxD x wr).heap.size from K1.out.lt)
                clear hx0 hx1
                obtain ⟨W1, hW1⟩ : ∃ W1, boxD x wr = W1 := ⟨_, rfl⟩
                rw [hW1] at L1 K1 X5 hy0 hy1 hk0 hk1 HW1 ⊢
                obtain ⟨gx, hgx⟩ : ∃ gx, wr.heap.size = gx := ⟨_, rfl⟩
                have HGX := Lib.hid hgx
                rw [hgx] at K1 hk0 hk1 HW1 hsz ⊢
                clear hW1 hgx
                go_wp2_with fail
                go_region_held3 (fun w' => w'.cell? ⟨gx, 0, none⟩ = some (.int .i64 x.1) ∧ w'.cell? ⟨gx, 1, none⟩ = some (.int .i64 x.2) ∧ w'.cell? ⟨b3, o3, none⟩ = some (.int .i64 y.1) ∧ w'.cell? ⟨b3, o3 + 1, none⟩ = some (.int .i64 y.2))
                  (first | exact ⟨hk0, hk1, hy0, hy1⟩ | exact ⟨d0, d1, d2, d3⟩ | fail)
                  (first
                    | (go_at_call 23; (with_reducible refine (HCMP.out y x _).mono ?_); rintro e w4 ⟨rfl, hg4⟩; have h4 := gb_drM hg4; have d0 := h4.cell hk0 (by simp); have d1 := h4.cell hk1 (by simp); have d2 := h4.cell hy0 (by simp); have d3 := h4.cell hy1 (by simp); have L4 := Lib.hid (gb_trans L1.out h4); have K4 := Lib.hid (K1.out.grown h4 (by simp)); clear h4 hg4)
                    | fail)
                all_goals
                  clear hk0 hk1 hy0 hy1
                  have L5 := L4
                  have K5 := K4
                  have e0 : w4.cell? ⟨gx, 0, none⟩ = some (.int .i64 x.1) := K5.out.cell 0
                  have e1 : w4.cell? ⟨gx, 1, none⟩ = some (.int .i64 x.2) := K5.out.cell 1
                  have S5 : w4.heap.size = w4.heap.size := rfl
                  have L6 := Lib.hid (gb_alloc L5.out (.cells #[.int .i64 x.1, .int .i64 x.2] 62))
                  have X6 := Lib.hid (X4.out.gb L6.out)
                  have hnw := heap_alloc_new w4 (.cells #[.int .i64 x.1, .int .i64 x.2] 62)
                  skip
                  have HNW := Lib.hid (World.news_of_block (cs := #[.int .i64 x.1, .int .i64 x.2]) (t := 62) (fr := (0, 0)) hnw)
                  clear hnw
                  have K6 := Lib.hid (K5.out.alloc (.cells #[.int .i64 x.1, .int .i64 x.2] 62))
                  have b3' := Lib.hid (show ∀ u ∈ [Value.int .i64 x.1, Value.int .i64 x.2], u.oneCell' = true by simp [Value.oneCell'])
                  have b4' := Lib.hid (show M.length + 1 ≤ maxLen by unfold maxLen; omega)
                  have SZ6 := Lib.hid (show w.heap.size ≤ (w4.alloc (.cells #[.int .i64 x.1, .int .i64 x.2] 62)).heap.size from Nat.le_trans (HGX.out ▸ hsz) L6.out.size)
                  clear d0 d1 d2 d3
                  go_wp2_with (at_builtin; refine wpList_append_own _ rfl _ _ 42 rfl w.heap.size 62 i0 (.agg #[.int .i64 0, .int .i64 0]) 2 16 Tryd.underlying42 hi hz0 hz1 hz2 rfl (by decide) _ M.length _ rfl X6.out.own ⟨w4.heap.size, 0, none⟩ 1 1 [.int .i64 x.1, .int .i64 x.2] rfl rfl HNW.out b3'.out b4'.out (by omega) SZ6.out ?_; intro v' w7 hown7 hgrow7 _; have K7 := Lib.hid (K6.out.grown hgrow7 (fun e => by have := (X4.out.own.lt gx e.symm).2; have := HGX.out; omega)); have O7 := Lib.hid (show w7.ownsRow w.heap.size 62 2 v' (M ++ [x]).length (depV (M ++ [x])) by rw [List.length_append, depV_append]; exact hown7); have B7 := Lib.hid (X6.out.lb.grown hgrow7 SZ6.out (fun j hj => (X6.out.own.lt j hj).1)); obtain ⟨hx0, hx1⟩ := depAt_cells (X4.out.a.below B7.out) hp1; obtain ⟨hy0, hy1⟩ := depAt_cells (X4.out.b.below B7.out) hp3; have e0 : w7.cell? ⟨gx, 0, none⟩ = some (.int .i64 x.1) := K7.out.cell 0; have e1 : w7.cell? ⟨gx, 1, none⟩ = some (.int .i64 x.2) := K7.out.cell 1; clear hown7 hgrow7)
                  by_cases hc1 : c1 = 1
                  · subst hc1
                    obtain rfl : n1 = 1 := by have := HA.out.1; omega
                    go_quiet (fail)
                    go_wp2_with fail
                    go_quiet (fail)
                    go_wp2_with fail
                    go_roundw
                    case rel => exact ⟨M ++ [x], Da, (y :: Ea), _, _, _, _, _, _, rfl, rfl, (show MgAt D E (M ++ [x]) Da (y :: Ea) (some ⟨b1, o1, none⟩) (some ⟨b3, o3, none⟩) 0 0 n3 c3 w _ w7 from ⟨HMR.out, (depAt_less HA.out.2 rfl), X4.out.b, by omega, by omega, O7.out, B7.out⟩).gb (by first | exact gb_refl _ _ | exact gb_drewN (gb_refl _ none) _ | exact gb_drewN (gb_drewN (gb_refl _ none) _) _)⟩
                    case measure => simp [lenMg] <;> omega
                  · have hc11 : ¬ c1 = 1 := hc1
                    go_quiet (fail)
                    go_wp2_with fail
                    go_quiet (fail)
                    go_wp2_with fail
                    go_roundw
                    case rel => exact ⟨M ++ [x], Da, (y :: Ea), _, _, _, _, _, _, rfl, rfl, (show MgAt D E (M ++ [x]) Da (y :: Ea) (some ⟨b1, o1 + 2, none⟩) (some ⟨b3, o3, none⟩) (n1 - 1) (c1 - 1) n3 c3 w _ w7 from ⟨HMR.out, HA.out.2, X4.out.b, by omega, by omega, O7.out, B7.out⟩).gb (by first | exact gb_refl _ _ | exact gb_drewN (gb_refl _ none) _ | exact gb_drewN (gb_drewN (gb_refl _ none) _) _)⟩
                    case measure => simp [lenMg] <;> omega
          · obtain rfl : n3 = 0 := by omega
            have q1 : (0 : Int) < (n1 : Int) := by omega
            have q3 : ¬ (0 : Int) < ((0 : Nat) : Int) := by omega
            have HST2 := Lib.hid (X4.out.mrg.stop HASC.out (.inr (List.eq_nil_of_length_eq_zero hb1)))
            have N1 := Lib.hid (show M.length + n1 ≤ 4000000001 by omega)
            have N2 := Lib.hid (show M.length + n1 + 0 ≤ 4000000001 by omega)
            have HAR := Lib.hid (X4.out.a.below X4.out.lb)
            clear hx
            go_wp2_with (first
              | (at_builtin; refine wpList_app_ownD _ rfl (.tmp 59) (.tmp 60) rfl i0 hi hz0 hz1 hz2 w.heap.size M.length n1 c1 w.heap.size A1 M Da _ rfl rfl X4.out.own HAR.out N1.out hsz ?_; intro v5 w5 ho5 hg5; obtain ⟨A5, c5, rfl, _⟩ := own_form ho5; have O5 := Lib.hid ho5; have B5 := Lib.hid (X4.out.lb.grown hg5 hsz (fun j hj => (X4.out.own.lt j hj).1)); have HBR := Lib.hid (X4.out.b.below B5.out); have S5 := Lib.hid B5.out.size; clear ho5 hg5)
              | (at_builtin; refine wpList_app_ownD _ rfl (.tmp 62) (.tmp 63) rfl i0 hi hz0 hz1 hz2 w.heap.size (M.length + n1) 0 c3 w.heap.size A3 (M ++ Da) Ea _ rfl rfl O5.out HBR.out N2.out S5.out ?_; intro v6 w6 ho6 hg6; have O6 := Lib.hid ho6; have B6 := Lib.hid (B5.out.grown hg6 S5.out (fun j hj => (O5.out.lt j hj).1)); clear ho6 hg6))
            go_ret
            refine ⟨_, rfl, ?_, B6.out⟩
            have h6 := O6.out
            rw [HST2.out] at h6
            rw [HM.out, own_dep_length h6]
            exact h6
        · obtain rfl : n1 = 0 := by omega
          have q1 : ¬ (0 : Int) < ((0 : Nat) : Int) := by omega
          have HST2 := Lib.hid (X4.out.mrg.stop HASC.out (.inl (List.eq_nil_of_length_eq_zero ha1)))
          have N1 := Lib.hid (show M.length + 0 ≤ 4000000001 by omega)
          have N2 := Lib.hid (show M.length + 0 + n3 ≤ 4000000001 by omega)
          have HAR := Lib.hid (X4.out.a.below X4.out.lb)
          clear hx
          go_wp2_with (first
            | (at_builtin; refine wpList_app_ownD _ rfl (.tmp 59) (.tmp 60) rfl i0 hi hz0 hz1 hz2 w.heap.size M.length 0 c1 w.heap.size A1 M Da _ rfl rfl X4.out.own HAR.out N1.out hsz ?_; intro v5 w5 ho5 hg5; obtain ⟨A5, c5, rfl, _⟩ := own_form ho5; have O5 := Lib.hid ho5; have B5 := Lib.hid (X4.out.lb.grown hg5 hsz (fun j hj => (X4.out.own.lt j hj).1)); have HBR := Lib.hid (X4.out.b.below B5.out); have S5 := Lib.hid B5.out.size; clear ho5 hg5)
            | (at_builtin; refine wpList_app_ownD _ rfl (.tmp 62) (.tmp 63) rfl i0 hi hz0 hz1 hz2 w.heap.size (M.length + 0) n3 c3 w.heap.size A3 (M ++ Da) Ea _ rfl rfl O5.out HBR.out N2.out S5.out ?_; intro v6 w6 ho6 hg6; have O6 := Lib.hid ho6; have B6 := Lib.hid (B5.out.grown hg6 S5.out (fun j hj => (O5.out.lt j hj).1)); clear ho6 hg6))
          go_ret
          refine ⟨_, rfl, ?_, B6.out⟩
          have h6 := O6.out
          rw [HST2.out] at h6
          rw [HM.out, own_dep_length h6]
          exact h6
end Go.Proofs.YtcmlnokfjbglaaaDoor
end

section
namespace Go.Proofs.YtcmlnokfjbglaaaDoor
open Go.ChangeShapes Go.WideShapes Go.ChangeAt Go.RowKit
set_option linter.unusedVariables false
set_option maxRecDepth 20000

theorem okD_take_in {D : List Dep} (h : okD D = true) {k : Nat} (hk : k < D.length) : 0 ≤ (atD D k).1 ∧ (atD D k).1 ≤ 127 ∧ 0 ≤ (atD D k).2 ∧ (atD D k).2 ≤ 127 := inD_iff.1 (okD_in h (atD_mem hk))
theorem implShift (A : Option Addr) (n cap : Nat) (D : List Dep) (z : Int) (w : World) (h : DepAt w w.heap.size A n D) (hn : n ≤ 4000000000) :
    Calls Tryd.prog 20 #[.slice A n cap, .int .i64 z] w (NewD (shiftD D z) w) := by
  obtain ⟨i0, hi, hz0, hz1, hz2⟩ := info_parts info_dep
  have HI := Lib.hid h
  have hl := h.1
  have HOK := Lib.hid (implDependsOk A n cap D w h hn)
  have HOKS := Lib.hid (fun (A' : Option Addr) (c' : Nat) (E : List Dep) (w' : World) (h' : DepAt w' w'.heap.size A' n E) => implDependsOk A' n c' E w' h' hn)
  clear h
  cases hok : okD D with
  | false =>
    rw [shift_no1 hok]
    rw [hok] at HOK
    clear hok
    go_enter Tryd.func20, Tryd.ntmps20
    go_wp2_with fail
    refine HOK.out.mono ?_
    rintro e w1 ⟨rfl, hg1⟩
    have G1 := Lib.hid hg1
    clear hg1
    go_wp2_with fail
    go_ret
    exact ⟨_, rfl, own_nilD rfl _ _, gb_below_none G1.out (Nat.le_refl _)⟩
  | true =>
    rw [hok] at HOK
    cases hz : inS z with
    | false =>
      rw [shift_no2 hz]
      unfold inS at hz
      have hz' := of_decide_eq_false hz
      clear hok hz
      by_cases h1 : z < -1000
      · clear hz'
        go_enter Tryd.func20, Tryd.ntmps20
        go_wp2_with fail
        refine HOK.out.mono ?_
        rintro e w1 ⟨rfl, hg1⟩
        have G1 := Lib.hid hg1
        clear hg1
        go_wp2_with fail
        go_ret
        exact ⟨_, rfl, own_nilD rfl _ _, gb_below_none G1.out (Nat.le_refl _)⟩
      · have h2 : 1000 < z := by omega
        clear hz'
        go_enter Tryd.func20, Tryd.ntmps20
        go_wp2_with fail
        refine HOK.out.mono ?_
        rintro e w1 ⟨rfl, hg1⟩
        have G1 := Lib.hid hg1
        clear hg1
        go_wp2_with fail
        go_ret
        exact ⟨_, rfl, own_nilD rfl _ _, gb_below_none G1.out (Nat.le_refl _)⟩
    | true =>
      have HIN := Lib.hid (fun k (hk : k < D.length) => okD_take_in hok hk)
      have HS := Lib.hid (shift_no3 (D := D) (z := z))
      have HY := Lib.hid (shift_yes (D := D) (z := z) hok hz)
      unfold inS at hz
      obtain ⟨z1, z2⟩ := of_decide_eq_true hz
      have hz3 : ¬ z < -1000 := by omega
      have hz4 : ¬ 1000 < z := by omega
      obtain ⟨S, hS⟩ : ∃ S, shiftD D z = S := ⟨_, rfl⟩
      rw [hS] at HS HY
      rw [hS]
      clear hok hz hS
      go_enter Tryd.func20, Tryd.ntmps20
      go_wp2_with fail
      refine HOK.out.mono ?_
      rintro e w1 ⟨rfl, hg1⟩
      have X1 := Lib.hid (gb_below_none hg1 (Nat.le_refl _))
      clear hg1
      go_wp2_with fail
      go_loopw [5, 21] (fun v i wr => ∃ k : Nat, i = .int .i64 (k : Int) ∧ k ≤ n ∧ wr.ownsRow w.heap.size 62 2 v k (depV (moveD (D.take k) z)) ∧ Below w.heap.size w wr) (fun _ i _ => n - (intOf i).toNat)
      case atStart => exact ⟨0, rfl, Nat.zero_le _, World.ownsRow_nil _ _ _ _, X1.out⟩
      case round =>
        obtain ⟨k, rfl, hk, ho, hb⟩ := hrel
        have HB := Lib.hid hb
        have HO := Lib.hid ho
        have hai := HI.out.below hb
        obtain ⟨Ao, co, rfl, _⟩ := own_form ho
        clear ho hb
        by_cases hlt : k < n
        · obtain ⟨b1, off, rfl, hb1, c0, c1⟩ := hai.at k hlt
          obtain ⟨x, hx⟩ : ∃ x, atD D k = x := ⟨_, rfl⟩
          have hin := HIN.out k (by omega)
          have HE := Lib.hid (move_next (D := D) z (k := k) (by omega))
          rw [hx] at c0 c1 hin HE
          have k0 : (0 : Int) ≤ (k : Int) := by omega
          have k1 : (k : Int) < (n : Int) := by omega
          obtain ⟨x1, x2, x3, x4⟩ := hin
          have hsz1 : w.heap.size ≤ wr.heap.size := HB.out.size
          have b3' := Lib.hid (show ∀ u ∈ [Value.int .i64 (x.1 + z), Value.int .i64 (x.2 + z)], u.oneCell' = true by simp [Value.oneCell'])
          have b4' := Lib.hid (show k + 1 ≤ maxLen by unfold maxLen; omega)
          clear hai hx
          go_wp2_with (at_builtin; refine wpList_append_own _ rfl _ _ 42 rfl w.heap.size 62 i0 (.agg #[.int .i64 0, .int .i64 0]) 2 16 Tryd.underlying42 hi hz0 hz1 hz2 rfl (by decide) _ k _ rfl ((HO.out.alloc _).alloc _) ⟨wr.heap.size + 1, 0, none⟩ 1 1 [.int .i64 (x.1 + z), .int .i64 (x.2 + z)] rfl rfl (World.news_of_block (cs := #[.int .i64 (x.1 + z), .int .i64 (x.2 + z)]) (t := 62) (fr := (0, 0)) (new_at1 wr _ _)) b3'.out b4'.out (by omega) (by simp; omega) ?_; intro v' w4 hown4 hgrow4 _)
          have X4 := Lib.hid (show w4.ownsRow w.heap.size 62 2 v' (k + 1) (depV (moveD (D.take (k + 1)) z)) ∧ Below w.heap.size w w4 from by
            refine ⟨by rw [HE.out, depV_append]; exact hown4, ?_⟩
            exact ((boxD_below HB.out x).alloc (by have := HB.out.size; rw [boxD_size]; omega) _).grown hgrow4 (by have := HB.out.size; have := boxD_size x wr; simp; omega) (fun j hj => (HO.out.lt j hj).1))
          clear hown4 hgrow4 c0 c1
          go_wp2_with fail
          go_roundw
          case rel => exact ⟨k + 1, by go_num, by omega, X4.out.1, X4.out.2⟩
          case measure => simp [intOf]; omega
        · obtain rfl : k = n := by omega
          rw [show D.take k = D from by rw [← hl]; exact List.take_length] at HO
          have HOM := HOKS.out Ao co (moveD D z) wr (depAt_own HO.out (Nat.le_refl _))
          cases hm : okD (moveD D z) with
          | false =>
            have hr := HS.out hm
            subst hr
            rw [hm] at HOM
            have HOM2 := Lib.hid HOM
            clear HOM hm hai
            go_wp2_with fail
            refine HOM2.out.mono ?_
            rintro e w2 ⟨rfl, hg2⟩
            have X2 := Lib.hid (below_gb HB.out (Nat.le_refl _) hg2)
            clear hg2
            go_wp2_with fail
            go_ret
            exact ⟨_, rfl, own_nilD rfl _ _, X2.out⟩
          | true =>
            have hr := HY.out hm
            rw [hm] at HOM
            have HOM2 := Lib.hid HOM
            have HR := Lib.hid hr
            clear HOM hm hai hr
            go_wp2_with fail
            refine HOM2.out.mono ?_
            rintro e w2 ⟨rfl, hg2⟩
            have X2 := Lib.hid (below_gb HB.out (Nat.le_refl _) hg2)
            have O2 := Lib.hid (own_none HO.out hg2)
            clear hg2
            go_wp2_with fail
            go_ret
            exact ⟨_, rfl, by rw [HR.out, move_length, hl]; exact O2.out, X2.out⟩
end Go.Proofs.YtcmlnokfjbglaaaDoor
end

section
namespace Go.Proofs.YtcmlnokfjbglaaaDoor
open Go.ChangeShapes Go.WideShapes Go.ChangeAt Go.RowKit
set_option linter.unusedVariables false
set_option maxRecDepth 20000

set_option maxHeartbeats 1600000 in
theorem implClassDepends (W H : Int) (A AP AQ : Option Addr) (n cap nP cP nQ cQ : Nat) (L P Q : List Int) (hL : WfL L) (w : World) (h : IntAt w w.heap.size A n L) (hP : IntAt w w.heap.size AP nP P) (hQ : IntAt w w.heap.size AQ nQ Q) (hn : n ≤ 1000000000) (hnP : nP ≤ 1000000000) (hnQ : nQ ≤ 1000000000) :
    Calls Tryd.prog 10 #[.agg #[.int .i64 W, .int .i64 H, .slice A n cap], .agg #[.slice AP nP cP, .slice AQ nQ cQ]] w (NewD (clsD W H L P Q) w) := by
  have X0 := Lib.hid (clAt_start (W := W) (H := H) (A := A) (AP := AP) (AQ := AQ) (n := n) (cap := cap) (nP := nP) (cP := cP) (nQ := nQ) (cQ := cQ) (w := w))
  have HI := Lib.hid h
  have HP := Lib.hid hP
  have HQ := Lib.hid hQ
  cases hc : clsOk W H L P Q with
  | false =>
    have HA := Lib.hid (implClassesOkV W H A AP AQ n cap nP cP nQ cQ L P Q hL false hc _ (X0.out.at h) (X0.out.at hP) (X0.out.at hQ) hn hnP hnQ)
    have HN := Lib.hid (clsD_no hc)
    clear h hP hQ hc hL
    go_enter Tryd.func10, Tryd.ntmps10
    go_wp2_with fail
    refine HA.out.mono ?_
    rintro e w1 ⟨rfl, hg⟩
    have X1 := Lib.hid (X0.out.gb hg)
    clear hg
    go_wp2_with fail
    go_ret
    exact ⟨_, rfl, own_nilD HN.out _ _, gb_below_none X1.out.g (Nat.le_refl _)⟩
  | true =>
    have HA := Lib.hid (implClassesOkV W H A AP AQ n cap nP cP nQ cQ L P Q hL true hc _ (X0.out.at h) (X0.out.at hP) (X0.out.at hQ) hn hnP hnQ)
    have HN := Lib.hid (clsD_yes hc)
    have HDA := Lib.hid (fun w h hP => implDependsOf W H A AP n cap nP cP L P hL w h hP hn hnP)
    have HDB := Lib.hid (fun w h hQ => implDependsOf W H A AQ n cap nQ cQ L Q hL w h hQ hn hnQ)
    have HL1 := Lib.hid (depG_len (W := W) (H := H) (L := L) (P := P))
    have HL2 := Lib.hid (depG_len (W := W) (H := H) (L := L) (P := Q))
    obtain ⟨D, hD⟩ : ∃ D, depG W H L P = D := ⟨_, rfl⟩
    obtain ⟨E, hE⟩ : ∃ E, depG W H L Q = E := ⟨_, rfl⟩
    rw [hD] at HDA HL1 HN
    rw [hE] at HDB HL2 HN
    have HSH := Lib.hid (fun A cap w h => implShift A E.length cap E 64 w h (by have := HL2.out; omega))
    have HSL := Lib.hid (shift_length E 64)
    obtain ⟨F, hF⟩ : ∃ F, shiftD E 64 = F := ⟨_, rfl⟩
    rw [hF] at HSH HSL HN
    have HMG := Lib.hid (fun A A2 cap c2 w h h2 k k2 => implMerge A A2 D.length cap F.length c2 D F w h h2 (by have := HL1.out; omega) (by have h1 := HL2.out; have h2 := HSL.out; omega) k k2)
    clear h hP hQ hc hD hE hF hL
    go_enter Tryd.func10, Tryd.ntmps10
    go_wp2_with fail
    refine HA.out.mono ?_
    rintro e w1 ⟨rfl, hg⟩
    have X1 := Lib.hid (X0.out.gb hg)
    have X1d := Lib.hid (X1.out.gb (gb_drew (gb_refl w1 none)))
    clear hg
    have a0 : w1.cell? ⟨w.heap.size, 0, none⟩ = some (.int .i64 W) := X1.out.m.cell 0
    have a1 : w1.cell? ⟨w.heap.size, 1, none⟩ = some (.int .i64 H) := X1.out.m.cell 1
    have a2 : w1.cell? ⟨w.heap.size, 2, none⟩ = some (.slice A n cap) := X1.out.m.cell 2
    have a3 : w1.cell? ⟨w.heap.size + 1, 0, none⟩ = some (.slice AP nP cP) := X1.out.t.cell 0
    have a4 : w1.cell? ⟨w.heap.size + 1, 1, none⟩ = some (.slice AQ nQ cQ) := X1.out.t.cell 1
    go_wp2_with fail
    go_region_held3 (fun w' => w'.cell? ⟨w.heap.size, 0, none⟩ = some (.int .i64 W) ∧ w'.cell? ⟨w.heap.size, 1, none⟩ = some (.int .i64 H) ∧ w'.cell? ⟨w.heap.size, 2, none⟩ = some (.slice A n cap) ∧ w'.cell? ⟨w.heap.size + 1, 0, none⟩ = some (.slice AP nP cP) ∧ w'.cell? ⟨w.heap.size + 1, 1, none⟩ = some (.slice AQ nQ cQ))
      (first | exact ⟨a0, a1, a2, a3, a4⟩ | exact ⟨bb0, bb1, bb2, bb3, bb4⟩ | exact ⟨cc0, cc1, cc2, cc3, cc4⟩ | exact ⟨d0, d1, d2, d3, d4⟩ | exact ⟨e0, e1, e2, e3, e4⟩ | fail)
      (first
        | (go_at_call 11; (with_reducible refine (HDA.out _ (X1d.out.at HI.out) (X1d.out.at HP.out)).mono ?_); rintro e w2 ⟨v2, rfl, o2, b2⟩; obtain ⟨A2, c2, rfl, _⟩ := own_form o2; have X2 := Lib.hid (X1d.out.bl b2); have O2 := Lib.hid o2; have bb0 : w2.cell? ⟨w.heap.size, 0, none⟩ = some (.int .i64 W) := X2.out.m.cell 0; have bb1 : w2.cell? ⟨w.heap.size, 1, none⟩ = some (.int .i64 H) := X2.out.m.cell 1; have bb2 : w2.cell? ⟨w.heap.size, 2, none⟩ = some (.slice A n cap) := X2.out.m.cell 2; have bb3 : w2.cell? ⟨w.heap.size + 1, 0, none⟩ = some (.slice AP nP cP) := X2.out.t.cell 0; have bb4 : w2.cell? ⟨w.heap.size + 1, 1, none⟩ = some (.slice AQ nQ cQ) := X2.out.t.cell 1; clear o2 b2)
        | (go_at_call 11; (with_reducible refine (HDB.out _ (X2.out.at HI.out) (X2.out.at HQ.out)).mono ?_); rintro e w3 ⟨v3, rfl, o3, b3⟩; obtain ⟨A3, c3, rfl, _⟩ := own_form o3; have X3 := Lib.hid (X2.out.bl b3); have O23 := Lib.hid (own_below O2.out b3); have O3 := Lib.hid o3; have cc0 : w3.cell? ⟨w.heap.size, 0, none⟩ = some (.int .i64 W) := X3.out.m.cell 0; have cc1 : w3.cell? ⟨w.heap.size, 1, none⟩ = some (.int .i64 H) := X3.out.m.cell 1; have cc2 : w3.cell? ⟨w.heap.size, 2, none⟩ = some (.slice A n cap) := X3.out.m.cell 2; have cc3 : w3.cell? ⟨w.heap.size + 1, 0, none⟩ = some (.slice AP nP cP) := X3.out.t.cell 0; have cc4 : w3.cell? ⟨w.heap.size + 1, 1, none⟩ = some (.slice AQ nQ cQ) := X3.out.t.cell 1; clear o3 b3)
        | (go_at_call 20; (with_reducible refine (HSH.out A3 c3 _ (depAt_own O3.out (Nat.le_refl _))).mono ?_); rintro e w4 ⟨v4, rfl, o4, b4⟩; obtain ⟨A4, c4, rfl, _⟩ := own_form o4; have X4 := Lib.hid (X3.out.bl b4); have O24 := Lib.hid (own_below O23.out b4); have O4 := Lib.hid o4; have d0 : w4.cell? ⟨w.heap.size, 0, none⟩ = some (.int .i64 W) := X4.out.m.cell 0; have d1 : w4.cell? ⟨w.heap.size, 1, none⟩ = some (.int .i64 H) := X4.out.m.cell 1; have d2 : w4.cell? ⟨w.heap.size, 2, none⟩ = some (.slice A n cap) := X4.out.m.cell 2; have d3 : w4.cell? ⟨w.heap.size + 1, 0, none⟩ = some (.slice AP nP cP) := X4.out.t.cell 0; have d4 : w4.cell? ⟨w.heap.size + 1, 1, none⟩ = some (.slice AQ nQ cQ) := X4.out.t.cell 1; clear o4 b4)
        | (go_at_call 19; (with_reducible refine (HMG.out A2 A4 c2 c4 _ (depAt_own O24.out (Nat.le_refl _)) (depAt_own O4.out (Nat.le_refl _)) (own_cap O24.out).1 (own_cap O4.out).1).mono ?_); rintro e w5 ⟨v5, rfl, o5, b5⟩; obtain ⟨A5, c5, rfl, _⟩ := own_form o5; have X5 := Lib.hid (X4.out.bl b5); have O5 := Lib.hid (own_less o5 X4.out.g.size); have e0 : w5.cell? ⟨w.heap.size, 0, none⟩ = some (.int .i64 W) := X5.out.m.cell 0; have e1 : w5.cell? ⟨w.heap.size, 1, none⟩ = some (.int .i64 H) := X5.out.m.cell 1; have e2 : w5.cell? ⟨w.heap.size, 2, none⟩ = some (.slice A n cap) := X5.out.m.cell 2; have e3 : w5.cell? ⟨w.heap.size + 1, 0, none⟩ = some (.slice AP nP cP) := X5.out.t.cell 0; have e4 : w5.cell? ⟨w.heap.size + 1, 1, none⟩ = some (.slice AQ nQ cQ) := X5.out.t.cell 1; clear o5 b5)
        | fail)
    all_goals
      go_wp2_with fail
      go_ret
      exact ⟨_, rfl, by rw [HN.out]; exact O5.out, gb_below_none X5.out.g (Nat.le_refl _)⟩
end Go.Proofs.YtcmlnokfjbglaaaDoor
end

section
namespace Go.Proofs.YtcmlnokfjbglaaaDoor
open Go.ChangeShapes Go.WideShapes Go.ChangeAt Go.RowKit
set_option linter.unusedVariables false
set_option maxRecDepth 20000

/-- The verdict on valid tables is that on their dependencies. -/
theorem verdC_judge {W H : Int} {L P Q : List Int} (h : clsOk W H L P Q = true) : judgeG (clsD W H L P Q) = verdC W H L P Q := by
  cases hk : canO (clsD W H L P Q) with
  | true => rw [judge_safe hk, verdC_safe h hk]
  | false => rw [judge_cyc hk, verdC_cyc h hk]
set_option maxHeartbeats 1600000 in
theorem implCheckClasses (W H : Int) (A AP AQ : Option Addr) (n cap nP cP nQ cQ : Nat) (L P Q : List Int) (hL : WfL L) (w : World) (h : IntAt w w.heap.size A n L) (hP : IntAt w w.heap.size AP nP P) (hQ : IntAt w w.heap.size AQ nQ Q) (hn : n ≤ 1000000000) (hnP : nP ≤ 1000000000) (hnQ : nQ ≤ 1000000000) :
    Calls Tryd.prog 7 #[.agg #[.int .i64 W, .int .i64 H, .slice A n cap], .agg #[.slice AP nP cP, .slice AQ nQ cQ]] w (NewV (verdC W H L P Q) w) := by
  have x0 := clAt_start (W := W) (H := H) (A := A) (AP := AP) (AQ := AQ) (n := n) (cap := cap) (nP := nP) (cP := cP) (nQ := nQ) (cQ := cQ) (w := w)
  have X0 := Lib.hid (x0.gb (gb_alloc (gb_refl _ none) (.cells #[.int .i64 0, .slice none 0 0, .slice none 0 0] 36)))
  have k0 := Blk.new (clB W H A AP AQ n cap nP cP nQ cQ w) 36 #[.int .i64 0, .slice none 0 0, .slice none 0 0]
  rw [show (clB W H A AP AQ n cap nP cP nQ cQ w).heap.size = w.heap.size + 2 by unfold clB; rw [alloc_size, alloc_size]] at k0
  have K0 := Lib.hid k0
  have HI := Lib.hid h
  have HP := Lib.hid hP
  have HQ := Lib.hid hQ
  cases hc : clsOk W H L P Q with
  | false =>
    have HA := Lib.hid (implClassesOkV W H A AP AQ n cap nP cP nQ cQ L P Q hL false hc _ (X0.out.at h) (X0.out.at hP) (X0.out.at hQ) hn hnP hnQ)
    have HF := Lib.hid (verdC_bad hc)
    clear h hP hQ hc x0 k0 hL
    go_enter Tryd.func7, Tryd.ntmps7
    go_wp2_with fail
    refine HA.out.mono ?_
    rintro e w1 ⟨rfl, hg⟩
    have X1 := Lib.hid (X0.out.gb hg)
    have K1 := Lib.hid (K0.out.grown hg (by simp))
    have e0 : w1.cell? ⟨w.heap.size + 2, 0, none⟩ = some (.int .i64 0) := K1.out.cell 0
    have e1 : w1.cell? ⟨w.heap.size + 2, 1, none⟩ = some (.slice none 0 0) := K1.out.cell 1
    have e2 : w1.cell? ⟨w.heap.size + 2, 2, none⟩ = some (.slice none 0 0) := K1.out.cell 2
    have f0 := K1.out.frozen 0
    have f1 := K1.out.frozen 1
    have f2 := K1.out.frozen 2
    clear hg
    go_wp2_with fail
    have hb := box_cells (c := 0) (vr := .slice none 0 0) (vc := .slice none 0 0) K1.out
    have r0 := hb.cell 0
    have r1 := hb.cell 1
    have r2 := hb.cell 2
    refine bodyPost_ret (v := .agg #[.int .i64 0, .slice none 0 0, .slice none 0 0]) (by simp [results, Tryd.results7, go_sem, r0, r1, r2]) rfl ⟨_, _, by rw [HF.out], ⟨?_, ?_, none_apart _⟩, box_put K1.out X1.out.g (by omega)⟩
    · rw [HF.out]; exact World.ownsRow_nil _ _ _ _
    · rw [HF.out]; exact World.ownsRow_nil _ _ _ _
  | true =>
    have HA := Lib.hid (implClassesOkV W H A AP AQ n cap nP cP nQ cQ L P Q hL true hc _ (X0.out.at h) (X0.out.at hP) (X0.out.at hQ) hn hnP hnQ)
    have HDP := Lib.hid (fun w h hP hQ => implClassDepends W H A AP AQ n cap nP cP nQ cQ L P Q hL w h hP hQ hn hnP hnQ)
    have HDL := Lib.hid (clsD_len (W := W) (H := H) (L := L) (P := P) (Q := Q))
    have HV := Lib.hid (verdC_judge (W := W) (H := H) (L := L) (P := P) (Q := Q) hc)
    obtain ⟨D, hD⟩ : ∃ D, clsD W H L P Q = D := ⟨_, rfl⟩
    rw [hD] at HDP HDL HV
    have HJ := Lib.hid (fun A n cap w h hn => implJudge A n cap D w h hn)
    obtain ⟨vg, hvg⟩ : ∃ vg, verdC W H L P Q = vg := ⟨_, rfl⟩
    rw [hvg] at HV ⊢
    rw [HV.out] at HJ
    clear h hP hQ hc hD hvg x0 k0 hL
    go_enter Tryd.func7, Tryd.ntmps7
    go_wp2_with fail
    refine HA.out.mono ?_
    rintro e w1 ⟨rfl, hg⟩
    have X1 := Lib.hid (X0.out.gb hg)
    have K1 := Lib.hid (K0.out.grown hg (by simp))
    have m0 : w1.cell? ⟨w.heap.size, 0, none⟩ = some (.int .i64 W) := X1.out.m.cell 0
    have m1 : w1.cell? ⟨w.heap.size, 1, none⟩ = some (.int .i64 H) := X1.out.m.cell 1
    have m2 : w1.cell? ⟨w.heap.size, 2, none⟩ = some (.slice A n cap) := X1.out.m.cell 2
    have m3 : w1.cell? ⟨w.heap.size + 1, 0, none⟩ = some (.slice AP nP cP) := X1.out.t.cell 0
    have m4 : w1.cell? ⟨w.heap.size + 1, 1, none⟩ = some (.slice AQ nQ cQ) := X1.out.t.cell 1
    clear hg
    go_wp2_with fail
    refine (HDP.out _ (X1.out.at HI.out) (X1.out.at HP.out) (X1.out.at HQ.out)).mono ?_
    rintro e w2 ⟨vd, rfl, od, bd⟩
    have X2 := Lib.hid (X1.out.bl bd)
    have K2 := Lib.hid (K1.out.grown (gb_of_below bd none) (by simp))
    obtain ⟨Ad, cd, rfl, _⟩ := own_form od
    obtain ⟨nd, hnd⟩ : ∃ nd, D.length = nd := ⟨_, rfl⟩
    rw [hnd] at od HDL
    have HDA := Lib.hid (depAt_own (B := w2.heap.size) od (Nat.le_refl _))
    rw [hnd]
    clear od bd hnd m0 m1 m2 m3 m4
    go_wp2_with fail
    refine (HJ.out Ad nd cd _ HDA.out (by have := HDL.out; omega)).mono ?_
    rintro e w3 ⟨vr, vc, rfl, hv, bv⟩
    obtain ⟨z, R, C⟩ := vg
    simp only at hv
    have X3 := Lib.hid (X2.out.bl bv)
    have K3 := Lib.hid (K2.out.grown (gb_of_below bv none) (by simp))
    have V3 := Lib.hid (hv.less X2.out.g.size)
    obtain ⟨Ar, cr, rfl, _⟩ := own_form hv.r
    obtain ⟨Ac, cc, rfl, _⟩ := own_form hv.c
    have e0 : w3.cell? ⟨w.heap.size + 2, 0, none⟩ = some (.int .i64 0) := K3.out.cell 0
    have e1 : w3.cell? ⟨w.heap.size + 2, 1, none⟩ = some (.slice none 0 0) := K3.out.cell 1
    have e2 : w3.cell? ⟨w.heap.size + 2, 2, none⟩ = some (.slice none 0 0) := K3.out.cell 2
    have f0 := K3.out.frozen 0
    have f1 := K3.out.frozen 1
    have f2 := K3.out.frozen 2
    clear hv bv
    go_wp2_with fail
    have hb := box_cells (c := z) (vr := .slice Ar R.length cr) (vc := .slice Ac C.length cc) K3.out
    have r0 := hb.cell 0
    have r1 := hb.cell 1
    have r2 := hb.cell 2
    refine bodyPost_ret (v := .agg #[.int .i64 z, .slice Ar R.length cr, .slice Ac C.length cc]) (by simp [results, Tryd.results7, go_sem, r0, r1, r2]) rfl ⟨_, _, rfl, ⟨?_, ?_, V3.out.ap⟩, box_put K3.out X3.out.g (by omega)⟩
    · exact box_row K3.out V3.out.r
    · exact box_row K3.out V3.out.c
end Go.Proofs.YtcmlnokfjbglaaaDoor
end

section
namespace Go.Proofs.YtcmlnokfjbglaaaDoor
open Go.ChangeShapes Go.WideShapes Go.ChangeAt Go.RowKit
set_option linter.unusedVariables false

theorem intsV_at {L : List Int} {j : Nat} {u : Value} (h : (intsV L)[j]? = some u) : ∃ x, L[j]? = some x ∧ u = .int .i64 x := by
  unfold intsV at h
  rw [List.getElem?_map] at h
  cases hx : L[j]? with
  | none => rw [hx] at h; cases h
  | some x => rw [hx] at h; exact ⟨x, rfl, (Option.some.inj h).symm⟩
theorem intsV_one (L : List Int) : ∀ u ∈ intsV L, u.oneCell' = true := fun u hu => by
  obtain ⟨x, _, rfl⟩ := List.mem_map.1 hu
  rfl
theorem intAt_news {w : World} {B n b off : Nat} {L : List Int} (h : IntAt w B (some ⟨b, off, none⟩) n L) : ∀ j u, (intsV L)[j]? = some u → w.cell? ((⟨b, off, none⟩ : Addr).add j) = some u := fun j u hu => by
  obtain ⟨x, hx, rfl⟩ := intsV_at hu
  have hj : j < L.length := by
    rcases Nat.lt_or_ge j L.length with h1 | h1
    · exact h1
    · rw [List.getElem?_eq_none h1] at hx; cases hx
  have hl := h.1
  obtain ⟨b', off', hA, _, hc⟩ := h.2 (by omega)
  obtain ⟨rfl, rfl⟩ : b = b' ∧ off = off' := by injection hA with h1; injection h1 with h2 h3; exact ⟨h2, h3⟩
  rw [Addr.add_lit]
  exact hc j x hx
theorem src_ints {w : World} {B n : Nat} {A : Option Addr} {L : List Int} (h : IntAt w B A n L) (c : Nat) : Src Tryd.prog 1 26 (.slice A n c) n (intsV L) w := by
  have hl := h.1
  rcases Nat.eq_zero_or_pos n with h0 | h0
  · subst h0
    obtain rfl : L = [] := List.eq_nil_of_length_eq_zero hl
    cases A with
    | none => exact Src.ofNil w Tryd.underlying26 c
    | some a => exact Src.ofSlice w Tryd.underlying26 a 0 c [] rfl (fun j u hu => by cases hu) (fun u hu => by cases hu)
  · obtain ⟨b, off, rfl, _⟩ := h.2 h0
    exact Src.ofSlice w Tryd.underlying26 _ n c (intsV L) (by rw [intsV_length, hl]; omega) (intAt_news h) (intsV_one L)
theorem run_app_nothing (w : World) (ty : TypeId) (base : Option Addr) (sLen sCap : Nat) (hle : sLen ≤ sCap) (x : Value) (i0 : TypeInfo) (hi : Tryd.prog.info? 3 = some i0) (h1 : i0.size = 1) (hs : Src Tryd.prog 1 26 x 0 [] w) :
    (Builtin.append_ #[26, 26] ty #[.slice base sLen sCap, x]).run Tryd.prog w = .ok (.slice base sLen sCap) w := by
  have hc := hs.cells
  rw [← h1] at hc
  cases base <;> simp [Builtin.append_, run_underlying Tryd.underlying26, sizeOf, typeInfo, hi, hs.len, hle, hc, storeCells]

/-- Onto a row of the call's own. -/
theorem run_app_own (w : World) (ty : TypeId) (i0 : TypeInfo) (hi : Tryd.prog.info? 3 = some i0) (hz0 : i0.zero = some (.int .i64 0)) (hz1 : i0.size = 1) (hz2 : i0.bytes = 8)
    (base n m c B : Nat) (A : Option Addr) (X L : List Int) (v : Value) (hown : w.ownsRow base 3 1 v n (intsV X)) (h : IntAt w B A m L) (hm : n + m ≤ 1000000000) (hb : base ≤ w.heap.size) :
    ∃ v' w', (Builtin.append_ #[26, 26] ty #[v, .slice A m c]).run Tryd.prog w = .ok v' w' ∧ w'.ownsRow base 3 1 v' (n + m) (intsV (X ++ L)) ∧ w.grownBy w' v.ownBlock := by
  have hl := h.1
  rcases Nat.eq_zero_or_pos m with h0 | h0
  · subst h0
    obtain rfl : L = [] := List.eq_nil_of_length_eq_zero hl
    obtain ⟨A', c', rfl, _⟩ := own_form hown
    exact ⟨_, _, run_app_nothing w ty A' n c' (own_cap hown).1 _ i0 hi hz1 (src_ints h c), by rw [List.append_nil]; exact hown, gb_refl _ _⟩
  · obtain ⟨b, off, rfl, _⟩ := h.2 h0
    obtain ⟨v', w', h1, h2, h3, _⟩ := run_append_own (P := Tryd.prog) w base 26 ty 3 i0 (.int .i64 0) 1 8 Tryd.underlying26 hi hz0 hz1 hz2 rfl (by decide) v n (intsV X) hown ⟨b, off, none⟩ m c (intsV L)
      (by rw [intsV_length, hl]; omega) (intAt_news h) (intsV_one L) (by unfold maxLen; omega) (by omega) hb
    exact ⟨v', w', h1, by rw [intsV_append]; exact h2, h3⟩
theorem wpList_app_own {ops : Array Oper} {rest : List Oper} {o : Oper} {a : Act} {Q : Exit → Act → World → Prop} (w : World) (hgd : o.guard = none) (s x : Operand)
    (ho : o.op = .call { callee := .builtin .append, args := #[s, x], argTypes := #[26, 26] })
    (i0 : TypeInfo) (hi : Tryd.prog.info? 3 = some i0) (hz0 : i0.zero = some (.int .i64 0)) (hz1 : i0.size = 1) (hz2 : i0.bytes = 8)
    (base n m c B : Nat) (A : Option Addr) (X L : List Int) (v : Value) (hs : a.eval s = v) (hx : a.eval x = .slice A m c) (hown : w.ownsRow base 3 1 v n (intsV X)) (h : IntAt w B A m L) (hm : n + m ≤ 1000000000) (hb : base ≤ w.heap.size)
    (hk : ∀ v' w', w'.ownsRow base 3 1 v' (n + m) (intsV (X ++ L)) → w.grownBy w' v.ownBlock → wpList Tryd.prog ops Q rest (a.put o.dst v') w') : wpList Tryd.prog ops Q (o :: rest) a w := by
  refine wpList_plain hgd fun K hK => ?_
  obtain ⟨v', w', hr, h2, h3⟩ := run_app_own w o.type i0 hi hz0 hz1 hz2 base n m c B A X L v hown h hm hb
  unfold Oper.wp execOp
  simp only [ho, resolve, invoke, builtin, Sem.run_bind, Sem.run_pure, Result.andThen_ok, List.map_toArray, List.map_cons, List.map_nil, hs, hx, hr]
  exact hK _ _ (hk v' w' h2 h3)

/-- Onto a slice that has no spare memory. -/
theorem run_app_cut (w : World) (ty : TypeId) (i0 : TypeInfo) (hi : Tryd.prog.info? 3 = some i0) (hz0 : i0.zero = some (.int .i64 0)) (hz1 : i0.size = 1) (hz2 : i0.bytes = 8)
    (n m c B B2 : Nat) (A A2 : Option Addr) (X L : List Int) (hX : IntAt w B A n X) (h : IntAt w B2 A2 m L) (hm : n + m ≤ 1000000000) (hB : B ≤ w.heap.size) :
    ∃ A' c' w', (Builtin.append_ #[26, 26] ty #[.slice A n n, .slice A2 m c]).run Tryd.prog w = .ok (.slice A' (n + m) c') w' ∧ IntAt w' w'.heap.size A' (n + m) (X ++ L) ∧ w.grownBy w' none := by
  have hl := h.1
  have hlX := hX.1
  rcases Nat.eq_zero_or_pos m with h0 | h0
  · subst h0
    obtain rfl : L = [] := List.eq_nil_of_length_eq_zero hl
    exact ⟨A, n, w, run_app_nothing w ty A n n (Nat.le_refl _) _ i0 hi hz1 (src_ints h c), by rw [List.append_nil]; exact hX.more hB, gb_refl _ _⟩
  · have hold : (Builtin.firstCells i0.size n (.slice A n n)).run Tryd.prog w.drew = .ok (intsV X).toArray w.drew := by
      have := (src_ints hX n).cellsD
      rwa [← hz1] at this
    have hsrc := src_ints h c
    rw [← hz1] at hsrc
    have hr := run_append_grow_src (P := Tryd.prog) w 26 26 ty 3 i0 (.int .i64 0) Tryd.underlying26 hi hz0 A n n (intsV X) hold (.slice A2 m c) m (intsV L) hsrc (by omega) (by omega) (growslice_fits (by omega) (by rw [hz2]; omega))
    have hge := grownCap_ge w (n + m) n 3
    have hcm : grownCap w (n + m) n 3 ≤ maxLen := grownCap_le_maxLen w (n + m) n 3 (by unfold maxLen; omega)
    refine ⟨_, _, _, hr, ⟨by rw [List.length_append]; omega, fun _ => ⟨w.heap.size, 0, rfl, by simp, fun k x hx => ?_⟩⟩, ⟨rfl, rfl, rfl, by simp, fun k hk _ => Below.heap_alloc w.drew _ k hk⟩⟩
    have hk : k < (X ++ L).length := by
      rcases Nat.lt_or_ge k (X ++ L).length with h1 | h1
      · exact h1
      · rw [List.getElem?_eq_none h1] at hx; cases hx
    have hcell : (intsV X ++ intsV L)[k]? = some (.int .i64 x) := by rw [← intsV_append]; unfold intsV; rw [List.getElem?_map, hx]; rfl
    rw [Nat.zero_add]
    refine (World.cell?_alloc_new w.drew _ _ k).trans ?_
    rw [Array.getElem?_append_left (by simp [intsV_length] at hk ⊢; exact hk), List.getElem?_toArray]
    exact hcell
theorem wpList_app_cut {ops : Array Oper} {rest : List Oper} {o : Oper} {a : Act} {Q : Exit → Act → World → Prop} (w : World) (hgd : o.guard = none) (s x : Operand)
    (ho : o.op = .call { callee := .builtin .append, args := #[s, x], argTypes := #[26, 26] })
    (i0 : TypeInfo) (hi : Tryd.prog.info? 3 = some i0) (hz0 : i0.zero = some (.int .i64 0)) (hz1 : i0.size = 1) (hz2 : i0.bytes = 8)
    (n m c B B2 : Nat) (A A2 : Option Addr) (X L : List Int) (hs : a.eval s = .slice A n n) (hx : a.eval x = .slice A2 m c) (hX : IntAt w B A n X) (h : IntAt w B2 A2 m L) (hm : n + m ≤ 1000000000) (hB : B ≤ w.heap.size)
    (hk : ∀ A' c' w', IntAt w' w'.heap.size A' (n + m) (X ++ L) → w.grownBy w' none → wpList Tryd.prog ops Q rest (a.put o.dst (.slice A' (n + m) c')) w') : wpList Tryd.prog ops Q (o :: rest) a w := by
  refine wpList_plain hgd fun K hK => ?_
  obtain ⟨A', c', w', hr, h2, h3⟩ := run_app_cut w o.type i0 hi hz0 hz1 hz2 n m c B B2 A A2 X L hX h hm hB
  unfold Oper.wp execOp
  simp only [ho, resolve, invoke, builtin, Sem.run_bind, Sem.run_pure, Result.andThen_ok, List.map_toArray, List.map_cons, List.map_nil, hs, hx, hr]
  exact hK _ _ (hk A' c' w' h2 h3)
end Go.Proofs.YtcmlnokfjbglaaaDoor
end

section
namespace Go.Proofs.YtcmlnokfjbglaaaDoor
open Go.ChangeShapes Go.WideShapes Go.ChangeAt Go.RowKit
set_option linter.unusedVariables false

/-- A new table and whether there is one. -/
def RetTab (P : List Int) (b : Bool) (w : World) (e : Ending) (w' : World) : Prop :=
  ∃ v, e = .returned (.tuple #[.agg #[v], .bool b]) ∧ w'.ownsRow w.heap.size 3 1 v P.length (intsV P) ∧ Below w.heap.size w w'
end Go.Proofs.YtcmlnokfjbglaaaDoor
end

section
namespace Go.Proofs.YtcmlnokfjbglaaaDoor
open Go.ChangeShapes Go.WideShapes Go.ChangeAt Go.RowKit
set_option linter.unusedVariables false

def tabF (P Q : List Int) (c : Int) : List Int := if c = 0 then P else if c = 1 then Q else []
def tabFok (c : Int) : Bool := decide (c = 0 ∨ c = 1)
theorem tabF_0 {P Q : List Int} {c : Int} (h : c = 0) : tabF P Q c = P ∧ tabFok c = true := ⟨if_pos h, decide_eq_true (.inl h)⟩
theorem tabF_1 {P Q : List Int} {c : Int} (h : c = 1) : tabF P Q c = Q ∧ tabFok c = true := ⟨by rw [tabF, if_neg (by omega), if_pos h], decide_eq_true (.inr h)⟩
theorem tabF_no {P Q : List Int} {c : Int} (h0 : c ≠ 0) (h1 : c ≠ 1) : tabF P Q c = [] ∧ tabFok c = false := ⟨by rw [tabF, if_neg h0, if_neg h1], decide_eq_false (by omega)⟩
theorem tabF_len {P Q : List Int} {c : Int} : (tabF P Q c).length ≤ P.length + Q.length := by
  unfold tabF
  split
  · omega
  · split <;> simp
end Go.Proofs.YtcmlnokfjbglaaaDoor
end

section
namespace Go.Proofs.YtcmlnokfjbglaaaDoor
open Go.ChangeShapes Go.WideShapes Go.ChangeAt Go.RowKit
set_option linter.unusedVariables false
set_option maxRecDepth 20000

/-- A copy of a slice of numbers; nil of nil. -/
theorem libCloneI (A : Option Addr) (n cap : Nat) (L : List Int) (w : World) (h : IntAt w w.heap.size A n L) (hn : n ≤ 1000000000) :
    Calls Tryd.prog 18 #[.slice A n cap] w (NewI L w) := by
  obtain ⟨i0, hi, hz0, hz1, hz2⟩ := info_parts info_int
  have hl := h.1
  cases A with
  | none =>
    have hn0 : n = 0 := by
      rcases Nat.eq_zero_or_pos n with h0 | h0
      · exact h0
      · obtain ⟨b, off, e, _⟩ := h.2 h0; cases e
    subst hn0
    have HL := Lib.hid (List.eq_nil_of_length_eq_zero hl)
    have he : (binOp .eql 26 (.slice none 0 cap) (.slice none 0 0)).run Tryd.prog w = .ok (.bool true) w := Go.Lib.run_eql_slice_nil w 26 3 none 0 cap 0 0 Tryd.underlying26
    clear h hl hn
    go_enter Tryd.func18, Tryd.ntmps18
    go_wp2_with fail
    go_ret
    exact ⟨_, rfl, own_nil HL.out _ _, Below.refl _ _⟩
  | some a =>
    have H1 := Lib.hid ((h.none (Nat.le_refl _) (gb_alloc (gb_refl w none) (.cells #[] 3))))
    have HO := Lib.hid (own_empty (L := []) rfl (Below.refl w.heap.size w))
    have N1 := Lib.hid (show 0 + n ≤ 1000000000 by omega)
    have HL := Lib.hid hl
    have he : (binOp .eql 26 (.slice (some a) n cap) (.slice none 0 0)).run Tryd.prog w = .ok (.bool false) w := Go.Lib.run_eql_slice_nil w 26 3 (some a) n cap 0 0 Tryd.underlying26
    clear h hl hn
    go_enter Tryd.func18, Tryd.ntmps18
    go_wp2_with (at_builtin; refine wpList_app_own _ rfl _ _ rfl i0 hi hz0 hz1 hz2 w.heap.size 0 n cap _ _ [] L _ rfl rfl HO.out.1 H1.out N1.out (by rw [alloc_size]; omega) ?_; intro v' w1 hown1 hgrow1)
    go_ret
    rw [Nat.zero_add, List.nil_append] at hown1
    exact ⟨_, rfl, by rw [HL.out]; exact hown1, (HO.out.2.grown hgrow1 (by rw [alloc_size]; omega) (fun j hj => by have := (HO.out.1.lt j hj).1; exact this))⟩
theorem implTableFor (AP AQ : Option Addr) (nP cP nQ cQ : Nat) (P Q : List Int) (c : Int) (w : World) (hP : IntAt w w.heap.size AP nP P) (hQ : IntAt w w.heap.size AQ nQ Q) (hnP : nP ≤ 1000000000) (hnQ : nQ ≤ 1000000000) :
    Calls Tryd.prog 8 #[.agg #[.slice AP nP cP, .slice AQ nQ cQ], .int .i64 c] w (RetTab (tabF P Q c) (tabFok c) w) := by
  have hg := gb_alloc (gb_alloc (gb_refl w none) (.cells #[.slice AP nP cP, .slice AQ nQ cQ] 32)) (.cells #[.slice none 0 0] 30)
  have H1 := Lib.hid ((hP.none (Nat.le_refl _) hg).more hg.size)
  have H2 := Lib.hid ((hQ.none (Nat.le_refl _) hg).more hg.size)
  have kb := Blk.new (w.alloc (.cells #[.slice AP nP cP, .slice AQ nQ cQ] 32)) 30 #[.slice none 0 0]
  rw [alloc_size] at kb
  have KB := Lib.hid kb
  have HG := Lib.hid hg
  clear hP hQ hg kb
  by_cases c0 : c = 0
  · have HF := Lib.hid (tabF_0 (P := P) (Q := Q) c0)
    subst c0
    go_enter Tryd.func8, Tryd.ntmps8
    go_wp2_with fail
    refine (libCloneI AP nP cP P _ H1.out hnP).mono ?_
    rintro e w1 ⟨v, rfl, o1, b1⟩
    obtain ⟨A1, c1, rfl, _⟩ := own_form o1
    have K1 := Lib.hid (KB.out.grown (gb_of_below b1 none) (by simp))
    have O1 := Lib.hid (own_less o1 HG.out.size)
    have B1 := Lib.hid ((gb_below_none HG.out (Nat.le_refl _)).trans (b1.mono HG.out.size))
    have e0 : w1.cell? ⟨w.heap.size + 1, 0, none⟩ = some (.slice none 0 0) := K1.out.cell 0
    have f0 := K1.out.frozen 0
    clear o1 b1
    go_wp2_with fail
    have hb := K1.out.set_ 0 (.slice A1 P.length c1)
    have r0 := hb.cell 0
    simp at r0
    refine bodyPost_ret (v := .tuple #[.agg #[.slice A1 P.length c1], .bool true]) (by simp [results, Tryd.results8, go_sem, r0]) rfl ⟨_, by rw [HF.out.2], ?_, ?_⟩
    · rw [HF.out.1]
      exact row_kept O1.out (gb_setCell (gb_refl w1 (some (w.heap.size + 1))) (.inl rfl) _) (fun j e e2 => by cases e; exact own_ne O1.out K1.out (by decide) e2)
    · exact B1.out.setCell (by show w.heap.size ≤ w.heap.size + 1; omega) _
  · by_cases c1 : c = 1
    · have HF := Lib.hid (tabF_1 (P := P) (Q := Q) c1)
      subst c1
      have kc := (Blk.new w 32 #[.slice AP nP cP, .slice AQ nQ cQ]).alloc (.cells #[.slice none 0 0] 30)
      go_enter Tryd.func8, Tryd.ntmps8
      go_wp2_with fail
      refine (libCloneI AQ nQ cQ Q _ H2.out hnQ).mono ?_
      rintro e w1 ⟨v, rfl, o1, b1⟩
      obtain ⟨A1, c1, rfl, _⟩ := own_form o1
      have K1 := Lib.hid (KB.out.grown (gb_of_below b1 none) (by simp))
      have O1 := Lib.hid (own_less o1 HG.out.size)
      have B1 := Lib.hid ((gb_below_none HG.out (Nat.le_refl _)).trans (b1.mono HG.out.size))
      have e0 : w1.cell? ⟨w.heap.size + 1, 0, none⟩ = some (.slice none 0 0) := K1.out.cell 0
      have f0 := K1.out.frozen 0
      clear o1 b1 kc
      go_wp2_with fail
      have hb := K1.out.set_ 0 (.slice A1 Q.length c1)
      have r0 := hb.cell 0
      simp at r0
      refine bodyPost_ret (v := .tuple #[.agg #[.slice A1 Q.length c1], .bool true]) (by simp [results, Tryd.results8, go_sem, r0]) rfl ⟨_, by rw [HF.out.2], ?_, ?_⟩
      · rw [HF.out.1]
        exact row_kept O1.out (gb_setCell (gb_refl w1 (some (w.heap.size + 1))) (.inl rfl) _) (fun j e e2 => by cases e; exact own_ne O1.out K1.out (by decide) e2)
      · exact B1.out.setCell (by show w.heap.size ≤ w.heap.size + 1; omega) _
    · have HF := Lib.hid (tabF_no (P := P) (Q := Q) c0 c1)
      have b0 : (c == 0) = false := beq_eq_false_iff_ne.2 c0
      have b1 : (c == 1) = false := beq_eq_false_iff_ne.2 c1
      go_enter Tryd.func8, Tryd.ntmps8
      go_wp2_with fail
      refine bodyPost_ret (v := .tuple #[.agg #[.slice none 0 0], .bool false]) (by simp [results, Tryd.results8, go_sem]) rfl ⟨_, by rw [HF.out.2], ?_, ?_⟩
      · rw [HF.out.1]; exact World.ownsRow_nil _ _ _ _
      · exact gb_below_none HG.out (Nat.le_refl _)
end Go.Proofs.YtcmlnokfjbglaaaDoor
end

section
namespace Go.Proofs.YtcmlnokfjbglaaaDoor
open Go.ChangeShapes Go.WideShapes Go.ChangeAt Go.RowKit
set_option linter.unusedVariables false
set_option maxRecDepth 20000

set_option maxHeartbeats 8000000 in
theorem walk_FnClasses (A : Option Addr) (n cap : Nat) (w : World) (hr : ByteRow w w.heap.size A n) (hp : Pre w) :
    Calls Tryd.prog 3 #[.slice A n cap] w fun e w' => e = .returned (.bool true) ∧ Below w.heap.size w w' := by
  by_cases hbig : 1048576 < n
  · go_enter Tryd.func3, Tryd.ntmps3
    go_wp2_with fail
    refine (lawsBig A n cap _).mono ?_
    rintro e w1 ⟨rfl, rfl⟩
    rw [decide_eq_true hbig]
    go_wp2_with fail
    go_ret
    exact ⟨rfl, Below.refl _ _⟩
  have HR := Lib.hid hr
  have hn : n ≤ 1048576 := by omega
  have HPR := Lib.hid (fun w' (hb : Below w.heap.size w w') => hp.below hb)
  clear hr hp
  go_enter Tryd.func3, Tryd.ntmps3
  go_wp2_with fail
  refine (lawsBig A n cap _).mono ?_
  rintro e w1 ⟨rfl, rfl⟩
  rw [decide_eq_false hbig]
  clear hbig
  go_wp2_with fail
  refine (drawClasses A n cap _ HR.out hn).mono ?_
  rintro e w2 ⟨W, H, r, s, v, u, rfl, hok, ⟨hr1, hr4, hs1, hs4⟩, ho2, hb2⟩
  have htA := (std_facts hok hr1 hr4).1
  have htB := (std_facts hok hs1 hs4).1
  have hl1 : (stdTab W H r).length ≤ 256 := by unfold stdTab; rw [stdTo_len]; exact sqG_le
  have hl2 : (stdTab W H s).length ≤ 256 := by unfold stdTab; rw [stdTo_len]; exact sqG_le
  obtain ⟨P, hP⟩ : ∃ P, stdTab W H r = P := ⟨_, rfl⟩
  obtain ⟨Q, hQ⟩ : ∃ Q, stdTab W H s = Q := ⟨_, rfl⟩
  rw [hP] at htA hl1 ho2
  rw [hQ] at htB hl2 ho2
  have hcl := clsOk_yes htA htB
  have hcode := verdC_code hcl
  have hlen : (clsD W H [] P Q).length = (depG W H [] P).length + (depG W H [] Q).length := by rw [clsD_join hcl, join_length]
  have hd1 := depG_len (W := W) (H := H) (L := []) (P := P)
  have hd2 := depG_len (W := W) (H := H) (L := []) (P := Q)
  have hvl := verd_len (W := W) (H := H) (L := []) (P := P)
  have hvl2 := verd_len (W := W) (H := H) (L := []) (P := Q)
  have hvl3 := verdC_len (W := W) (H := H) (L := []) (P := P) (Q := Q)
  have WN : WfL [] := fun x h => by cases h
  have HCA := Lib.hid (fun A2 c2 w h hp => implCheck W H none A2 0 0 P.length c2 [] P WN w (IntAt.nil w w.heap.size none) h (by omega) (by omega) hp)
  have HCB := Lib.hid (fun A2 c2 w h hp => implCheck W H none A2 0 0 Q.length c2 [] Q WN w (IntAt.nil w w.heap.size none) h (by omega) (by omega) hp)
  have HCC := Lib.hid (fun AP AQ cP cQ w h h2 => implCheckClasses W H none AP AQ 0 0 P.length cP Q.length cQ [] P Q WN w (IntAt.nil w w.heap.size none) h h2 (by omega) (by omega) (by omega))
  have HTF := Lib.hid (fun AP AQ cP cQ w h h2 => implTableFor AP AQ P.length cP Q.length cQ P Q 1 w h h2 (by omega) (by omega))
  have HCD := Lib.hid (fun AP AQ cP cQ w h h2 => implClassDepends W H none AP AQ 0 0 P.length cP Q.length cQ [] P Q WN w (IntAt.nil w w.heap.size none) h h2 (by omega) (by omega) (by omega))
  have HDA := Lib.hid (fun A2 c2 w h => implDependsOf W H none A2 0 0 P.length c2 [] P WN w (IntAt.nil w w.heap.size none) h (by omega) (by omega))
  have HDB := Lib.hid (fun A2 c2 w h => implDependsOf W H none A2 0 0 Q.length c2 [] Q WN w (IntAt.nil w w.heap.size none) h (by omega) (by omega))
  have htf := tabF_1 (P := P) (Q := Q) (c := 1) rfl
  rw [htf.1, htf.2] at HTF
  obtain ⟨va, hva⟩ : ∃ va, verdG W H [] P = va := ⟨_, rfl⟩
  obtain ⟨vb, hvb⟩ : ∃ vb, verdG W H [] Q = vb := ⟨_, rfl⟩
  obtain ⟨vv, hvv⟩ : ∃ vv, verdC W H [] P Q = vv := ⟨_, rfl⟩
  obtain ⟨D1, hD1⟩ : ∃ D, depG W H [] P = D := ⟨_, rfl⟩
  obtain ⟨D2, hD2⟩ : ∃ D, depG W H [] Q = D := ⟨_, rfl⟩
  obtain ⟨D3, hD3⟩ : ∃ D, clsD W H [] P Q = D := ⟨_, rfl⟩
  rw [hva] at HCA hcode
  rw [hvb] at HCB hcode
  rw [hvv] at HCC hcode
  rw [hD1] at HDA hlen hd1
  rw [hD2] at HDB hlen hd2
  rw [hD3] at HCD hlen
  obtain ⟨za, Ra, Ca⟩ := va
  obtain ⟨zb, Rb, Cb⟩ := vb
  obtain ⟨zv, Rv, Cv⟩ := vv
  simp only at hcode
  have HCODE := Lib.hid hcode
  have hpick := own_form ho2.r
  obtain ⟨Ap, cp, rfl, _⟩ := own_form ho2.r
  obtain ⟨Aq, cq, rfl, _⟩ := own_form ho2.c
  have F2 := Lib.hid (((fix_vrow ho2).al (.cells #[.int .i64 W, .int .i64 H, .slice none 0 0] 28)).al (.cells #[.slice Ap P.length cp, .slice Aq Q.length cq] 32))
  have KM := Lib.hid ((Blk.new w2 28 #[.int .i64 W, .int .i64 H, .slice none 0 0]).alloc (.cells #[.slice Ap P.length cp, .slice Aq Q.length cq] 32))
  have kc := Blk.new (w2.alloc (.cells #[.int .i64 W, .int .i64 H, .slice none 0 0] 28)) 32 #[.slice Ap P.length cp, .slice Aq Q.length cq]
  rw [alloc_size] at kc
  have KC := Lib.hid kc
  have BE := Lib.hid (below_gb hb2 (Nat.le_refl _) (gb_alloc (gb_alloc (gb_refl w2 none) (.cells #[.int .i64 W, .int .i64 H, .slice none 0 0] 28)) (.cells #[.slice Ap P.length cp, .slice Aq Q.length cq] 32)))
  have HL := Lib.hid hlen
  have hL1 := Lib.hid hd1
  have hL2 := Lib.hid hd2
  clear hok hr1 hr4 hs1 hs4 ho2 hb2 htA htB hP hQ hcl hcode hlen hva hvb hvv hD1 hD2 hD3 hvl hvl2 hvl3 hpick kc htf hd1 hd2
  go_wp2_with fail
  have R0 := Lib.hid (Chg.refl 0 0 ((w2.alloc (.cells #[.int .i64 W, .int .i64 H, .slice none 0 0] 28)).alloc (.cells #[.slice Ap P.length cp, .slice Aq Q.length cq] 32)))
  refine (HCA.out Ap cp _ (intAt_own (F2.out.nx (R0.out)).here.r rfl (Nat.le_refl _)) (HPR.out _ (BE.out.trans ((R0.out).below (.inr (Nat.le_refl _)) BE.out.size)))).mono ?_
  rintro e w3 ⟨p3, q3, rfl, o3, b3⟩
  obtain ⟨Ar3, cr3, rfl, _⟩ := own_form o3.r
  obtain ⟨Ac3, cc3, rfl, _⟩ := own_form o3.c
  have Q3 := Lib.hid (chg_gb 0 0 (gb_of_below b3 none))
  have R3 := Lib.hid (((R0.out).bl b3).al (.cells #[.int .i64 za, .slice Ar3 Ra.length cr3, .slice Ac3 Ca.length cc3] 36))
  have Ka := Lib.hid (Blk.new w3 36 #[.int .i64 za, .slice Ar3 Ra.length cr3, .slice Ac3 Ca.length cc3])
  clear o3 b3
  have a4m0 : (w3.alloc (.cells #[.int .i64 za, .slice Ar3 Ra.length cr3, .slice Ac3 Ca.length cc3] 36)).cell? ⟨w2.heap.size, 0, none⟩ = some (.int .i64 W) := (KM.out.nx (R3.out)).cell 0
  have a4m1 : (w3.alloc (.cells #[.int .i64 za, .slice Ar3 Ra.length cr3, .slice Ac3 Ca.length cc3] 36)).cell? ⟨w2.heap.size, 1, none⟩ = some (.int .i64 H) := (KM.out.nx (R3.out)).cell 1
  have a4m2 : (w3.alloc (.cells #[.int .i64 za, .slice Ar3 Ra.length cr3, .slice Ac3 Ca.length cc3] 36)).cell? ⟨w2.heap.size, 2, none⟩ = some (.slice none 0 0) := (KM.out.nx (R3.out)).cell 2
  have a4c0 : (w3.alloc (.cells #[.int .i64 za, .slice Ar3 Ra.length cr3, .slice Ac3 Ca.length cc3] 36)).cell? ⟨w2.heap.size + 1, 0, none⟩ = some (.slice Ap P.length cp) := (KC.out.nx (R3.out)).cell 0
  have a4c1 : (w3.alloc (.cells #[.int .i64 za, .slice Ar3 Ra.length cr3, .slice Ac3 Ca.length cc3] 36)).cell? ⟨w2.heap.size + 1, 1, none⟩ = some (.slice Aq Q.length cq) := (KC.out.nx (R3.out)).cell 1
  go_wp2_with fail
  refine (HCB.out Aq cq _ (intAt_own (F2.out.nx (R3.out)).here.c rfl (Nat.le_refl _)) (HPR.out _ (BE.out.trans ((R3.out).below (.inr (Nat.le_refl _)) BE.out.size)))).mono ?_
  rintro e w4 ⟨p4, q4, rfl, o4, b4⟩
  obtain ⟨Ar4, cr4, rfl, _⟩ := own_form o4.r
  obtain ⟨Ac4, cc4, rfl, _⟩ := own_form o4.c
  have Q4 := Lib.hid (chg_gb 0 0 (gb_of_below b4 none))
  have R4 := Lib.hid (((R3.out).bl b4).al (.cells #[.int .i64 zb, .slice Ar4 Rb.length cr4, .slice Ac4 Cb.length cc4] 36))
  replace Ka := Lib.hid ((Ka.out.nx Q4.out).alloc (.cells #[.int .i64 zb, .slice Ar4 Rb.length cr4, .slice Ac4 Cb.length cc4] 36))
  have Kb := Lib.hid (Blk.new w4 36 #[.int .i64 zb, .slice Ar4 Rb.length cr4, .slice Ac4 Cb.length cc4])
  clear o4 b4 a4m0 a4m1 a4m2 a4c0 a4c1
  have a5m0 : (w4.alloc (.cells #[.int .i64 zb, .slice Ar4 Rb.length cr4, .slice Ac4 Cb.length cc4] 36)).cell? ⟨w2.heap.size, 0, none⟩ = some (.int .i64 W) := (KM.out.nx (R4.out)).cell 0
  have a5m1 : (w4.alloc (.cells #[.int .i64 zb, .slice Ar4 Rb.length cr4, .slice Ac4 Cb.length cc4] 36)).cell? ⟨w2.heap.size, 1, none⟩ = some (.int .i64 H) := (KM.out.nx (R4.out)).cell 1
  have a5m2 : (w4.alloc (.cells #[.int .i64 zb, .slice Ar4 Rb.length cr4, .slice Ac4 Cb.length cc4] 36)).cell? ⟨w2.heap.size, 2, none⟩ = some (.slice none 0 0) := (KM.out.nx (R4.out)).cell 2
  have a5c0 : (w4.alloc (.cells #[.int .i64 zb, .slice Ar4 Rb.length cr4, .slice Ac4 Cb.length cc4] 36)).cell? ⟨w2.heap.size + 1, 0, none⟩ = some (.slice Ap P.length cp) := (KC.out.nx (R4.out)).cell 0
  have a5c1 : (w4.alloc (.cells #[.int .i64 zb, .slice Ar4 Rb.length cr4, .slice Ac4 Cb.length cc4] 36)).cell? ⟨w2.heap.size + 1, 1, none⟩ = some (.slice Aq Q.length cq) := (KC.out.nx (R4.out)).cell 1
  go_wp2_with fail
  refine (HCC.out Ap Aq cp cq _ (intAt_own (F2.out.nx (R4.out)).here.r rfl (Nat.le_refl _)) (intAt_own (F2.out.nx (R4.out)).here.c rfl (Nat.le_refl _))).mono ?_
  rintro e w5 ⟨p5, q5, rfl, o5, b5⟩
  obtain ⟨Ar5, cr5, rfl, _⟩ := own_form o5.r
  obtain ⟨Ac5, cc5, rfl, _⟩ := own_form o5.c
  have Q5 := Lib.hid (chg_gb 0 0 (gb_of_below b5 none))
  have R5 := Lib.hid (((R4.out).bl b5).al (.cells #[.int .i64 zv, .slice Ar5 Rv.length cr5, .slice Ac5 Cv.length cc5] 36))
  replace Ka := Lib.hid ((Ka.out.nx Q5.out).alloc (.cells #[.int .i64 zv, .slice Ar5 Rv.length cr5, .slice Ac5 Cv.length cc5] 36))
  replace Kb := Lib.hid ((Kb.out.nx Q5.out).alloc (.cells #[.int .i64 zv, .slice Ar5 Rv.length cr5, .slice Ac5 Cv.length cc5] 36))
  have Kv := Lib.hid (Blk.new w5 36 #[.int .i64 zv, .slice Ar5 Rv.length cr5, .slice Ac5 Cv.length cc5])
  clear o5 b5 a5m0 a5m1 a5m2 a5c0 a5c1
  have a6m0 : (w5.alloc (.cells #[.int .i64 zv, .slice Ar5 Rv.length cr5, .slice Ac5 Cv.length cc5] 36)).cell? ⟨w2.heap.size, 0, none⟩ = some (.int .i64 W) := (KM.out.nx (R5.out)).cell 0
  have a6m1 : (w5.alloc (.cells #[.int .i64 zv, .slice Ar5 Rv.length cr5, .slice Ac5 Cv.length cc5] 36)).cell? ⟨w2.heap.size, 1, none⟩ = some (.int .i64 H) := (KM.out.nx (R5.out)).cell 1
  have a6m2 : (w5.alloc (.cells #[.int .i64 zv, .slice Ar5 Rv.length cr5, .slice Ac5 Cv.length cc5] 36)).cell? ⟨w2.heap.size, 2, none⟩ = some (.slice none 0 0) := (KM.out.nx (R5.out)).cell 2
  have a6c0 : (w5.alloc (.cells #[.int .i64 zv, .slice Ar5 Rv.length cr5, .slice Ac5 Cv.length cc5] 36)).cell? ⟨w2.heap.size + 1, 0, none⟩ = some (.slice Ap P.length cp) := (KC.out.nx (R5.out)).cell 0
  have a6c1 : (w5.alloc (.cells #[.int .i64 zv, .slice Ar5 Rv.length cr5, .slice Ac5 Cv.length cc5] 36)).cell? ⟨w2.heap.size + 1, 1, none⟩ = some (.slice Aq Q.length cq) := (KC.out.nx (R5.out)).cell 1
  go_wp2_with fail
  refine (HTF.out Ap Aq cp cq _ (intAt_own (F2.out.nx (R5.out)).here.r rfl (Nat.le_refl _)) (intAt_own (F2.out.nx (R5.out)).here.c rfl (Nat.le_refl _))).mono ?_
  rintro e w6 ⟨v6, rfl, o6, b6⟩
  obtain ⟨Ax, cx, rfl, _⟩ := own_form o6
  have Q6 := Lib.hid (chg_gb 0 0 (gb_of_below b6 none))
  have R6 := Lib.hid (((R5.out).bl b6).al (.cells #[.slice Ax Q.length cx] 30))
  have FXX := Lib.hid ((fix_row o6).al (.cells #[.slice Ax Q.length cx] 30))
  replace Ka := Lib.hid ((Ka.out.nx Q6.out).alloc (.cells #[.slice Ax Q.length cx] 30))
  replace Kb := Lib.hid ((Kb.out.nx Q6.out).alloc (.cells #[.slice Ax Q.length cx] 30))
  replace Kv := Lib.hid ((Kv.out.nx Q6.out).alloc (.cells #[.slice Ax Q.length cx] 30))
  have Kx := Lib.hid (Blk.new w6 30 #[.slice Ax Q.length cx])
  clear o6 b6 a6m0 a6m1 a6m2 a6c0 a6c1
  have T0 := Lib.hid (Chg.refl 0 0 (w6.alloc (.cells #[.slice Ax Q.length cx] 30)))
  have KP := Lib.hid (fun (w' : World) (hq : Chg 0 0 (w6.alloc (.cells #[.slice Ax Q.length cx] 30)) w') => (show w'.cell? ⟨w2.heap.size, 0, none⟩ = some (.int .i64 W) ∧ w'.cell? ⟨w2.heap.size, 1, none⟩ = some (.int .i64 H) ∧ w'.cell? ⟨w2.heap.size, 2, none⟩ = some (.slice none 0 0) ∧ w'.cell? ⟨w2.heap.size + 1, 0, none⟩ = some (.slice Ap P.length cp) ∧ w'.cell? ⟨w2.heap.size + 1, 1, none⟩ = some (.slice Aq Q.length cq) ∧ w'.cell? ⟨w3.heap.size, 0, none⟩ = some (.int .i64 za) ∧ w'.cell? ⟨w4.heap.size, 0, none⟩ = some (.int .i64 zb) ∧ w'.cell? ⟨w5.heap.size, 0, none⟩ = some (.int .i64 zv) ∧ w'.cell? ⟨w6.heap.size, 0, none⟩ = some (.slice Ax Q.length cx) from ⟨(KM.out.nx (R6.out.trans hq)).cell 0, (KM.out.nx (R6.out.trans hq)).cell 1, (KM.out.nx (R6.out.trans hq)).cell 2, (KC.out.nx (R6.out.trans hq)).cell 0, (KC.out.nx (R6.out.trans hq)).cell 1, (Ka.out.nx hq).cell 0, (Kb.out.nx hq).cell 0, (Kv.out.nx hq).cell 0, (Kx.out.nx hq).cell 0⟩))
  go_wp2_with fail
  have hd1 := hL1.out
  have hd2 := hL2.out
  have hln := HL.out
  have hsum : IntKind.i64.wrap ((D1.length : Int) + (D2.length : Int)) = (D3.length : Int) := by rw [IntWalk.i64_in _ (by omega)]; omega
  by_cases ha : za = 1
  · by_cases hb : zb = 1
    · have hv : zv = 1 := by have h := HCODE.out; rw [decide_eq_true ha, decide_eq_true hb] at h; exact of_decide_eq_true h
      have b0 : (za == 1) = true := beq_iff_eq.2 ha
      have b1 : (zb == 1) = true := beq_iff_eq.2 hb
      have b2 : (zv == 1) = true := beq_iff_eq.2 hv
      go_region_held3 (fun w' => w'.cell? ⟨w2.heap.size, 0, none⟩ = some (.int .i64 W) ∧ w'.cell? ⟨w2.heap.size, 1, none⟩ = some (.int .i64 H) ∧ w'.cell? ⟨w2.heap.size, 2, none⟩ = some (.slice none 0 0) ∧ w'.cell? ⟨w2.heap.size + 1, 0, none⟩ = some (.slice Ap P.length cp) ∧ w'.cell? ⟨w2.heap.size + 1, 1, none⟩ = some (.slice Aq Q.length cq) ∧ w'.cell? ⟨w3.heap.size, 0, none⟩ = some (.int .i64 za) ∧ w'.cell? ⟨w4.heap.size, 0, none⟩ = some (.int .i64 zb) ∧ w'.cell? ⟨w5.heap.size, 0, none⟩ = some (.int .i64 zv) ∧ w'.cell? ⟨w6.heap.size, 0, none⟩ = some (.slice Ax Q.length cx))
        (first | with_reducible exact KP.out _ T0.out | with_reducible exact KP.out _ T0.out.dr | with_reducible exact KP.out _ T7.out | with_reducible exact KP.out _ T8.out | with_reducible exact KP.out _ T9.out | with_reducible exact KP.out _ T10.out | fail)
        (first
          | (go_at_call 9; (with_reducible refine (lawsSameInts Ax Aq Q.length cx cq _ _ Q _ (intAt_own (FXX.out.nx (T0.out.dr)).here rfl (Nat.le_refl _)) (intAt_own (F2.out.nx (R6.out.trans T0.out.dr)).here.c rfl (Nat.le_refl _)) (by omega)).mono ?_); rintro e w7 ⟨rfl, hg⟩; have T7 : Hid (Chg 0 0 (w6.alloc (.cells #[.slice Ax Q.length cx] 30)) w7) := Lib.hid (T0.out.dr.gb hg); clear hg)
          | (go_at_call 10; (with_reducible refine (HCD.out Ap Aq cp cq _ (intAt_own (F2.out.nx (R6.out.trans T7.out)).here.r rfl (Nat.le_refl _)) (intAt_own (F2.out.nx (R6.out.trans T7.out)).here.c rfl (Nat.le_refl _))).mono ?_); rintro e w8 ⟨v8, rfl, o8, b8⟩; obtain ⟨A8, c8, rfl, _⟩ := own_form o8; have T8 : Hid (Chg 0 0 (w6.alloc (.cells #[.slice Ax Q.length cx] 30)) w8) := Lib.hid (T7.out.bl b8); clear o8 b8)
          | (go_at_call 11; (with_reducible refine (HDA.out Ap cp _ (intAt_own (F2.out.nx (R6.out.trans T8.out)).here.r rfl (Nat.le_refl _))).mono ?_); rintro e w9 ⟨v9, rfl, o9, b9⟩; obtain ⟨A9, c9, rfl, _⟩ := own_form o9; have T9 : Hid (Chg 0 0 (w6.alloc (.cells #[.slice Ax Q.length cx] 30)) w9) := Lib.hid (T8.out.bl b9); clear o9 b9)
          | (go_at_call 11; (with_reducible refine (HDB.out Aq cq _ (intAt_own (F2.out.nx (R6.out.trans T9.out)).here.c rfl (Nat.le_refl _))).mono ?_); rintro e w10 ⟨v10, rfl, o10, b10⟩; obtain ⟨A10, c10, rfl, _⟩ := own_form o10; have T10 : Hid (Chg 0 0 (w6.alloc (.cells #[.slice Ax Q.length cx] 30)) w10) := Lib.hid (T9.out.bl b10); clear o10 b10)
          | fail)
      all_goals
        go_wp2_with fail
        go_ret
        exact ⟨rfl, BE.out.trans ((R6.out.trans T10.out).below (.inr (Nat.le_refl _)) BE.out.size)⟩
    · have hv : zv ≠ 1 := by have h := HCODE.out; rw [decide_eq_true ha, decide_eq_false hb] at h; exact of_decide_eq_false h
      have b1 : (zb == 1) = false := beq_eq_false_iff_ne.2 hb
      have b2 : (zv == 1) = false := beq_eq_false_iff_ne.2 hv
      have b0 : (za == 1) = true := beq_iff_eq.2 ha
      go_region_held3 (fun w' => w'.cell? ⟨w2.heap.size, 0, none⟩ = some (.int .i64 W) ∧ w'.cell? ⟨w2.heap.size, 1, none⟩ = some (.int .i64 H) ∧ w'.cell? ⟨w2.heap.size, 2, none⟩ = some (.slice none 0 0) ∧ w'.cell? ⟨w2.heap.size + 1, 0, none⟩ = some (.slice Ap P.length cp) ∧ w'.cell? ⟨w2.heap.size + 1, 1, none⟩ = some (.slice Aq Q.length cq) ∧ w'.cell? ⟨w3.heap.size, 0, none⟩ = some (.int .i64 za) ∧ w'.cell? ⟨w4.heap.size, 0, none⟩ = some (.int .i64 zb) ∧ w'.cell? ⟨w5.heap.size, 0, none⟩ = some (.int .i64 zv) ∧ w'.cell? ⟨w6.heap.size, 0, none⟩ = some (.slice Ax Q.length cx))
        (first | with_reducible exact KP.out _ T0.out | with_reducible exact KP.out _ T0.out.dr | with_reducible exact KP.out _ T7.out | with_reducible exact KP.out _ T8.out | with_reducible exact KP.out _ T9.out | with_reducible exact KP.out _ T10.out | fail)
        (first
          | (go_at_call 9; (with_reducible refine (lawsSameInts Ax Aq Q.length cx cq _ _ Q _ (intAt_own (FXX.out.nx (T0.out.dr)).here rfl (Nat.le_refl _)) (intAt_own (F2.out.nx (R6.out.trans T0.out.dr)).here.c rfl (Nat.le_refl _)) (by omega)).mono ?_); rintro e w7 ⟨rfl, hg⟩; have T7 : Hid (Chg 0 0 (w6.alloc (.cells #[.slice Ax Q.length cx] 30)) w7) := Lib.hid (T0.out.dr.gb hg); clear hg)
          | (go_at_call 10; (with_reducible refine (HCD.out Ap Aq cp cq _ (intAt_own (F2.out.nx (R6.out.trans T7.out)).here.r rfl (Nat.le_refl _)) (intAt_own (F2.out.nx (R6.out.trans T7.out)).here.c rfl (Nat.le_refl _))).mono ?_); rintro e w8 ⟨v8, rfl, o8, b8⟩; obtain ⟨A8, c8, rfl, _⟩ := own_form o8; have T8 : Hid (Chg 0 0 (w6.alloc (.cells #[.slice Ax Q.length cx] 30)) w8) := Lib.hid (T7.out.bl b8); clear o8 b8)
          | (go_at_call 11; (with_reducible refine (HDA.out Ap cp _ (intAt_own (F2.out.nx (R6.out.trans T8.out)).here.r rfl (Nat.le_refl _))).mono ?_); rintro e w9 ⟨v9, rfl, o9, b9⟩; obtain ⟨A9, c9, rfl, _⟩ := own_form o9; have T9 : Hid (Chg 0 0 (w6.alloc (.cells #[.slice Ax Q.length cx] 30)) w9) := Lib.hid (T8.out.bl b9); clear o9 b9)
          | (go_at_call 11; (with_reducible refine (HDB.out Aq cq _ (intAt_own (F2.out.nx (R6.out.trans T9.out)).here.c rfl (Nat.le_refl _))).mono ?_); rintro e w10 ⟨v10, rfl, o10, b10⟩; obtain ⟨A10, c10, rfl, _⟩ := own_form o10; have T10 : Hid (Chg 0 0 (w6.alloc (.cells #[.slice Ax Q.length cx] 30)) w10) := Lib.hid (T9.out.bl b10); clear o10 b10)
          | fail)
      all_goals
        go_wp2_with fail
        go_ret
        exact ⟨rfl, BE.out.trans ((R6.out.trans T10.out).below (.inr (Nat.le_refl _)) BE.out.size)⟩
  · have hv : zv ≠ 1 := by have h := HCODE.out; rw [decide_eq_false ha] at h; exact of_decide_eq_false (h.trans (Bool.false_and _))
    have b1 : (za == 1) = false := beq_eq_false_iff_ne.2 ha
    have b2 : (zv == 1) = false := beq_eq_false_iff_ne.2 hv
    refine wp_region_held_drew (S := (fun w' => w'.cell? ⟨w2.heap.size, 0, none⟩ = some (.int .i64 W) ∧ w'.cell? ⟨w2.heap.size, 1, none⟩ = some (.int .i64 H) ∧ w'.cell? ⟨w2.heap.size, 2, none⟩ = some (.slice none 0 0) ∧ w'.cell? ⟨w2.heap.size + 1, 0, none⟩ = some (.slice Ap P.length cp) ∧ w'.cell? ⟨w2.heap.size + 1, 1, none⟩ = some (.slice Aq Q.length cq) ∧ w'.cell? ⟨w3.heap.size, 0, none⟩ = some (.int .i64 za) ∧ w'.cell? ⟨w4.heap.size, 0, none⟩ = some (.int .i64 zb) ∧ w'.cell? ⟨w5.heap.size, 0, none⟩ = some (.int .i64 zv) ∧ w'.cell? ⟨w6.heap.size, 0, none⟩ = some (.slice Ax Q.length cx))) (by kernel_rfl) (KP.out _ T0.out.dr) (fun hHeld => ?_)
    refine wpAnyH_take (i := 0) (v := ?_) rfl (by kernel_rfl) (by kernel_rfl) (by kernel_rfl) (fun _ _ _ h => h) (Or.inl ⟨by rfl, ?_⟩) (by assumption) ?_
    rotate_left
    · intro wq hSw; (try dsimp only at hSw); go_simp; (try with_reducible rfl)
    simp only [List.getElem_toArray, List.getElem_cons_zero, Act.put, List.setIfInBounds_toArray, List.set_cons_zero, List.set_cons_succ]
    refine wpAnyH_take (i := 1) (v := ?_) rfl (by kernel_rfl) (by kernel_rfl) (by kernel_rfl) (fun _ _ _ h => h) (Or.inl ⟨by rfl, ?_⟩) (by assumption) ?_
    rotate_left
    · intro wq hSw; (try dsimp only at hSw); go_simp; (try with_reducible rfl)
    simp only [List.getElem_toArray, List.getElem_cons_succ, List.getElem_cons_zero, Act.put, List.setIfInBounds_toArray, List.set_cons_zero, List.set_cons_succ]
    refine wpAnyH_take (i := 2) (v := ?_) rfl (by kernel_rfl) (by kernel_rfl) (by kernel_rfl) (fun _ _ _ h => h) (Or.inl ⟨by rfl, ?_⟩) (by assumption) ?_
    rotate_left
    · intro wq hSw; (try dsimp only at hSw); go_simp; (try with_reducible rfl)
    simp only [List.getElem_toArray, List.getElem_cons_succ, List.getElem_cons_zero, Act.put, List.setIfInBounds_toArray, List.set_cons_zero, List.set_cons_succ]
    refine wpAnyH_take (i := 3) (v := ?_) rfl (by kernel_rfl) (by kernel_rfl) (by kernel_rfl) (fun _ _ _ h => h) (Or.inl ⟨by rfl, ?_⟩) (by assumption) ?_
    rotate_left
    · intro wq hSw; (try dsimp only at hSw); go_simp; (try with_reducible rfl)
    simp only [List.getElem_toArray, List.getElem_cons_succ, List.getElem_cons_zero, Act.put, List.setIfInBounds_toArray, List.set_cons_zero, List.set_cons_succ]
    refine wpAnyH_take (i := 4) (v := ?_) rfl (by kernel_rfl) (by kernel_rfl) (by kernel_rfl) (fun _ _ _ h => h) (Or.inl ⟨by rfl, ?_⟩) (by assumption) ?_
    rotate_left
    · intro wq hSw; (try dsimp only at hSw); go_simp; (try with_reducible rfl)
    simp only [List.getElem_toArray, List.getElem_cons_succ, List.getElem_cons_zero, Act.put, List.setIfInBounds_toArray, List.set_cons_zero, List.set_cons_succ]
    refine wpAnyH_take (i := 5) (v := ?_) rfl (by kernel_rfl) (by kernel_rfl) (by kernel_rfl) (fun _ _ _ h => h) (Or.inl ⟨by rfl, ?_⟩) (by assumption) ?_
    rotate_left
    · intro wq hSw; (try dsimp only at hSw); go_simp; (try with_reducible rfl)
    simp only [List.getElem_toArray, List.getElem_cons_succ, List.getElem_cons_zero, Act.put, List.setIfInBounds_toArray, List.set_cons_zero, List.set_cons_succ]
    refine wpAnyH_take (i := 6) (v := ?_) rfl (by kernel_rfl) (by kernel_rfl) (by kernel_rfl) (fun _ _ _ h => h) (Or.inl ⟨by rfl, ?_⟩) (by assumption) ?_
    rotate_left
    · intro wq hSw; (try dsimp only at hSw); go_simp; (try with_reducible rfl)
    simp only [List.getElem_toArray, List.getElem_cons_succ, List.getElem_cons_zero, Act.put, List.setIfInBounds_toArray, List.set_cons_zero, List.set_cons_succ]
    refine wpAnyH_take (i := 7) (v := undef) rfl (by kernel_rfl) (by kernel_rfl) (by kernel_rfl) (fun _ _ _ h => h) (Or.inr ⟨by rfl, rfl⟩) (by assumption) ?_
    simp only [List.getElem_toArray, List.getElem_cons_succ, List.getElem_cons_zero, Act.put, List.setIfInBounds_toArray, List.set_cons_zero, List.set_cons_succ]
    refine wpAnyH_take (i := 8) (v := undef) rfl (by kernel_rfl) (by kernel_rfl) (by kernel_rfl) (fun _ _ _ h => h) (Or.inr ⟨by rfl, rfl⟩) (by assumption) ?_
    simp only [List.getElem_toArray, List.getElem_cons_succ, List.getElem_cons_zero, Act.put, List.setIfInBounds_toArray, List.set_cons_zero, List.set_cons_succ]
    refine wpAnyH_take (i := 9) (v := undef) rfl (by kernel_rfl) (by kernel_rfl) (by kernel_rfl) (fun _ _ _ h => h) (Or.inr ⟨by rfl, rfl⟩) (by assumption) ?_
    simp only [List.getElem_toArray, List.getElem_cons_succ, List.getElem_cons_zero, Act.put, List.setIfInBounds_toArray, List.set_cons_zero, List.set_cons_succ]
    refine wpAnyH_take (i := 10) (v := ?_) rfl (by kernel_rfl) (by kernel_rfl) (by kernel_rfl) (fun _ _ _ h => h) (Or.inl ⟨by rfl, ?_⟩) (by assumption) ?_
    rotate_left
    · intro wq hSw; (try dsimp only at hSw); go_simp; (try with_reducible rfl)
    simp only [List.getElem_toArray, List.getElem_cons_succ, List.getElem_cons_zero, Act.put, List.setIfInBounds_toArray, List.set_cons_zero, List.set_cons_succ]
    refine wpAnyH_take (i := 11) (v := ?_) rfl (by kernel_rfl) (by kernel_rfl) (by kernel_rfl) (fun _ _ _ h => h) (Or.inl ⟨by rfl, ?_⟩) (by assumption) ?_
    rotate_left
    · intro wq hSw; (try dsimp only at hSw); go_simp; (try with_reducible rfl)
    simp only [List.getElem_toArray, List.getElem_cons_succ, List.getElem_cons_zero, Act.put, List.setIfInBounds_toArray, List.set_cons_zero, List.set_cons_succ]
    refine wpAnyH_take (i := 12) (v := ?_) rfl (by kernel_rfl) (by kernel_rfl) (by kernel_rfl) (fun _ _ _ h => h) (Or.inl ⟨by rfl, ?_⟩) (by assumption) ?_
    rotate_left
    · intro wq hSw; (try dsimp only at hSw); go_simp; (try with_reducible rfl)
    simp only [List.getElem_toArray, List.getElem_cons_succ, List.getElem_cons_zero, Act.put, List.setIfInBounds_toArray, List.set_cons_zero, List.set_cons_succ]
    refine wpAnyH_take (i := 13) (v := ?_) rfl (by kernel_rfl) (by kernel_rfl) (by kernel_rfl) (fun _ _ _ h => h) (Or.inl ⟨by rfl, ?_⟩) (by assumption) ?_
    rotate_left
    · intro wq hSw; (try dsimp only at hSw); go_simp; (try with_reducible rfl)
    simp only [List.getElem_toArray, List.getElem_cons_succ, List.getElem_cons_zero, Act.put, List.setIfInBounds_toArray, List.set_cons_zero, List.set_cons_succ]
    refine wpAnyH_take (i := 14) (v := ?_) rfl (by kernel_rfl) (by kernel_rfl) (by kernel_rfl) (fun _ _ _ h => h) (Or.inl ⟨by rfl, ?_⟩) (by assumption) ?_
    rotate_left
    · intro wq hSw; (try dsimp only at hSw); go_simp; (try with_reducible rfl)
    simp only [List.getElem_toArray, List.getElem_cons_succ, List.getElem_cons_zero, Act.put, List.setIfInBounds_toArray, List.set_cons_zero, List.set_cons_succ]
    refine wpAnyH_take (i := 15) (v := ?_) rfl (by kernel_rfl) (by kernel_rfl) (by kernel_rfl) (fun _ _ _ h => h) (Or.inl ⟨by rfl, ?_⟩) (by assumption) ?_
    rotate_left
    · intro wq hSw; (try dsimp only at hSw); go_simp; (try with_reducible rfl)
    simp only [List.getElem_toArray, List.getElem_cons_succ, List.getElem_cons_zero, Act.put, List.setIfInBounds_toArray, List.set_cons_zero, List.set_cons_succ]
    refine wpAnyH_take (i := 16) (v := ?_) rfl (by kernel_rfl) (by kernel_rfl) (by kernel_rfl) (fun _ _ _ h => h) (Or.inl ⟨by rfl, ?_⟩) (by assumption) ?_
    rotate_left
    · intro wq hSw; (try dsimp only at hSw); go_simp; (try with_reducible rfl)
    simp only [List.getElem_toArray, List.getElem_cons_succ, List.getElem_cons_zero, Act.put, List.setIfInBounds_toArray, List.set_cons_zero, List.set_cons_succ]
    refine wpAnyH_take (i := 17) (v := ?_) rfl (by kernel_rfl) (by kernel_rfl) (by kernel_rfl) (fun _ _ _ h => h) (Or.inl ⟨by rfl, ?_⟩) (by assumption) ?_
    rotate_left
    · intro wq hSw; (try dsimp only at hSw); go_simp; (try with_reducible rfl)
    simp only [List.getElem_toArray, List.getElem_cons_succ, List.getElem_cons_zero, Act.put, List.setIfInBounds_toArray, List.set_cons_zero, List.set_cons_succ]
    refine wpAnyH_take (i := 18) (v := ?_) rfl (by kernel_rfl) (by kernel_rfl) (by kernel_rfl) (fun _ _ _ h => h) (Or.inl ⟨by rfl, ?_⟩) (by assumption) ?_
    rotate_left
    · intro wq hSw; (try dsimp only at hSw); go_simp; (try with_reducible rfl)
    simp only [List.getElem_toArray, List.getElem_cons_succ, List.getElem_cons_zero, Act.put, List.setIfInBounds_toArray, List.set_cons_zero, List.set_cons_succ]
    refine wpAnyH_take (i := 19) (v := ?_) rfl (by kernel_rfl) (by kernel_rfl) (by kernel_rfl) (fun _ _ _ h => h) (Or.inl ⟨by rfl, ?_⟩) (by assumption) ?_
    rotate_left
    · intro wq hSw; (try dsimp only at hSw); go_simp; (try with_reducible rfl)
    simp only [List.getElem_toArray, List.getElem_cons_succ, List.getElem_cons_zero, Act.put, List.setIfInBounds_toArray, List.set_cons_zero, List.set_cons_succ]
    refine wpAnyH_take (i := 20) (v := ?_) rfl (by kernel_rfl) (by kernel_rfl) (by kernel_rfl) (fun _ _ _ h => h) (Or.inl ⟨by rfl, ?_⟩) (by assumption) ?_
    rotate_left
    · intro wq hSw; (try dsimp only at hSw); go_simp; (try with_reducible rfl)
    simp only [List.getElem_toArray, List.getElem_cons_succ, List.getElem_cons_zero, Act.put, List.setIfInBounds_toArray, List.set_cons_zero, List.set_cons_succ]
    refine wpAnyH_ready (rs := [21]) (by kernel_rfl) (by simp) ?_
    refine AllReadyH.cons rfl (fun K hK => ?_) AllReadyH.nil
    go_simp
    ((with_reducible refine (lawsSameInts Ax Aq Q.length cx cq _ _ Q _ (intAt_own (FXX.out.nx (T0.out.dr)).here rfl (Nat.le_refl _)) (intAt_own (F2.out.nx (R6.out.trans T0.out.dr)).here.c rfl (Nat.le_refl _)) (by omega)).mono ?_); rintro e w7 ⟨rfl, hg⟩; have T7 : Hid (Chg 0 0 (w6.alloc (.cells #[.slice Ax Q.length cx] 30)) w7) := Lib.hid (T0.out.dr.gb hg); clear hg)
    try go_wp2_with fail
    refine hK.out _ _ (KP.out _ T7.out) (fun hHeld => ?_)
    clear hK K
    try simp only [List.getElem_toArray, List.getElem_cons_succ, List.getElem_cons_zero, Act.put, List.setIfInBounds_toArray, List.set_cons_zero, List.set_cons_succ]
    refine wpAnyH_take (i := 22) (v := ?_) rfl (by kernel_rfl) (by kernel_rfl) (by kernel_rfl) (fun _ _ _ h => h) (Or.inl ⟨by rfl, ?_⟩) (by assumption) ?_
    rotate_left
    · intro wq hSw; (try dsimp only at hSw); go_simp; (try with_reducible rfl)
    simp only [List.getElem_toArray, List.getElem_cons_succ, List.getElem_cons_zero, Act.put, List.setIfInBounds_toArray, List.set_cons_zero, List.set_cons_succ]
    refine wpAnyH_take (i := 23) (v := ?_) rfl (by kernel_rfl) (by kernel_rfl) (by kernel_rfl) (fun _ _ _ h => h) (Or.inl ⟨by rfl, ?_⟩) (by assumption) ?_
    rotate_left
    · intro wq hSw; (try dsimp only at hSw); go_simp; (try with_reducible rfl)
    simp only [List.getElem_toArray, List.getElem_cons_succ, List.getElem_cons_zero, Act.put, List.setIfInBounds_toArray, List.set_cons_zero, List.set_cons_succ]
    refine wpAnyH_take (i := 24) (v := ?_) rfl (by kernel_rfl) (by kernel_rfl) (by kernel_rfl) (fun _ _ _ h => h) (Or.inl ⟨by rfl, ?_⟩) (by assumption) ?_
    rotate_left
    · intro wq hSw; (try dsimp only at hSw); go_simp; (try with_reducible rfl)
    simp only [List.getElem_toArray, List.getElem_cons_succ, List.getElem_cons_zero, Act.put, List.setIfInBounds_toArray, List.set_cons_zero, List.set_cons_succ]
    refine wpAnyH_take (i := 25) (v := ?_) rfl (by kernel_rfl) (by kernel_rfl) (by kernel_rfl) (fun _ _ _ h => h) (Or.inl ⟨by rfl, ?_⟩) (by assumption) ?_
    rotate_left
    · intro wq hSw; (try dsimp only at hSw); go_simp; (try with_reducible rfl)
    simp only [List.getElem_toArray, List.getElem_cons_succ, List.getElem_cons_zero, Act.put, List.setIfInBounds_toArray, List.set_cons_zero, List.set_cons_succ]
    refine wpAnyH_take (i := 28) (v := ?_) rfl (by kernel_rfl) (by kernel_rfl) (by kernel_rfl) (fun _ _ _ h => h) (Or.inl ⟨by rfl, ?_⟩) (by assumption) ?_
    rotate_left
    · intro wq hSw; (try dsimp only at hSw); go_simp; (try with_reducible rfl)
    simp only [List.getElem_toArray, List.getElem_cons_succ, List.getElem_cons_zero, Act.put, List.setIfInBounds_toArray, List.set_cons_zero, List.set_cons_succ]
    refine wpAnyH_take (i := 29) (v := ?_) rfl (by kernel_rfl) (by kernel_rfl) (by kernel_rfl) (fun _ _ _ h => h) (Or.inl ⟨by rfl, ?_⟩) (by assumption) ?_
    rotate_left
    · intro wq hSw; (try dsimp only at hSw); go_simp; (try with_reducible rfl)
    simp only [List.getElem_toArray, List.getElem_cons_succ, List.getElem_cons_zero, Act.put, List.setIfInBounds_toArray, List.set_cons_zero, List.set_cons_succ]
    refine wpAnyH_take (i := 30) (v := ?_) rfl (by kernel_rfl) (by kernel_rfl) (by kernel_rfl) (fun _ _ _ h => h) (Or.inl ⟨by rfl, ?_⟩) (by assumption) ?_
    rotate_left
    · intro wq hSw; (try dsimp only at hSw); go_simp; (try with_reducible rfl)
    simp only [List.getElem_toArray, List.getElem_cons_succ, List.getElem_cons_zero, Act.put, List.setIfInBounds_toArray, List.set_cons_zero, List.set_cons_succ]
    refine wpAnyH_take (i := 33) (v := ?_) rfl (by kernel_rfl) (by kernel_rfl) (by kernel_rfl) (fun _ _ _ h => h) (Or.inl ⟨by rfl, ?_⟩) (by assumption) ?_
    rotate_left
    · intro wq hSw; (try dsimp only at hSw); go_simp; (try with_reducible rfl)
    simp only [List.getElem_toArray, List.getElem_cons_succ, List.getElem_cons_zero, Act.put, List.setIfInBounds_toArray, List.set_cons_zero, List.set_cons_succ]
    refine wpAnyH_take (i := 34) (v := ?_) rfl (by kernel_rfl) (by kernel_rfl) (by kernel_rfl) (fun _ _ _ h => h) (Or.inl ⟨by rfl, ?_⟩) (by assumption) ?_
    rotate_left
    · intro wq hSw; (try dsimp only at hSw); go_simp; (try with_reducible rfl)
    simp only [List.getElem_toArray, List.getElem_cons_succ, List.getElem_cons_zero, Act.put, List.setIfInBounds_toArray, List.set_cons_zero, List.set_cons_succ]
    refine wpAnyH_take (i := 35) (v := ?_) rfl (by kernel_rfl) (by kernel_rfl) (by kernel_rfl) (fun _ _ _ h => h) (Or.inl ⟨by rfl, ?_⟩) (by assumption) ?_
    rotate_left
    · intro wq hSw; (try dsimp only at hSw); go_simp; (try with_reducible rfl)
    simp only [List.getElem_toArray, List.getElem_cons_succ, List.getElem_cons_zero, Act.put, List.setIfInBounds_toArray, List.set_cons_zero, List.set_cons_succ]
    refine wpAnyH_ready (rs := [26]) (by kernel_rfl) (by simp) ?_
    refine AllReadyH.cons rfl (fun K hK => ?_) AllReadyH.nil
    go_simp
    ((with_reducible refine (HCD.out Ap Aq cp cq _ (intAt_own (F2.out.nx (R6.out.trans T7.out)).here.r rfl (Nat.le_refl _)) (intAt_own (F2.out.nx (R6.out.trans T7.out)).here.c rfl (Nat.le_refl _))).mono ?_); rintro e w8 ⟨v8, rfl, o8, b8⟩; obtain ⟨A8, c8, rfl, _⟩ := own_form o8; have T8 : Hid (Chg 0 0 (w6.alloc (.cells #[.slice Ax Q.length cx] 30)) w8) := Lib.hid (T7.out.bl b8); clear o8 b8)
    try go_wp2_with fail
    refine hK.out _ _ (KP.out _ T8.out) (fun hHeld => ?_)
    clear hK K
    try simp only [List.getElem_toArray, List.getElem_cons_succ, List.getElem_cons_zero, Act.put, List.setIfInBounds_toArray, List.set_cons_zero, List.set_cons_succ]
    refine wpAnyH_take (i := 27) (v := ?_) rfl (by kernel_rfl) (by kernel_rfl) (by kernel_rfl) (fun _ _ _ h => h) (Or.inl ⟨by rfl, ?_⟩) (by assumption) ?_
    rotate_left
    · intro wq hSw; (try dsimp only at hSw); go_simp; (try with_reducible rfl)
    simp only [List.getElem_toArray, List.getElem_cons_succ, List.getElem_cons_zero, Act.put, List.setIfInBounds_toArray, List.set_cons_zero, List.set_cons_succ]
    refine wpAnyH_ready (rs := [31]) (by kernel_rfl) (by simp) ?_
    refine AllReadyH.cons rfl (fun K hK => ?_) AllReadyH.nil
    go_simp
    ((with_reducible refine (HDA.out Ap cp _ (intAt_own (F2.out.nx (R6.out.trans T8.out)).here.r rfl (Nat.le_refl _))).mono ?_); rintro e w9 ⟨v9, rfl, o9, b9⟩; obtain ⟨A9, c9, rfl, _⟩ := own_form o9; have T9 : Hid (Chg 0 0 (w6.alloc (.cells #[.slice Ax Q.length cx] 30)) w9) := Lib.hid (T8.out.bl b9); clear o9 b9)
    try go_wp2_with fail
    refine hK.out _ _ (KP.out _ T9.out) (fun hHeld => ?_)
    clear hK K
    try simp only [List.getElem_toArray, List.getElem_cons_succ, List.getElem_cons_zero, Act.put, List.setIfInBounds_toArray, List.set_cons_zero, List.set_cons_succ]
    refine wpAnyH_take (i := 32) (v := ?_) rfl (by kernel_rfl) (by kernel_rfl) (by kernel_rfl) (fun _ _ _ h => h) (Or.inl ⟨by rfl, ?_⟩) (by assumption) ?_
    rotate_left
    · intro wq hSw; (try dsimp only at hSw); go_simp; (try with_reducible rfl)
    simp only [List.getElem_toArray, List.getElem_cons_succ, List.getElem_cons_zero, Act.put, List.setIfInBounds_toArray, List.set_cons_zero, List.set_cons_succ]
    refine wpAnyH_ready (rs := [36]) (by kernel_rfl) (by simp) ?_
    refine AllReadyH.cons rfl (fun K hK => ?_) AllReadyH.nil
    go_simp
    ((with_reducible refine (HDB.out Aq cq _ (intAt_own (F2.out.nx (R6.out.trans T9.out)).here.c rfl (Nat.le_refl _))).mono ?_); rintro e w10 ⟨v10, rfl, o10, b10⟩; obtain ⟨A10, c10, rfl, _⟩ := own_form o10; have T10 : Hid (Chg 0 0 (w6.alloc (.cells #[.slice Ax Q.length cx] 30)) w10) := Lib.hid (T9.out.bl b10); clear o10 b10)
    try go_wp2_with fail
    refine hK.out _ _ (KP.out _ T10.out) (fun hHeld => ?_)
    clear hK K
    try simp only [List.getElem_toArray, List.getElem_cons_succ, List.getElem_cons_zero, Act.put, List.setIfInBounds_toArray, List.set_cons_zero, List.set_cons_succ]
    refine wpAnyH_take (i := 37) (v := ?_) rfl (by kernel_rfl) (by kernel_rfl) (by kernel_rfl) (fun _ _ _ h => h) (Or.inl ⟨by rfl, ?_⟩) (by assumption) ?_
    rotate_left
    · intro wq hSw; (try dsimp only at hSw); go_simp; (try with_reducible rfl)
    simp only [List.getElem_toArray, List.getElem_cons_succ, List.getElem_cons_zero, Act.put, List.setIfInBounds_toArray, List.set_cons_zero, List.set_cons_succ]
    refine wpAnyH_take (i := 38) (v := ?_) rfl (by kernel_rfl) (by kernel_rfl) (by kernel_rfl) (fun _ _ _ h => h) (Or.inl ⟨by rfl, ?_⟩) (by assumption) ?_
    rotate_left
    · intro wq hSw; (try dsimp only at hSw); go_simp; (try with_reducible rfl)
    simp only [List.getElem_toArray, List.getElem_cons_succ, List.getElem_cons_zero, Act.put, List.setIfInBounds_toArray, List.set_cons_zero, List.set_cons_succ]
    refine wpAnyH_take (i := 39) (v := ?_) rfl (by kernel_rfl) (by kernel_rfl) (by kernel_rfl) (fun _ _ _ h => h) (Or.inl ⟨by rfl, ?_⟩) (by assumption) ?_
    rotate_left
    · intro wq hSw; (try dsimp only at hSw); go_simp; (try with_reducible rfl)
    simp only [List.getElem_toArray, List.getElem_cons_succ, List.getElem_cons_zero, Act.put, List.setIfInBounds_toArray, List.set_cons_zero, List.set_cons_succ]
    refine wpAnyH_take (i := 40) (v := ?_) rfl (by kernel_rfl) (by kernel_rfl) (by kernel_rfl) (fun _ _ _ h => h) (Or.inl ⟨by rfl, ?_⟩) (by assumption) ?_
    rotate_left
    · intro wq hSw; (try dsimp only at hSw); go_simp; (try with_reducible rfl)
    simp only [List.getElem_toArray, List.getElem_cons_succ, List.getElem_cons_zero, Act.put, List.setIfInBounds_toArray, List.set_cons_zero, List.set_cons_succ]
    refine wpAnyH_take (i := 41) (v := ?_) rfl (by kernel_rfl) (by kernel_rfl) (by kernel_rfl) (fun _ _ _ h => h) (Or.inl ⟨by rfl, ?_⟩) (by assumption) ?_
    rotate_left
    · intro wq hSw; (try dsimp only at hSw); go_simp; (try with_reducible rfl)
    simp only [List.getElem_toArray, List.getElem_cons_succ, List.getElem_cons_zero, Act.put, List.setIfInBounds_toArray, List.set_cons_zero, List.set_cons_succ]
    refine wpAnyH_done (by kernel_rfl) ?_ _
    go_wp2_with fail
    go_ret
    exact ⟨rfl, BE.out.trans ((R6.out.trans T10.out).below (.inr (Nat.le_refl _)) BE.out.size)⟩
end Go.Proofs.YtcmlnokfjbglaaaDoor
end
