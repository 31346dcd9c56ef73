/- What is proved here: what the program's waitersOf returns: 128 lists of its own in different blocks, list c with the channels that can wait for c; only new blocks are written. -/
import Derived.Test.YtnielgpcfgfioaaNewR
import Derived.Test.YtnielgpcfgfioaaDepI
import Derived.Test.YtnielgpcfgfioaaQueM
import Derived.Test.YtnielgpcfgfioaaDpR
import Derived.Deep.AppendLies
import Derived.Deep.RegionLaw
namespace Go.Proofs.Ytnielgpcfgfioaa
open Go.ChangeShapes Go.WideShapes Go.ChangeAt Go.RowKit
set_option linter.unusedVariables false
set_option maxRecDepth 20000

theorem info_rows : (Try.prog.info? 24).map (fun i => (i.zero, i.size, i.bytes)) = some (some (.slice none 0 0), 1, 24) := by kernel_rfl
theorem own_kind {w : World} {b1 b2 s1 s2 n1 n2 : Nat} {e1 e2 : TypeId} {v1 v2 : Value} {x1 x2 : List Value} (h1 : w.ownsRow b1 e1 s1 v1 n1 x1) (h2 : w.ownsRow b2 e2 s2 v2 n2 x2) (hne : e1 ≠ e2) : v1.ownBlock = none ∨ v1.ownBlock ≠ v2.ownBlock := by
  rcases h1.2 with ⟨h3, _⟩ | ⟨g1, c1, cur1, h3, _, hg1, _⟩
  · rw [h3]; exact .inl rfl
  · right
    rw [h3]
    rcases h2.2 with ⟨h4, _⟩ | ⟨g, c4, cur, h4, _, hg, _⟩
    · rw [h4]; intro e; cases e
    · rw [h4]
      intro e
      have e2 : g1 = g := Option.some.inj e
      subst e2
      rw [hg] at hg1
      have e3 := Option.some.inj hg1
      injection e3 with _ e4 _
      exact hne e4.symm
/-- 128 lists: list k, the value V k, holds the numbers of F k; all lie in different blocks. -/
structure Lsts (base g : Nat) (V : Nat → Value) (F : Nat → List Int) (w : World) : Prop where
  row : w.ownsRow base 24 1 (.slice (some ⟨g, 0, none⟩) 128 128) 128 ((List.range 128).map V)
  one : ∀ k, k < 128 → w.ownsRow base 3 1 (V k) (F k).length (intsV (F k))
  far : ∀ k l, k < 128 → l < 128 → k ≠ l → Apart (V k) (V l)
section
variable {base g : Nat} {V : Nat → Value} {F : Nat → List Int} {w w' : World}
theorem Lsts.gb (h : Lsts base g V F w) (hg : w.grownBy w' none) : Lsts base g V F w' := ⟨own_none h.row hg, fun k hk => own_none (h.one k hk) hg, h.far⟩
theorem Lsts.cell (h : Lsts base g V F w) {k : Nat} (hk : k < 128) : w.cell? ⟨g, k, none⟩ = some (V k) := by
  have := h.row.cellAt k hk
  rw [this, List.getElem?_map, List.getElem?_range hk]
  rfl
theorem Lsts.kept {k : Nat} {o : Obj} (h : Lsts base g V F w) (hk : k < 128) (hg : (w.alloc o).grownBy w' (V k).ownBlock) : w'.ownsRow base 24 1 (.slice (some ⟨g, 0, none⟩) 128 128) 128 ((List.range 128).map V) := by
  have h2 := h.gb (gb_alloc (gb_refl w none) o)
  exact h2.row.kept hg (own_kind h2.row (h2.one k hk) (by decide))
/-- List k has one number more. -/
theorem Lsts.app {k q cap : Nat} {o : Obj} {x : Int} (h : Lsts base g V F w) (hk : k < 128) (ho : w'.ownsRow base 3 1 (.slice (some ⟨q, 0, none⟩) ((F k).length + 1) cap) ((F k).length + 1) (intsV (F k) ++ [.int .i64 x]))
    (hg : (w.alloc o).grownBy w' (V k).ownBlock) (hat : (V k).ownBlock = some q ∨ q = (w.alloc o).heap.size) {F' : Nat → List Int} (hF : ∀ l, l < 128 → F' l = if l = k then F k ++ [x] else F l) :
    Lsts base g (fun l => if l = k then .slice (some ⟨q, 0, none⟩) ((F k).length + 1) cap else V l) F' (w'.setCell ⟨g, k, none⟩ (.slice (some ⟨q, 0, none⟩) ((F k).length + 1) cap)) := by
  have h2 := h.gb (gb_alloc (gb_refl w none) o)
  have hr := h.kept hk hg
  obtain ⟨h3, h4⟩ := hr.stored k (.slice (some ⟨q, 0, none⟩) ((F k).length + 1) cap)
  have hin : ∀ {v : Value} {n : Nat} {xs : List Value}, w'.ownsRow base 3 1 v n xs → (w'.setCell ⟨g, k, none⟩ (.slice (some ⟨q, 0, none⟩) ((F k).length + 1) cap)).ownsRow base 3 1 v n xs := fun hv => hv.kept h4 (own_kind hv hr (by decide))
  have hsz : (w.alloc o).heap.size = w.heap.size + 1 := alloc_size _ _
  refine ⟨?_, fun l hl => ?_, fun l m hl hm hne => ?_⟩
  · have e : (List.range 128).map (fun l => if l = k then Value.slice (some ⟨q, 0, none⟩) ((F k).length + 1) cap else V l) = ((List.range 128).map V).set k (.slice (some ⟨q, 0, none⟩) ((F k).length + 1) cap) := by
      apply List.ext_getElem (by simp only [List.length_map, List.length_range, List.length_set])
      intro i h5 h6
      rw [List.getElem_map, List.getElem_range, List.getElem_set, List.getElem_map, List.getElem_range]
      by_cases e : i = k
      · rw [if_pos e, if_pos e.symm]
      · rw [if_neg e, if_neg (fun e2 => e e2.symm)]
    rw [e]
    exact h3
  · rw [hF l hl]
    by_cases e : l = k
    · rw [if_pos e, if_pos e]
      refine hin ?_
      rw [List.length_append, intsV_append]
      exact ho
    · rw [if_neg e, if_neg e]
      exact hin (row_kept (h2.one l hl) hg (fun j e2 e3 => h.far k l hk hl (fun e4 => e e4.symm) j e2 e3))
  · by_cases e : l = k
    · subst e
      rw [if_pos rfl, if_neg (fun e2 => hne e2.symm)]
      intro j e2 e3
      have e4 : q = j := Option.some.inj e2
      subst e4
      rcases hat with h5 | h5
      · exact h.far l m hl hm hne q h5 e3
      · have := ((h.one m hm).lt q e3).2
        omega
    · rw [if_neg e]
      by_cases e1 : m = k
      · subst e1
        rw [if_pos rfl]
        intro j e2 e3
        have e4 : q = j := Option.some.inj e3
        subst e4
        rcases hat with h5 | h5
        · exact h.far l m hl hm hne q e2 h5
        · have := ((h.one l hl).lt q e2).2
          omega
      · rw [if_neg e1]
        exact h.far l m hl hm hne
end
/-- The lists as another function reads them. -/
def LstsIn (w : World) (B g : Nat) (F : Nat → List Int) : Prop := g < B ∧ ∀ k, k < 128 → ∃ A c, w.cell? ⟨g, k, none⟩ = some (.slice A (F k).length c) ∧ IntAt w B A (F k).length (F k)
theorem LstsIn.below {w w' : World} {B g : Nat} {F : Nat → List Int} (h : LstsIn w B g F) (hb : Below B w w') : LstsIn w' B g F :=
  ⟨h.1, fun k hk => by
    obtain ⟨A, c, h1, h2⟩ := h.2 k hk
    exact ⟨A, c, (World.cell?_of_block (hb.block g h.1)).trans h1, h2.below hb⟩⟩
theorem LstsIn.more {w : World} {B B' g : Nat} {F : Nat → List Int} (h : LstsIn w B g F) (hB : B ≤ B') : LstsIn w B' g F :=
  ⟨Nat.lt_of_lt_of_le h.1 hB, fun k hk => by
    obtain ⟨A, c, h1, h2⟩ := h.2 k hk
    exact ⟨A, c, h1, h2.more hB⟩⟩
theorem Lsts.read {base g : Nat} {V : Nat → Value} {F : Nat → List Int} {w : World} (h : Lsts base g V F w) {B : Nat} (hB : w.heap.size ≤ B) : LstsIn w B g F := by
  refine ⟨Nat.lt_of_lt_of_le (h.row.lt g rfl).2 hB, fun k hk => ?_⟩
  have h1 := h.one k hk
  obtain ⟨A, c, e, _⟩ := own_form h1
  refine ⟨A, c, by rw [h.cell hk, e], ?_⟩
  rw [e] at h1
  exact intAt_own h1 rfl hB

/-- A new row of 128 empty lists. -/
theorem made_rows : ∃ c : Array Value, (∀ w : World, (Instr.makeSlice 65 (.int .i64 128) (.int .i64 128)).run Try.prog w = .ok (.slice (some ⟨w.heap.size, 0, none⟩) 128 128) (w.alloc (.cells c 24))) ∧
    ∀ w : World, (w.alloc (.cells c 24)).ownsRow w.heap.size 24 1 (.slice (some ⟨w.heap.size, 0, none⟩) 128 128) 128 ((List.range 128).map fun _ => Value.slice none 0 0) := by
  obtain ⟨i0, hi, hz0, hz1, hz2⟩ := info_parts info_rows
  refine ⟨madeCells #[Value.slice none 0 0] 128, fun w => ?_, fun w => ?_⟩
  · have := run_make (P := Try.prog) w 65 24 i0 (.slice none 0 0) Try.underlying65 hi hz0 .i64 .i64 128 128 (by decide) (by decide) (by rw [hz2]; decide) (by decide)
    rw [hz1] at this
    simpa [Value.cells] using this
  · have := World.ownsRow_lit (base := w.heap.size) (e := 24) (size := 1) w (madeCells #[Value.slice none 0 0] 128) 128 (Nat.le_refl _) (by decide) (by simp [madeCells])
    rw [toList_madeCells_one] at this
    have e : List.replicate 128 (Value.slice none 0 0) = (List.range 128).map fun _ => Value.slice none 0 0 := by
      apply List.ext_getElem (by simp only [List.length_map, List.length_range, List.length_replicate])
      intro i h1 h2
      rw [List.getElem_map, List.getElem_replicate]
    rw [e] at this
    exact this
/-- A new row of lists. -/
def NewLsts (F : Nat → List Int) (w : World) (e : Ending) (w' : World) : Prop :=
  ∃ g V, e = .returned (.slice (some ⟨g, 0, none⟩) 128 128) ∧ Lsts w.heap.size g V F w' ∧ Below w.heap.size w w'

theorem gb_udr {a b : World} {row : Option Nat} (h : a.drew.grownBy b row) : a.grownBy b row := ⟨h.os, h.tape, h.output, h.size, h.block⟩
theorem row_cell {w : World} {base g k : Nat} {V : Nat → Value} (h : w.ownsRow base 24 1 (.slice (some ⟨g, 0, none⟩) 128 128) 128 ((List.range 128).map V)) (hk : k < 128) : w.cell? ⟨g, k, none⟩ = some (V k) := by
  rw [h.cellAt k hk, List.getElem?_map, List.getElem?_range hk]
  rfl
theorem box_kept {w w' : World} {base g n : Nat} {v : Value} {xs : List Value} {t : TypeId} {cs : Array Value} {o : Obj} (ho : w.ownsRow base 3 1 v n xs) (hb : Blk w g t cs) (hne : 3 ≠ t) (hg : (w.alloc o).grownBy w' v.ownBlock) : Blk w' g t cs :=
  (hb.alloc o).grown hg (fun e => own_ne ho hb hne e.symm)
theorem lsts_put {G g k m q cap H : Nat} {V : Nat → Value} {D : List Dep} {N : Nat} {w w' : World} {o : Obj} {x : Int} (h : Lsts G g V (fun c => waitD (D.take N) (c : Int)) w) (hk : k < 128) (hm : (waitD (D.take N) (k : Int)).length = m)
    (ho : w'.ownsRow G 3 1 (.slice (some ⟨q, 0, none⟩) (m + 1) cap) (m + 1) (intsV (waitD (D.take N) (k : Int)) ++ [.int .i64 x])) (hg : (w.alloc o).grownBy w' (V k).ownBlock) (hat : (V k).ownBlock = some q ∨ q = H) (hH : (w.alloc o).heap.size = H)
    (hF : ∀ l : Nat, l < 128 → waitD (D.take (N + 1)) (l : Int) = if l = k then waitD (D.take N) (k : Int) ++ [x] else waitD (D.take N) (l : Int)) :
    Lsts G g (fun l => if l = k then .slice (some ⟨q, 0, none⟩) (m + 1) cap else V l) (fun c => waitD (D.take (N + 1)) (c : Int)) (w'.setCell ⟨g, k, none⟩ (.slice (some ⟨q, 0, none⟩) (m + 1) cap)) := by
  subst hm
  exact h.app hk ho hg (by rw [hH]; exact hat) hF
theorem lsts_below {G g k : Nat} {V : Nat → Value} {F : Nat → List Int} {a w w' : World} {o : Obj} {xs : List Value} (h : Lsts G g V F w ∧ Below G a w) (ha : a.heap.size = G) (hk : k < 128) (hg : (w.alloc o).grownBy w' (V k).ownBlock) (hr : w'.ownsRow G 24 1 (.slice (some ⟨g, 0, none⟩) 128 128) 128 xs) (u : Value) :
    Below G a (w'.setCell ⟨g, k, none⟩ u) := by
  have h1 := h.2.size
  have h2 : Below G a w' := (h.2.alloc (by omega) o).grown hg (by rw [alloc_size]; omega) (fun j e => ((h.1.one k hk).lt j e).1)
  exact h2.grown (hr.stored k u).2 (by have := h2.size; omega) (fun j e => by cases e; exact (hr.lt g rfl).1)

set_option maxHeartbeats 1600000 in
theorem implWaiters (A : Option Addr) (n cap : Nat) (D : List Dep) (w : World) (h : DepAt w w.heap.size A n D) (hok : okD D = true) (hn : n ≤ 1000000000) :
    Calls Try.prog 48 #[.slice A n cap] w (NewLsts (fun c => waitD D (c : Int)) w) := by
  obtain ⟨i0, hi, hz0, hz1, hz2⟩ := info_parts info_int
  obtain ⟨cz, hmk, hown⟩ := made_rows
  have HI := Lib.hid h
  have hl := h.1
  have HOK := Lib.hid hok
  have X0 := Lib.hid (show Lsts w.heap.size w.heap.size (fun _ => .slice none 0 0) (fun c => waitD (D.take 0) (c : Int)) (w.alloc (.cells cz 24)) ∧ Below w.heap.size w (w.alloc (.cells cz 24)) from
    ⟨⟨hown w, fun k hk => World.ownsRow_nil _ _ _ _, fun k l _ _ _ => apart_none _⟩, (Below.refl _ _).alloc (Nat.le_refl _) _⟩)
  clear h hown hok
  obtain ⟨G, hG⟩ : ∃ G, w.heap.size = G := ⟨_, rfl⟩
  have HG := Lib.hid hG
  go_enter Try.func48, Try.ntmps48
  go_wp2_with fail
  simp only [hG] at X0 ⊢
  clear hG
  go_loopw [9] (fun i wr => ∃ (k : Nat) (V : Nat → Value), i = .int .i64 (k : Int) ∧ k ≤ n ∧ Lsts G G V (fun c => waitD (D.take k) (c : Int)) wr ∧ Below G w wr) (fun i _ => n - (intOf i).toNat)
  case atStart => exact ⟨0, _, rfl, Nat.zero_le _, X0.out⟩
  case round =>
    obtain ⟨k, V, rfl, hk, hx⟩ := hrel
    have X1 := Lib.hid hx
    clear hx
    by_cases hlt : k < n
    · have hai := HI.out.below (HG.out.symm ▸ X1.out.2)
      obtain ⟨b1, off, rfl, hb1, c0, c1⟩ := hai.at k hlt
      have hkl : k < D.length := by omega
      have hin := inD_iff.1 (okD_in HOK.out (atD_mem hkl))
      obtain ⟨p, hp⟩ : ∃ p, (atD D k).1 = p := ⟨_, rfl⟩
      obtain ⟨c, hc⟩ : ∃ c : Nat, (atD D k).2 = (c : Int) := ⟨(atD D k).2.toNat, by omega⟩
      have hc128 : c < 128 := by omega
      have HF := Lib.hid (show ∀ l : Nat, l < 128 → waitD (D.take (k + 1)) (l : Int) = if l = c then waitD (D.take k) (c : Int) ++ [p] else waitD (D.take k) (l : Int) from fun l hl => by
        rw [wait_take hkl, hc, hp]
        by_cases e : l = c
        · subst e; simp
        · rw [if_neg e, if_neg (by omega)])
      rw [hp] at c0
      rw [hc] at c1
      have hlen : (waitD (D.take k) (c : Int)).length ≤ k := Nat.le_trans (wait_length _ _) (by simp; omega)
      obtain ⟨m, hm⟩ : ∃ m, (waitD (D.take k) (c : Int)).length = m := ⟨_, rfl⟩
      rw [hm] at hlen
      have ho := X1.out.1.one c hc128
      simp only [hm] at ho
      have hv := X1.out.1.cell hc128
      obtain ⟨Ao, co, e, _⟩ := own_form ho
      rw [e] at hv ho
      have HV := Lib.hid e
      have HM := Lib.hid hm
      have HC128 := Lib.hid hc128
      have k0 : (0 : Int) ≤ (k : Int) := by omega
      have k1 : (k : Int) < (n : Int) := by omega
      have d0 : (0 : Int) ≤ (c : Int) := by omega
      have d1 : (c : Int) < 128 := by omega
      have b3 : ∀ u ∈ [Value.int .i64 p], u.oneCell' = true := by simp [Value.oneCell']
      have b4 : m + 1 ≤ maxLen := by unfold maxLen; omega
      have b5 : (m + 1) * 8 ≤ 140737488355328 := by omega
      have HLT := Lib.hid hlt
      have X2 := Lib.hid (show Lsts G G V (fun c => waitD (D.take k) (c : Int)) (wr.alloc (.cells #[.int .i64 p, .int .i64 (c : Int)] 49)) ∧ Below G w (wr.alloc (.cells #[.int .i64 p, .int .i64 (c : Int)] 49)) from
        ⟨X1.out.1.gb (gb_alloc (gb_refl wr none) _), X1.out.2.alloc (by have := X1.out.2.size; have := HG.out; omega) _⟩)
      have o4 : ((wr.alloc (.cells #[.int .i64 p, .int .i64 (c : Int)] 49)).alloc (.cells #[.int .i64 p] 3)).drew.ownsRow G 3 1 (.slice Ao m co) m (intsV (waitD (D.take k) (c : Int))) := by
        have := (X2.out.1.one c hc128)
        simp only [hm, e] at this
        exact (this.alloc _).drew
      have s4 : G ≤ ((wr.alloc (.cells #[.int .i64 p, .int .i64 (c : Int)] 49)).alloc (.cells #[.int .i64 p] 3)).drew.heap.size := by
        show G ≤ ((wr.alloc (.cells #[.int .i64 p, .int .i64 (c : Int)] 49)).alloc (.cells #[.int .i64 p] 3)).heap.size
        rw [alloc_size]
        have := X2.out.2.size
        have := HG.out
        omega
      have hnb := World.news_of_block (w := ((wr.alloc (.cells #[.int .i64 p, .int .i64 (c : Int)] 49)).alloc (.cells #[.int .i64 p] 3)).drew) (B := wr.heap.size + 1) (cs := #[.int .i64 p]) (t := 3) (fr := (0, 0)) (by have h := heap_alloc_new (wr.alloc (.cells #[.int .i64 p, .int .i64 (c : Int)] 49)) (.cells #[.int .i64 p] 3); rw [alloc_size] at h; exact h)
      have hv2 : (wr.alloc (.cells #[.int .i64 p, .int .i64 (c : Int)] 49)).cell? ⟨G, c, none⟩ = some (.slice Ao m co) := (gb_alloc (gb_refl wr none) _).cell hv (by simp)
      have hv3 : ((wr.alloc (.cells #[.int .i64 p, .int .i64 (c : Int)] 49)).alloc (.cells #[.int .i64 p] 3)).cell? ⟨G, c, none⟩ = some (.slice Ao m co) := (gb_alloc (gb_refl _ none) _).cell hv2 (by simp)
      clear hai hin hp hc e hm hkl
      go_wp2_with fail
      go_region_law
        (first
          | (refine step_append_lies _ (by rfl) _ _ _ (by rfl) G 3 i0 _ 1 8 Try.underlying24 hi hz0 hz1 hz2 rfl (by omega) (.slice Ao m co) m (intsV (waitD (D.take k) (c : Int))) (by rfl) o4 ⟨wr.heap.size + 1, 0, none⟩ 1 1 [.int .i64 p] (by rfl) (by rfl) hnb b3 (by omega) b4 b5 s4 (wr.heap.size + 2) (by simp) ?_; intro g4 cap4 w5 hown5 hgrow5 hat5 hltg5; have hgr := gb_udr hgrow5; rw [← HV.out] at hgr hat5; have hr5 := X2.out.1.kept HC128.out hgr; have X5 := Lib.hid (lsts_put X2.out.1 HC128.out HM.out hown5 hgr hat5 (by simp) HF.out); have X6 := Lib.hid (lsts_below X2.out HG.out HC128.out hgr hr5 (.slice (some ⟨g4, 0, none⟩) (m + 1) cap4)); have B5 := box_kept (X2.out.1.one c HC128.out) (Blk.new wr 49 #[.int .i64 p, .int .i64 (c : Int)]) (by decide) hgr; have e0 : w5.cell? ⟨wr.heap.size, 0, none⟩ = some (.int .i64 p) := B5.cell 0; have e1 : w5.cell? ⟨wr.heap.size, 1, none⟩ = some (.int .i64 (c : Int)) := B5.cell 1; clear B5; have f5 := hr5.frozenAt c; have c5 := row_cell hr5 HC128.out; clear hgr hr5 hown5 hgrow5 hat5 hltg5)
          | fail)
      all_goals
        clear c0 c1 o4 s4 hnb hv hv2 hv3 f5 c5 e0 e1
        go_wp2_with fail
        go_roundw
        case rel => exact ⟨k + 1, _, by go_num, by have := HLT.out; omega, X5.out, X6.out⟩
        case measure => have := HLT.out; simp [intOf]; omega
    · obtain rfl : k = n := by omega
      have hD : D.take k = D := by rw [← hl]; exact List.take_length
      rw [hD] at X1
      go_wp2_with fail
      go_ret
      exact ⟨G, V, rfl, by rw [HG.out]; exact X1.out.1, by rw [HG.out]; exact X1.out.2⟩
end Go.Proofs.Ytnielgpcfgfioaa
