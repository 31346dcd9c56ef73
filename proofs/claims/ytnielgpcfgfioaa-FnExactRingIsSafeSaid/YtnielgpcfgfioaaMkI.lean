/- What is proved here: what the program's closure that marks the channels that can wait for one does: it changes the row of steps and the list of marked channels, which lie in variables that it shares with its maker; only new blocks and blocks of its maker's own are written. -/
import Derived.Test.YtnielgpcfgfioaaWaitI
namespace Go.Proofs.Ytnielgpcfgfioaa
open Go.ChangeShapes Go.WideShapes Go.ChangeAt Go.RowKit
set_option linter.unusedVariables false
set_option maxRecDepth 20000

/-- The shared variables: the lists of waiters, the steps X, the marked channels M. -/
structure Mk (a : World) (B pw ps pm gs cs g : Nat) (F : Nat → List Int) (X M : List Int) (vm : Value) (w : World) : Prop where
  bw : Blk w pw 65 #[.slice (some ⟨g, 0, none⟩) 128 128]
  bs : Blk w ps 24 #[.slice (some ⟨gs, 0, none⟩) 128 cs]
  bm : Blk w pm 24 #[vm]
  rs : w.ownsRow B 3 1 (.slice (some ⟨gs, 0, none⟩) 128 cs) 128 (intsV X)
  rm : w.ownsRow B 3 1 vm M.length (intsV M)
  ap : Apart (.slice (some ⟨gs, 0, none⟩) 128 cs) vm
  rr : LstsIn w B g F
  lb : Below B a w
  hb : B ≤ a.heap.size
  pB : B ≤ pm
  wm : pw ≠ pm
  sm : ps ≠ pm
section
variable {a : World} {B pw ps pm gs cs g : Nat} {F : Nat → List Int} {X M : List Int} {vm : Value} {w w' : World}
theorem Mk.sz (h : Mk a B pw ps pm gs cs g F X M vm w) : B ≤ w.heap.size := Nat.le_trans h.hb h.lb.size
theorem Mk.gb (h : Mk a B pw ps pm gs cs g F X M vm w) (hg : w.grownBy w' none) : Mk a B pw ps pm gs cs g F X M vm w' :=
  ⟨h.bw.grown hg (by simp), h.bs.grown hg (by simp), h.bm.grown hg (by simp), own_none h.rs hg, own_none h.rm hg, h.ap, h.rr.below (gb_below_none hg h.sz), h.lb.trans (gb_below_none hg h.sz), h.hb, h.pB, h.wm, h.sm⟩
theorem Mk.store (h : Mk a B pw ps pm gs cs g F X M vm w) (t : Nat) (x : Int) : Mk a B pw ps pm gs cs g F (X.set t x) M vm (w.setCell ⟨gs, t, none⟩ (.int .i64 x)) := by
  obtain ⟨h1, h2⟩ := h.rs.stored t (.int .i64 x)
  rw [intsV_set] at h1
  have hbel : Below B w (w.setCell ⟨gs, t, none⟩ (.int .i64 x)) := gb_below h2 h.sz (h.rs.lt gs rfl).1
  exact ⟨h.bw.grown h2 (fun e => own_ne h.rs h.bw (by decide) e.symm), h.bs.grown h2 (fun e => own_ne h.rs h.bs (by decide) e.symm), h.bm.grown h2 (fun e => own_ne h.rs h.bm (by decide) e.symm), h1,
    row_kept h.rm h2 (fun j e => by cases e; exact h.ap gs rfl), h.ap, h.rr.below hbel, h.lb.trans hbel, h.hb, h.pB, h.wm, h.sm⟩
/-- One marked channel more: the list's new block, and the variable that holds the list. -/
theorem Mk.app {q cap : Nat} {o : Obj} {x : Int} (h : Mk a B pw ps pm gs cs g F X M vm w) (ho : w'.ownsRow B 3 1 (.slice (some ⟨q, 0, none⟩) (M.length + 1) cap) (M.length + 1) (intsV M ++ [.int .i64 x]))
    (hg : (w.alloc o).grownBy w' vm.ownBlock) (hat : vm.ownBlock = some q ∨ q = (w.alloc o).heap.size) : Mk a B pw ps pm gs cs g F X (M ++ [x]) (.slice (some ⟨q, 0, none⟩) (M.length + 1) cap) (w'.setCell ⟨pm, 0, none⟩ (.slice (some ⟨q, 0, none⟩) (M.length + 1) cap)) := by
  have k := h.gb (gb_alloc (gb_refl w none) o)
  have kbm := k.bm.grown hg (fun e => own_ne k.rm k.bm (by decide) e.symm)
  have hb1 : Below B a w' := k.lb.grown hg k.sz (fun j e => (k.rm.lt j e).1)
  have hb2 : Below B w' (w'.setCell ⟨pm, 0, none⟩ (.slice (some ⟨q, 0, none⟩) (M.length + 1) cap)) := (Below.refl B w').grown (gb_setCell (gb_refl w' (some pm)) (.inl rfl) _) (Nat.le_trans h.hb hb1.size) (fun j e => by cases e; exact h.pB)
  have hs : w'.grownBy (w'.setCell ⟨pm, 0, none⟩ (.slice (some ⟨q, 0, none⟩) (M.length + 1) cap)) (some pm) := gb_setCell (gb_refl w' (some pm)) (.inl rfl) _
  have hrs : w'.ownsRow B 3 1 (.slice (some ⟨gs, 0, none⟩) 128 cs) 128 (intsV X) := row_kept k.rs hg (fun j e e2 => h.ap j e2 e)
  have hsz : (w.alloc o).heap.size = w.heap.size + 1 := alloc_size _ _
  refine ⟨(k.bw.grown hg (fun e => own_ne k.rm k.bw (by decide) e.symm)).far h.wm _, (k.bs.grown hg (fun e => own_ne k.rm k.bs (by decide) e.symm)).far h.sm _, ?_, row_kept hrs hs (fun j e => by cases e; exact own_ne hrs kbm (by decide)), ?_, ?_, ?_, hb1.trans hb2, h.hb, h.pB, h.wm, h.sm⟩
  · have := kbm.set_ 0 (.slice (some ⟨q, 0, none⟩) (M.length + 1) cap)
    simpa using this
  · rw [List.length_append, intsV_append]
    exact row_kept ho hs (fun j e => by cases e; exact own_ne ho kbm (by decide))
  · intro j e e2
    have e3 : q = j := Option.some.inj e2
    subst e3
    rcases hat with h1 | h1
    · exact h.ap q e h1
    · have := (h.rs.lt q e).2
      omega
  · exact (k.rr.below ((Below.refl B _).grown hg k.sz (fun j e => (k.rm.lt j e).1))).below hb2
end
theorem ints_get {w : World} {base g cap n : Nat} {L : List Int} (h : w.ownsRow base 3 1 (.slice (some ⟨g, 0, none⟩) n cap) n (intsV L)) {k : Nat} (hk : k < n) : w.cell? ⟨g, k, none⟩ = some (.int .i64 (L.getD k 0)) := by
  have hn := own_ints_length h
  exact ints_cell h k (L.getD k 0) (by rw [List.getD, List.getElem?_eq_getElem (by omega)]; rfl) hn
theorem getD_mem0 {L : List Int} {k : Nat} (h : k < L.length) : L.getD k 0 ∈ L := by
  rw [List.getD_eq_getElem?_getD, List.getElem?_eq_getElem h]
  exact List.getElem_mem h

set_option maxHeartbeats 1600000 in
theorem implMark (a : World) (B pw ps pm gs cs g : Nat) (F : Nat → List Int) (X M : List Int) (vm : Value) (c : Nat) (n : Int) (hc : c < 128) (hF : ∀ x ∈ F c, ∃ t : Nat, x = (t : Int) ∧ t < 128) (hM : M.length + (F c).length ≤ 2000000000)
    (w : World) (h : Mk a B pw ps pm gs cs g F X M vm w) :
    Calls Try.prog 59 #[.int .i64 (c : Int), .int .i64 n, .pointer (some ⟨pw, 0, none⟩), .pointer (some ⟨ps, 0, none⟩), .pointer (some ⟨pm, 0, none⟩)] w
      fun e w' => e = .returned (.tuple #[]) ∧ ∃ X' M' vm', markN n (F c) (X, M) (F c).length = (X', M') ∧ Mk a B pw ps pm gs cs g F X' M' vm' w' := by
  obtain ⟨i0, hi, hz0, hz1, hz2⟩ := info_parts info_int
  have X0 := Lib.hid h
  obtain ⟨A, cA, hA, hI⟩ := h.rr.2 c hc
  have HI := Lib.hid hI
  obtain ⟨W, hW⟩ : ∃ W, F c = W := ⟨_, rfl⟩
  obtain ⟨m, hm⟩ : ∃ m, W.length = m := ⟨_, rfl⟩
  rw [hW] at HI hA hF hM ⊢
  rw [hm] at HI hA hM ⊢
  have HF := Lib.hid hF
  have HML := Lib.hid hm
  have a0 : w.cell? ⟨pw, 0, none⟩ = some (.slice (some ⟨g, 0, none⟩) 128 128) := h.bw.cell 0
  have d0 : (0 : Int) ≤ (c : Int) := by omega
  have d1 : (c : Int) < 128 := by omega
  clear h hI hF hW hm
  go_enter Try.func59, Try.ntmps59
  go_wp2_with fail
  go_loopw [14] (fun i wr => ∃ (k : Nat) (X' M' : List Int) (vm : Value), i = .int .i64 (k : Int) ∧ k ≤ m ∧ markN n W (X, M) k = (X', M') ∧ M'.length ≤ M.length + k ∧ Mk a B pw ps pm gs cs g F X' M' vm wr) (fun i _ => m - (intOf i).toNat)
  case atStart => exact ⟨0, X, M, vm, rfl, Nat.zero_le _, rfl, Nat.le_refl _, X0.out⟩
  case round =>
    obtain ⟨k, X', M', vm, rfl, hk, hmk, hl, hx⟩ := hrel
    have X1 := Lib.hid hx
    have HMK := Lib.hid hmk
    obtain ⟨Av, cv, rfl, _⟩ := own_form hx.rm
    clear hx hmk
    by_cases hlt : k < m
    · obtain ⟨b1, off, rfl, hb1, c0⟩ := (HI.out.keep (fun p hp => World.cell?_of_block ((X1.out.lb.block p.block hp).trans (X0.out.lb.block p.block hp).symm))).at k hlt
      have hkW : k < W.length := by have := HML.out; omega
      obtain ⟨t, ht, ht128⟩ := HF.out _ (getD_mem0 hkW)
      rw [ht] at c0
      have HN := Lib.hid (show markN n W (X, M) (k + 1) = mark1 n (X', M') (t : Int) by rw [markN_next hkW, HMK.out, ht])
      have c1 := ints_get X1.out.rs ht128
      obtain ⟨y, hy⟩ : ∃ y, X'.getD t 0 = y := ⟨_, rfl⟩
      rw [hy] at c1
      have e0 : wr.cell? ⟨ps, 0, none⟩ = some (.slice (some ⟨gs, 0, none⟩) 128 cs) := X1.out.bs.cell 0
      have e1 : wr.cell? ⟨pm, 0, none⟩ = some (.slice Av M'.length cv) := X1.out.bm.cell 0
      have k0 : (0 : Int) ≤ (k : Int) := by omega
      have k1 : (k : Int) < (m : Int) := by omega
      have t0 : (0 : Int) ≤ (t : Int) := by omega
      have t1 : (t : Int) < 128 := by omega
      have HLT := Lib.hid hlt
      have HT := Lib.hid ht128
      have HY := Lib.hid hy
      have HL := Lib.hid hl
      clear hlt ht ht128 hy hl hkW
      by_cases hy0 : y = -1
      · subst hy0
        have HN2 := Lib.hid (HN.out.trans (mark_yes (by rw [Int.toNat_natCast]; exact HY.out)))
        have X2 := Lib.hid (X1.out.store t n)
        have f0 := X1.out.rs.frozenAt t
        have f1 : (wr.setCell ⟨gs, t, none⟩ (.int .i64 n)).cell? ⟨pm, 0, none⟩ = some (.slice Av M'.length cv) := X2.out.bm.cell 0
        have hsz : (wr.setCell ⟨gs, t, none⟩ (.int .i64 n)).heap.size = wr.heap.size := by simp
        have HNB := Lib.hid (show ((wr.setCell ⟨gs, t, none⟩ (.int .i64 n)).alloc (.cells #[.int .i64 (t : Int)] 3)).heap[wr.heap.size]? = some (.cells #[.int .i64 (t : Int)] 3) by have := heap_alloc_new (wr.setCell ⟨gs, t, none⟩ (.int .i64 n)) (.cells #[.int .i64 (t : Int)] 3); rw [hsz] at this; exact this)
        have b3 := Lib.hid (show ∀ u ∈ [Value.int .i64 (t : Int)], u.oneCell' = true by simp [Value.oneCell'])
        have b4 := Lib.hid (show M'.length + 1 ≤ maxLen by have := HL.out; unfold maxLen; omega)
        have b5 := Lib.hid (show (M'.length + 1) * 8 ≤ 140737488355328 by have := HL.out; omega)
        have b6 := Lib.hid (show B ≤ ((wr.setCell ⟨gs, t, none⟩ (.int .i64 n)).alloc (.cells #[.int .i64 (t : Int)] 3)).heap.size by rw [alloc_size, hsz]; have := X1.out.sz; omega)
        clear hsz
        go_wp2_with (at_builtin; refine wpList_append_lies _ rfl _ _ 24 rfl B 3 i0 (.int .i64 0) 1 8 Try.underlying24 hi hz0 hz1 hz2 rfl (by decide) _ M'.length _ rfl (X2.out.rm.alloc _) ⟨wr.heap.size, 0, none⟩ 1 1 [.int .i64 (t : Int)] rfl rfl (World.news_of_block HNB.out) b3.out (by decide) b4.out b5.out b6.out _ rfl ?_; intro g4 cap4 w4 hown4 hgrow4 hat4 hlt4; have X3 := Lib.hid (X2.out.app hown4 hgrow4 hat4); have B4 := Lib.hid ((X2.out.bm.alloc _).grown hgrow4 (fun e => own_ne X2.out.rm X2.out.bm (by decide) e.symm)); have f4 := B4.out.frozen 0; have f5 := B4.out.cell 0; clear hown4 hgrow4 hat4 hlt4)
        go_roundw
        case rel => exact ⟨k + 1, _, _, _, by go_num, by have := HLT.out; omega, HN2.out, by have := HL.out; simp; omega, X3.out⟩
        case measure => have := HLT.out; simp [intOf]; omega
      · have HN2 := Lib.hid (HN.out.trans (mark_no (by rw [Int.toNat_natCast, HY.out]; exact hy0)))
        have hyb : (y == -1) = false := by simpa using hy0
        clear hy0
        go_wp2_with fail
        go_roundw
        case rel => exact ⟨k + 1, X', M', _, by go_num, by have := HLT.out; omega, HN2.out, by have := HL.out; omega, X1.out⟩
        case measure => have := HLT.out; simp [intOf]; omega
    · obtain rfl : k = m := by omega
      go_wp2_with fail
      go_end0
      exact ⟨rfl, X', M', _, HMK.out, X1.out⟩
end Go.Proofs.Ytnielgpcfgfioaa
