/- What is proved here: a drawn route is empty or a route of the drawn valid mesh; only new blocks are written. -/
import Derived.Test.YtakigpgkcneboaaRouteL
import Derived.Test.YtakigpgkcneboaaMeshD
import Derived.Test.YtakigpgkcneboaaHasS
import Derived.Test.YtakigpgkcneboaaMeshC
import Derived.Test.YtakigpgkcneboaaAppI
namespace Go.Proofs.Ytakigpgkcneboaa
open Go.ChangeShapes Go.WideShapes Go.ChangeAt Go.RowKit
set_option linter.unusedVariables false

/-- A list that is a route, or empty, and has led to x. -/
def walkR (W H : Int) (L r : List Int) (x : Int) : Prop := linksTo W H L r r.length ∧ (0 < r.length → x = atR W H r r.length) ∧ hasG W H x = true
theorem walkR_nil {W H : Int} {L : List Int} {x : Int} (h : hasG W H x = true) : walkR W H L [] x := ⟨links_zero, fun h => absurd h (by simp), h⟩
theorem walkR_push {W H : Int} {L r : List Int} {x p c y : Int} (h : walkR W H L r x) (hc : 4 * x + p = c) (p0 : 0 ≤ p) (p3 : p ≤ 3) (hh : hasChG W H L c = true) (hy : endC W H c = y) : walkR W H L (r ++ [c]) y := by
  obtain ⟨h1, h2⟩ := links_push h.1 hh (fun h0 => by rw [← h.2.1 h0]; omega)
  refine ⟨h1, fun _ => by rw [h2, hy], ?_⟩
  have h3 := next_has (W := W) (H := H) (n := c / 4) (p := c % 4) (has_leads hh).2.2
  rw [← hy]
  exact h3
theorem walkR_route {W H : Int} {L r : List Int} {x : Int} (h : walkR W H L r x) (hm : meshG W H L = true) : r = [] ∨ routeG W H L r = true := by
  rcases Nat.eq_zero_or_pos r.length with h0 | h0
  · exact .inl (List.eq_nil_of_length_eq_zero h0)
  · exact .inr (route_yes hm h0 h.1)
/-- A route or nothing is returned; only the cursor and new blocks are written. -/
def DrawnRoute (W H : Int) (L : List Int) (g : Nat) (w : World) (e : Ending) (w' : World) : Prop :=
  ∃ (v : Value) (r : List Int), e = .returned v ∧ (r = [] ∨ routeG W H L r = true) ∧ r.length ≤ 16 ∧ w'.ownsRow w.heap.size 3 1 v r.length (intsV r) ∧ Cur w' g ∧ w.grownBy w' (some g)

/-- Between two rounds. -/
structure PathAt (W H : Int) (A : Option Addr) (n cap : Nat) (L : List Int) (g : Nat) (w : World) (r : List Int) (x : Int) (v : Value) (wr : World) : Prop where
  walk : walkR W H L r x
  mesh : Blk wr w.heap.size 28 (meshC W H A n cap)
  mrow : wr.ownsRow (g + 1) 3 1 (.slice A n cap) n (intsV L)
  own : wr.ownsRow (w.heap.size + 1) 3 1 v r.length (intsV r)
  cur : Cur wr g
  gb : w.grownBy wr (some g)
section
variable {W H : Int} {A : Option Addr} {n cap : Nat} {L : List Int} {g : Nat} {w wr w' : World} {r : List Int} {x y c : Int} {v v' : Value}
theorem PathAt.keep (h : PathAt W H A n cap L g w r x v wr) (hlt : g < w.heap.size) (hg : wr.grownBy w' (some g)) (hc : Cur w' g) : PathAt W H A n cap L g w r x v w' :=
  ⟨h.walk, h.mesh.grown hg (fun e => by cases e; omega), h.mrow.kept hg (.inr (fun e => by have := (h.mrow.lt g e).1; omega)), h.own.kept hg (.inr (fun e => by have := (h.own.lt g e).1; omega)), hc, gb_trans h.gb hg⟩
theorem PathAt.gbn (h : PathAt W H A n cap L g w r x v wr) (hlt : g < w.heap.size) (hg : wr.grownBy w' none) : PathAt W H A n cap L g w r x v w' :=
  h.keep hlt (gb_of_none hg _) (h.cur.grown hg (fun k e => by cases e))
theorem PathAt.row (h : PathAt W H A n cap L g w r x v wr) : IntAt wr wr.heap.size A n L := intAt_own h.mrow (own_ints_length h.mrow) (Nat.le_refl _)
theorem PathAt.cells (h : PathAt W H A n cap L g w r x v wr) : wr.cell? ⟨w.heap.size, 0, none⟩ = some (.int .i64 W) ∧ wr.cell? ⟨w.heap.size, 1, none⟩ = some (.int .i64 H) ∧ wr.cell? ⟨w.heap.size, 2, none⟩ = some (.slice A n cap) :=
  ⟨h.mesh.cell 0, h.mesh.cell 1, h.mesh.cell 2⟩
theorem PathAt.le (h : PathAt W H A n cap L g w r x v wr) : w.heap.size + 1 ≤ wr.heap.size := h.mesh.lt
theorem PathAt.app {o : Obj} (h : PathAt W H A n cap L g w r x v wr) (hlt : g < w.heap.size) (hmr : ∀ k, (Value.slice A n cap).ownBlock = some k → k < w.heap.size) (hw : walkR W H L (r ++ [c]) y)
    (ho : w'.ownsRow (w.heap.size + 1) 3 1 v' (r.length + 1) (intsV r ++ [.int .i64 c])) (hg : (wr.alloc o).grownBy w' v.ownBlock) : PathAt W H A n cap L g w (r ++ [c]) y v' w' := by
  have hlow : ∀ k, v.ownBlock = some k → w.heap.size + 1 ≤ k := fun k hk => (h.own.lt k hk).1
  refine ⟨hw, (h.mesh.alloc _).grown hg (fun e => by have := hlow _ e.symm; omega), (h.mrow.alloc _).kept hg ?_, by rw [List.length_append, intsV_append]; exact ho, ?_, ?_⟩
  · cases hk : (Value.slice A n cap).ownBlock with
    | none => exact .inl rfl
    | some k => exact .inr (fun e => by have h1 := hmr k hk; have h2 := hlow k e.symm; omega)
  · exact (h.cur.grown (gb_alloc (gb_refl wr none) o) (fun k e => by cases e)).grown hg (fun k e => by have := hlow k e; omega)
  · have h1 : w.grownBy (wr.alloc o) (some g) := gb_alloc h.gb o
    exact ⟨hg.os.trans h1.os, hg.tape.trans h1.tape, hg.output.trans h1.output, Nat.le_trans h1.size hg.size, fun i hi hne => (hg.block i (by rw [alloc_size]; have := h.le; omega) (fun e => by have := hlow i e.symm; omega)).trans (h1.block i hi hne)⟩
end

theorem endC_step {W H x p : Int} (p0 : 0 ≤ p) (p3 : p ≤ 3) : endC W H (4 * x + p) = nextG W H x p := by
  unfold endC
  rw [show (4 * x + p) / 4 = x by omega, show (4 * x + p) % 4 = p by omega]

set_option maxRecDepth 20000 in
set_option maxHeartbeats 1600000 in
theorem l06Route (W H : Int) (A : Option Addr) (n cap : Nat) (L : List Int) (g : Nat) (w : World) (hcur : Cur w g) (hok : okG W H = true) (hm : meshG W H L = true) (hmr : w.ownsRow (g + 1) 3 1 (.slice A n cap) n (intsV L)) (hn : n ≤ 1000000000) :
    Calls Try.prog 49 #[.pointer (some ⟨g, 0, none⟩), .agg #[.int .i64 W, .int .i64 H, .slice A n cap]] w (DrawnRoute W H L g w) := by
  obtain ⟨i0, hi, hz0, hz1, hz2⟩ := info_parts info_int
  have hlt := hcur.lt
  have HMR := Lib.hid (fun k hk => (hmr.lt k hk).2)
  obtain ⟨cn, hcn⟩ : ∃ k, countG W H = k := ⟨_, rfl⟩
  obtain ⟨hc0, hc1⟩ := countG_le W H
  rw [hcn] at hc0 hc1
  have hpos : 0 < cn := by
    rw [← hcn]
    obtain ⟨q0, q1, q2, q3⟩ := okG_iff.1 hok
    rw [countG, if_pos hok]
    exact Int.mul_pos (by omega) (by omega)
  have NC := Lib.hid (fun w => specNodeCountV W H cn hcn w)
  have HCN := Lib.hid hcn
  have HM := Lib.hid hm
  have hs1 : (w.alloc (.cells (meshC W H A n cap) 28)).heap.size = w.heap.size + 1 := by simp
  have hown0 := World.ownsRow_made (base := w.heap.size + 1) (e := 3) (size := 1) (w.alloc (.cells (meshC W H A n cap) 28)) #[] 0 (by rw [hs1]; exact Nat.le_refl _) (by decide) rfl
  rw [hs1] at hown0
  have P0 := Lib.hid (fun x (hx : hasG W H x = true) => show PathAt W H A n cap L g w [] x (.slice (some ⟨w.heap.size + 1, 0, none⟩) 0 0) ((w.alloc (.cells (meshC W H A n cap) 28)).alloc (.cells #[] 3)) from
    ⟨walkR_nil hx, (Blk.new w _ _).alloc _, (hmr.alloc _).alloc _, hown0, (hcur.grown (gb_alloc (gb_refl w none) _) (fun k e => by cases e)).grown (gb_alloc (gb_refl _ none) _) (fun k e => by cases e), gb_alloc (gb_alloc (gb_refl w _) _) _⟩)
  clear hcn hok hm hcur hs1 hown0 hmr
  go_enter Try.func49, Try.ntmps49
  go_wp2_with fail
  refine (NC.out _).mono ?_
  rintro e w1 ⟨rfl, hg1⟩
  have P1 := Lib.hid (fun x hx => (P0.out x hx).gbn hlt hg1)
  have HC1 := Lib.hid (P1.out 0 (hasG_iff.2 ⟨by omega, by rw [HCN.out]; omega⟩)).cur
  clear hg1
  go_wp2_with fail
  refine (l01Below cn g _ HC1.out).mono ?_
  rintro e w2 ⟨x0, rfl, hx0, hx1, _, hc2, hg2⟩
  have P2 := Lib.hid ((P1.out x0 (hasG_iff.2 ⟨hx0, by rw [HCN.out]; exact hx1 hpos⟩)).keep hlt hg2 hc2)
  clear hc2 hg2 hx0 hx1
  go_wp2_with fail
  go_loopw [5, 6, 7] (fun v x i wr => ∃ (k : Nat) (r : List Int) (y : Int), i = .int .i64 (k : Int) ∧ k ≤ 6 ∧ r.length ≤ k ∧ x = .int .i64 y ∧ PathAt W H A n cap L g w r y v wr) (fun _ _ i _ => 7 - (intOf i).toNat)
  case atStart => exact ⟨0, [], x0, rfl, by omega, Nat.le_refl _, rfl, P2.out⟩
  case round =>
    obtain ⟨k, r, y, rfl, hk, hrl, rfl, hp⟩ := hrel
    have HP := Lib.hid hp
    obtain ⟨A', c', rfl, _⟩ := own_form hp.own
    have hyy := hasG_le hp.walk.2.2
    clear hp
    go_wp2_with fail
    refine (l01Below 7 g _ HP.out.cur).mono ?_
    rintro e w3 ⟨z, rfl, hz0', hz1', _, hc3, hg3⟩
    have P3 := Lib.hid (HP.out.keep hlt hg3 hc3)
    have hz7 : z < 7 := hz1' (by omega)
    clear hc3 hg3 hz1'
    by_cases hkz : (k : Int) < z
    · go_wp2_with fail
      refine (l01Below 4 g _ P3.out.cur).mono ?_
      rintro e w4 ⟨p, rfl, p0, p1, _, hc4, hg4⟩
      have P4 := Lib.hid (P3.out.keep hlt hg4 hc4)
      have p3 : p ≤ 3 := by have := p1 (by omega); omega
      obtain ⟨a0, a1, a2⟩ := P4.out.cells
      have e1 : wrap64 (4 * y) = 4 * y := IntWalk.wrap64_in _ (by omega)
      obtain ⟨c, hc⟩ : ∃ c, 4 * y + p = c := ⟨_, rfl⟩
      have e2 : wrap64 (4 * y + p) = c := by rw [hc]; exact IntWalk.wrap64_in _ (by omega)
      have e3 : Int.tmod c 4 = p := by rw [Int.tmod_eq_emod_of_nonneg (by omega)]; omega
      obtain ⟨u, hu⟩ : ∃ u, nextG W H y p = u := ⟨_, rfl⟩
      have HE := Lib.hid (show endC W H c = u by rw [← hc, endC_step p0 p3, hu])
      have HNx := Lib.hid (fun w => specNextNodeV W H y p u hu w)
      have HCC := Lib.hid hc
      clear hc4 hg4 p1 hu
      go_wp2_with fail
      try rw [hc]
      clear hc
      cases hh : hasChG W H L c with
      | false =>
        have HC := Lib.hid (fun w h => specHasChV W H A n cap L c false hh w h hn)
        clear hh
        refine (HC.out _ P4.out.row).mono ?_
        rintro e w5 ⟨rfl, hg5⟩
        have P5 := Lib.hid (P4.out.gbn hlt hg5)
        clear hg5 a0 a1 a2
        go_wp2_with fail
        go_roundw
        case rel => exact ⟨k + 1, r, y, by go_num, by omega, by omega, rfl, P5.out⟩
        case measure => simp [intOf]; omega
      | true =>
        have HC := Lib.hid (fun w h => specHasChV W H A n cap L c true hh w h hn)
        have HW := Lib.hid (walkR_push HP.out.walk HCC.out p0 p3 hh HE.out)
        clear hh
        refine (HC.out _ P4.out.row).mono ?_
        rintro e w5 ⟨rfl, hg5⟩
        have P5 := Lib.hid (P4.out.gbn hlt hg5)
        have hown5 := P5.out.own
        have hsz5 := P5.out.le
        have b5' := Lib.hid (show ∀ u ∈ [Value.int .i64 c], u.oneCell' = true by simp [Value.oneCell'])
        have b6' := Lib.hid (show r.length + 1 ≤ maxLen by unfold maxLen; omega)
        clear hg5 a0 a1 a2
        go_wp2_with (at_builtin; refine wpList_append_own _ rfl _ _ 26 rfl (w.heap.size + 1) 3 i0 (.int .i64 0) 1 8 Try.underlying26 hi hz0 hz1 hz2 rfl (by decide) _ r.length _ rfl (hown5.alloc _) ⟨w5.heap.size, 0, none⟩ 1 1 [.int .i64 c] rfl rfl (World.news_of_block (cs := #[.int .i64 c]) (t := 3) (fr := (0, 0)) (heap_alloc_new w5 _)) b5'.out b6'.out (by omega) (by simp; omega) ?_; intro v6 w6 hown6 hgrow6 _; have P6 := Lib.hid (P5.out.app hlt HMR.out HW.out hown6 hgrow6); obtain ⟨d0, d1, d2⟩ := P6.out.cells; clear hown6 hgrow6 hown5)
        refine (HNx.out _).mono ?_
        rintro e w7 ⟨rfl, hg7⟩
        have P7 := Lib.hid (P6.out.gbn hlt hg7)
        clear hg7 d0 d1 d2
        go_wp2_with fail
        go_roundw
        case rel => exact ⟨k + 1, r ++ [c], u, by go_num, by omega, by simp; omega, rfl, P7.out⟩
        case measure => simp [intOf]; omega
    · go_wp2_with fail
      go_ret
      exact ⟨_, r, rfl, walkR_route P3.out.walk HM.out, by omega, own_less P3.out.own (by omega), P3.out.cur, P3.out.gb⟩
end Go.Proofs.Ytakigpgkcneboaa
