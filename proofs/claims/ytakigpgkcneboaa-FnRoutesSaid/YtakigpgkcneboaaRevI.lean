/- What is proved here: what the program's ReverseRoute returns for numbers of 64 bits; only new blocks are written. -/
import Derived.Test.YtakigpgkcneboaaChBackI
import Derived.Test.YtakigpgkcneboaaBackI
import Derived.Maps.AppendAt
import Derived.RangeFuncBox
namespace Go.Proofs.Ytakigpgkcneboaa
open Go.ChangeShapes Go.WideShapes Go.ChangeAt Go.RowKit Go.Shelf
set_option linter.unusedVariables false

attribute [local go_sem] Oper.semAt_some

/-- The channels back of the places that have come. -/
def backsOf (W H : Int) (R : List Int) {n : Nat} (pre : List (Pl n)) : List Int := pre.map fun x => backC W H (plAt R x)
theorem backsOf_snoc (W H : Int) (R : List Int) {n : Nat} (pre : List (Pl n)) (x : Pl n) : backsOf W H R (pre ++ [x]) = backsOf W H R pre ++ [backC W H (plAt R x)] := by simp [backsOf]
theorem backsOf_len (W H : Int) (R : List Int) {n : Nat} (pre : List (Pl n)) : (backsOf W H R pre).length = pre.length := by simp [backsOf]
theorem backsOf_full {W H : Int} {R : List Int} {n : Nat} (hn : R.length = n) {ys : List (Pl n)} (h : ys.map (fun x : Pl n => x.1) = downs n n) : backsOf W H R ys = R.reverse.map (backC W H) := by
  have h1 : backsOf W H R ys = (ys.map (fun x : Pl n => x.1)).map fun j => backC W H (R.getD j 0) := by simp [backsOf, plAt]
  rw [h1, h]
  subst hn
  refine List.ext_getElem (by simp [downs]) fun i h2 h3 => ?_
  simp only [List.length_map, List.length_reverse] at h3
  simp only [downs, List.getElem_map, List.getElem_range, List.getElem_reverse]
  rw [List.getD_eq_getElem?_getD, List.getElem?_eq_getElem (by omega)]
  rfl
/-- Between two rounds. -/
structure RevAt (W H : Int) (A A2 : Option Addr) (m cap n c2 : Nat) (L R : List Int) (w : World) (b6 : Nat) (v : Value) (pre : List (Pl n)) (wr : World) : Prop where
  ok : ∀ x ∈ pre, hasChG W H L (backC W H (plAt R x)) = true
  mesh : Blk wr w.heap.size 28 (meshC W H A m cap)
  res : Boxed wr (w.heap.size + 1) 26 (.slice none 0 0)
  yes : Boxed wr (w.heap.size + 1 + 1) 4 (.bool false)
  box : Boxed wr b6 26 v
  own : wr.ownsRow (w.heap.size + 3) 3 1 v (backsOf W H R pre).length (intsV (backsOf W H R pre))
  src : Boxed wr (b6 + 1) 26 (.slice A2 n c2)
  old : Below w.heap.size w wr
/-- A round has found a channel back that does not exist. -/
structure RevNo (W H : Int) (L R : List Int) (n : Nat) (w : World) (c : Code) (pre : List (Pl n)) (wr : World) : Prop where
  ret : c = .ret
  bad : ∃ x : Pl n, hasChG W H L (backC W H (plAt R x)) = false
  res : Boxed wr (w.heap.size + 1) 26 (.slice none 0 0)
  yes : Boxed wr (w.heap.size + 1 + 1) 4 (.bool false)
  old : Below w.heap.size w wr

theorem own_cells {base size k : Nat} {e : TypeId} {v : Value} {xs : List Value} {X Y : World} {row : Option Nat} (hr : X.ownsRow base e size v k xs) (hg : X.grownBy Y row) (hrow : ∀ r, row = some r → ∃ o : Obj, X.heap[r]? = some o ∧ o.isCells = false) : Y.ownsRow base e size v k xs := by
  refine hr.kept hg ?_
  rcases hr.2 with ⟨rfl, _⟩ | ⟨g, c, cur, rfl, _, hgb, _⟩
  · exact .inl rfl
  · refine .inr fun e' => ?_
    obtain ⟨o, ho, hc⟩ := hrow g (by simpa [Value.ownBlock] using e'.symm)
    rw [hgb] at ho; cases ho; cases hc
section
variable {W H : Int} {A A2 : Option Addr} {m cap c2 : Nat} {L R : List Int} {n : Nat} {w wr w' : World} {b6 : Nat} {v : Value} {pre : List (Pl n)}
theorem revAt_own {B : Nat} (hB : b6 + 1 < B) (hb : w.heap.size + 2 < b6) : OwnFrom B (fun (pre : List (Pl n)) wr => ∃ v, RevAt W H A A2 m cap n c2 L R w b6 v pre wr) := by
  rintro s X Y row ⟨v, h⟩ hg hr
  have hne : ∀ k, k < B → some k ≠ row := fun k hk e => by have := (hr k e.symm).1; omega
  exact ⟨v, h.ok, h.mesh.grown hg (hne _ (by omega)), h.res.kept hg (hne _ (by omega)), h.yes.kept hg (hne _ (by omega)), h.box.kept hg (hne _ (by omega)), own_cells h.own hg fun r e => (hr r e).2, h.src.kept hg (hne _ (by omega)), h.old.grown hg h.old.size (fun k e => by have := (hr k e).1; omega)⟩
theorem revNo_own {B : Nat} (hB : w.heap.size + 2 < B) (c : Code) : OwnFrom B (RevNo W H L R n w c) := by
  rintro s X Y row h hg hr
  have hne : ∀ k, k < B → some k ≠ row := fun k hk e => by have := (hr k e.symm).1; omega
  exact ⟨h.ret, h.bad, h.res.kept hg (hne _ (by omega)), h.yes.kept hg (hne _ (by omega)), h.old.grown hg h.old.size (fun k e => by have := (hr k e).1; omega)⟩
theorem RevAt.gb (h : RevAt W H A A2 m cap n c2 L R w b6 v pre wr) (hg : wr.grownBy w' none) : RevAt W H A A2 m cap n c2 L R w b6 v pre w' :=
  ⟨h.ok, h.mesh.grown hg (by simp), h.res.kept hg (by simp), h.yes.kept hg (by simp), h.box.kept hg (by simp), own_none h.own hg, h.src.kept hg (by simp), below_gb h.old (Nat.le_refl _) hg⟩
theorem RevAt.keep (h : RevAt W H A A2 m cap n c2 L R w b6 v pre wr) (hg : wr.grownBy w' none) : KeepsOthers wr w' ∧ KeepB w.heap.size (b6 + 1) wr w' :=
  ⟨KeepsOthers.of_grownBy hg (fun j o e => by cases e), gb_below_none hg h.old.size, hg.block _ h.src.lt (by simp)⟩
theorem RevAt.cells (h : RevAt W H A A2 m cap n c2 L R w b6 v pre wr) : wr.cell? ⟨w.heap.size, 0, none⟩ = some (.int .i64 W) ∧ wr.cell? ⟨w.heap.size, 1, none⟩ = some (.int .i64 H) ∧ wr.cell? ⟨w.heap.size, 2, none⟩ = some (.slice A m cap) :=
  ⟨h.mesh.cell 0, h.mesh.cell 1, h.mesh.cell 2⟩
theorem RevAt.app {x : Pl n} {y : Int} {v' : Value} {o : Obj} (h : RevAt W H A A2 m cap n c2 L R w b6 v pre wr) (hb : w.heap.size + 3 ≤ b6) (hy : backC W H (plAt R x) = y) (hh : hasChG W H L y = true)
    (ho : w'.ownsRow (w.heap.size + 3) 3 1 v' ((backsOf W H R pre).length + 1) (intsV (backsOf W H R pre) ++ [.int .i64 y])) (hg : (wr.alloc o).grownBy w' v.ownBlock) :
    Boxed w' b6 26 v ∧ RevAt W H A A2 m cap n c2 L R w b6 v' (pre ++ [x]) (w'.setCell ⟨b6, 0, none⟩ v') ∧ KeepsOthers wr (w'.setCell ⟨b6, 0, none⟩ v') ∧ KeepB w.heap.size (b6 + 1) wr (w'.setCell ⟨b6, 0, none⟩ v') := by
  have hsz : w.heap.size + 3 ≤ wr.heap.size := by have := h.box.lt; omega
  obtain ⟨k1, k2, k3, k4, k5⟩ := h.box.appended (n₀ := w.heap.size + 3) (by decide) h.own hsz hb ho hg
  have hs : Boxed (w'.setCell ⟨b6, 0, none⟩ v') (b6 + 1) 26 (.slice A2 n c2) := by
    have h1 : Boxed w' (b6 + 1) 26 (.slice A2 n c2) := (h.src.alloc o).kept hg (h.src.not_row (by decide) h.own)
    exact h1.kept (grownBy_setCell' w' b6 v') (by simp)
  have hk : ∀ j, j < w.heap.size + 3 → (w'.setCell ⟨b6, 0, none⟩ v').heap[j]? = wr.heap[j]? := fun j hj => k5.block j hj
  refine ⟨k1, ⟨fun z hz => ?_, (hk _ (by omega)).trans h.mesh, (hk _ (by omega)).trans h.res, (hk _ (by omega)).trans h.yes, k2, ?_, hs, h.old.trans (k5.mono (by omega))⟩, k4, k5.mono (by omega), ?_⟩
  · rcases List.mem_append.1 hz with h1 | h1
    · exact h.ok z h1
    · rw [List.mem_singleton.1 h1, hy]; exact hh
  · rw [backsOf_snoc, hy, List.length_append, intsV_append]; exact k3
  · exact hs.trans (show wr.heap[b6 + 1]? = _ from h.src).symm
end

set_option maxRecDepth 100000 in
set_option maxHeartbeats 2000000 in
theorem implReverseRoute (W H : Int) (A A2 : Option Addr) (m cap n c2 : Nat) (L R : List Int) (b : Bool) (hb : backOk W H L R = b) (hL : WfL L) (hR : WfL R) (w : World) (h : IntAt w w.heap.size A m L) (h2 : IntAt w w.heap.size A2 n R) (hm : m ≤ 1000000000) (hn : n ≤ 1000000000) :
    Calls Try.prog 20 #[.agg #[.int .i64 W, .int .i64 H, .slice A m cap], .slice A2 n c2] w (NewR (backG W H L R) b w) := by
  obtain ⟨i0, hi, hz0, hz1, hz2⟩ := info_parts info_int
  have hl2 := h2.1
  refine (callsIn_wide (n := 3)).1 ?_
  refine callsIn_of_wp_marks Try.func20 rfl trivial ?_ rfl
  simp only [Try.ntmps20, List.size_toArray, List.length_cons, List.length_nil, Nat.reduceAdd, Nat.reduceSub, Array.replicate_succ, Array.replicate_zero, List.push_toArray, List.append_toArray, List.nil_append, List.cons_append]
  have hg0 : w.grownBy (((w.alloc (.cells (meshC W H A m cap) 28)).alloc (.cells #[.slice none 0 0] 26)).alloc (.cells #[.bool false] 4)) none := gb_alloc (gb_alloc (gb_alloc (gb_refl _ _) _) _) _
  have HG0 := Lib.hid hg0
  have HM := Lib.hid (((Blk.new w 28 (meshC W H A m cap)).alloc (.cells #[.slice none 0 0] 26)).alloc (.cells #[.bool false] 4))
  have hb4 := (Boxed.new (w.alloc (.cells (meshC W H A m cap) 28)) 26 (.slice none 0 0)).alloc (.cells #[.bool false] 4)
  have hb5 := Boxed.new ((w.alloc (.cells (meshC W H A m cap) 28)).alloc (.cells #[.slice none 0 0] 26)) 4 (.bool false)
  rw [alloc_size] at hb4
  rw [alloc_size, alloc_size] at hb5
  have HB4 := Lib.hid hb4
  have HB5 := Lib.hid hb5
  clear hb4 hb5
  have hI0 := (h.none (Nat.le_refl _) hg0).more hg0.size
  have hI2 := (h2.none (Nat.le_refl _) hg0).more hg0.size
  cases hr : routeG W H L R with
  | false =>
    have HC := Lib.hid (implIsRoute W H A A2 m cap n c2 L R false hr hL hR _ hI0 hI2 hm hn)
    have hbf : b = false := hb.symm.trans (backOk_route hr)
    have HV := Lib.hid (backG_no (backOk_route hr))
    clear hb hL hR hI0 hI2 h h2 hr hg0
    subst hbf
    gi_wp2_with (refine ⟨trivial, ?_⟩; gi_at_call 17; refine (callsIn_wide.2 HC.out).mono ?_; rintro e w1 ⟨rfl, hg1⟩; have B4 := HB4.out.kept hg1 (by simp); have B5 := HB5.out.kept hg1 (by simp); have c4 := B4.cell; have f4 := B4.frozen; have c5 := B5.cell; have f5 := B5.frozen; have HB4' := Lib.hid B4; have HB5' := Lib.hid B5; have HG1 := Lib.hid (gb_trans HG0.out hg1); clear hg1 B4 B5)
    have d4 := (HB4'.out.set (.slice none 0 0)).kept (grownBy_setCell' _ (w.heap.size + 1 + 1) (.bool false)) (by simp)
    have d5 := (HB5'.out.kept (grownBy_setCell' _ (w.heap.size + 1) (.slice none 0 0)) (by simp)).set (.bool false)
    have e4 := d4.cell
    have e5 := d5.cell
    refine ⟨.tuple #[.slice none 0 0, .bool false], by simp [results, Try.f20, go_sem, e4, e5], _, rfl, own_nil HV.out _ _, ?_⟩
    exact gb_below_none (gb_setCell (gb_setCell HG1.out (.inr (by show w.heap.size ≤ w.heap.size + 1; omega)) _) (.inr (by show w.heap.size ≤ w.heap.size + 1 + 1; omega)) _) (Nat.le_refl _)
  | true =>
    have HC := Lib.hid (implIsRoute W H A A2 m cap n c2 L R true hr hL hR _ hI0 hI2 hm hn)
    have HI := Lib.hid h
    have HP := Lib.hid h2
    have HWR := Lib.hid hR
    have HRO := Lib.hid (route_all hr)
    have HBad := Lib.hid (fun (x : Pl n) (h : hasChG W H L (backC W H (plAt R x)) = false) => show b = false ∧ backG W H L R = [] by
      have hk : backOk W H L R = false := backOk_no (i := x.1) (by have := x.2; omega) rfl h
      exact ⟨hb.symm.trans hk, backG_no hk⟩)
    have HGood := Lib.hid (fun (ys : List (Pl n)) (h : ys.map (fun x : Pl n => x.1) = downs n n) (ho : ∀ x ∈ ys, hasChG W H L (backC W H (plAt R x)) = true) => show b = true ∧ backG W H L R = backsOf W H R ys by
      have hall : backsTo W H L R R.length := fun j hj => by
        have hm : R.length - 1 - j ∈ ys.map (fun x : Pl n => x.1) := by rw [h, hl2]; exact List.mem_map.2 ⟨n - 1 - (n - 1 - j), List.mem_range.2 (by omega), by omega⟩
        obtain ⟨x, hx, hxj⟩ := List.mem_map.1 hm
        have := ho x hx
        unfold plAt at this
        rwa [hxj] at this
      have hk := backOk_yes hr hall
      exact ⟨hb.symm.trans hk, by rw [backsOf_full hl2 h, backG, if_pos hk]⟩)
    clear hb hL hR hI0 hI2 h h2 hr hg0
    gi_wp2_with (first
      | (refine ⟨trivial, ?_⟩; gi_at_call 17; refine (callsIn_wide.2 HC.out).mono ?_; rintro e w1 ⟨rfl, hg1⟩; have B4 := HB4.out.kept hg1 (by simp); have B5 := HB5.out.kept hg1 (by simp); have HB4' := Lib.hid B4; have HB5' := Lib.hid B5; have HG1 := Lib.hid (gb_trans HG0.out hg1); have HM1 := Lib.hid (HM.out.grown hg1 (by simp)); clear hg1 B4 B5)
      | (refine ⟨trivial, ?_⟩; gi_at_call 50; refine (implBackward Fence.wide _ trivial rfl _ _ _ _).mono ?_; rintro e w2 ⟨rfl, rfl⟩))
    have hW1 := HB5'.out.lt
    have hB0 := HG1.out
    refine wpIn_rangeFunc_ownF rfl (by decide) (gf := 71) (lb := #[.pointer (some ⟨w1.heap.size + 1, 0, none⟩)]) rfl trivial (enters_of Try.func71 (by kernel_rfl) rfl)
      (back_stops Fence.wide _ trivial rfl (by decide) (w1.heap.size + 1) w.heap.size n c2 A2 R hn ((w1.alloc (.cells #[.slice none 0 0] 26)).alloc (.cells #[.slice A2 n c2] 26)) (by simp) (by rw [alloc_size, alloc_size]; omega)
        (by have := (Boxed.new (w1.alloc (.cells #[.slice none 0 0] 26)) 26 (.slice A2 n c2)).cell; rwa [alloc_size] at this) (HP.out.none (Nat.le_refl _) (gb_alloc (gb_alloc HG1.out _) _)))
      keepB_t (keepB_b (by rw [alloc_size, alloc_size]; omega) (by simp)) (Below.refl _ _) (fun _ => rfl)
      (fun pre wr => ∃ v, RevAt W H A A2 m cap n c2 L R w w1.heap.size v pre wr)
      (RevNo W H L R n w)
      (revAt_own (by rw [alloc_size, alloc_size]; omega) (by omega))
      (revNo_own (by rw [alloc_size, alloc_size]; omega))
      ⟨.slice none 0 0, fun x h => (by cases h), (HM1.out.alloc _).alloc _, (HB4'.out.alloc _).alloc _, (HB5'.out.alloc _).alloc _, (Boxed.new w1 _ _).alloc _, World.ownsRow_nil _ _ _ _,
        (by have := Boxed.new (w1.alloc (.cells #[.slice none 0 0] 26)) 26 (.slice A2 n c2); rwa [alloc_size] at this), gb_below_none (gb_alloc (gb_alloc HG1.out _) _) (Nat.le_refl _)⟩
      (fun x => { tmps := #[.agg #[.int .i64 W, .int .i64 H, .slice A m cap], .slice A2 n c2, .pointer (some ⟨w.heap.size, 0, none⟩), undef, .pointer (some ⟨w.heap.size + 1, 0, none⟩), .pointer (some ⟨w.heap.size + 1 + 1, 0, none⟩), .pointer (some ⟨w1.heap.size, 0, none⟩), undef, .int .i64 (plAt R x), undef,
        .agg #[.int .i64 W, .int .i64 H, .slice A m cap], .slice A2 n c2, .bool true, .bool false, .slice A2 n c2, .func (.func 71) #[] #[.pointer (some ⟨w1.heap.size + 1, 0, none⟩)], .int .i64 (x.1 : Int), .int .i64 (plAt R x), undef, undef, undef, undef, undef, undef, undef, undef, undef, undef, undef, undef, undef], defers := [] }) ?assign ?body ?done ?stop
    case assign =>
      intro l x W K hK
      gi_wp2
      exact hK
    case body =>
      rintro l pre x wr ⟨v, hrev⟩ hlen
      have HX := Lib.hid hrev
      have hxn := x.2
      obtain ⟨c, hc⟩ : ∃ c, plAt R x = c := ⟨_, rfl⟩
      have hcl : hasChG W H L c = true := hc ▸ link_has (HRO.out.2.2 x.1 (by omega))
      have hcw := HWR.out.get (show x.1 < R.length by omega) hc
      obtain ⟨y, hy⟩ : ∃ y, backC W H c = y := ⟨_, rfl⟩
      have hyw : (Lit.int .i64 y).wf = true := WalkArith.wf_i64 (by have := backC_le W H c; rw [hy] at this; omega)
      have HCB := Lib.hid (fun w => implChannelBack W H L c y hcl hcw hy w)
      have HY := Lib.hid (show backC W H (plAt R x) = y by rw [hc, hy])
      obtain ⟨a0, a1, a2⟩ := hrev.cells
      have n0 : 1 ≤ 3 - 1 - 1 := by decide
      have HPL := Lib.hid (backsOf_len W H R pre)
      have hpm : pre.length ≤ 1000000000 := by omega
      rw [hc]
      cases hh : hasChG W H L y with
      | false =>
        have HCn := Lib.hid (fun w h => implConnects W H A m cap L y false hyw hh w h hm)
        have HBx := Lib.hid (show ∃ x : Pl n, hasChG W H L (backC W H (plAt R x)) = false from ⟨x, by rw [HY.out]; exact hh⟩)
        clear hcl hcw hy hyw hh hc hrev
        gi_wp2_with (first
          | (refine ⟨trivial, ?_⟩; gi_at_call 51; refine (CallsIn.inRound l (callsIn_wide.2 (HCB.out _))).mono ?_; rintro e w3 ⟨rfl, hg3⟩; have G3 := Lib.hid hg3; have R3 := Lib.hid (HX.out.gb hg3); obtain ⟨d0, d1, d2⟩ := R3.out.cells; clear hg3 a0 a1 a2)
          | (refine ⟨trivial, ?_⟩; gi_at_call 43; refine (CallsIn.inRound l (callsIn_wide.2 (HCn.out _ ((HI.out.below R3.out.old).more R3.out.old.size)))).mono ?_; rintro e w4 ⟨rfl, hg4⟩; have G4 := Lib.hid (gb_trans G3.out hg4); have R4 := Lib.hid (HX.out.gb G4.out); have c4 := R4.out.res.cell; have f4 := R4.out.res.frozen; have c5 := R4.out.yes.cell; have f5 := R4.out.yes.frozen; clear hg4 d0 d1 d2))
        exact ⟨((HX.out.keep G4.out).1.trans (KeepsOthers.setCell _ _ _)).trans (KeepsOthers.setCell _ _ _), rfl, HBx.out, (R4.out.res.set (.slice none 0 0)).kept (grownBy_setCell' _ (w.heap.size + 1 + 1) (.bool false)) (by simp),
          (R4.out.yes.kept (grownBy_setCell' _ (w.heap.size + 1) (.slice none 0 0)) (by simp)).set (.bool false), (R4.out.old.setCell (p := ⟨w.heap.size + 1, 0, none⟩) (by show w.heap.size ≤ w.heap.size + 1; omega) _).setCell (p := ⟨w.heap.size + 1 + 1, 0, none⟩) (by show w.heap.size ≤ w.heap.size + 1 + 1; omega) _⟩
      | true =>
        have HCn := Lib.hid (fun w h => implConnects W H A m cap L y true hyw hh w h hm)
        have HH := Lib.hid hh
        clear hcl hcw hy hyw hh hc hrev
        gi_wp2_with (first
          | (refine ⟨trivial, ?_⟩; gi_at_call 51; refine (CallsIn.inRound l (callsIn_wide.2 (HCB.out _))).mono ?_; rintro e w3 ⟨rfl, hg3⟩; have G3 := Lib.hid hg3; have R3 := Lib.hid (HX.out.gb hg3); obtain ⟨d0, d1, d2⟩ := R3.out.cells; clear hg3 a0 a1 a2)
          | (refine ⟨trivial, ?_⟩; gi_at_call 43; refine (CallsIn.inRound l (callsIn_wide.2 (HCn.out _ ((HI.out.below R3.out.old).more R3.out.old.size)))).mono ?_; rintro e w4 ⟨rfl, hg4⟩; have G4 := Lib.hid (gb_trans G3.out hg4); have R4 := Lib.hid (HX.out.gb G4.out); have c6 := R4.out.box.cell; clear hg4 d0 d1 d2)
          | (gi_at_builtin; refine wpListIn_append_own _ rfl _ _ 26 rfl (w.heap.size + 3) 3 i0 (.int .i64 0) 1 8 Try.underlying26 hi hz0 hz1 hz2 rfl (by decide) _ (backsOf W H R pre).length _ rfl (R4.out.own.alloc _) ⟨w4.heap.size, 0, none⟩ 1 1 [.int .i64 y] rfl rfl (cell_one_new _ _ _) (by simp [Value.oneCell']) (by rw [HPL.out]; unfold maxLen; omega) (by rw [HPL.out]; omega) (by have := R4.out.box.lt; rw [alloc_size]; omega) ?_; intro v' w5 hown5 hgrow5 _; obtain ⟨g', cap', rfl⟩ := ownsRow_succ hown5; obtain ⟨k1, k2, k3, k4⟩ := R4.out.app (x := x) (by omega) HY.out HH.out hown5 hgrow5; have c7 := k1.cell; have f7 := k1.frozen; have K2 := Lib.hid k2; have K3 := Lib.hid k3; have K4 := Lib.hid k4; clear k1 k2 k3 k4 hown5 hgrow5 c6))
        exact ⟨(HX.out.keep G4.out).1.trans K3.out, keepB_t (HX.out.keep G4.out).2 K4.out, _, K2.out⟩
    case done =>
      rintro D ys wr hD hys ⟨v, hrev⟩ hK
      obtain ⟨rfl, hbk⟩ := HGood.out ys hys hrev.ok
      have c6 := hrev.box.cell
      have c4 := hrev.res.cell
      have f4 := hrev.res.frozen
      have c5 := hrev.yes.cell
      have f5 := hrev.yes.frozen
      obtain ⟨A', cap', hv, _⟩ := own_form hrev.own
      subst hv
      have HREV := Lib.hid hrev
      have HBK := Lib.hid hbk
      have HKD := Lib.hid hK
      have HDD := Lib.hid hD
      obtain ⟨q, hq⟩ : ∃ q, (backsOf W H R ys).length = q := ⟨_, rfl⟩
      rw [hq] at HREV c6
      clear hrev hbk hK hD hys
      gi_wp2
      have hK' := ((KeepsOthers.setCell wr ⟨w.heap.size + 1, 0, none⟩ (.slice A' q cap')).trans (KeepsOthers.setCell _ ⟨w.heap.size + 1 + 1, 0, none⟩ (.bool true))).same D _ HKD.out rfl
      refine ⟨by simp, .inl ⟨_, _, rfl, run_takeDeferred hK', ?_⟩⟩
      have d4 := (HREV.out.res.set (.slice A' q cap')).kept (grownBy_setCell' _ (w.heap.size + 1 + 1) (.bool true)) (by simp)
      have d5 := (HREV.out.yes.kept (grownBy_setCell' _ (w.heap.size + 1) (.slice A' q cap')) (by simp)).set (.bool true)
      have e4 := cell_kept d4.cell (grownBy_putObj' _ D (.deferred none)) (fun r e => by cases e; exact ⟨_, hK', rfl⟩)
      have e5 := cell_kept d5.cell (grownBy_putObj' _ D (.deferred none)) (fun r e => by cases e; exact ⟨_, hK', rfl⟩)
      have o1 : ((wr.setCell ⟨w.heap.size + 1, 0, none⟩ (.slice A' q cap')).setCell ⟨w.heap.size + 1 + 1, 0, none⟩ (.bool true)).ownsRow (w.heap.size + 3) 3 1 (.slice A' q cap') (backsOf W H R ys).length (intsV (backsOf W H R ys)) :=
        ownsRow_setCell_below (ownsRow_setCell_below HREV.out.own (a := ⟨w.heap.size + 1, 0, none⟩) (by show w.heap.size + 1 < _; omega) _) (a := ⟨w.heap.size + 1 + 1, 0, none⟩) (by show w.heap.size + 1 + 1 < _; omega) _
      have b1 : Below w.heap.size w ((wr.setCell ⟨w.heap.size + 1, 0, none⟩ (.slice A' q cap')).setCell ⟨w.heap.size + 1 + 1, 0, none⟩ (.bool true)) :=
        (HREV.out.old.setCell (p := ⟨w.heap.size + 1, 0, none⟩) (by show w.heap.size ≤ w.heap.size + 1; omega) _).setCell (p := ⟨w.heap.size + 1 + 1, 0, none⟩) (by show w.heap.size ≤ w.heap.size + 1 + 1; omega) _
      refine ⟨.tuple #[.slice A' q cap', .bool true], by simp [results, Try.f20, go_sem, e4, e5], _, rfl, ?_, b1.trans (belowK_b (w := w) (Nat.le_refl _) _ D _ _ (by have := HDD.out; rw [alloc_size, alloc_size] at this; omega) hK' rfl rfl)⟩
      rw [HBK.out]
      exact own_less (ownsRow_putObj o1 _ hK' rfl) (by omega)
    case stop =>
      rintro D c pre wr hD _ hno hK
      obtain ⟨x, hx⟩ := hno.bad
      obtain ⟨rfl, hbk⟩ := HBad.out x hx
      have hret := hno.ret
      subst hret
      have e4 := cell_kept hno.res.cell (grownBy_putObj' _ D (.deferred none)) (fun r e => by cases e; exact ⟨_, hK, rfl⟩)
      have e5 := cell_kept hno.yes.cell (grownBy_putObj' _ D (.deferred none)) (fun r e => by cases e; exact ⟨_, hK, rfl⟩)
      gi_wp2
      refine ⟨by simp, .inl ⟨_, _, rfl, run_takeDeferred hK, ?_⟩⟩
      exact ⟨.tuple #[.slice none 0 0, .bool false], by simp [results, Try.f20, go_sem, e4, e5], _, rfl, own_nil rfl _ _, hno.old.trans (belowK_b (w := w) (Nat.le_refl _) _ D _ _ (by rw [alloc_size, alloc_size] at hD; omega) hK rfl rfl)⟩
end Go.Proofs.Ytakigpgkcneboaa
