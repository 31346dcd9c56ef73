/- What is proved here: a mesh drawn off the cursor is a valid one; only the cursor and new blocks are written. -/
import Derived.Test.YtakigpgkcneboaaPickGrid
import Derived.Test.YtakigpgkcneboaaOnce
import Derived.Test.YtakigpgkcneboaaCountM
import Derived.Test.YtakigpgkcneboaaNextS
import Derived.Test.YtakigpgkcneboaaIntAt
namespace Go.Proofs.Ytakigpgkcneboaa
open Go.ChangeShapes Go.WideShapes Go.ChangeAt Go.RowKit
set_option linter.unusedVariables false

theorem gb_set3 {a w : World} {row : Option Nat} {b : Nat} (h : a.grownBy w row) (hb : a.heap.size ≤ b) (x y z : Value) : a.grownBy (((w.setCell ⟨b, 0, none⟩ x).setCell ⟨b, 1, none⟩ y).setCell ⟨b, 2, none⟩ z) row :=
  gb_setCell (gb_set2 h hb x y) (.inr hb) z
theorem cur_set3 {w : World} {g b : Nat} (h : Cur w g) (hb : g < b) (x y z : Value) : Cur (((w.setCell ⟨b, 0, none⟩ x).setCell ⟨b, 1, none⟩ y).setCell ⟨b, 2, none⟩ z) g := by
  have hg : w.grownBy (((w.setCell ⟨b, 0, none⟩ x).setCell ⟨b, 1, none⟩ y).setCell ⟨b, 2, none⟩ z) (some b) := gb_setCell (gb_setCell (gb_setCell (gb_refl w (some b)) (.inl rfl) x) (.inl rfl) y) (.inl rfl) z
  exact h.grown hg (fun k e => by cases e; exact hb)

/-- A valid mesh is returned; only the cursor and new blocks are written. -/
def DrawnMeshC (g : Nat) (w : World) (e : Ending) (w' : World) : Prop :=
  ∃ (W H : Int) (v : Value) (L : List Int), e = .returned (.agg #[.int .i64 W, .int .i64 H, v]) ∧ meshG W H L = true ∧ w'.ownsRow (w.heap.size + 1) 3 1 v L.length (intsV L) ∧ L.length ≤ 64 ∧ Cur w' g ∧ w.grownBy w' (some g)

/-- The loop: the broken channels below k. -/
def MeshTo (g : Nat) (w : World) (q : Nat) (W H : Int) (k : Nat) (wr : World) : Prop :=
  ∃ (v : Value) (L : List Int), Blk wr q 28 #[.int .i64 W, .int .i64 H, v] ∧ wr.ownsRow (q + 1) 3 1 v L.length (intsV L) ∧ L.Pairwise (· < ·) ∧ (∀ x ∈ L, leadsG W H x = true ∧ x < (k : Int)) ∧ L.length ≤ k ∧
    Blk wr w.heap.size 28 #[.int .i64 0, .int .i64 0, .slice none 0 0] ∧ Cur wr g ∧ w.grownBy wr (some g)

theorem MeshTo.keep {g : Nat} {w wr w' : World} {q k : Nat} {W H : Int} (h : MeshTo g w q W H k wr) (hlt : g < w.heap.size) (hq : w.heap.size ≤ q) (hg : wr.grownBy w' (some g)) (hc : Cur w' g) : MeshTo g w q W H k w' := by
  obtain ⟨v, L, k3, o, hs, hL, hlen, k2, _, hgw⟩ := h
  exact ⟨v, L, k3.grown hg (fun e => by cases e; omega), o.kept hg (.inr (fun e => by have := (o.lt g e).1; omega)), hs, hL, hlen, k2.grown hg (fun e => by cases e; omega), hc, gb_trans hgw hg⟩
theorem MeshTo.cur {g : Nat} {w wr : World} {q k : Nat} {W H : Int} (h : MeshTo g w q W H k wr) : Cur wr g := by obtain ⟨_, _, _, _, _, _, _, _, hc, _⟩ := h; exact hc
theorem MeshTo.still {g : Nat} {w wr w' : World} {q k : Nat} {W H : Int} (h : MeshTo g w q W H k wr) (hlt : g < w.heap.size) (hq : w.heap.size ≤ q) (hg : wr.grownBy w' none) : MeshTo g w q W H k w' :=
  h.keep hlt hq (gb_of_none hg _) (h.cur.grown hg (fun k e => by cases e))
theorem MeshTo.next {g : Nat} {w wr : World} {q k : Nat} {W H : Int} (h : MeshTo g w q W H k wr) : MeshTo g w q W H (k + 1) wr := by
  obtain ⟨v, L, k3, o, hs, hL, hlen, r⟩ := h
  exact ⟨v, L, k3, o, hs, fun x hx => ⟨(hL x hx).1, by have := (hL x hx).2; omega⟩, by omega, r⟩
theorem gb_then_below {a b c : World} {row : Option Nat} (h : a.grownBy b row) (k : Below a.heap.size b c) : a.grownBy c row :=
  ⟨k.os.trans h.os, k.tape.trans h.tape, k.output.trans h.output, Nat.le_trans h.size k.size, fun i hi hne => (k.block i hi).trans (h.block i hi hne)⟩
theorem cur_one {w : World} {g b j : Nat} (h : Cur w g) (hb : g < b) (x : Value) : Cur (w.setCell ⟨b, j, none⟩ x) g := by
  have hg : w.grownBy (w.setCell ⟨b, j, none⟩ x) (some b) := gb_setCell (gb_refl w (some b)) (.inl rfl) x
  exact h.grown hg (fun k e => by cases e; exact hb)
theorem own_one {w : World} {base n : Nat} {v : Value} {l : List Value} (h : w.ownsRow base 3 1 v n l) : v.oneCell' = true := by
  obtain ⟨A, cap, rfl, _⟩ := own_form h
  rfl
theorem mesh_done {g : Nat} {w wr : World} {q k : Nat} {W H : Int} {v : Value} {L : List Int} (hok : okG W H = true) (hs : L.Pairwise (· < ·)) (hl : ∀ x ∈ L, leadsG W H x = true) (hlen : L.length ≤ k) (hk : k ≤ 64)
    (o : wr.ownsRow (q + 1) 3 1 v L.length (intsV L)) (hc : Cur wr g) (hgw : w.grownBy wr (some g)) (hlt : g < w.heap.size) (hq : w.heap.size + 1 ≤ q) :
    meshG W H L = true ∧ (((wr.setCell ⟨w.heap.size, 0, none⟩ (.int .i64 W)).setCell ⟨w.heap.size, 1, none⟩ (.int .i64 H)).setCell ⟨w.heap.size, 2, none⟩ v).ownsRow (w.heap.size + 1) 3 1 v L.length (intsV L) ∧ L.length ≤ 64 ∧
      Cur (((wr.setCell ⟨w.heap.size, 0, none⟩ (.int .i64 W)).setCell ⟨w.heap.size, 1, none⟩ (.int .i64 H)).setCell ⟨w.heap.size, 2, none⟩ v) g ∧
      w.grownBy (((wr.setCell ⟨w.heap.size, 0, none⟩ (.int .i64 W)).setCell ⟨w.heap.size, 1, none⟩ (.int .i64 H)).setCell ⟨w.heap.size, 2, none⟩ v) (some g) :=
  ⟨mesh_of_sorted hok hs hl, own_less (ownsRow_setCell_below (ownsRow_setCell_below (ownsRow_setCell_below o (by show w.heap.size < _; omega) _) (by show w.heap.size < _; omega) _) (by show w.heap.size < _; omega) _) (by omega), by omega,
    cur_set3 hc hlt _ _ _, gb_set3 hgw (Nat.le_refl _) _ _ _⟩

theorem l03Mesh (g : Nat) (w : World) (hcur : Cur w g) :
    Calls Try.prog 48 #[.pointer (some ⟨g, 0, none⟩)] w (DrawnMeshC g w) := by
  obtain ⟨i0, hi, hz0, hz1, hz2⟩ := info_parts info_int
  have hlt := hcur.lt
  have hc0 : Cur (w.alloc (.cells #[.int .i64 0, .int .i64 0, .slice none 0 0] 28)) g := hcur.grown (gb_alloc (gb_refl _ none) _) (fun k e => by cases e)
  have HB := Lib.hid (Blk.new w 28 #[.int .i64 0, .int .i64 0, .slice none 0 0])
  have HA := Lib.hid (show w.grownBy (w.alloc (.cells #[.int .i64 0, .int .i64 0, .slice none 0 0] 28)) (some g) from gb_alloc (gb_refl _ _) _)
  clear hcur
  go_enter Try.func48, Try.ntmps48
  go_wp2_with fail
  refine (l02Grid g _ hc0).mono ?_
  rintro e w1 ⟨W, H, rfl, hok, hc1, hg1⟩
  have HG1 := Lib.hid (gb_trans HA.out hg1)
  have hsz1 : w.heap.size + 1 ≤ w1.heap.size := by have := hg1.size; simpa using this
  have hb1 := HB.out.grown hg1 (fun e => by cases e; omega)
  have HM0 := Lib.hid (show MeshTo g w w1.heap.size W H 0 (w1.alloc (.cells #[.int .i64 W, .int .i64 H, .slice none 0 0] 28)) from
    ⟨.slice none 0 0, [], Blk.new w1 28 #[.int .i64 W, .int .i64 H, .slice none 0 0], World.ownsRow_nil _ _ _ _, List.Pairwise.nil, (fun x h => by cases h), Nat.le_refl _, hb1.alloc _,
      hc1.grown (gb_alloc (gb_refl _ none) _) (fun k e => by cases e), gb_alloc HG1.out _⟩)
  have HOK := Lib.hid hok
  clear hc0 hg1 hb1 hok hc1
  go_wp2_with fail
  refine (l01Once _ _ _ HM0.out.cur).mono ?_
  rintro e w2 ⟨b, rfl, hc2, hg2⟩
  have HM2 := Lib.hid (HM0.out.keep hlt (by omega) hg2 hc2)
  clear hc2 hg2
  cases b with
  | false =>
    obtain ⟨v, L, k3, o, hs, hL, hlen, k2, hc, hgw⟩ := HM2.out
    have a0 : w2.cell? ⟨w1.heap.size, 0, none⟩ = some (.int .i64 W) := k3.cell 0
    have a1 : w2.cell? ⟨w1.heap.size, 1, none⟩ = some (.int .i64 H) := k3.cell 1
    have a2 : w2.cell? ⟨w1.heap.size, 2, none⟩ = some v := k3.cell 2
    have z0 : w2.cell? ⟨w.heap.size, 0, none⟩ = some (.int .i64 0) := k2.cell 0
    have z1 : w2.cell? ⟨w.heap.size, 1, none⟩ = some (.int .i64 0) := k2.cell 1
    have z2 : w2.cell? ⟨w.heap.size, 2, none⟩ = some (.slice none 0 0) := k2.cell 2
    have f0 := k2.frozen 0
    have f1 := k2.frozen 1
    have f2 := k2.frozen 2
    have v1 := own_one o
    have kk := ((k2.set_ 0 (.int .i64 W)).set_ 1 (.int .i64 H)).set_ 2 v
    have HRes := Lib.hid (mesh_done (L := L) HOK.out hs (fun x hx => (hL x hx).1) hlen (by omega) o hc hgw hlt hsz1)
    have y0 := kk.cell 0
    have y1 := kk.cell 1
    have y2 := kk.cell 2
    simp at y0 y1 y2
    have Y := Lib.hid (And.intro y0 (And.intro y1 y2))
    obtain ⟨A, cap, rfl, _⟩ := own_form o
    clear k3 o hs hL hlen k2 hc hgw kk y0 y1 y2 v1
    go_wp2_with fail
    obtain ⟨y0, y1, y2⟩ := Y.out
    refine bodyPost_ret (v := .agg #[.int .i64 W, .int .i64 H, .slice A L.length cap]) (by simp [results, Try.results48, go_sem, y0, y1, y2]) rfl ⟨W, H, .slice A L.length cap, L, rfl, HRes.out.1, HRes.out.2.1, HRes.out.2.2.1, HRes.out.2.2.2.1, HRes.out.2.2.2.2⟩
  | true =>
    obtain ⟨cn, hcn⟩ : ∃ k, countG W H = k := ⟨_, rfl⟩
    obtain ⟨hcn0, hcn1⟩ := countG_le W H
    rw [hcn] at hcn0 hcn1
    have NC := Lib.hid (fun w => specNodeCountV W H cn hcn w)
    clear hcn
    go_wp2_with fail
    go_loopw [4] (fun i wr => ∃ k : Nat, i = .int .i64 (k : Int) ∧ (k : Int) ≤ 4 * cn ∧ MeshTo g w w1.heap.size W H k wr) (fun i _ => 64 - (intOf i).toNat)
    case atStart => exact ⟨0, rfl, by omega, HM2.out⟩
    case round =>
      obtain ⟨k, rfl, hk, hm⟩ := hrel
      have HM := Lib.hid hm
      have b0 : wr.cell? ⟨w1.heap.size, 0, none⟩ = some (.int .i64 W) := by obtain ⟨v, L, k3, _⟩ := hm; exact k3.cell 0
      have b1 : wr.cell? ⟨w1.heap.size, 1, none⟩ = some (.int .i64 H) := by obtain ⟨v, L, k3, _⟩ := hm; exact k3.cell 1
      clear hm
      by_cases hlk : (k : Int) < 4 * cn
      · have hld : decide ((k : Int) < 4 * cn) = true := decide_eq_true hlk
        go_wp2_with fail
        refine (NC.out _).mono ?_
        rintro e w3 ⟨rfl, hg3⟩
        have HM3 := Lib.hid (HM.out.still hlt (by omega) hg3)
        have d0 : w3.cell? ⟨w1.heap.size, 0, none⟩ = some (.int .i64 W) := by obtain ⟨v, L, k3, _⟩ := HM3.out; exact k3.cell 0
        have d1 : w3.cell? ⟨w1.heap.size, 1, none⟩ = some (.int .i64 H) := by obtain ⟨v, L, k3, _⟩ := HM3.out; exact k3.cell 1
        clear hg3 b0 b1
        go_wp2_with fail
        cases hle : leadsG W H (k : Int) with
        | false =>
          refine (specLeadsV W H k false hle _).mono ?_
          rintro e w4 ⟨rfl, hg4⟩
          have HM4 := Lib.hid (HM3.out.still hlt (by omega) hg4)
          clear hg4 d0 d1
          go_wp2_with fail
          go_roundw
          case rel => exact ⟨k + 1, by go_num, by omega, HM4.out.next⟩
          case measure => simp [intOf]; omega
        | true =>
          refine (specLeadsV W H k true hle _).mono ?_
          rintro e w4 ⟨rfl, hg4⟩
          have HM4 := Lib.hid (HM3.out.still hlt (by omega) hg4)
          clear hg4 d0 d1
          go_wp2_with fail
          refine (l01Once _ _ _ HM4.out.cur).mono ?_
          rintro e w5 ⟨bb, rfl, hc5, hg5⟩
          have HM5 := Lib.hid (HM4.out.keep hlt (by omega) hg5 hc5)
          clear hc5 hg5
          cases bb with
          | false =>
            go_wp2_with fail
            go_roundw
            case rel => exact ⟨k + 1, by go_num, by omega, HM5.out.next⟩
            case measure => simp [intOf]; omega
          | true =>
            obtain ⟨v, L, k3, o, hs, hL, hlen, k2, hc, hgw⟩ := HM5.out
            have a2 : w5.cell? ⟨w1.heap.size, 2, none⟩ = some v := k3.cell 2
            have HK3 := Lib.hid k3
            have HS := Lib.hid (And.intro hs hL)
            have HLe := Lib.hid hlen
            have HK2 := Lib.hid k2
            have HC := Lib.hid hc
            have HGW := Lib.hid hgw
            have HO := Lib.hid o
            have hq5 := k3.lt
            have b3' := Lib.hid (show ∀ u ∈ [Value.int .i64 (k : Int)], u.oneCell' = true by simp [Value.oneCell'])
            have b4' := Lib.hid (show L.length + 1 ≤ maxLen by unfold maxLen; omega)
            have HLE := Lib.hid hle
            obtain ⟨A, cap, rfl, _⟩ := own_form o
            clear k3 o hs hL k2 hc hgw hle
            go_wp2_with (at_builtin; refine wpList_append_own _ rfl _ _ 26 rfl (w1.heap.size + 1) 3 i0 (.int .i64 0) 1 8 Try.underlying26 hi hz0 hz1 hz2 rfl (by decide) _ L.length _ rfl (HO.out.alloc _) ⟨w5.heap.size, 0, none⟩ 1 1 [.int .i64 (k : Int)] rfl rfl (World.news_of_block (cs := #[.int .i64 (k : Int)]) (t := 3) (fr := (0, 0)) (heap_alloc_new w5 _)) b3'.out b4'.out (by omega) (by simp; omega) ?_; intro v' w6 hown6 hgrow6 _; obtain ⟨A', cap', rfl, _⟩ := own_form hown6; have kx := (HK3.out.alloc (.cells #[.int .i64 (k : Int)] 3)).grown hgrow6 (fun e => by have := (HO.out.lt _ e.symm).1; omega); have HX6 := Lib.hid kx; have e2 := kx.cell 2; have f2 := kx.frozen 2; simp at e2; have HO6 := Lib.hid hown6; have HGr6 := Lib.hid hgrow6; clear kx hown6 hgrow6)
            refine ⟨⟨k + 1, by go_num, by omega, .slice A' (L.length + 1) cap', L ++ [(k : Int)], ?_, ?_, ?_, ?_, ?_, ?_, ?_, ?_⟩, by simp [intOf]; omega⟩
            · exact HX6.out.set_ 2 (.slice A' (L.length + 1) cap')
            · have h1 := ownsRow_setCell_below HO6.out (a := ⟨w1.heap.size, 2, none⟩) (by show w1.heap.size < _; omega) (.slice A' (L.length + 1) cap')
              rw [List.length_append, intsV_append]
              exact h1
            · rw [List.pairwise_append]
              exact ⟨HS.out.1, List.pairwise_singleton _ _, fun x hx y hy => by rw [List.mem_singleton.1 hy]; exact (HS.out.2 x hx).2⟩
            · intro x hx
              rcases List.mem_append.1 hx with h | h
              · exact ⟨(HS.out.2 x h).1, by have := (HS.out.2 x h).2; omega⟩
              · rw [List.mem_singleton.1 h]; exact ⟨HLE.out, by omega⟩
            · rw [List.length_append, List.length_singleton]; have := HLe.out; omega
            · exact ((HK2.out.alloc _).grown HGr6.out (fun e => by have := (HO.out.lt _ e.symm).1; omega)).far (by show w.heap.size ≠ w1.heap.size; omega) _
            · exact cur_one ((HC.out.grown (gb_alloc (gb_refl _ none) _) (fun k e => by cases e)).grown HGr6.out (fun j e => by have := (HO.out.lt j e).1; omega)) (by omega) _
            · have h1 : w.grownBy (w5.alloc (.cells #[.int .i64 (k : Int)] 3)) (some g) := gb_alloc HGW.out _
              have h2 : Below w.heap.size (w5.alloc (.cells #[.int .i64 (k : Int)] 3)) w6 := (Below.refl _ _).grown HGr6.out h1.size (fun j e => by have := (HO.out.lt j e).1; omega)
              exact gb_setCell (gb_then_below h1 h2) (.inr (by show w.heap.size ≤ w1.heap.size; omega)) _
      · have hld : decide ((k : Int) < 4 * cn) = false := decide_eq_false hlk
        go_wp2_with fail
        refine (NC.out _).mono ?_
        rintro e w3 ⟨rfl, hg3⟩
        have HM3 := Lib.hid (HM.out.still hlt (by omega) hg3)
        clear hg3 b0 b1
        obtain ⟨v, L, k3, o, hs, hL, hlen, k2, hc, hgw⟩ := HM3.out
        have a0 : w3.cell? ⟨w1.heap.size, 0, none⟩ = some (.int .i64 W) := k3.cell 0
        have a1 : w3.cell? ⟨w1.heap.size, 1, none⟩ = some (.int .i64 H) := k3.cell 1
        have a2 : w3.cell? ⟨w1.heap.size, 2, none⟩ = some v := k3.cell 2
        have z0 : w3.cell? ⟨w.heap.size, 0, none⟩ = some (.int .i64 0) := k2.cell 0
        have z1 : w3.cell? ⟨w.heap.size, 1, none⟩ = some (.int .i64 0) := k2.cell 1
        have z2 : w3.cell? ⟨w.heap.size, 2, none⟩ = some (.slice none 0 0) := k2.cell 2
        have f0 := k2.frozen 0
        have f1 := k2.frozen 1
        have f2 := k2.frozen 2
        have v1 := own_one o
        have kk := ((k2.set_ 0 (.int .i64 W)).set_ 1 (.int .i64 H)).set_ 2 v
        have HRes := Lib.hid (mesh_done (L := L) HOK.out hs (fun x hx => (hL x hx).1) hlen (by omega) o hc hgw hlt hsz1)
        have y0 := kk.cell 0
        have y1 := kk.cell 1
        have y2 := kk.cell 2
        simp at y0 y1 y2
        have Y := Lib.hid (And.intro y0 (And.intro y1 y2))
        obtain ⟨A, cap, rfl, _⟩ := own_form o
        clear k3 o hs hL hlen k2 hc hgw kk y0 y1 y2 v1
        go_wp2_with fail
        obtain ⟨y0, y1, y2⟩ := Y.out
        refine bodyPost_ret (v := .agg #[.int .i64 W, .int .i64 H, .slice A L.length cap]) (by simp [results, Try.results48, go_sem, y0, y1, y2]) rfl ⟨W, H, .slice A L.length cap, L, rfl, HRes.out.1, HRes.out.2.1, HRes.out.2.2.1, HRes.out.2.2.2.1, HRes.out.2.2.2.2⟩
end Go.Proofs.Ytakigpgkcneboaa
