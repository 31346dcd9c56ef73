/- What is proved here: what the model's RouteNodes and IsRoute return, for all arguments; only new blocks are written. -/
import Derived.Test.YtakigpgkcneboaaRouteM
import Derived.Test.YtakigpgkcneboaaOneI
import Derived.Test.YtakigpgkcneboaaHasS
namespace Go.Proofs.Ytakigpgkcneboaa
open Go.ChangeShapes Go.WideShapes Go.ChangeAt Go.RowKit
set_option linter.unusedVariables false

/-- The model's list: nothing yet, or the nodes of the first k channels. -/
def nodesS (W H : Int) (r : List Int) (k : Nat) : List Int := if k = 0 then [] else nodesTo W H r k
theorem nodesS_zero (W H : Int) (r : List Int) : nodesS W H r 0 = [] := rfl
theorem nodesS_pos {W H : Int} {r : List Int} {k : Nat} (h : 0 < k) : nodesS W H r k = nodesTo W H r k := if_neg (by omega)

set_option maxRecDepth 20000 in
set_option maxHeartbeats 800000 in
theorem specRouteNodes (W H : Int) (A A2 : Option Addr) (n cap n2 c2 : Nat) (L R : List Int) (w : World) (h : IntAt w w.heap.size A n L) (h2 : IntAt w w.heap.size A2 n2 R) (hn : n ≤ 1000000000) (hn2 : n2 ≤ 1000000000) :
    Calls Try.prog 24 #[.agg #[.int .i64 W, .int .i64 H, .slice A n cap], .slice A2 n2 c2] w (NewI (nodesG W H L R) w) := by
  obtain ⟨i0, hi, hz0, hz1, hz2⟩ := info_parts info_int
  have hp := h2.1
  have HI := Lib.hid h
  have HP := Lib.hid h2
  have s0 := OneAt.made0 (W := W) (H := H) (A := A) (n := n) (cap := cap) (gb_refl (w.alloc (.cells (meshC W H A n cap) 28)) none)
  rw [one_size] at s0
  have S0 := Lib.hid s0
  clear s0
  have H0 := Lib.hid (S0.out.row h)
  clear h h2
  obtain ⟨N, hN⟩ : ∃ N, nodesG W H L R = N := ⟨_, rfl⟩
  rw [hN]
  obtain ⟨ok, hm⟩ : ∃ ok, meshG W H L = ok := ⟨_, rfl⟩
  have HK := Lib.hid (fun w h => specMeshOkV W H A n cap L ok hm w h hn)
  have HM := Lib.hid (fun (h : ok = false) => show N = [] by rw [← hN, nodes_no (route_mesh (hm.trans h))])
  have HE := Lib.hid (fun (h : n2 = 0) => show N = [] by rw [← hN, List.eq_nil_of_length_eq_zero (hp.trans h), nodes_no route_nil])
  have HFin := Lib.hid (fun (h : ok = true) (h0 : 0 < n2) (hl : linksTo W H L R n2) => show nodesTo W H R n2 = N by rw [← hN, nodes_yes (route_yes (hm.trans h) (by omega) (by rw [hp]; exact hl)), hp])
  have HNo := Lib.hid (fun (i : Nat) (hi : i < n2) (hl : linkG W H L R i = false) => show N = [] by rw [← hN, nodes_no (route_no (by omega) hl)])
  clear hm hN
  go_enter Try.func24, Try.ntmps24
  go_wp2_with fail
  refine (HK.out _ H0.out).mono ?_
  rintro e w1 ⟨rfl, hg⟩
  have HX := Lib.hid (S0.out.gb hg)
  clear hg
  go_wp2_with fail
  go_loopw [5, 7] (fun v i wr => ∃ k : Nat, i = .int .i64 (k : Int) ∧ k ≤ n2 ∧ (ok = false → k = 0) ∧ linksTo W H L R k ∧ OneAt W H A n cap w (nodesS W H R k) v wr) (fun _ i _ => n2 - (intOf i).toNat)
  case atStart => exact ⟨0, rfl, Nat.zero_le _, fun _ => rfl, links_zero, HX.out⟩
  case round =>
    obtain ⟨k, rfl, hk, hok, hlk, hone⟩ := hrel
    have HLK := Lib.hid hlk
    have HO := Lib.hid hone
    have HOK := Lib.hid hok
    obtain ⟨a0, a1, a2⟩ := hone.cells
    obtain ⟨A', c', rfl, _⟩ := own_form hone.1
    clear hlk hone hok
    by_cases hlt : k < n2
    · obtain ⟨b, off, rfl, hb, hc⟩ := (HP.out.below HO.out.old).at k hlt
      obtain ⟨c, hcc⟩ : ∃ x, R.getD k 0 = x := ⟨_, rfl⟩
      rw [hcc] at hc
      have hi2 := HO.out.row HI.out
      cases ok with
      | false =>
        have HN0 := Lib.hid (HM.out rfl)
        have HEm := Lib.hid (own_empty HN0.out HO.out.old)
        clear hcc hi2 a0 a1 a2
        go_wp2_with fail
        go_ret
        exact ⟨_, rfl, HEm.out.1, HEm.out.2⟩
      | true =>
        cases hh : hasChG W H L c with
        | false =>
          have HC := Lib.hid (fun w h => specHasChV W H A n cap L c false hh w h hn)
          have HN0 := Lib.hid (HNo.out k hlt (link_lost hcc hh))
          clear hh hcc
          go_wp2_with fail
          refine (HC.out _ hi2).mono ?_
          rintro e w3 ⟨rfl, hg3⟩
          have HEm := Lib.hid (own_empty HN0.out (HO.out.gb hg3).old)
          clear hg3 hi2 a0 a1 a2 hc
          go_wp2_with fail
          go_ret
          exact ⟨_, rfl, HEm.out.1, HEm.out.2⟩
        | true =>
          have HC := Lib.hid (fun w h => specHasChV W H A n cap L c true hh w h hn)
          have hc0 := has_leads hh
          have hkn := countG_le W H
          have e1 : wrap64 (c.tdiv 4) = c / 4 := by rw [Int.tdiv_eq_ediv_of_nonneg hc0.1]; exact IntWalk.wrap64_in _ (by omega)
          have e2 : Int.tmod c 4 = c % 4 := Int.tmod_eq_emod_of_nonneg hc0.1
          have hlz := link_at hcc hh
          obtain ⟨y, hy⟩ : ∃ y, endC W H c = y := ⟨_, rfl⟩
          have HE2 := Lib.hid (fun w => specNextNodeV W H (c / 4) (c % 4) y hy w)
          have HNS := Lib.hid (show nodesTo W H R (k + 1) = nodesTo W H R k ++ [y] by rw [nodesTo_succ (by omega) hcc, hy])
          have HE1 := Lib.hid e1
          have HE3 := Lib.hid e2
          cases k with
          | zero =>
            have HL1 := Lib.hid (links_succ HLK.out (link_first hcc hh))
            have HN0 := Lib.hid (show nodesTo W H R 0 = [c / 4] by rw [nodesTo_zero, hcc])
            have hc' : wr.cell? ⟨b, off, none⟩ = some (.int .i64 c) := hc
            have HO0 := Lib.hid (show OneAt W H A n cap w [] (.slice A' 0 c') wr from HO.out)
            have hl0 : (nodesS W H R 0).length = 0 := rfl
            rw [hl0]
            clear hh hcc hlz hy hc0 hc hkn hl0
            go_wp2_with fail
            refine (HC.out _ hi2).mono ?_
            rintro e w3 ⟨rfl, hg3⟩
            have O3 := Lib.hid (HO0.out.gb hg3)
            have hown3 := O3.out.1
            have hsz3 := O3.out.le
            have b3' := Lib.hid (show ∀ u ∈ [Value.int .i64 (c / 4)], u.oneCell' = true by simp [Value.oneCell'])
            clear hg3 hi2 a0 a1 a2 hc'
            go_wp2_with (at_builtin; refine wpList_append_own _ rfl _ _ 26 rfl (w.heap.size + 1) 3 i0 (.int .i64 0) 1 8 Try.underlying26 hi hz0 hz1 hz2 rfl (by decide) _ 0 _ rfl (hown3.alloc _) ⟨w3.heap.size, 0, none⟩ 1 1 [.int .i64 (c / 4)] rfl rfl (World.news_of_block (cs := #[.int .i64 (c / 4)]) (t := 3) (fr := (0, 0)) (heap_alloc_new w3 _)) b3'.out (by decide) (by decide) (by simp; omega) ?_; intro v4 w4 hown4 hgrow4 _; obtain ⟨xa, A4, c4, rfl⟩ := O3.out.app hown4 hgrow4; have O4 := Lib.hid xa; obtain ⟨d0, d1, d2⟩ := O4.out.cells; clear xa hown4 hgrow4 hown3)
            refine (HE2.out _).mono ?_
            rintro e w5 ⟨rfl, hg5⟩
            have O5 := Lib.hid (show OneAt W H A n cap w [c / 4] _ w5 from O4.out.gb hg5)
            have hown5 := O5.out.1
            have hsz5 := O5.out.le
            have b5' := Lib.hid (show ∀ u ∈ [Value.int .i64 y], u.oneCell' = true by simp [Value.oneCell'])
            clear hg5 d0 d1 d2 e1 e2
            go_wp2_with (at_builtin; refine wpList_append_own _ rfl _ _ 26 rfl (w.heap.size + 1) 3 i0 (.int .i64 0) 1 8 Try.underlying26 hi hz0 hz1 hz2 rfl (by decide) _ 1 _ rfl (hown5.alloc _) ⟨w5.heap.size, 0, none⟩ 1 1 [.int .i64 y] rfl rfl (World.news_of_block (cs := #[.int .i64 y]) (t := 3) (fr := (0, 0)) (heap_alloc_new w5 _)) b5'.out (by decide) (by decide) (by simp; omega) ?_; intro v6 w6 hown6 hgrow6 _; have O6 := Lib.hid (O5.out.app hown6 hgrow6).1; clear hown6 hgrow6 hown5)
            go_roundw
            case rel => exact ⟨1, by go_num, by omega, fun h => (by cases h), HL1.out, by rw [nodesS_pos (by omega), HNS.out, HN0.out]; exact O6.out⟩
            case measure => simp [intOf]; omega
          | succ j =>
            have HL1 := Lib.hid (fun (h : c / 4 = atR W H R (j + 1)) => links_succ HLK.out (hlz.trans (decide_eq_true h)))
            have HNL := Lib.hid (fun (h : c / 4 ≠ atR W H R (j + 1)) => HNo.out (j + 1) hlt (hlz.trans (decide_eq_false h)))
            have hat := nodesTo_last (W := W) (H := H) (r := R) (k := j + 1) (by omega)
            have hln := nodesTo_len (W := W) (H := H) (r := R) (k := j + 1) (by omega)
            obtain ⟨x, hx⟩ : ∃ x, atR W H R (j + 1) = x := ⟨_, rfl⟩
            rw [hx] at HL1 HNL hat
            rw [nodesS_pos (by omega)] at HO ⊢
            have HIO := Lib.hid ((intAt_own HO.out.1 rfl (Nat.le_refl _)))
            rw [hln] at HIO ⊢
            have HLn := Lib.hid hln
            obtain ⟨b5, off5, rfl, _, hc5⟩ := HIO.out.at (j + 1) (by omega)
            rw [hat] at hc5
            clear hcc hlz hy hc0 hkn hat hln hx
            have i0' : ((j : Int) + 1 > 0) := by omega
            have i1' : ((j + 1 : Nat) : Int) < ((j + 1 + 1 : Nat) : Int) := by omega
            have hz1' : ((((j + 1 : Nat) : Int)) == 0) = false := beq_false_of_ne (by omega)
            have hz2' : decide ((((j + 1 : Nat) : Int)) > 0) = true := decide_eq_true (by omega)
            by_cases hq : c / 4 = x
            · have HL2 := Lib.hid (HL1.out hq)
              have hqb : (c / 4 != x) = false := by rw [hq]; simp
              clear hh hq
              go_wp2_with fail
              refine (HC.out _ hi2).mono ?_
              rintro e w3 ⟨rfl, hg3⟩
              have G3 := Lib.hid hg3
              have O3 := Lib.hid (HO.out.gb hg3)
              obtain ⟨d0, d1, d2⟩ := O3.out.cells
              have dc5 := hg3.cell hc5 (by simp)
              clear hg3 hi2 a0 a1 a2 hc hc5
              go_wp2_with fail
              refine (HE2.out _).mono ?_
              rintro e w5 ⟨rfl, hg5⟩
              have O5 := Lib.hid (O3.out.gb hg5)
              have hown5 := O5.out.1
              rw [HLn.out] at hown5
              have hsz5 := O5.out.le
              have b5' := Lib.hid (show ∀ u ∈ [Value.int .i64 y], u.oneCell' = true by simp [Value.oneCell'])
              have b6' := Lib.hid (show j + 1 + 1 + 1 ≤ maxLen by unfold maxLen; omega)
              clear hg5 d0 d1 d2 dc5 e1 e2 hqb
              go_wp2_with (at_builtin; refine wpList_append_own _ rfl _ _ 26 rfl (w.heap.size + 1) 3 i0 (.int .i64 0) 1 8 Try.underlying26 hi hz0 hz1 hz2 rfl (by decide) _ (j + 1 + 1) _ rfl (hown5.alloc _) ⟨w5.heap.size, 0, none⟩ 1 1 [.int .i64 y] rfl rfl (World.news_of_block (cs := #[.int .i64 y]) (t := 3) (fr := (0, 0)) (heap_alloc_new w5 _)) b5'.out b6'.out (by omega) (by simp; omega) ?_; intro v6 w6 hown6 hgrow6 _; have O6 := Lib.hid (O5.out.app (by rw [HLn.out]; exact hown6) hgrow6).1; clear hown6 hgrow6 hown5)
              go_roundw
              case rel => exact ⟨j + 2, by go_num, by omega, fun h => (by cases h), HL2.out, by rw [nodesS_pos (by omega), HNS.out]; exact O6.out⟩
              case measure => simp [intOf]; omega
            · have HN0 := Lib.hid (HNL.out hq)
              have hqb : (c / 4 != x) = true := bne_iff_ne.2 hq
              clear hh hq
              go_wp2_with fail
              refine (HC.out _ hi2).mono ?_
              rintro e w3 ⟨rfl, hg3⟩
              have HEm := Lib.hid (own_empty HN0.out (HO.out.gb hg3).old)
              have dc5 := hg3.cell hc5 (by simp)
              clear hg3 hi2 a0 a1 a2 hc hc5
              go_wp2_with fail
              go_ret
              exact ⟨_, rfl, HEm.out.1, HEm.out.2⟩
    · obtain rfl : k = n2 := by omega
      have HBo := Lib.hid (HO.out.old)
      clear a0 a1 a2
      go_wp2_with fail
      go_ret
      cases ok with
      | false =>
        obtain rfl := HOK.out rfl
        exact ⟨_, rfl, by rw [HE.out rfl]; exact own_less HO.out.1 (by omega), HBo.out⟩
      | true =>
        rcases Nat.eq_zero_or_pos k with h0 | h0
        · subst h0
          exact ⟨_, rfl, by rw [HE.out rfl]; exact own_less HO.out.1 (by omega), HBo.out⟩
        · have h1 := HO.out.new ((nodesS_pos h0).trans (HFin.out rfl h0 HLK.out))
          exact ⟨_, rfl, h1.1, h1.2⟩

theorem specIsRoute (W H : Int) (A A2 : Option Addr) (n cap n2 c2 : Nat) (L R : List Int) (b : Bool) (hb : routeG W H L R = b) (w : World) (h : IntAt w w.heap.size A n L) (h2 : IntAt w w.heap.size A2 n2 R) (hn : n ≤ 1000000000) (hn2 : n2 ≤ 1000000000) :
    Calls Try.prog 32 #[.agg #[.int .i64 W, .int .i64 H, .slice A n cap], .slice A2 n2 c2] w (RetB b w) := by
  have S0 := Lib.hid (OneAt.start (W := W) (H := H) (A := A) (n := n) (cap := cap) (gb_refl (w.alloc (.cells (meshC W H A n cap) 28)) none))
  have H0 := Lib.hid (S0.out.row h)
  have H2 := Lib.hid (S0.out.row h2)
  have HB := Lib.hid S0.out.old
  have hq := nodes_pos (W := W) (H := H) (L := L) (r := R)
  rw [hb] at hq
  obtain ⟨N, hN⟩ : ∃ N, nodesG W H L R = N := ⟨_, rfl⟩
  rw [hN] at hq
  have HC := Lib.hid (fun w h h2 => show Calls Try.prog 24 #[.agg #[.int .i64 W, .int .i64 H, .slice A n cap], .slice A2 n2 c2] w (NewI N w) from hN ▸ specRouteNodes W H A A2 n cap n2 c2 L R w h h2 hn hn2)
  have HQ := Lib.hid hq
  clear hN hb h h2 hq
  go_enter Try.func32, Try.ntmps32
  go_wp2_with fail
  refine (HC.out _ H0.out H2.out).mono ?_
  rintro e w1 ⟨v, rfl, ho, hbl⟩
  obtain ⟨A', c', rfl, _⟩ := own_form ho
  have HB1 := Lib.hid (gb_of_below (HB.out.trans (hbl.mono HB.out.size)) none)
  clear ho hbl
  go_wp2_with fail
  go_ret
  exact ⟨ret_bool HQ.out, HB1.out⟩
end Go.Proofs.Ytakigpgkcneboaa
