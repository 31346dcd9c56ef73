/- What is proved here: what the program's RouteNodes and IsRoute return for numbers of 64 bits; only new blocks are written. -/
import Derived.Test.YtakigpgkcneboaaRouteM
import Derived.Test.YtakigpgkcneboaaOneI
import Derived.Test.YtakigpgkcneboaaConnI
import Derived.Test.YtakigpgkcneboaaMeshOkI
namespace Go.Proofs.Ytakigpgkcneboaa
open Go.ChangeShapes Go.WideShapes Go.ChangeAt Go.RowKit
set_option linter.unusedVariables false

theorem end_has {W H : Int} {L : List Int} {c : Int} (h : hasChG W H L c = true) : endG W H c = endC W H c := by
  have h0 := (has_leads h).1
  unfold endG endC
  rw [Int.tdiv_eq_ediv_of_nonneg h0, Int.tmod_eq_emod_of_nonneg h0]

set_option maxHeartbeats 800000 in
theorem implRouteNodes (W H : Int) (A A2 : Option Addr) (n cap n2 c2 : Nat) (L R : List Int) (hL : WfL L) (hR : WfL R) (w : World) (h : IntAt w w.heap.size A n L) (h2 : IntAt w w.heap.size A2 n2 R) (hn : n ≤ 1000000000) (hn2 : n2 ≤ 1000000000) :
    Calls Try.prog 15 #[.agg #[.int .i64 W, .int .i64 H, .slice A n cap], .slice A2 n2 c2] w (NewI (nodesG W H L R) w) := by
  obtain ⟨i0, hi, hz0, hz1, hz2⟩ := info_parts info_int
  have hp := h2.1
  have HI := Lib.hid h
  have HP := Lib.hid h2
  have HWR := Lib.hid hR
  have S0 := Lib.hid (OneAt.start (W := W) (H := H) (A := A) (n := n) (cap := cap) (gb_refl (w.alloc (.cells (meshC W H A n cap) 28)) none))
  have H0 := Lib.hid (S0.out.row h)
  clear h h2
  obtain ⟨N, hN⟩ : ∃ N, nodesG W H L R = N := ⟨_, rfl⟩
  rw [hN]
  by_cases hz : n2 = 0
  · have HR0 := Lib.hid (show N = [] by rw [← hN, List.eq_nil_of_length_eq_zero (hp.trans hz), nodes_no route_nil])
    subst hz
    have HB := Lib.hid S0.out.old
    clear hN hR hL hp
    go_enter Try.func15, Try.ntmps15
    go_wp2_with fail
    go_ret
    exact ⟨_, rfl, own_nil HR0.out _ _, HB.out⟩
  · have hzb : ((n2 : Int) == 0) = false := beq_false_of_ne (by omega)
    cases hm : meshG W H L with
    | false =>
      have HK := Lib.hid (fun w h => implMeshOkV W H A n cap L false hm hL w h hn)
      have HR0 := Lib.hid (show N = [] by rw [← hN, nodes_no (route_mesh hm)])
      clear hm hL hN hR hz
      go_enter Try.func15, Try.ntmps15
      go_wp2_with fail
      refine (HK.out _ H0.out).mono ?_
      rintro e w1 ⟨rfl, hg⟩
      have HB := Lib.hid (S0.out.gb hg).old
      clear hg
      go_wp2_with fail
      go_ret
      exact ⟨_, rfl, own_nil HR0.out _ _, HB.out⟩
    | true =>
      have HK := Lib.hid (fun w h => implMeshOkV W H A n cap L true hm hL w h hn)
      obtain ⟨r0, hr0⟩ : ∃ x, R.getD 0 0 = x := ⟨_, rfl⟩
      have hb0 := bounds_i64 (hR.get (by omega) hr0)
      obtain ⟨z, hz'⟩ : ∃ z, r0.tdiv 4 = z := ⟨_, rfl⟩
      have hzz : 0 ≤ R.getD 0 0 → z = R.getD 0 0 / 4 := fun h0 => by rw [hr0] at h0 ⊢; rw [← hz', Int.tdiv_eq_ediv_of_nonneg h0]
      have e0 : wrap64 (r0.tdiv 4) = z := by
        rw [hz']
        have hm4 : r0.tmod 4 < 4 ∧ -4 < r0.tmod 4 := ⟨Int.tmod_lt_of_pos _ (by omega), by have := Int.lt_tmod_of_pos r0 (b := 4) (by omega); omega⟩
        exact IntWalk.wrap64_in _ (by have := Int.mul_tdiv_add_tmod r0 4; omega)
      have HZ := Lib.hid hzz
      have HFin := Lib.hid (fun (hl : linksTo W H L R n2) => show nodesZ W H R z n2 = N by rw [← hN, nodes_z hzz hm (by omega) (by rw [hp]; exact hl), hp])
      have HNo := Lib.hid (fun (i : Nat) (hi : i < n2) (hl : linkG W H L R i = false) => show N = [] by rw [← hN, nodes_no (route_no (by omega) hl)])
      clear hm hL hN hb0 hz' hzz hR
      go_enter Try.func15, Try.ntmps15
      go_wp2_with fail
      refine (HK.out _ H0.out).mono ?_
      rintro e w1 ⟨rfl, hg⟩
      obtain ⟨b, off, rfl, hb, hc0⟩ := (HP.out.below (S0.out.gb hg).old).at 0 (by omega)
      rw [hr0] at hc0
      have hc0' : w1.cell? ⟨b, off, none⟩ = some (.int .i64 r0) := hc0
      have HX := Lib.hid (OneAt.made hg z)
      have n0 : (0 : Int) < (n2 : Int) := by omega
      clear hg hc0 hr0
      go_wp2_with fail
      rw [e0]
      clear hc0' e0
      go_loopw [5, 6, 25] (fun x v i wr => ∃ k : Nat, i = .int .i64 (k : Int) ∧ k ≤ n2 ∧ x = .int .i64 (atZ W H R z k) ∧ linksTo W H L R k ∧ OneAt W H A n cap w (nodesZ W H R z k) v wr) (fun _ _ i _ => n2 - (intOf i).toNat)
      case atStart => exact ⟨0, rfl, Nat.zero_le _, rfl, links_zero, HX.out⟩
      case round =>
        obtain ⟨k, rfl, hk, rfl, hlk, hone⟩ := hrel
        have HLK := Lib.hid hlk
        have HO := Lib.hid hone
        obtain ⟨a0, a1, a2⟩ := hone.cells
        obtain ⟨A', c', rfl, _⟩ := own_form hone.1
        clear hlk hone
        by_cases hlt : k < n2
        · obtain ⟨b', off', hbe, hb', hc⟩ := (HP.out.below HO.out.old).at k hlt
          obtain ⟨rfl, rfl⟩ : b = b' ∧ off = off' := by injection hbe with h1; injection h1 with h2 h3; exact ⟨h2, h3⟩
          obtain ⟨c, hcc⟩ : ∃ x, R.getD k 0 = x := ⟨_, rfl⟩
          rw [hcc] at hc
          have hcw := HWR.out.get (show k < R.length by omega) hcc
          have hi2 := HO.out.row HI.out
          obtain ⟨x, hx⟩ : ∃ x, atZ W H R z k = x := ⟨_, rfl⟩
          rw [hx]
          cases hh : hasChG W H L c with
          | false =>
            have HC := Lib.hid (fun w h => implConnects W H A n cap L c false hcw hh w h hn)
            have HN0 := Lib.hid (HNo.out k hlt (link_lost hcc hh))
            clear hh hcc hcw hx hbe
            go_wp2_with fail
            refine (HC.out _ hi2).mono ?_
            rintro e w3 ⟨rfl, hg3⟩
            have G3 := Lib.hid (HO.out.gb hg3).old
            clear hg3 hi2 a0 a1 a2 hc
            go_wp2_with fail
            go_ret
            exact ⟨_, rfl, own_nil HN0.out _ _, G3.out⟩
          | true =>
            have HC := Lib.hid (fun w h => implConnects W H A n cap L c true hcw hh w h hn)
            have hc0 := has_leads hh
            have hkn := countG_le W H
            have e1 : wrap64 (c.tdiv 4) = c / 4 := by rw [Int.tdiv_eq_ediv_of_nonneg hc0.1]; exact IntWalk.wrap64_in _ (by omega)
            have hlz := link_z HZ.out hcc hh hc0.1
            rw [hx] at hlz
            by_cases hq : c / 4 = x
            · have hqb : (c / 4 != x) = false := by rw [hq]; simp
              have HL1 := Lib.hid (links_succ HLK.out (hlz.trans (decide_eq_true hq)))
              obtain ⟨y, hy⟩ : ∃ y, endC W H c = y := ⟨_, rfl⟩
              have HE := Lib.hid (fun w => implEnd W H c y hcw (by rw [end_has hh, hy]) w)
              have HNS := Lib.hid (show nodesZ W H R z (k + 1) = nodesZ W H R z k ++ [y] by rw [nodesZ_succ (by omega) hcc, hy])
              have HAS := Lib.hid (atZ_succ (W := W) (H := H) z hcc hy)
              have HNL := Lib.hid (nodesZ_len (W := W) (H := H) (r := R) (z := z) (k := k) (by omega))
              clear hh hcc hcw hx hbe hlz hq hy hc0
              go_wp2_with fail
              refine (HC.out _ hi2).mono ?_
              rintro e w3 ⟨rfl, hg3⟩
              have O3 := Lib.hid (HO.out.gb hg3)
              obtain ⟨d0, d1, d2⟩ := O3.out.cells
              clear hg3 hi2 a0 a1 a2 hc
              go_wp2_with fail
              rw [e1]
              go_wp2_with fail
              refine (HE.out _).mono ?_
              rintro e w4 ⟨rfl, hg4⟩
              have O4 := Lib.hid (O3.out.gb hg4)
              have hown4 := O4.out.1
              have hsz4 := O4.out.le
              have b3' := Lib.hid (show ∀ u ∈ [Value.int .i64 y], u.oneCell' = true by simp [Value.oneCell'])
              have b4' := Lib.hid (show (nodesZ W H R z k).length + 1 ≤ maxLen by rw [HNL.out]; unfold maxLen; omega)
              have b5' := Lib.hid (show ((nodesZ W H R z k).length + 1) * 8 ≤ 140737488355328 by rw [HNL.out]; omega)
              clear hg4 d0 d1 d2
              go_wp2_with (at_builtin; refine wpList_append_own _ rfl _ _ 26 rfl (w.heap.size + 1) 3 i0 (.int .i64 0) 1 8 Try.underlying26 hi hz0 hz1 hz2 rfl (by decide) _ (nodesZ W H R z k).length _ rfl (hown4.alloc _) ⟨w4.heap.size, 0, none⟩ 1 1 [.int .i64 y] rfl rfl (World.news_of_block (cs := #[.int .i64 y]) (t := 3) (fr := (0, 0)) (heap_alloc_new w4 _)) b3'.out b4'.out b5'.out (by simp; omega) ?_; intro v' w5 hown5 hgrow5 _; have HX5 := Lib.hid (O4.out.app hown5 hgrow5).1; clear hown5 hgrow5)
              go_roundw
              case rel => exact ⟨k + 1, by go_num, by omega, by rw [HAS.out], HL1.out, by rw [HNS.out]; exact HX5.out⟩
              case measure => simp [intOf]; omega
            · have hqb : (c / 4 != x) = true := bne_iff_ne.2 hq
              have HN0 := Lib.hid (HNo.out k hlt (hlz.trans (decide_eq_false hq)))
              clear hh hcc hcw hx hbe hlz hq hc0
              go_wp2_with fail
              refine (HC.out _ hi2).mono ?_
              rintro e w3 ⟨rfl, hg3⟩
              have G3 := Lib.hid (HO.out.gb hg3).old
              clear hg3 hi2 a0 a1 a2 hc
              go_wp2_with fail
              rw [e1]
              go_wp2_with fail
              go_ret
              exact ⟨_, rfl, own_nil HN0.out _ _, G3.out⟩
        · obtain rfl : k = n2 := by omega
          have HF := Lib.hid (HO.out.new (HFin.out HLK.out))
          clear a0 a1 a2
          go_wp2_with fail
          go_ret
          exact ⟨_, rfl, HF.out.1, HF.out.2⟩

theorem implIsRoute (W H : Int) (A A2 : Option Addr) (n cap n2 c2 : Nat) (L R : List Int) (b : Bool) (hb : routeG W H L R = b) (hL : WfL L) (hR : WfL R) (w : World) (h : IntAt w w.heap.size A n L) (h2 : IntAt w w.heap.size A2 n2 R) (hn : n ≤ 1000000000) (hn2 : n2 ≤ 1000000000) :
    Calls Try.prog 17 #[.agg #[.int .i64 W, .int .i64 H, .slice A n cap], .slice A2 n2 c2] w (RetB b w) := by
  have S0 := Lib.hid (OneAt.start (W := W) (H := H) (A := A) (n := n) (cap := cap) (gb_refl (w.alloc (.cells (meshC W H A n cap) 28)) none))
  have H0 := Lib.hid (S0.out.row h)
  have H2 := Lib.hid (S0.out.row h2)
  have HB := Lib.hid S0.out.old
  have hq := nodes_pos (W := W) (H := H) (L := L) (r := R)
  rw [hb] at hq
  obtain ⟨N, hN⟩ : ∃ N, nodesG W H L R = N := ⟨_, rfl⟩
  rw [hN] at hq
  have HC := Lib.hid (fun w h h2 => show Calls Try.prog 15 #[.agg #[.int .i64 W, .int .i64 H, .slice A n cap], .slice A2 n2 c2] w (NewI N w) from hN ▸ implRouteNodes W H A A2 n cap n2 c2 L R hL hR w h h2 hn hn2)
  have HQ := Lib.hid hq
  clear hN hL hR hb h h2 hq
  go_enter Try.func17, Try.ntmps17
  go_wp2_with fail
  refine (HC.out _ H0.out H2.out).mono ?_
  rintro e w1 ⟨v, rfl, ho, hbl⟩
  obtain ⟨A', c', rfl, _⟩ := own_form ho
  have HB1 := Lib.hid (gb_of_below (HB.out.trans (hbl.mono HB.out.size)) none)
  clear ho hbl
  go_wp2_with fail
  go_ret
  exact ⟨ret_bool HQ.out, HB1.out⟩
end Go.Proofs.Ytakigpgkcneboaa
