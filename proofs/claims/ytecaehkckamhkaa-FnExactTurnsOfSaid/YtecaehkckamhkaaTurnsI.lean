/- What is proved here: what the program's TurnsOf returns, for all arguments; only new blocks are written. -/
import Derived.Test.YtecaehkckamhkaaAscI
import Derived.Test.YtecaehkckamhkaaTabI
import Derived.Deep.RegionHeld3
namespace Go.Proofs.Ytecaehkckamhkaa
open Go.ChangeShapes Go.WideShapes Go.ChangeAt Go.RowKit
set_option linter.unusedVariables false
set_option maxRecDepth 20000

theorem ListsAt.over {w w' : World} {base g : Nat} {v : Value} {N : Nat} {F : Nat → List Int} (h : ListsAt w base v N F) (hg : w.grownBy w' (some g)) (hlt : g < base) : ListsAt w' base v N F := by
  have key : ∀ {e : TypeId} {sz n : Nat} {v : Value} {xs : List Value}, w.ownsRow base e sz v n xs → w'.ownsRow base e sz v n xs := fun {e sz n v xs} ho => ho.kept hg (by
    cases hv : v.ownBlock with
    | none => exact .inl rfl
    | some k => exact .inr (fun e => by have := (ho.lt k hv).1; have := Option.some.inj e; omega))
  obtain ⟨vs, ho, hi⟩ := h
  refine ⟨vs, key ho, fun k hk => ?_⟩
  obtain ⟨A, c, h3, h4⟩ := hi k hk
  exact ⟨A, c, h3, key h4⟩
theorem own_over {w w' : World} {base g n : Nat} {v : Value} {L : List Int} (ho : w.ownsRow base 3 1 v n (intsV L)) (hg : w.grownBy w' (some g)) (hlt : g < base) : w'.ownsRow base 3 1 v n (intsV L) := ho.kept hg (by
  cases hv : v.ownBlock with
  | none => exact .inl rfl
  | some k => exact .inr (fun e => by have := (ho.lt k hv).1; have := Option.some.inj e; omega))
theorem gb_drT {a b : World} {row : Option Nat} (h : a.drew.grownBy b row) : a.grownBy b row := ⟨h.os, h.tape, h.output, h.size, h.block⟩
theorem gb_put {a b c : World} {g : Nat} (h : a.grownBy b none) (hg : b.grownBy c (some g)) (hs : a.heap.size ≤ g) : a.grownBy c none :=
  ⟨hg.os.trans h.os, hg.tape.trans h.tape, hg.output.trans h.output, Nat.le_trans h.size hg.size, fun i hi _ => (hg.block i (Nat.lt_of_lt_of_le hi h.size) (fun e => by have := Option.some.inj e; omega)).trans (h.block i hi (by simp))⟩
theorem turns_wlk {W H : Int} {L P : List Int} : setL (allT W H L P (wlkN W H L P)) 16 = turnsG W H L P := by
  cases ht : tableG W H L P with
  | false =>
    rw [wlkN_no ht, turnsG_no ht]
    rfl
  | true => rw [wlkN_yes ht, turnsG_yes ht]

/-- The row of walks, and the set of turns in the block g. -/
def TuAt (W H : Int) (A A2 : Option Addr) (n cap n2 c2 : Nat) (L P : List Int) (w : World) (Aw : Option Addr) (N cw g : Nat) (f : Nat → Bool) (wr : World) : Prop :=
  ListsAt wr (g + 1) (.slice Aw N cw) N (pairW W H L P) ∧ w.heap.size + 2 = g ∧ SetAt wr g f ∧ (twoI W H A A2 n cap n2 c2 w).grownBy wr none
section
variable {W H : Int} {A A2 : Option Addr} {n cap n2 c2 : Nat} {L P : List Int} {w wr w' : World} {Aw : Option Addr} {N cw g : Nat} {f f' : Nat → Bool}
theorem TuAt.put (h : TuAt W H A A2 n cap n2 c2 L P w Aw N cw g f wr) (hs : SetAt w' g f') (hg : wr.grownBy w' (some g)) : TuAt W H A A2 n cap n2 c2 L P w Aw N cw g f' w' :=
  ⟨h.1.over hg (Nat.lt_succ_self g), h.2.1, hs, gb_put h.2.2.2 hg (by rw [twoI_size]; exact Nat.le_of_eq h.2.1)⟩
end

set_option maxHeartbeats 1600000 in
theorem implTurnsOf (W H : Int) (A A2 : Option Addr) (n cap n2 c2 : Nat) (L P : List Int) (hL : WfL L) (w : World) (h : IntAt w w.heap.size A n L) (h2 : IntAt w w.heap.size A2 n2 P) (hn : n ≤ 1000000000) (hn2 : n2 ≤ 1000000000) :
    Calls Try.prog 44 #[.agg #[.int .i64 W, .int .i64 H, .slice A n cap], .agg #[.slice A2 n2 c2]] w (NewI (turnsG W H L P) w) := by
  have TG := Lib.hid (gb_alloc (gb_refl (twoI W H A A2 n cap n2 c2 w) none) (.map #[] 0))
  have TZ := Lib.hid (twoI_size (W := W) (H := H) (A := A) (A2 := A2) (n := n) (cap := cap) (n2 := n2) (c2 := c2) (w := w))
  have HT1 := Lib.hid (h.oldI (twoI_old TG.out))
  have HT2 := Lib.hid (h2.oldI (twoI_old TG.out))
  have HS0 := Lib.hid (SetAt.made (twoI W H A A2 n cap n2 c2 w))
  have HWK := Lib.hid (fun w h h2 => implWalksOf W H A A2 n cap n2 c2 L P hL w h h2 hn hn2)
  have HRES := Lib.hid (turns_wlk (W := W) (H := H) (L := L) (P := P))
  have hN256 := wlkN_small W H L P
  obtain ⟨N, hN⟩ : ∃ N, wlkN W H L P = N := ⟨_, rfl⟩
  rw [hN] at HWK HRES hN256
  obtain ⟨res, hres⟩ : ∃ r, turnsG W H L P = r := ⟨_, rfl⟩
  rw [hres] at HRES
  rw [hres]
  have hmm := @run_makeMap Try.prog
  clear h h2 hL hN hres
  go_enter Try.func44, Try.ntmps44
  go_wp2_with fail
  refine (HWK.out _ HT1.out HT2.out).mono ?_
  rintro e w1 ⟨va, rfl, hl1, hb1⟩
  obtain ⟨Aw, cw, rfl, _⟩ := hl1.form
  obtain ⟨g, hg⟩ : ∃ g, w.heap.size + 1 + 1 = g := ⟨_, rfl⟩
  have X1 := Lib.hid (show TuAt W H A A2 n cap n2 c2 L P w Aw N cw g (allT W H L P 0) w1 from by
    have hz : (twoI W H A A2 n cap n2 c2 w).heap.size = g := TZ.out.trans hg
    have hz2 : ((twoI W H A A2 n cap n2 c2 w).alloc (.map #[] 0)).heap.size = g + 1 := by rw [alloc_size, hz]
    have hs := HS0.out
    rw [hz] at hs
    rw [hz2] at hl1
    exact ⟨hl1, hg, hs.none (gb_of_below hb1 none), gb_trans TG.out (gb_of_below hb1 none)⟩)
  clear hl1 hb1
  go_wp2_with fail
  (try rw [hg])
  clear hg
  go_loopw [14] (fun i wr => ∃ k : Nat, i = .int .i64 (k : Int) ∧ k ≤ N ∧ TuAt W H A A2 n cap n2 c2 L P w Aw N cw g (allT W H L P k) wr) (fun i _ => 257 - (Go.RowKit.intOf i).toNat)
  case atStart => exact ⟨0, rfl, Nat.zero_le _, X1.out⟩
  case round =>
    obtain ⟨k, rfl, hk, hx⟩ := hrel
    have X5 := Lib.hid hx
    by_cases hlt : k < N
    · obtain ⟨gw, B, d, hA, hc, ho⟩ := hx.1.at k hlt
      subst hA
      have hRN := pairW_len (W := W) (H := H) (L := L) (P := P) k
      have HRR := Lib.hid (fun j (h : j < (pairW W H L P k).length) => pairW_range (W := W) (H := H) (L := L) (P := P) h)
      obtain ⟨R, hR⟩ : ∃ R, pairW W H L P k = R := ⟨_, rfl⟩
      have HAN := Lib.hid (all_next hR)
      rw [hR] at hc ho hRN HRR
      obtain ⟨M, hM⟩ : ∃ M, R.length = M := ⟨_, rfl⟩
      have HN2 := Lib.hid hM
      rw [hM] at hc ho hRN HRR
      obtain ⟨_, _, e1, hgv⟩ := own_form ho
      simp only [Value.slice.injEq] at e1
      obtain ⟨rfl, _, rfl⟩ := e1
      have HGV := Lib.hid hgv
      have O6 := Lib.hid ho
      obtain ⟨F, hF⟩ : ∃ F, allT W H L P k = F := ⟨_, rfl⟩
      rw [hF] at X5 HAN
      have X6 := Lib.hid (show TuAt W H A A2 n cap n2 c2 L P w (some ⟨gw, 0, none⟩) N cw g (orT F (wayT R 0)) wr by rw [orT_none _ (way_zero R)]; exact X5.out)
      have k0 : (0 : Int) ≤ (k : Int) := by omega
      have k1 : (k : Int) < (N : Int) := by omega
      clear hx hR hM ho hgv X5 hF
      go_wp2_with fail
      clear hc
      go_loopw [8] (fun i ws => ∃ j : Nat, i = .int .i64 ((j : Int) + 1) ∧ j ≤ M - 1 ∧ TuAt W H A A2 n cap n2 c2 L P w (some ⟨gw, 0, none⟩) N cw g (orT F (wayT R j)) ws ∧ ws.ownsRow (g + 1) 3 1 (.slice B M d) M (intsV R)) (fun i _ => 17 - (Go.RowKit.intOf i).toNat)
      case atStart => exact ⟨0, rfl, Nat.zero_le _, X6.out, O6.out⟩
      case round =>
        obtain ⟨j, rfl, hj, hx, ho⟩ := hrel
        have X7 := Lib.hid hx
        have O7 := Lib.hid ho
        clear hx ho
        by_cases hlt3 : j + 1 < M
        · have hl3 : (j : Int) + 1 < (M : Int) := by omega
          obtain ⟨gv, hgv⟩ := HGV.out (by omega)
          subst hgv
          obtain ⟨x1, hx1⟩ : ∃ z, R.getD j 0 = z := ⟨_, rfl⟩
          obtain ⟨x2, hx2⟩ : ∃ z, R.getD (j + 1) 0 = z := ⟨_, rfl⟩
          obtain ⟨r10, r11⟩ := HRR.out j (by omega)
          obtain ⟨r20, r21⟩ := HRR.out (j + 1) hlt3
          have c1 := ints_cell O7.out j x1 (by rw [← hx1, List.getD, List.getElem?_eq_getElem (by rw [HN2.out]; omega)]; rfl) HN2.out
          have c2' := ints_cell O7.out (j + 1) x2 (by rw [← hx2, List.getD, List.getElem?_eq_getElem (by rw [HN2.out]; omega)]; rfl) HN2.out
          rw [hx1] at r10 r11
          rw [hx2] at r20 r21
          obtain ⟨p, hp⟩ : ∃ p, x1 % 4 = p := ⟨_, rfl⟩
          obtain ⟨q, hq⟩ : ∃ q, x2 % 4 = q := ⟨_, rfl⟩
          have hwn := Lib.hid (way_next F R j p q (by rw [hx1, hp]) (by rw [hx2, hq]))
          have p0 : 0 ≤ p := by omega
          have p3 : p ≤ 3 := by omega
          have q0 : 0 ≤ q := by omega
          have q3 : q ≤ 3 := by omega
          have t1 : x1.tmod 4 = p := by rw [Int.tmod_eq_emod_of_nonneg r10, hp]
          have t2 : x2.tmod 4 = q := by rw [Int.tmod_eq_emod_of_nonneg r20, hq]
          have HA := Lib.hid (fun (w : World) h => implAdd g (orT F (wayT R j)) p q p0 p3 q0 q3 w h)
          obtain ⟨m, hm⟩ : ∃ m : Nat, j + 1 = m := ⟨_, rfl⟩
          have hmi : (j : Int) + 1 = (m : Int) := by omega
          rw [hm] at c2'
          have j0 : (0 : Int) ≤ (j : Int) := by omega
          have j1 : (j : Int) < (M : Int) := by omega
          have j2 : (0 : Int) ≤ (m : Int) := by omega
          have j3 : (m : Int) < (M : Int) := by omega
          have e2 : IntKind.i64.wrap ((m : Int) - 1) = (j : Int) := by rw [IntWalk.i64_in _ (by omega)]; omega
          have HM := Lib.hid (And.intro hm hlt3)
          have hgv : some gv ≠ some g := fun e => by
            have := (O7.out.lt gv rfl).1
            injection e with e
            omega
          rw [hmi]
          clear hp hq hx1 hx2 hl3 hlt3 hmi hm
          go_wp2_with fail
          go_region_held3 (fun w' => w'.cell? ⟨gv, j, none⟩ = some (.int .i64 x1) ∧ w'.cell? ⟨gv, m, none⟩ = some (.int .i64 x2))
            (first | exact ⟨c1, c2'⟩ | exact ⟨d1, d2⟩ | fail)
            (first
              | (go_at_call 87; (with_reducible refine (HA.out _ ?_).mono ?_); exact X7.out.2.2.1; rintro e w7 ⟨rfl, hs7, hg7⟩; have d1 := (gb_drT hg7).cell c1 hgv; have d2 := (gb_drT hg7).cell c2' hgv)
              | fail)
          all_goals
            rw [hwn.out] at hs7
            have X8 := Lib.hid (X7.out.put hs7 (gb_drT hg7))
            have O8 := Lib.hid (own_over O7.out (gb_drT hg7) (Nat.lt_succ_self g))
            clear hs7 hg7 d1 d2 c1 c2'
            go_wp2_with fail
            go_roundw
            case rel => exact ⟨j + 1, by have hm := HM.out.1; go_num, by have := HM.out.2; omega, X8.out, O8.out⟩
            case measure => have hm := HM.out; simp [Go.RowKit.intOf]; omega
        · obtain rfl : j = M - 1 := by omega
          have hl3 : ¬ ((M - 1 : Nat) : Int) + 1 < (M : Int) := by omega
          have X8 := Lib.hid (show TuAt W H A A2 n cap n2 c2 L P w (some ⟨gw, 0, none⟩) N cw g (allT W H L P (k + 1)) _ from by
            rw [← HAN.out, HN2.out]
            exact X7.out)
          clear X7 O7
          go_wp2_with fail
          go_roundw
          case rel => exact ⟨k + 1, by go_num, by omega, X8.out⟩
          case measure => simp [Go.RowKit.intOf]; omega
    · obtain rfl : k = N := by omega
      have HSo := Lib.hid (implAscending g _ _ X5.out.2.2.1)
      rw [HRES.out] at HSo
      clear hx
      go_wp2_with fail
      refine HSo.out.mono ?_
      rintro e w4 ⟨v, rfl, ho, hb⟩
      have G5 := Lib.hid (twoI_old X5.out.2.2.2)
      have Y := Lib.hid (show NewI res w (.returned v) w4 from ⟨v, rfl, own_less ho G5.out.size, (gb_below_none G5.out (Nat.le_refl _)).trans (hb.mono G5.out.size)⟩)
      clear ho hb
      go_wp2_with fail
      go_ret
      exact Y.out
end Go.Proofs.Ytecaehkckamhkaa
