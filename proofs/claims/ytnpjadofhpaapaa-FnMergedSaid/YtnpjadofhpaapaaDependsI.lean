/- What is proved here: what the program's DependsOf returns, for all arguments; only new blocks are written. -/
import Derived.Test.YtnpjadofhpaapaaWalksI
import Derived.Test.YtnpjadofhpaapaaDepG
import Derived.Test.YtnpjadofhpaapaaInsertI
namespace Go.Proofs.Ytnpjadofhpaapaa
open Go.ChangeShapes Go.WideShapes Go.ChangeAt Go.RowKit
set_option linter.unusedVariables false
set_option maxRecDepth 20000

/-- Rows of different types lie in different blocks. -/
theorem own_types {w : World} {b1 b2 s1 s2 n1 n2 : Nat} {e1 e2 : TypeId} {v1 v2 : Value} {x1 x2 : List Value} (h1 : w.ownsRow b1 e1 s1 v1 n1 x1) (h2 : w.ownsRow b2 e2 s2 v2 n2 x2) (hne : e1 ≠ e2) : v1.ownBlock = none ∨ v1.ownBlock ≠ v2.ownBlock := by
  rcases h1.2 with ⟨h3, _⟩ | ⟨g1, c1, cur1, h3, _, hg1, _⟩
  · rw [h3]; exact .inl rfl
  · right
    rw [h3]
    rcases h2.2 with ⟨h4, _⟩ | ⟨g, c4, cur, h4, _, hg, _⟩
    · rw [h4]; intro e; cases e
    · rw [h4]
      intro e
      have e2 : g1 = g := Option.some.inj e
      subst e2
      rw [hg] at hg1
      have e3 := Option.some.inj hg1
      injection e3 with _ e4 _
      exact hne e4.symm
theorem ListsAt.kept {w w' : World} {base b2 n : Nat} {v v2 : Value} {N : Nat} {F : Nat → List Int} {xs : List Value} (h : ListsAt w base v N F) (h2 : w.ownsRow b2 36 2 v2 n xs) (hg : w.grownBy w' v2.ownBlock) : ListsAt w' base v N F := by
  obtain ⟨vs, ho, hi⟩ := h
  refine ⟨vs, ho.kept hg (own_types ho h2 (by decide)), fun k hk => ?_⟩
  obtain ⟨A, c, h3, h4⟩ := hi k hk
  exact ⟨A, c, h3, h4.kept hg (own_types h4 h2 (by decide))⟩

/-- The row of walks and the list of dependencies so far. -/
def DsAt (W H : Int) (A A2 : Option Addr) (n cap n2 c2 : Nat) (L P : List Int) (w : World) (Aw : Option Addr) (N cw : Nat) (D : List Dep) (v : Value) (wr : World) : Prop :=
  ListsAt wr (w.heap.size + 2) (.slice Aw N cw) N (pairW W H L P) ∧ wr.ownsRow (w.heap.size + 2) 36 2 v D.length (depV D) ∧ Below (w.heap.size + 2) (twoI W H A A2 n cap n2 c2 w) wr
section
variable {W H : Int} {A A2 : Option Addr} {n cap n2 c2 : Nat} {L P : List Int} {w wr w' : World} {Aw : Option Addr} {N cw : Nat} {D D' : List Dep} {v v' : Value}
theorem DsAt.put (h : DsAt W H A A2 n cap n2 c2 L P w Aw N cw D v wr) (ho : w'.ownsRow (w.heap.size + 2) 36 2 v' D'.length (depV D')) (hg : wr.grownBy w' v.ownBlock) : DsAt W H A A2 n cap n2 c2 L P w Aw N cw D' v' w' :=
  ⟨h.1.kept h.2.1 hg, ho, h.2.2.grown hg (by have := twoI_bs h.2.2; omega) (fun q hq => (h.2.1.lt q hq).1)⟩
theorem DsAt.len (h : DsAt W H A A2 n cap n2 c2 L P w Aw N cw D v wr) : w.heap.size + 2 ≤ wr.heap.size := twoI_bs h.2.2
end
theorem wlkN_le {W H : Int} {L P : List Int} : wlkN W H L P ≤ 256 := by
  unfold wlkN
  split
  · exact sqG_le
  · exact Nat.zero_le _
theorem allD_wlk {W H : Int} {L P : List Int} : allD W H L P (wlkN W H L P) = depG W H L P := by
  cases h : tableG W H L P with
  | false => rw [wlkN_no h, depG_no h]; rfl
  | true => rw [wlkN_yes h, depG_yes h]

set_option maxHeartbeats 1600000 in
theorem implDependsOf (W H : Int) (A A2 : Option Addr) (n cap n2 c2 : Nat) (L P : List Int) (hL : WfL L) (w : World) (h : IntAt w w.heap.size A n L) (h2 : IntAt w w.heap.size A2 n2 P) (hn : n ≤ 1000000000) (hn2 : n2 ≤ 1000000000) :
    Calls Try.prog 12 #[.agg #[.int .i64 W, .int .i64 H, .slice A n cap], .agg #[.slice A2 n2 c2]] w (NewD (depG W H L P) w) := by
  have HT1 := Lib.hid (h.twoI (W := W) (H := H) (A := A) (A2 := A2) (n := n) (cap := cap) (n2 := n2) (c2 := c2))
  have HT2 := Lib.hid (h2.twoI (W := W) (H := H) (A := A) (A2 := A2) (n := n) (cap := cap) (n2 := n2) (c2 := c2))
  have TZ := Lib.hid (twoI_size (W := W) (H := H) (A := A) (A2 := A2) (n := n) (cap := cap) (n2 := n2) (c2 := c2) (w := w))
  have HWK := Lib.hid (fun w h h2 => implWalksOf W H A A2 n cap n2 c2 L P hL w h h2 hn hn2)
  have HRES := Lib.hid (allD_wlk (W := W) (H := H) (L := L) (P := P))
  have hN256 := wlkN_le (W := W) (H := H) (L := L) (P := P)
  obtain ⟨N, hN⟩ : ∃ N, wlkN W H L P = N := ⟨_, rfl⟩
  rw [hN] at HWK HRES hN256
  clear h h2 hL hN
  go_enter Try.func12, Try.ntmps12
  go_wp2_with fail
  refine (HWK.out _ HT1.out HT2.out).mono ?_
  rintro e w1 ⟨va, rfl, hl1, hb1⟩
  rw [TZ.out] at hl1 hb1
  obtain ⟨Aw, cw, rfl, _⟩ := hl1.form
  have X1 := Lib.hid (show DsAt W H A A2 n cap n2 c2 L P w Aw N cw [] (.slice none 0 0) w1 from ⟨hl1, World.ownsRow_nil _ _ _ _, hb1⟩)
  clear hl1 hb1
  go_wp2_with fail
  go_loopw [5, 13] (fun v i wr => ∃ k : Nat, i = .int .i64 (k : Int) ∧ k ≤ N ∧ DsAt W H A A2 n cap n2 c2 L P w Aw N cw (allD W H L P k) v wr) (fun _ i _ => 257 - (intOf i).toNat)
  case atStart => exact ⟨0, rfl, Nat.zero_le _, X1.out⟩
  case round =>
    obtain ⟨k, rfl, hk, hx⟩ := hrel
    have X2 := Lib.hid hx
    by_cases hlt : k < N
    · obtain ⟨gw, B, d, hA, hc, ho⟩ := hx.1.at k hlt
      subst hA
      have hRN := pairW_len (W := W) (H := H) (L := L) (P := P) k
      obtain ⟨R, hR⟩ : ∃ R, pairW W H L P k = R := ⟨_, rfl⟩
      rw [hR] at hc ho hRN
      obtain ⟨M, hM⟩ : ∃ M, R.length = M := ⟨_, rfl⟩
      have HAN := Lib.hid (allD_next hR)
      have HASC := Lib.hid (fun j => insAll_asc (allD_asc (W := W) (H := H) (L := L) (P := P) k) (wayD R j))
      have HLEN := Lib.hid (fun j hj => ins_len (W := W) (H := H) (L := L) (P := P) (k := k) (j := j) (R := R) (by omega) hj)
      have HM := Lib.hid hM
      rw [hM] at hc ho hRN
      obtain ⟨D, hD⟩ : ∃ D, allD W H L P k = D := ⟨_, rfl⟩
      rw [hD] at X2 HAN HASC HLEN
      obtain ⟨_, _, e1, hgv⟩ := own_form ho
      simp only [Value.slice.injEq] at e1
      obtain ⟨rfl, _, rfl⟩ := e1
      have HGV := Lib.hid hgv
      have O2 := Lib.hid ho
      have X3 := Lib.hid (show DsAt W H A A2 n cap n2 c2 L P w (some ⟨gw, 0, none⟩) N cw (insAll D (wayD R 0)) _ wr from X2.out)
      have k0 : (0 : Int) ≤ (k : Int) := by omega
      have k1 : (k : Int) < (N : Int) := by omega
      clear hx hR hM ho hgv X2 hD
      go_wp2_with fail
      clear hc
      go_loopw [5, 8] (fun v i ws => ∃ j : Nat, i = .int .i64 ((j : Int) + 1) ∧ j ≤ M - 1 ∧ DsAt W H A A2 n cap n2 c2 L P w (some ⟨gw, 0, none⟩) N cw (insAll D (wayD R j)) v ws ∧ ws.ownsRow (w.heap.size + 2) 3 1 (.slice B M d) M (intsV R)) (fun _ i _ => 17 - (intOf i).toNat)
      case atStart => exact ⟨0, rfl, Nat.zero_le _, X3.out, O2.out⟩
      case round =>
        obtain ⟨j, rfl, hj, hx, ho⟩ := hrel
        have X7 := Lib.hid hx
        have O7 := Lib.hid ho
        obtain ⟨Av, cv, rfl, _⟩ := own_form hx.2.1
        clear hx ho
        by_cases hlt3 : j + 1 < M
        · have hl3 : (j : Int) + 1 < (M : Int) := by omega
          obtain ⟨gv, hgv⟩ := HGV.out (by omega)
          subst hgv
          obtain ⟨x1, hx1⟩ : ∃ z, R.getD j 0 = z := ⟨_, rfl⟩
          obtain ⟨x2, hx2⟩ : ∃ z, R.getD (j + 1) 0 = z := ⟨_, rfl⟩
          have c1 := ints_cell O7.out j x1 (by rw [← hx1, List.getD, List.getElem?_eq_getElem (by rw [HM.out]; omega)]; rfl) HM.out
          have c2' := ints_cell O7.out (j + 1) x2 (by rw [← hx2, List.getD, List.getElem?_eq_getElem (by rw [HM.out]; omega)]; rfl) HM.out
          have hwn := Lib.hid (ins_way (D := D) hx1 hx2)
          obtain ⟨E, hE⟩ : ∃ E, insAll D (wayD R j) = E := ⟨_, rfl⟩
          have hEA := HASC.out j
          have hEL := HLEN.out j (by omega)
          rw [hE] at X7 hwn hEA hEL
          rw [hE]
          have HA := Lib.hid (fun (w' : World) (h : w'.ownsRow (w.heap.size + 2) 36 2 (.slice Av E.length cv) E.length (depV E)) (hb : w.heap.size + 2 ≤ w'.heap.size) => implInsert (w.heap.size + 2) E.length (.slice Av E.length cv) E (x1, x2) hEA w' h hb (by omega))
          have hgvn := own_types O7.out X7.out.2.1 (by decide)
          have hgv : some gv ≠ (Value.slice Av E.length cv).ownBlock := by rcases hgvn with h | h; cases h; exact h
          have HNE := Lib.hid hgv
          obtain ⟨m, hm⟩ : ∃ m : Nat, j + 1 = m := ⟨_, rfl⟩
          have hmi : (j : Int) + 1 = (m : Int) := by omega
          rw [hm] at c2'
          have j0 : (0 : Int) ≤ (j : Int) := by omega
          have j1 : (j : Int) < (M : Int) := by omega
          have j2 : (0 : Int) ≤ (m : Int) := by omega
          have j3 : (m : Int) < (M : Int) := by omega
          have e2 : IntKind.i64.wrap ((m : Int) - 1) = (j : Int) := by rw [IntWalk.i64_in _ (by omega)]; omega
          have HMM := Lib.hid (And.intro hm hlt3)
          rw [hmi]
          clear hx1 hx2 hl3 hlt3 hmi hm hgvn hgv hE hEA hEL
          go_wp2_with fail
          go_region_held3 (fun w' => w'.cell? ⟨gv, j, none⟩ = some (.int .i64 x1) ∧ w'.cell? ⟨gv, m, none⟩ = some (.int .i64 x2))
            (first | exact ⟨c1, c2'⟩ | exact ⟨d1, d2⟩ | fail)
            (first
              | (go_at_call 44; (with_reducible refine (HA.out _ ?_ ?_).mono ?_); exact own_none X7.out.2.1 (gb_drew (gb_refl _ _)); exact X7.out.len; rintro e w7 ⟨v7, rfl, ho7, hg7⟩; have d1 := (gb_dr hg7).cell c1 HNE.out; have d2 := (gb_dr hg7).cell c2' HNE.out)
              | fail)
          all_goals
            rw [hwn.out] at ho7
            have X8 := Lib.hid (X7.out.put ho7 (gb_dr hg7))
            have O8 := Lib.hid (O7.out.kept (gb_dr hg7) (.inr HNE.out))
            clear ho7 hg7 d1 d2 c1 c2'
            go_wp2_with fail
            go_roundw
            case rel => exact ⟨j + 1, by have hm := HMM.out.1; go_num, by have := HMM.out.2; omega, X8.out, O8.out⟩
            case measure => have hm := HMM.out; simp [intOf]; omega
        · obtain rfl : j = M - 1 := by omega
          have hl3 : ¬ ((M - 1 : Nat) : Int) + 1 < (M : Int) := by omega
          have X8 := Lib.hid (show DsAt W H A A2 n cap n2 c2 L P w (some ⟨gw, 0, none⟩) N cw (allD W H L P (k + 1)) _ _ from by
            rw [← HAN.out, HM.out]
            exact X7.out)
          clear X7 O7
          go_wp2_with fail
          go_roundw
          case rel => exact ⟨k + 1, by go_num, by omega, X8.out⟩
          case measure => simp [intOf]; omega
    · obtain rfl : k = N := by omega
      clear hx
      go_wp2_with fail
      go_ret
      have h3 := X2.out.2.1
      rw [HRES.out] at h3
      exact ⟨_, rfl, own_less h3 (by omega), twoI_bo X2.out.2.2⟩
end Go.Proofs.Ytnpjadofhpaapaa
