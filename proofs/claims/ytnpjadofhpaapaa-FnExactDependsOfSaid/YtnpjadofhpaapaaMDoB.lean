/- What is proved here: what the model's MeshOk, its search in a list and its test of a channel of a mesh return, for all arguments; only new blocks are written; what the model's test of a channel of a mesh returns, for all arguments; only new blocks are written; two boxed arguments stay known behind a call, and the number of pairs of nodes is small; nothing of the program; what the model's test of a table's size returns, for all arguments; only new blocks are written; what the model's walk of a table returns for a table of the right size; only new blocks are written; what holds of the two boxes that the model's functions on tables lay; what the model's TableOk returns, for all arguments; only new blocks are written; the model's TableOk with its answer named, and a small fact on draws; only new blocks are written; what the model's DependsOf returns, for all arguments; only new blocks are written; what the program's grid functions return, for all arguments; only new blocks are written; how a walk loads and stores a whole array of 256 numbers that is known as a block; nothing of the program but its types; the column and the row that the program finds for a node that exists; only new blocks are written; what the program's NextNode and its end of a channel return, for all arguments (the channel: of 64 bits); only new blocks are written; what the program's MeshOk returns for numbers of 64 bits; only new blocks are written; what the program's table of ports holds for a mesh and a table of the right size, and what it is otherwise; only new blocks are written; small facts on a mesh and a table as blocks, and on a square that is laid into a new block; nothing of the program; what the program's search in a list and its test of a channel of a mesh return for numbers of 64 bits; only new blocks are written; what the program's walk of a square of ports returns for two nodes; only new blocks are written; the ways of a valid table between the nodes of a pair; nothing of the program; the program's list of the walks between all pairs of nodes: empty for a table that is not valid, else the walk of each pair in its order; only new blocks are written; what the library's comparisons of integers return, and the program's comparison of two dependencies; only new blocks are written; what the library's binary search finds in an ascending list of dependencies, with the program's comparison; only new blocks are written; the library's insertion of one dependency into a list of the caller's own: the list with the element at its place, in the same memory or in a new block; what the program's insert makes of an ascending list of the caller's own and one dependency: the same list if it is there, else the list with it at its place; what the program's DependsOf returns, for all arguments; only new blocks are written; small facts on the laws' helpers for lists of dependencies (copy, compare, mark, look for the marks); only the marked row and new blocks are written; the laws' helpers for lists of dependencies: compare, mark, look for the marks, count; only the marked row and new blocks are written. -/
import Derived.Test.YtnpjadofhpaapaaMDoA
import Derived.Deep.RegionHeld3
import Derived.Laws.Rows
import Derived.Laws.Tables
import Derived.Laws.ResultCell
import Derived.Shelf.Abstract
import Derived.Shelf.Spec.SlicesInsertGrow
import Derived.Deep.MidRow
section
namespace Go.Proofs.Ytnpjadofhpaapaa
open Go.ChangeShapes Go.WideShapes Go.ChangeAt Go.RowKit
set_option linter.unusedVariables false
set_option linter.unusedSimpArgs false

theorem gb_undraw {a b : World} {row : Option Nat} (h : a.drew.grownBy b row) : a.grownBy b row := ⟨h.os, h.tape, h.output, h.size, h.block⟩

theorem specFind (A : Option Addr) (n cap B : Nat) (L : List Int) (c : Int) (w : World) (h : IntAt w B A n L) (hn : n ≤ 1000000000) :
    Calls Try.prog 91 #[.slice A n cap, .int .i64 c] w fun e w' => e = .returned (.bool (inG L c)) ∧ w = w' := by
  have hl := h.1
  have HI := Lib.hid h
  clear h
  go_enter Try.func91, Try.ntmps91
  go_wp2_with fail
  go_loop [5] (fun i => ∃ k : Nat, i = .int .i64 (k : Int) ∧ k ≤ n ∧ ∀ j, j < k → L.getD j 0 ≠ c) (fun i => n - (intOf i).toNat)
  case atStart => exact ⟨0, rfl, Nat.zero_le _, fun j h => by omega⟩
  case round =>
    obtain ⟨k, rfl, hk, hne⟩ := hrel
    have HNE := Lib.hid hne
    clear hne
    by_cases hlt : k < n
    · obtain ⟨b, off, rfl, hb, hc⟩ := HI.out.at k hlt
      obtain ⟨x, hx⟩ : ∃ x, L.getD k 0 = x := ⟨_, rfl⟩
      rw [hx] at hc
      have HX := Lib.hid hx
      clear hx
      by_cases hxc : x = c
      · subst hxc
        go_wp2_with fail
        go_ret
        exact ⟨ret_bool (inG_yes (by omega) HX.out).symm, rfl⟩
      · have hxb : (x == c) = false := by simpa using hxc
        have HXC := Lib.hid hxc
        clear hxc
        go_wp2_with fail
        go_round
        case rel => exact ⟨k + 1, by go_num, by omega, fun j hj => by
          rcases Nat.lt_succ_iff_lt_or_eq.1 hj with h1 | rfl
          · exact HNE.out j h1
          · rw [HX.out]; exact HXC.out⟩
        case measure => simp [intOf]; omega
    · obtain rfl : k = n := by omega
      go_wp2_with fail
      go_ret
      exact ⟨ret_bool (inG_no (fun j hj => HNE.out j (by omega))).symm, rfl⟩

set_option maxHeartbeats 3200000 in
theorem specMeshOk (W H : Int) (A : Option Addr) (n cap : Nat) (L : List Int) (w : World) (h : IntAt w w.heap.size A n L) (hn : n ≤ 1000000000) :
    Calls Try.prog 89 #[.agg #[.int .i64 W, .int .i64 H, .slice A n cap]] w (RetB (meshG W H L) w) := by
  have hl := h.1
  have HI := Lib.hid h
  clear h
  cases hok : okG W H with
  | false =>
    go_enter Try.func89, Try.ntmps89
    go_wp2_with fail
    refine (specGridOk W H _).mono ?_
    rintro e w1 ⟨rfl, hg⟩
    rw [hok]
    go_wp2_with fail
    go_ret
    exact ⟨ret_bool (meshG_bad hok).symm, box_gb hg⟩
  | true =>
    go_enter Try.func89, Try.ntmps89
    go_wp2_with fail
    refine (specGridOk W H _).mono ?_
    rintro e w1 ⟨rfl, hg⟩
    have HM := Lib.hid (show MeshAt W H L A n cap w 0 w1 from ⟨goodTo_zero W H L, hg⟩)
    clear hg
    rw [hok]
    go_wp2_with fail
    go_loopw [3] (fun i wr => ∃ k : Nat, i = .int .i64 (k : Int) ∧ k ≤ n ∧ MeshAt W H L A n cap w k wr) (fun i _ => n - (intOf i).toNat)
    case atStart => exact ⟨0, rfl, Nat.zero_le _, HM.out⟩
    case round =>
      obtain ⟨k, rfl, hk, hgood, hg⟩ := hrel
      have HGo := Lib.hid hgood
      have HG := Lib.hid hg
      have hbk := box_blk hg
      have HBK := Lib.hid hbk
      have a0 : wr.cell? ⟨w.heap.size, 0, none⟩ = some (.int .i64 W) := hbk.cell 0
      have a1 : wr.cell? ⟨w.heap.size, 1, none⟩ = some (.int .i64 H) := hbk.cell 1
      have a2 : wr.cell? ⟨w.heap.size, 2, none⟩ = some (.slice A n cap) := hbk.cell 2
      have hia := HI.out.none (Nat.le_refl _) (box_gb hg)
      have HIA := Lib.hid hia
      clear hg hgood hbk
      by_cases hlt : k < n
      · obtain ⟨b, off, rfl, hb, hc⟩ := hia.at k hlt
        obtain ⟨x, hx⟩ : ∃ x, L.getD k 0 = x := ⟨_, rfl⟩
        rw [hx] at hc
        clear hia
        have hk0 : (0 : Int) ≤ (k : Int) := by omega
        have hk1 : (k : Int) < (n : Int) := by omega
        cases hld : leadsG W H x with
        | false =>
          have HBad := Lib.hid (meshG_no (by omega) (goodAt_lead hx hld))
          have CL := Lib.hid (fun w => specLeadsV W H x false hld w)
          clear hx hld
          go_wp2_with fail
          refine wp_region_held_drew (S := (fun w' => w'.cell? ⟨w.heap.size, 0, none⟩ = some (.int .i64 W) ∧ w'.cell? ⟨w.heap.size, 1, none⟩ = some (.int .i64 H) ∧ w'.cell? ⟨w.heap.size, 2, none⟩ = some (.slice (some ⟨b, off, none⟩) n cap) ∧ w'.cell? ⟨b, off + k, none⟩ = some (.int .i64 x))) (by kernel_rfl) (⟨a0, a1, a2, hc⟩) (fun hHeld => ?_)
          refine wpAnyH_take (i := 0) (v := ?_) rfl (by kernel_rfl) (by kernel_rfl) (by kernel_rfl) (fun _ _ _ h => h) (Or.inl ⟨by rfl, ?_⟩) (by assumption) ?_
          rotate_left
          · intro wq hSw; (try dsimp only at hSw); go_simp; (try with_reducible rfl)
          simp only [List.getElem_toArray, List.getElem_cons_succ, List.getElem_cons_zero, Act.put, List.setIfInBounds_toArray, List.set_cons_zero, List.set_cons_succ]
          refine wpAnyH_take (i := 1) (v := ?_) rfl (by kernel_rfl) (by kernel_rfl) (by kernel_rfl) (fun _ _ _ h => h) (Or.inl ⟨by rfl, ?_⟩) (by assumption) ?_
          rotate_left
          · intro wq hSw; (try dsimp only at hSw); go_simp; (try with_reducible rfl)
          simp only [List.getElem_toArray, List.getElem_cons_succ, List.getElem_cons_zero, Act.put, List.setIfInBounds_toArray, List.set_cons_zero, List.set_cons_succ]
          refine wpAnyH_take (i := 2) (v := ?_) rfl (by kernel_rfl) (by kernel_rfl) (by kernel_rfl) (fun _ _ _ h => h) (Or.inl ⟨by rfl, ?_⟩) (by assumption) ?_
          rotate_left
          · intro wq hSw; (try dsimp only at hSw); go_simp; (try with_reducible rfl)
          simp only [List.getElem_toArray, List.getElem_cons_succ, List.getElem_cons_zero, Act.put, List.setIfInBounds_toArray, List.set_cons_zero, List.set_cons_succ]
          refine wpAnyH_take (i := 3) (v := ?_) rfl (by kernel_rfl) (by kernel_rfl) (by kernel_rfl) (fun _ _ _ h => h) (Or.inl ⟨by rfl, ?_⟩) (by assumption) ?_
          rotate_left
          · intro wq hSw; (try dsimp only at hSw); go_simp; (try with_reducible rfl)
          simp only [List.getElem_toArray, List.getElem_cons_succ, List.getElem_cons_zero, Act.put, List.setIfInBounds_toArray, List.set_cons_zero, List.set_cons_succ]
          refine wpAnyH_take (i := 4) (v := ?_) rfl (by kernel_rfl) (by kernel_rfl) (by kernel_rfl) (fun _ _ _ h => h) (Or.inl ⟨by rfl, ?_⟩) (by assumption) ?_
          rotate_left
          · intro wq hSw; (try dsimp only at hSw); go_simp; (try with_reducible rfl)
          simp only [List.getElem_toArray, List.getElem_cons_succ, List.getElem_cons_zero, Act.put, List.setIfInBounds_toArray, List.set_cons_zero, List.set_cons_succ]
          refine wpAnyH_take (i := 5) (v := ?_) rfl (by kernel_rfl) (by kernel_rfl) (by kernel_rfl) (fun _ _ _ h => h) (Or.inl ⟨by rfl, ?_⟩) (by assumption) ?_
          rotate_left
          · intro wq hSw; (try dsimp only at hSw); go_simp; (try with_reducible rfl)
          simp only [List.getElem_toArray, List.getElem_cons_succ, List.getElem_cons_zero, Act.put, List.setIfInBounds_toArray, List.set_cons_zero, List.set_cons_succ]
          refine wpAnyH_take (i := 6) (v := ?_) rfl (by kernel_rfl) (by kernel_rfl) (by kernel_rfl) (fun _ _ _ h => h) (Or.inl ⟨by rfl, ?_⟩) (by assumption) ?_
          rotate_left
          · intro wq hSw; (try dsimp only at hSw); go_simp; (try with_reducible rfl)
          simp only [List.getElem_toArray, List.getElem_cons_succ, List.getElem_cons_zero, Act.put, List.setIfInBounds_toArray, List.set_cons_zero, List.set_cons_succ]
          refine wpAnyH_ready (rs := [7]) (by kernel_rfl) (by simp) ?_
          refine AllReadyH.cons rfl (fun K hK => ?_) AllReadyH.nil
          go_simp
          (with_reducible refine (CL.out _).mono ?_); rintro e w2 ⟨rfl, hg2⟩; have hg3 := gb_trans HG.out (gb_undraw hg2); have kk := box_blk hg3; have d0 : w2.cell? ⟨w.heap.size, 0, none⟩ = some (.int .i64 W) := kk.cell 0; have d1 : w2.cell? ⟨w.heap.size, 1, none⟩ = some (.int .i64 H) := kk.cell 1; have d2 : w2.cell? ⟨w.heap.size, 2, none⟩ = some (.slice (some ⟨b, off, none⟩) n cap) := kk.cell 2; have dc := (hg2.cell hc (by simp)); have HG3 := Lib.hid hg3; clear hg2 hg3 kk
          try go_wp2_with fail
          refine hK.out _ _ (⟨d0, d1, d2, dc⟩) (fun hHeld => ?_)
          clear hK K
          try simp only [List.getElem_toArray, List.getElem_cons_succ, List.getElem_cons_zero, Act.put, List.setIfInBounds_toArray, List.set_cons_zero, List.set_cons_succ]
          refine wpAnyH_take (i := 8) (v := ?_) rfl (by kernel_rfl) (by kernel_rfl) (by kernel_rfl) (fun _ _ _ h => h) (Or.inl ⟨by rfl, ?_⟩) (by assumption) ?_
          rotate_left
          · intro wq hSw; (try dsimp only at hSw); go_simp; (try with_reducible rfl)
          simp only [List.getElem_toArray, List.getElem_cons_succ, List.getElem_cons_zero, Act.put, List.setIfInBounds_toArray, List.set_cons_zero, List.set_cons_succ]
          refine wpAnyH_take (i := 9) (v := ?_) rfl (by kernel_rfl) (by kernel_rfl) (by kernel_rfl) (fun _ _ _ h => h) (Or.inl ⟨by rfl, ?_⟩) (by assumption) ?_
          rotate_left
          · intro wq hSw; (try dsimp only at hSw); go_simp; (try with_reducible rfl)
          simp only [List.getElem_toArray, List.getElem_cons_succ, List.getElem_cons_zero, Act.put, List.setIfInBounds_toArray, List.set_cons_zero, List.set_cons_succ]
          refine wpAnyH_take (i := 10) (v := undef) rfl (by kernel_rfl) (by kernel_rfl) (by kernel_rfl) (fun _ _ _ h => h) (Or.inr ⟨by rfl, rfl⟩) (by assumption) ?_
          simp only [List.getElem_toArray, List.getElem_cons_succ, List.getElem_cons_zero, Act.put, List.setIfInBounds_toArray, List.set_cons_zero, List.set_cons_succ]
          refine wpAnyH_take (i := 11) (v := undef) rfl (by kernel_rfl) (by kernel_rfl) (by kernel_rfl) (fun _ _ _ h => h) (Or.inr ⟨by rfl, rfl⟩) (by assumption) ?_
          simp only [List.getElem_toArray, List.getElem_cons_succ, List.getElem_cons_zero, Act.put, List.setIfInBounds_toArray, List.set_cons_zero, List.set_cons_succ]
          refine wpAnyH_take (i := 12) (v := undef) rfl (by kernel_rfl) (by kernel_rfl) (by kernel_rfl) (fun _ _ _ h => h) (Or.inr ⟨by rfl, rfl⟩) (by assumption) ?_
          simp only [List.getElem_toArray, List.getElem_cons_succ, List.getElem_cons_zero, Act.put, List.setIfInBounds_toArray, List.set_cons_zero, List.set_cons_succ]
          refine wpAnyH_take (i := 13) (v := undef) rfl (by kernel_rfl) (by kernel_rfl) (by kernel_rfl) (fun _ _ _ h => h) (Or.inr ⟨by rfl, rfl⟩) (by assumption) ?_
          simp only [List.getElem_toArray, List.getElem_cons_succ, List.getElem_cons_zero, Act.put, List.setIfInBounds_toArray, List.set_cons_zero, List.set_cons_succ]
          refine wpAnyH_take (i := 14) (v := undef) rfl (by kernel_rfl) (by kernel_rfl) (by kernel_rfl) (fun _ _ _ h => h) (Or.inr ⟨by rfl, rfl⟩) (by assumption) ?_
          simp only [List.getElem_toArray, List.getElem_cons_succ, List.getElem_cons_zero, Act.put, List.setIfInBounds_toArray, List.set_cons_zero, List.set_cons_succ]
          refine wpAnyH_take (i := 15) (v := undef) rfl (by kernel_rfl) (by kernel_rfl) (by kernel_rfl) (fun _ _ _ h => h) (Or.inr ⟨by rfl, rfl⟩) (by assumption) ?_
          simp only [List.getElem_toArray, List.getElem_cons_succ, List.getElem_cons_zero, Act.put, List.setIfInBounds_toArray, List.set_cons_zero, List.set_cons_succ]
          refine wpAnyH_take (i := 16) (v := undef) rfl (by kernel_rfl) (by kernel_rfl) (by kernel_rfl) (fun _ _ _ h => h) (Or.inr ⟨by rfl, rfl⟩) (by assumption) ?_
          simp only [List.getElem_toArray, List.getElem_cons_succ, List.getElem_cons_zero, Act.put, List.setIfInBounds_toArray, List.set_cons_zero, List.set_cons_succ]
          refine wpAnyH_take (i := 17) (v := undef) rfl (by kernel_rfl) (by kernel_rfl) (by kernel_rfl) (fun _ _ _ h => h) (Or.inr ⟨by rfl, rfl⟩) (by assumption) ?_
          simp only [List.getElem_toArray, List.getElem_cons_succ, List.getElem_cons_zero, Act.put, List.setIfInBounds_toArray, List.set_cons_zero, List.set_cons_succ]
          refine wpAnyH_take (i := 18) (v := undef) rfl (by kernel_rfl) (by kernel_rfl) (by kernel_rfl) (fun _ _ _ h => h) (Or.inr ⟨by rfl, rfl⟩) (by assumption) ?_
          simp only [List.getElem_toArray, List.getElem_cons_succ, List.getElem_cons_zero, Act.put, List.setIfInBounds_toArray, List.set_cons_zero, List.set_cons_succ]
          refine wpAnyH_take (i := 19) (v := undef) rfl (by kernel_rfl) (by kernel_rfl) (by kernel_rfl) (fun _ _ _ h => h) (Or.inr ⟨by rfl, rfl⟩) (by assumption) ?_
          simp only [List.getElem_toArray, List.getElem_cons_succ, List.getElem_cons_zero, Act.put, List.setIfInBounds_toArray, List.set_cons_zero, List.set_cons_succ]
          refine wpAnyH_take (i := 20) (v := undef) rfl (by kernel_rfl) (by kernel_rfl) (by kernel_rfl) (fun _ _ _ h => h) (Or.inr ⟨by rfl, rfl⟩) (by assumption) ?_
          simp only [List.getElem_toArray, List.getElem_cons_succ, List.getElem_cons_zero, Act.put, List.setIfInBounds_toArray, List.set_cons_zero, List.set_cons_succ]
          refine wpAnyH_take (i := 21) (v := undef) rfl (by kernel_rfl) (by kernel_rfl) (by kernel_rfl) (fun _ _ _ h => h) (Or.inr ⟨by rfl, rfl⟩) (by assumption) ?_
          simp only [List.getElem_toArray, List.getElem_cons_succ, List.getElem_cons_zero, Act.put, List.setIfInBounds_toArray, List.set_cons_zero, List.set_cons_succ]
          refine wpAnyH_take (i := 22) (v := undef) rfl (by kernel_rfl) (by kernel_rfl) (by kernel_rfl) (fun _ _ _ h => h) (Or.inr ⟨by rfl, rfl⟩) (by assumption) ?_
          simp only [List.getElem_toArray, List.getElem_cons_succ, List.getElem_cons_zero, Act.put, List.setIfInBounds_toArray, List.set_cons_zero, List.set_cons_succ]
          refine wpAnyH_take (i := 23) (v := undef) rfl (by kernel_rfl) (by kernel_rfl) (by kernel_rfl) (fun _ _ _ h => h) (Or.inr ⟨by rfl, rfl⟩) (by assumption) ?_
          simp only [List.getElem_toArray, List.getElem_cons_succ, List.getElem_cons_zero, Act.put, List.setIfInBounds_toArray, List.set_cons_zero, List.set_cons_succ]
          refine wpAnyH_take (i := 24) (v := undef) rfl (by kernel_rfl) (by kernel_rfl) (by kernel_rfl) (fun _ _ _ h => h) (Or.inr ⟨by rfl, rfl⟩) (by assumption) ?_
          simp only [List.getElem_toArray, List.getElem_cons_succ, List.getElem_cons_zero, Act.put, List.setIfInBounds_toArray, List.set_cons_zero, List.set_cons_succ]
          refine wpAnyH_take (i := 25) (v := undef) rfl (by kernel_rfl) (by kernel_rfl) (by kernel_rfl) (fun _ _ _ h => h) (Or.inr ⟨by rfl, rfl⟩) (by assumption) ?_
          simp only [List.getElem_toArray, List.getElem_cons_succ, List.getElem_cons_zero, Act.put, List.setIfInBounds_toArray, List.set_cons_zero, List.set_cons_succ]
          refine wpAnyH_take (i := 26) (v := ?_) rfl (by kernel_rfl) (by kernel_rfl) (by kernel_rfl) (fun _ _ _ h => h) (Or.inl ⟨by rfl, ?_⟩) (by assumption) ?_
          rotate_left
          · intro wq hSw; (try dsimp only at hSw); go_simp; (try with_reducible rfl)
          simp only [List.getElem_toArray, List.getElem_cons_succ, List.getElem_cons_zero, Act.put, List.setIfInBounds_toArray, List.set_cons_zero, List.set_cons_succ]
          refine wpAnyH_done (by kernel_rfl) ?_ _
          go_wp2_with fail
          go_ret
          exact ⟨ret_bool HBad.out.symm, box_gb HG3.out⟩
        | true =>
          have CL := Lib.hid (fun w => specLeadsV W H x true hld w)
          cases k with
          | zero =>
            have HNx := Lib.hid (goodTo_succ HGo.out (goodAt_first hx hld))
            clear hx hld
            rw [Nat.add_zero] at hc
            go_wp2_with fail
            refine wp_region_held_drew (S := (fun w' => w'.cell? ⟨w.heap.size, 0, none⟩ = some (.int .i64 W) ∧ w'.cell? ⟨w.heap.size, 1, none⟩ = some (.int .i64 H) ∧ w'.cell? ⟨w.heap.size, 2, none⟩ = some (.slice (some ⟨b, off, none⟩) n cap) ∧ w'.cell? ⟨b, off, none⟩ = some (.int .i64 x))) (by kernel_rfl) (⟨a0, a1, a2, hc⟩) (fun hHeld => ?_)
            refine wpAnyH_take (i := 0) (v := ?_) rfl (by kernel_rfl) (by kernel_rfl) (by kernel_rfl) (fun _ _ _ h => h) (Or.inl ⟨by rfl, ?_⟩) (by assumption) ?_
            rotate_left
            · intro wq hSw; (try dsimp only at hSw); go_simp; (try with_reducible rfl)
            simp only [List.getElem_toArray, List.getElem_cons_succ, List.getElem_cons_zero, Act.put, List.setIfInBounds_toArray, List.set_cons_zero, List.set_cons_succ]
            refine wpAnyH_take (i := 1) (v := ?_) rfl (by kernel_rfl) (by kernel_rfl) (by kernel_rfl) (fun _ _ _ h => h) (Or.inl ⟨by rfl, ?_⟩) (by assumption) ?_
            rotate_left
            · intro wq hSw; (try dsimp only at hSw); go_simp; (try with_reducible rfl)
            simp only [List.getElem_toArray, List.getElem_cons_succ, List.getElem_cons_zero, Act.put, List.setIfInBounds_toArray, List.set_cons_zero, List.set_cons_succ]
            refine wpAnyH_take (i := 2) (v := ?_) rfl (by kernel_rfl) (by kernel_rfl) (by kernel_rfl) (fun _ _ _ h => h) (Or.inl ⟨by rfl, ?_⟩) (by assumption) ?_
            rotate_left
            · intro wq hSw; (try dsimp only at hSw); go_simp; (try with_reducible rfl)
            simp only [List.getElem_toArray, List.getElem_cons_succ, List.getElem_cons_zero, Act.put, List.setIfInBounds_toArray, List.set_cons_zero, List.set_cons_succ]
            refine wpAnyH_take (i := 3) (v := ?_) rfl (by kernel_rfl) (by kernel_rfl) (by kernel_rfl) (fun _ _ _ h => h) (Or.inl ⟨by rfl, ?_⟩) (by assumption) ?_
            rotate_left
            · intro wq hSw; (try dsimp only at hSw); go_simp; (try with_reducible rfl)
            simp only [List.getElem_toArray, List.getElem_cons_succ, List.getElem_cons_zero, Act.put, List.setIfInBounds_toArray, List.set_cons_zero, List.set_cons_succ]
            refine wpAnyH_take (i := 4) (v := ?_) rfl (by kernel_rfl) (by kernel_rfl) (by kernel_rfl) (fun _ _ _ h => h) (Or.inl ⟨by rfl, ?_⟩) (by assumption) ?_
            rotate_left
            · intro wq hSw; (try dsimp only at hSw); go_simp; (try with_reducible rfl)
            simp only [List.getElem_toArray, List.getElem_cons_succ, List.getElem_cons_zero, Act.put, List.setIfInBounds_toArray, List.set_cons_zero, List.set_cons_succ]
            refine wpAnyH_take (i := 5) (v := ?_) rfl (by kernel_rfl) (by kernel_rfl) (by kernel_rfl) (fun _ _ _ h => h) (Or.inl ⟨by rfl, ?_⟩) (by assumption) ?_
            rotate_left
            · intro wq hSw; (try dsimp only at hSw); go_simp; (try with_reducible rfl)
            simp only [List.getElem_toArray, List.getElem_cons_succ, List.getElem_cons_zero, Act.put, List.setIfInBounds_toArray, List.set_cons_zero, List.set_cons_succ]
            refine wpAnyH_take (i := 6) (v := ?_) rfl (by kernel_rfl) (by kernel_rfl) (by kernel_rfl) (fun _ _ _ h => h) (Or.inl ⟨by rfl, ?_⟩) (by assumption) ?_
            rotate_left
            · intro wq hSw; (try dsimp only at hSw); go_simp; (try with_reducible rfl)
            simp only [List.getElem_toArray, List.getElem_cons_succ, List.getElem_cons_zero, Act.put, List.setIfInBounds_toArray, List.set_cons_zero, List.set_cons_succ]
            refine wpAnyH_ready (rs := [7]) (by kernel_rfl) (by simp) ?_
            refine AllReadyH.cons rfl (fun K hK => ?_) AllReadyH.nil
            go_simp
            (with_reducible refine (CL.out _).mono ?_); rintro e w2 ⟨rfl, hg2⟩; have hg3 := gb_trans HG.out (gb_undraw hg2); have kk := box_blk hg3; have d0 : w2.cell? ⟨w.heap.size, 0, none⟩ = some (.int .i64 W) := kk.cell 0; have d1 : w2.cell? ⟨w.heap.size, 1, none⟩ = some (.int .i64 H) := kk.cell 1; have d2 : w2.cell? ⟨w.heap.size, 2, none⟩ = some (.slice (some ⟨b, off, none⟩) n cap) := kk.cell 2; have dc := (hg2.cell hc (by simp)); have HG3 := Lib.hid hg3; clear hg2 hg3 kk
            try go_wp2_with fail
            refine hK.out _ _ (⟨d0, d1, d2, dc⟩) (fun hHeld => ?_)
            clear hK K
            try simp only [List.getElem_toArray, List.getElem_cons_succ, List.getElem_cons_zero, Act.put, List.setIfInBounds_toArray, List.set_cons_zero, List.set_cons_succ]
            refine wpAnyH_take (i := 8) (v := ?_) rfl (by kernel_rfl) (by kernel_rfl) (by kernel_rfl) (fun _ _ _ h => h) (Or.inl ⟨by rfl, ?_⟩) (by assumption) ?_
            rotate_left
            · intro wq hSw; (try dsimp only at hSw); go_simp; (try with_reducible rfl)
            simp only [List.getElem_toArray, List.getElem_cons_succ, List.getElem_cons_zero, Act.put, List.setIfInBounds_toArray, List.set_cons_zero, List.set_cons_succ]
            refine wpAnyH_take (i := 9) (v := ?_) rfl (by kernel_rfl) (by kernel_rfl) (by kernel_rfl) (fun _ _ _ h => h) (Or.inl ⟨by rfl, ?_⟩) (by assumption) ?_
            rotate_left
            · intro wq hSw; (try dsimp only at hSw); go_simp; (try with_reducible rfl)
            simp only [List.getElem_toArray, List.getElem_cons_succ, List.getElem_cons_zero, Act.put, List.setIfInBounds_toArray, List.set_cons_zero, List.set_cons_succ]
            refine wpAnyH_take (i := 10) (v := ?_) rfl (by kernel_rfl) (by kernel_rfl) (by kernel_rfl) (fun _ _ _ h => h) (Or.inl ⟨by rfl, ?_⟩) (by assumption) ?_
            rotate_left
            · intro wq hSw; (try dsimp only at hSw); go_simp; (try with_reducible rfl)
            simp only [List.getElem_toArray, List.getElem_cons_succ, List.getElem_cons_zero, Act.put, List.setIfInBounds_toArray, List.set_cons_zero, List.set_cons_succ]
            refine wpAnyH_take (i := 11) (v := ?_) rfl (by kernel_rfl) (by kernel_rfl) (by kernel_rfl) (fun _ _ _ h => h) (Or.inl ⟨by rfl, ?_⟩) (by assumption) ?_
            rotate_left
            · intro wq hSw; (try dsimp only at hSw); go_simp; (try with_reducible rfl)
            simp only [List.getElem_toArray, List.getElem_cons_succ, List.getElem_cons_zero, Act.put, List.setIfInBounds_toArray, List.set_cons_zero, List.set_cons_succ]
            refine wpAnyH_take (i := 12) (v := ?_) rfl (by kernel_rfl) (by kernel_rfl) (by kernel_rfl) (fun _ _ _ h => h) (Or.inl ⟨by rfl, ?_⟩) (by assumption) ?_
            rotate_left
            · intro wq hSw; (try dsimp only at hSw); go_simp; (try with_reducible rfl)
            simp only [List.getElem_toArray, List.getElem_cons_succ, List.getElem_cons_zero, Act.put, List.setIfInBounds_toArray, List.set_cons_zero, List.set_cons_succ]
            refine wpAnyH_take (i := 13) (v := undef) rfl (by kernel_rfl) (by kernel_rfl) (by kernel_rfl) (fun _ _ _ h => h) (Or.inr ⟨by rfl, rfl⟩) (by assumption) ?_
            simp only [List.getElem_toArray, List.getElem_cons_succ, List.getElem_cons_zero, Act.put, List.setIfInBounds_toArray, List.set_cons_zero, List.set_cons_succ]
            refine wpAnyH_take (i := 14) (v := undef) rfl (by kernel_rfl) (by kernel_rfl) (by kernel_rfl) (fun _ _ _ h => h) (Or.inr ⟨by rfl, rfl⟩) (by assumption) ?_
            simp only [List.getElem_toArray, List.getElem_cons_succ, List.getElem_cons_zero, Act.put, List.setIfInBounds_toArray, List.set_cons_zero, List.set_cons_succ]
            refine wpAnyH_take (i := 15) (v := undef) rfl (by kernel_rfl) (by kernel_rfl) (by kernel_rfl) (fun _ _ _ h => h) (Or.inr ⟨by rfl, rfl⟩) (by assumption) ?_
            simp only [List.getElem_toArray, List.getElem_cons_succ, List.getElem_cons_zero, Act.put, List.setIfInBounds_toArray, List.set_cons_zero, List.set_cons_succ]
            refine wpAnyH_take (i := 16) (v := undef) rfl (by kernel_rfl) (by kernel_rfl) (by kernel_rfl) (fun _ _ _ h => h) (Or.inr ⟨by rfl, rfl⟩) (by assumption) ?_
            simp only [List.getElem_toArray, List.getElem_cons_succ, List.getElem_cons_zero, Act.put, List.setIfInBounds_toArray, List.set_cons_zero, List.set_cons_succ]
            refine wpAnyH_take (i := 17) (v := undef) rfl (by kernel_rfl) (by kernel_rfl) (by kernel_rfl) (fun _ _ _ h => h) (Or.inr ⟨by rfl, rfl⟩) (by assumption) ?_
            simp only [List.getElem_toArray, List.getElem_cons_succ, List.getElem_cons_zero, Act.put, List.setIfInBounds_toArray, List.set_cons_zero, List.set_cons_succ]
            refine wpAnyH_take (i := 18) (v := undef) rfl (by kernel_rfl) (by kernel_rfl) (by kernel_rfl) (fun _ _ _ h => h) (Or.inr ⟨by rfl, rfl⟩) (by assumption) ?_
            simp only [List.getElem_toArray, List.getElem_cons_succ, List.getElem_cons_zero, Act.put, List.setIfInBounds_toArray, List.set_cons_zero, List.set_cons_succ]
            refine wpAnyH_take (i := 19) (v := undef) rfl (by kernel_rfl) (by kernel_rfl) (by kernel_rfl) (fun _ _ _ h => h) (Or.inr ⟨by rfl, rfl⟩) (by assumption) ?_
            simp only [List.getElem_toArray, List.getElem_cons_succ, List.getElem_cons_zero, Act.put, List.setIfInBounds_toArray, List.set_cons_zero, List.set_cons_succ]
            refine wpAnyH_take (i := 20) (v := undef) rfl (by kernel_rfl) (by kernel_rfl) (by kernel_rfl) (fun _ _ _ h => h) (Or.inr ⟨by rfl, rfl⟩) (by assumption) ?_
            simp only [List.getElem_toArray, List.getElem_cons_succ, List.getElem_cons_zero, Act.put, List.setIfInBounds_toArray, List.set_cons_zero, List.set_cons_succ]
            refine wpAnyH_take (i := 21) (v := undef) rfl (by kernel_rfl) (by kernel_rfl) (by kernel_rfl) (fun _ _ _ h => h) (Or.inr ⟨by rfl, rfl⟩) (by assumption) ?_
            simp only [List.getElem_toArray, List.getElem_cons_succ, List.getElem_cons_zero, Act.put, List.setIfInBounds_toArray, List.set_cons_zero, List.set_cons_succ]
            refine wpAnyH_take (i := 22) (v := undef) rfl (by kernel_rfl) (by kernel_rfl) (by kernel_rfl) (fun _ _ _ h => h) (Or.inr ⟨by rfl, rfl⟩) (by assumption) ?_
            simp only [List.getElem_toArray, List.getElem_cons_succ, List.getElem_cons_zero, Act.put, List.setIfInBounds_toArray, List.set_cons_zero, List.set_cons_succ]
            refine wpAnyH_take (i := 23) (v := undef) rfl (by kernel_rfl) (by kernel_rfl) (by kernel_rfl) (fun _ _ _ h => h) (Or.inr ⟨by rfl, rfl⟩) (by assumption) ?_
            simp only [List.getElem_toArray, List.getElem_cons_succ, List.getElem_cons_zero, Act.put, List.setIfInBounds_toArray, List.set_cons_zero, List.set_cons_succ]
            refine wpAnyH_take (i := 24) (v := undef) rfl (by kernel_rfl) (by kernel_rfl) (by kernel_rfl) (fun _ _ _ h => h) (Or.inr ⟨by rfl, rfl⟩) (by assumption) ?_
            simp only [List.getElem_toArray, List.getElem_cons_succ, List.getElem_cons_zero, Act.put, List.setIfInBounds_toArray, List.set_cons_zero, List.set_cons_succ]
            refine wpAnyH_take (i := 25) (v := ?_) rfl (by kernel_rfl) (by kernel_rfl) (by kernel_rfl) (fun _ _ _ h => h) (Or.inl ⟨by rfl, ?_⟩) (by assumption) ?_
            rotate_left
            · intro wq hSw; (try dsimp only at hSw); go_simp; (try with_reducible rfl)
            simp only [List.getElem_toArray, List.getElem_cons_succ, List.getElem_cons_zero, Act.put, List.setIfInBounds_toArray, List.set_cons_zero, List.set_cons_succ]
            refine wpAnyH_take (i := 26) (v := ?_) rfl (by kernel_rfl) (by kernel_rfl) (by kernel_rfl) (fun _ _ _ h => h) (Or.inl ⟨by rfl, ?_⟩) (by assumption) ?_
            rotate_left
            · intro wq hSw; (try dsimp only at hSw); go_simp; (try with_reducible rfl)
            simp only [List.getElem_toArray, List.getElem_cons_succ, List.getElem_cons_zero, Act.put, List.setIfInBounds_toArray, List.set_cons_zero, List.set_cons_succ]
            refine wpAnyH_done (by kernel_rfl) ?_ _
            go_wp2_with fail
            go_roundw
            case rel => exact ⟨1, by go_num, by omega, HNx.out, HG3.out⟩
            case measure => simp [intOf] <;> omega
          | succ j =>
            obtain ⟨b', off', hbe, _, hc2⟩ := HIA.out.at j (by omega)
            obtain ⟨rfl, rfl⟩ : b = b' ∧ off = off' := by injection hbe with h1; injection h1 with h2 h3; exact ⟨h2, h3⟩
            obtain ⟨y, hy⟩ : ∃ y, L.getD j 0 = y := ⟨_, rfl⟩
            rw [hy] at hc2
            have hga := goodAt_next hx hy hld
            have e1 : IntKind.i64.wrap ((j : Int) + 1 - 1) = (j : Int) := by rw [Int.add_sub_cancel]; exact IntWalk.i64_in _ (by omega)
            have e2 : IntKind.i64.wrap (((j + 1 : Nat) : Int) - 1) = (j : Int) := by rw [IntWalk.i64_in _ (by omega)]; omega
            have e3 : IntKind.i64.wrap (j : Int) = (j : Int) := IntWalk.i64_in _ (by omega)
            have j0 : (0 : Int) ≤ (j : Int) := by omega
            have j1 : (j : Int) < (n : Int) := by omega
            have j2 : (0 : Int) ≤ (j : Int) + 1 := by omega
            have j3 : (j : Int) + 1 < (n : Int) := by omega
            have j4 : ((j : Int) + 1).toNat = j + 1 := by omega
            by_cases hyx : y < x
            · have hle : decide (x ≤ y) = false := decide_eq_false (by omega)
              have hgd : goodAt W H L (j + 1) = true := by rw [hga]; exact decide_eq_true hyx
              have HNx := Lib.hid (goodTo_succ HGo.out hgd)
              clear hx hy hld hbe hga hgd hyx
              go_wp2_with fail
              first
              | go_region_held3 (fun w' => w'.cell? ⟨w.heap.size, 0, none⟩ = some (.int .i64 W) ∧ w'.cell? ⟨w.heap.size, 1, none⟩ = some (.int .i64 H) ∧ w'.cell? ⟨w.heap.size, 2, none⟩ = some (.slice (some ⟨b, off, none⟩) n cap) ∧ w'.cell? ⟨b, off + (j + 1), none⟩ = some (.int .i64 x) ∧ w'.cell? ⟨b, off + j, none⟩ = some (.int .i64 y))
                  (first | exact ⟨a0, a1, a2, hc, hc2⟩ | exact ⟨d0, d1, d2, dc, dc2⟩)
                  (first | (go_at_call 90; (with_reducible refine (CL.out _).mono ?_); rintro e w2 ⟨rfl, hg2⟩; have hg3 := gb_trans HG.out (gb_undraw hg2); have kk := box_blk hg3; have d0 : w2.cell? ⟨w.heap.size, 0, none⟩ = some (.int .i64 W) := kk.cell 0; have d1 : w2.cell? ⟨w.heap.size, 1, none⟩ = some (.int .i64 H) := kk.cell 1; have d2 : w2.cell? ⟨w.heap.size, 2, none⟩ = some (.slice (some ⟨b, off, none⟩) n cap) := kk.cell 2; have dc := (hg2.cell hc (by simp)); have dc2 := (hg2.cell hc2 (by simp)); have HG3 := Lib.hid hg3; clear hg2 hg3 kk) | fail)
              | fail "held"
              all_goals
                go_wp2_with fail
                go_roundw
                case rel => exact ⟨j + 2, by go_num, by omega, HNx.out, HG3.out⟩
                case measure => simp [intOf] <;> omega
            · have hle : decide (x ≤ y) = true := decide_eq_true (by omega)
              have hgd : goodAt W H L (j + 1) = false := by rw [hga]; exact decide_eq_false hyx
              have HBad := Lib.hid (meshG_no (i := j + 1) (by omega) hgd)
              clear hx hy hld hbe hga hgd hyx
              go_wp2_with fail
              first
              | go_region_held3 (fun w' => w'.cell? ⟨w.heap.size, 0, none⟩ = some (.int .i64 W) ∧ w'.cell? ⟨w.heap.size, 1, none⟩ = some (.int .i64 H) ∧ w'.cell? ⟨w.heap.size, 2, none⟩ = some (.slice (some ⟨b, off, none⟩) n cap) ∧ w'.cell? ⟨b, off + (j + 1), none⟩ = some (.int .i64 x) ∧ w'.cell? ⟨b, off + j, none⟩ = some (.int .i64 y))
                  (first | exact ⟨a0, a1, a2, hc, hc2⟩ | exact ⟨d0, d1, d2, dc, dc2⟩)
                  (first | (go_at_call 90; (with_reducible refine (CL.out _).mono ?_); rintro e w2 ⟨rfl, hg2⟩; have hg3 := gb_trans HG.out (gb_undraw hg2); have kk := box_blk hg3; have d0 : w2.cell? ⟨w.heap.size, 0, none⟩ = some (.int .i64 W) := kk.cell 0; have d1 : w2.cell? ⟨w.heap.size, 1, none⟩ = some (.int .i64 H) := kk.cell 1; have d2 : w2.cell? ⟨w.heap.size, 2, none⟩ = some (.slice (some ⟨b, off, none⟩) n cap) := kk.cell 2; have dc := (hg2.cell hc (by simp)); have dc2 := (hg2.cell hc2 (by simp)); have HG3 := Lib.hid hg3; clear hg2 hg3 kk) | fail)
              | fail "held"
              all_goals
                go_wp2_with fail
                go_ret
                exact ⟨ret_bool HBad.out.symm, box_gb HG3.out⟩
      · obtain rfl : k = n := by omega
        clear hia
        go_wp2_with fail
        go_ret
        exact ⟨ret_bool (meshG_yes hok (by rw [hl]; exact HGo.out)).symm, box_gb HG.out⟩
end Go.Proofs.Ytnpjadofhpaapaa
end

section
namespace Go.Proofs.Ytnpjadofhpaapaa
open Go.ChangeShapes Go.WideShapes Go.ChangeAt Go.RowKit
set_option linter.unusedVariables false

theorem specMeshOkV (W H : Int) (A : Option Addr) (n cap : Nat) (L : List Int) (b : Bool) (hb : meshG W H L = b) (w : World) (h : IntAt w w.heap.size A n L) (hn : n ≤ 1000000000) :
    Calls Try.prog 89 #[.agg #[.int .i64 W, .int .i64 H, .slice A n cap]] w (RetB b w) := hb ▸ specMeshOk W H A n cap L w h hn
theorem specFindV (A : Option Addr) (n cap B : Nat) (L : List Int) (c : Int) (b : Bool) (hb : inG L c = b) (w : World) (h : IntAt w B A n L) (hn : n ≤ 1000000000) :
    Calls Try.prog 91 #[.slice A n cap, .int .i64 c] w fun e w' => e = .returned (.bool b) ∧ w = w' := hb ▸ specFind A n cap B L c w h hn

theorem specHasCh (W H : Int) (A : Option Addr) (n cap : Nat) (L : List Int) (c : Int) (w : World) (h : IntAt w w.heap.size A n L) (hn : n ≤ 1000000000) :
    Calls Try.prog 77 #[.agg #[.int .i64 W, .int .i64 H, .slice A n cap], .int .i64 c] w (RetB (hasChG W H L c) w) := by
  have HI := Lib.hid h
  clear h
  cases hld : leadsG W H c with
  | false =>
    go_enter Try.func77, Try.ntmps77
    go_wp2_with fail
    refine (specLeadsV W H c false hld _).mono ?_
    rintro e w1 ⟨rfl, hg⟩
    have Hg := Lib.hid (box_gb hg)
    clear hg
    go_wp2_with fail
    go_ret
    exact ⟨ret_bool (by simp [hasChG, hld]), Hg.out⟩
  | true =>
    obtain ⟨b, hb⟩ : ∃ b, inG L c = b := ⟨_, rfl⟩
    have hr : hasChG W H L c = !b := by simp [hasChG, hld, hb]
    have HR := Lib.hid hr
    clear hr
    go_enter Try.func77, Try.ntmps77
    go_wp2_with fail
    refine (specLeadsV W H c true hld _).mono ?_
    rintro e w1 ⟨rfl, hg⟩
    have hbk := box_blk hg
    have a2 := hbk.cell 2
    simp at a2
    have hi := HI.out.none (Nat.le_refl _) (box_gb hg)
    have Hg := Lib.hid (box_gb hg)
    clear hg hbk
    go_wp2_with fail
    refine (specFindV A n cap w.heap.size L c b hb _ hi hn).mono ?_
    rintro e w2 ⟨rfl, rfl⟩
    clear hi
    go_wp2_with fail
    go_ret
    exact ⟨ret_bool (by rw [HR.out]), Hg.out⟩

theorem specHasChV (W H : Int) (A : Option Addr) (n cap : Nat) (L : List Int) (c : Int) (b : Bool) (hb : hasChG W H L c = b) (w : World) (h : IntAt w w.heap.size A n L) (hn : n ≤ 1000000000) :
    Calls Try.prog 77 #[.agg #[.int .i64 W, .int .i64 H, .slice A n cap], .int .i64 c] w (RetB b w) := hb ▸ specHasCh W H A n cap L c w h hn
end Go.Proofs.Ytnpjadofhpaapaa
end

section
namespace Go.Proofs.Ytnpjadofhpaapaa
open Go.ChangeShapes Go.WideShapes Go.ChangeAt Go.RowKit
set_option linter.unusedVariables false

theorem box2 {w w1 : World} {T U : TypeId} {cs ds : Array Value} (h : ((w.alloc (.cells cs T)).alloc (.cells ds U)).grownBy w1 none) :
    Blk w1 w.heap.size T cs ∧ Blk w1 (w.heap.size + 1) U ds ∧ w.grownBy w1 none := by
  refine ⟨((Blk.new w T cs).alloc _).grown h (by simp), ?_, gb_trans (gb_alloc (gb_alloc (gb_refl _ _) _) _) h⟩
  have := (Blk.new (w.alloc (.cells cs T)) U ds).grown h (by simp)
  rwa [alloc_size] at this
theorem sq_bounds {k : Int} (h0 : 0 ≤ k) (h1 : k ≤ 16) : 0 ≤ k * k ∧ k * k ≤ 256 := by
  have e : k = (k.toNat : Int) := (Int.toNat_of_nonneg h0).symm
  have h2 : k.toNat ≤ 16 := by omega
  have h3 : k.toNat * k.toNat ≤ 16 * 16 := Nat.mul_le_mul h2 h2
  rw [e, ← Int.natCast_mul]
  omega
end Go.Proofs.Ytnpjadofhpaapaa
end

section
namespace Go.Proofs.Ytnpjadofhpaapaa
open Go.ChangeShapes Go.WideShapes Go.ChangeAt Go.RowKit
set_option linter.unusedVariables false

theorem specSized (W H : Int) (A A2 : Option Addr) (n cap n2 c2 : Nat) (L P : List Int) (b : Bool) (hb : sizedG W H L P = b) (w : World) (h : IntAt w w.heap.size A n L) (hn : n ≤ 1000000000) (hp : P.length = n2) (hn2 : n2 ≤ 1000000000) :
    Calls Try.prog 75 #[.agg #[.int .i64 W, .int .i64 H, .slice A n cap], .agg #[.slice A2 n2 c2]] w (RetB b w) := by
  have HI := Lib.hid h
  clear h
  obtain ⟨k, hk⟩ : ∃ k, countG W H = k := ⟨_, rfl⟩
  obtain ⟨hk0, hk1⟩ := countG_le W H
  rw [hk] at hk0 hk1
  obtain ⟨m0, m1⟩ := sq_bounds hk0 hk1
  have hsz : sizedG W H L P = (meshG W H L && decide ((n2 : Int) = k * k)) := by rw [sizedG, hk, hp]
  have hw : wrap64 (k * k) = k * k := IntWalk.wrap64_in _ (by omega)
  have HN := Lib.hid (fun w => specNodeCountV W H k hk w)
  rw [hb] at hsz
  clear hk hk0 hk1 m0 m1 hp hb
  cases hm : meshG W H L with
  | false =>
    have HM := Lib.hid (fun w h => specMeshOkV W H A n cap L false hm w h hn)
    have hf : b = false := by rw [hsz, hm]; rfl
    have HF := Lib.hid hf
    clear hm hf hsz hw
    go_enter Try.func75, Try.ntmps75
    go_wp2_with fail
    refine (HN.out _).mono ?_
    rintro e w1 ⟨rfl, hg⟩
    obtain ⟨k1, k2, g1⟩ := box2 hg
    have a0 : w1.cell? ⟨w.heap.size, 0, none⟩ = some (.int .i64 W) := k1.cell 0
    have a1 : w1.cell? ⟨w.heap.size, 1, none⟩ = some (.int .i64 H) := k1.cell 1
    have a2 : w1.cell? ⟨w.heap.size, 2, none⟩ = some (.slice A n cap) := k1.cell 2
    have hi := (HI.out.none (Nat.le_refl _) g1).more (B' := w1.heap.size) g1.size
    have G1 := Lib.hid g1
    clear hg k1 k2 g1
    go_wp2_with fail
    refine (HM.out _ hi).mono ?_
    rintro e w2 ⟨rfl, hg2⟩
    have G2 := Lib.hid (gb_trans G1.out hg2)
    clear hg2 hi
    go_wp2_with fail
    go_ret
    exact ⟨ret_bool HF.out.symm, G2.out⟩
  | true =>
    have HM := Lib.hid (fun w h => specMeshOkV W H A n cap L true hm w h hn)
    have hf : b = decide ((n2 : Int) = k * k) := by rw [hsz, hm]; rfl
    have HF := Lib.hid hf
    have HW := Lib.hid hw
    clear hm hf hsz hw
    go_enter Try.func75, Try.ntmps75
    go_wp2_with fail
    refine (HN.out _).mono ?_
    rintro e w1 ⟨rfl, hg⟩
    obtain ⟨k1, k2, g1⟩ := box2 hg
    have a0 : w1.cell? ⟨w.heap.size, 0, none⟩ = some (.int .i64 W) := k1.cell 0
    have a1 : w1.cell? ⟨w.heap.size, 1, none⟩ = some (.int .i64 H) := k1.cell 1
    have a2 : w1.cell? ⟨w.heap.size, 2, none⟩ = some (.slice A n cap) := k1.cell 2
    have hi := (HI.out.none (Nat.le_refl _) g1).more (B' := w1.heap.size) g1.size
    have G1 := Lib.hid g1
    have K2 := Lib.hid k2
    clear hg k1 k2 g1
    go_wp2_with fail
    refine (HM.out _ hi).mono ?_
    rintro e w2 ⟨rfl, hg2⟩
    have b0 : w2.cell? ⟨w.heap.size + 1, 0, none⟩ = some (.slice A2 n2 c2) := (K2.out.grown hg2 (by simp)).cell 0
    have G2 := Lib.hid (gb_trans G1.out hg2)
    clear hg2 hi a0 a1 a2
    go_wp2_with fail
    go_ret
    exact ⟨ret_bool (by rw [HF.out]; simp only [HW.out]; rfl), G2.out⟩
end Go.Proofs.Ytnpjadofhpaapaa
end

section
namespace Go.Proofs.Ytnpjadofhpaapaa
open Go.ChangeShapes Go.WideShapes Go.ChangeAt Go.RowKit
set_option linter.unusedVariables false
set_option maxRecDepth 20000

/-- A mesh and a table as blocks. -/
def twoB (W H : Int) (A A2 : Option Addr) (n cap n2 c2 : Nat) (w : World) : World := (w.alloc (.cells (meshC W H A n cap) 28)).alloc (.cells #[.slice A2 n2 c2] 30)
section
variable {W H : Int} {A A2 : Option Addr} {n cap n2 c2 : Nat} {w wr : World}
theorem twoB_size : (twoB W H A A2 n cap n2 c2 w).heap.size = w.heap.size + 2 := by unfold twoB; rw [alloc_size, alloc_size]
theorem twoB_below : Below w.heap.size w (twoB W H A A2 n cap n2 c2 w) := ((Below.refl _ _).alloc (Nat.le_refl _) _).alloc (by rw [alloc_size]; omega) _
theorem twoB_mesh (h : Below (w.heap.size + 2) (twoB W H A A2 n cap n2 c2 w) wr) : Blk wr w.heap.size 28 (meshC W H A n cap) :=
  ((Blk.new w 28 (meshC W H A n cap)).alloc _).below h (by omega)
theorem twoB_table (h : Below (w.heap.size + 2) (twoB W H A A2 n cap n2 c2 w) wr) : Blk wr (w.heap.size + 1) 30 #[.slice A2 n2 c2] := by
  have := Blk.new (w.alloc (.cells (meshC W H A n cap) 28)) 30 #[.slice A2 n2 c2]
  rw [alloc_size] at this
  exact this.below h (by omega)
theorem twoB_old (h : Below (w.heap.size + 2) (twoB W H A A2 n cap n2 c2 w) wr) : Below w.heap.size w wr :=
  twoB_below.trans (h.mono (by omega))
theorem twoB_le (h : Below (w.heap.size + 2) (twoB W H A A2 n cap n2 c2 w) wr) : w.heap.size + 2 ≤ wr.heap.size := by have := h.size; rw [twoB_size] at this; exact this
end
theorem new_nil {w wr : World} (h : Below w.heap.size w wr) : (wr.alloc (.cells #[] 3)).ownsRow w.heap.size 3 1 (.slice (some ⟨wr.heap.size, 0, none⟩) 0 0) 0 [] ∧ Below w.heap.size w (wr.alloc (.cells #[] 3)) :=
  ⟨World.ownsRow_made (base := w.heap.size) (e := 3) (size := 1) wr #[] 0 h.size (by decide) rfl, h.alloc h.size _⟩

def lenV : Value → Nat | .slice _ n _ => n | _ => 0
def WalkAt (W H : Int) (A A2 : Option Addr) (n cap n2 c2 : Nat) (w : World) (acc : List Int) (v : Value) (wr : World) : Prop :=
  wr.ownsRow (w.heap.size + 2) 3 1 v acc.length (intsV acc) ∧ Below (w.heap.size + 2) (twoB W H A A2 n cap n2 c2 w) wr

theorem WalkAt.app {W H : Int} {A A2 : Option Addr} {n cap n2 c2 : Nat} {w w3 w4 : World} {acc : List Int} {x : Int} {v v' : Value} {o : Obj} (hb : Below (w.heap.size + 2) (twoB W H A A2 n cap n2 c2 w) w3) (ho : w3.ownsRow (w.heap.size + 2) 3 1 v acc.length (intsV acc))
    (hown4 : w4.ownsRow (w.heap.size + 2) 3 1 v' (acc.length + 1) (intsV acc ++ [.int .i64 x])) (hg : (w3.alloc o).grownBy w4 v.ownBlock) :
    WalkAt W H A A2 n cap n2 c2 w (acc ++ [x]) v' w4 ∧ lenV v' = acc.length + 1 ∧ w4.cell? ⟨w.heap.size, 0, none⟩ = some (.int .i64 W) ∧ w4.cell? ⟨w.heap.size, 1, none⟩ = some (.int .i64 H) := by
  have hX : WalkAt W H A A2 n cap n2 c2 w (acc ++ [x]) v' w4 :=
    ⟨by rw [List.length_append, intsV_append]; exact hown4, (hb.alloc (twoB_le hb) _).grown hg (by have := twoB_le hb; simp; omega) (fun j hj => (ho.lt j hj).1)⟩
  refine ⟨hX, ?_, (twoB_mesh hX.2).cell 0, (twoB_mesh hX.2).cell 1⟩
  obtain ⟨A', c', rfl, _⟩ := own_form hX.1
  simp [lenV]

set_option maxHeartbeats 1600000 in
theorem specWalk (W H : Int) (A A2 : Option Addr) (n cap n2 c2 : Nat) (L P : List Int) (a z : Int) (w : World) (h : IntAt w w.heap.size A n L) (h2 : IntAt w w.heap.size A2 n2 P) (hn : n ≤ 1000000000) (hn2 : n2 ≤ 1000000000)
    (hs : sizedG W H L P = true) (ha : hasG W H a = true) (hz : hasG W H z = true) :
    Calls Try.prog 55 #[.agg #[.int .i64 W, .int .i64 H, .slice A n cap], .agg #[.slice A2 n2 c2], .int .i64 a, .int .i64 z] w (NewI (walkOf W H L P a z) w) := by
  obtain ⟨i0, hi, hz0, hz1, hz2⟩ := info_parts info_int
  have hp := h2.1
  have HI := Lib.hid h
  have HP := Lib.hid h2
  clear h h2
  obtain ⟨k, hk⟩ : ∃ k, countG W H = k := ⟨_, rfl⟩
  obtain ⟨hk0, hk1⟩ := countG_le W H
  rw [hk] at hk0 hk1
  have hsq := (sizedG_mesh hs).2
  rw [hp, hk] at hsq
  have HSQ := Lib.hid hsq
  have HN := Lib.hid (fun w => specNodeCountV W H k hk w)
  have HK := Lib.hid hk
  have hzz := hasG_iff.1 hz
  rw [hk] at hzz
  have HZ := Lib.hid hzz
  have HA := Lib.hid ha
  have HRS := Lib.hid (show walkOf W H L P a z = restG W H L P z [] (k.toNat + 1) a by rw [← hk]; exact (rest_start a z).symm)
  obtain ⟨res, hres⟩ : ∃ res, walkOf W H L P a z = res := ⟨_, rfl⟩
  rw [hres] at HRS ⊢
  have hown0 : ((twoB W H A A2 n cap n2 c2 w).alloc (.cells #[] 3)).ownsRow (w.heap.size + 2) 3 1 (.slice (some ⟨w.heap.size + 2, 0, none⟩) 0 0) 0 [] := by
    have := World.ownsRow_made (base := w.heap.size + 2) (e := 3) (size := 1) (twoB W H A A2 n cap n2 c2 w) #[] 0 (by rw [twoB_size]; exact Nat.le_refl _) (by decide) rfl
    rwa [twoB_size] at this
  have HO0 := Lib.hid hown0
  have HB0 := Lib.hid (show Below (w.heap.size + 2) (twoB W H A A2 n cap n2 c2 w) ((twoB W H A A2 n cap n2 c2 w).alloc (.cells #[] 3)) from (Below.refl _ _).alloc (by rw [twoB_size]; exact Nat.le_refl _) _)
  clear hk hs ha hz hsq hzz hres hown0 hp
  go_enter Try.func55, Try.ntmps55
  go_wp2_with fail
  refine (HN.out _).mono ?_
  rintro e w1 ⟨rfl, hg⟩
  have HX := Lib.hid (show WalkAt W H A A2 n cap n2 c2 w [] (.slice (some ⟨w.heap.size + 2, 0, none⟩) 0 0) w1 from
    ⟨own_none HO0.out hg, below_gb HB0.out (by rw [twoB_size]; exact Nat.le_refl _) hg⟩)
  clear hg
  go_wp2_with fail
  go_loopw [9, 11] (fun v i wr => ∃ (acc : List Int) (x : Int), i = .int .i64 x ∧ (acc.length : Int) ≤ k + 1 ∧ hasG W H x = true ∧ res = restG W H L P z acc (k.toNat + 1 - acc.length) x ∧ WalkAt W H A A2 n cap n2 c2 w acc v wr) (fun v _ _ => 17 - lenV v)
  case atStart => exact ⟨[], a, rfl, by simp; omega, HA.out, HRS.out, HX.out⟩
  case round =>
    obtain ⟨acc, x, rfl, hl, hx, hre, hown, hbel⟩ := hrel
    obtain ⟨Aq, capq, rfl, hAq⟩ := own_form hown
    have HOwn := Lib.hid hown
    have HBel := Lib.hid hbel
    have hl17 : acc.length ≤ 17 := by omega
    have tb := twoB_table hbel
    have b0 : wr.cell? ⟨w.heap.size + 1, 0, none⟩ = some (.slice A2 n2 c2) := tb.cell 0
    have hsw := twoB_le hbel
    have hbo := twoB_old hbel
    have HX := Lib.hid hx
    have HRE := Lib.hid hre
    have HAQ := Lib.hid hAq
    obtain ⟨x0, x1⟩ := hasG_iff.1 hx
    rw [HK.out] at x1
    clear hown hbel tb hx hre hAq
    by_cases hlt : (acc.length : Int) ≤ k
    · obtain ⟨t0, t1⟩ := tab_at HSQ.out x0 x1 HZ.out.1 HZ.out.2
      obtain ⟨j, hj⟩ : ∃ j : Nat, x * k + z = (j : Int) := ⟨(x * k + z).toNat, (Int.toNat_of_nonneg t0).symm⟩
      have hjn : j < n2 := by omega
      have hak := Int.mul_nonneg x0 hk0
      have hz0 := HZ.out.1
      have e1 : wrap64 (x * k) = x * k := IntWalk.wrap64_in _ (by omega)
      have e2 : wrap64 (x * k + z) = (j : Int) := by rw [hj]; exact IntWalk.wrap64_in _ (by omega)
      obtain ⟨b, off, rfl, hbB, hcell⟩ := (HP.out.below hbo).at j hjn
      obtain ⟨p, hpp⟩ : ∃ p, P.getD j 0 = p := ⟨_, rfl⟩
      rw [hpp] at hcell
      have htab : tabG (countG W H) P x z = p := by unfold tabG; rw [HK.out, hj, Int.toNat_natCast]; exact hpp
      obtain ⟨f, hf⟩ : ∃ f, k.toNat + 1 - acc.length = f + 1 := ⟨k.toNat - acc.length, by omega⟩
      have hre := HRE.out
      rw [hf] at hre
      have HF := Lib.hid hf
      have HT := Lib.hid htab
      have HRE2 := Lib.hid hre
      have HHJ := Lib.hid hj
      have x16 : x ≤ 15 := by omega
      have HBO := Lib.hid hbo
      have j0 : (0 : Int) ≤ (j : Int) := by omega
      have j1 : (j : Int) < (n2 : Int) := by omega
      clear hj hpp htab hf hre t0 t1 hak hz0 hbo
      by_cases h4 : p = 4
      · subst h4
        by_cases hxz : x = z
        · have hxb : (x != z) = false := by simpa using hxz
          have HF2 := Lib.hid (HRE2.out.trans (rest_end HT.out hxz))
          clear hxz
          go_wp2_with fail
          go_ret
          refine ⟨_, rfl, ?_, HBO.out⟩
          rw [HF2.out]
          exact own_less HOwn.out (by omega)
        · have hxb : (x != z) = true := by simpa using hxz
          have HF2 := Lib.hid (HRE2.out.trans (rest_lost HT.out hxz))
          clear hxz
          go_wp2_with fail
          go_ret
          obtain ⟨o, b⟩ := new_nil HBO.out
          refine ⟨_, rfl, ?_, b⟩
          rw [HF2.out]
          exact o
      · have h4b : (p == 4) = false := by simpa using h4
        have H4 := Lib.hid h4
        clear h4
        by_cases h03 : 0 ≤ p ∧ p ≤ 3
        · have HIN := Lib.hid (fun w => specInV p 0 3 true (decide_eq_true h03) w)
          obtain ⟨p0, p3⟩ := h03
          have hi2 := (HI.out.below HBO.out).more (B' := wr.heap.size) (by omega)
          have tm := twoB_mesh HBel.out
          have a0 : wr.cell? ⟨w.heap.size, 0, none⟩ = some (.int .i64 W) := tm.cell 0
          have a1 : wr.cell? ⟨w.heap.size, 1, none⟩ = some (.int .i64 H) := tm.cell 1
          have a2 : wr.cell? ⟨w.heap.size, 2, none⟩ = some (.slice A n cap) := tm.cell 2
          have TM := Lib.hid tm
          clear tm
          cases hc : hasChG W H L (4 * x + p) with
          | false =>
            have HC := Lib.hid (fun w h => specHasChV W H A n cap L (4 * x + p) false hc w h hn)
            have HF2 := Lib.hid (HRE2.out.trans (rest_bad HT.out H4.out (by simp [stepsG, hc])))
            clear hc
            go_wp2_with fail
            refine (HIN.out _).mono ?_
            rintro e w2 ⟨rfl, rfl⟩
            go_wp2_with fail
            refine (HC.out _ hi2).mono ?_
            rintro e w3 ⟨rfl, hg3⟩
            have G3 := Lib.hid (gb_below_none hg3 (Nat.le_trans HBO.out.size (Nat.le_refl _)))
            clear hg3 hi2
            go_wp2_with fail
            go_ret
            obtain ⟨o, b⟩ := new_nil (HBO.out.trans G3.out)
            refine ⟨_, rfl, ?_, b⟩
            rw [HF2.out]
            exact o
          | true =>
            have hst : stepsG W H L x p = true := by simp [stepsG, hc, p0, p3]
            have HC := Lib.hid (fun w h => specHasChV W H A n cap L (4 * x + p) true hc w h hn)
            have HF2 := Lib.hid (HRE2.out.trans (rest_go HT.out H4.out hst))
            have HNX := Lib.hid (step_has hst)
            obtain ⟨y, hy⟩ : ∃ y, nextG W H x p = y := ⟨_, rfl⟩
            rw [hy] at HF2 HNX
            have HNN := Lib.hid (fun w => specNextNodeV W H x p y hy w)
            clear hc hst hy
            go_wp2_with fail
            refine (HIN.out _).mono ?_
            rintro e w2 ⟨rfl, rfl⟩
            go_wp2_with fail
            refine (HC.out _ hi2).mono ?_
            rintro e w3 ⟨rfl, hg3⟩
            have G3 := Lib.hid hg3
            have hown1 := own_none HOwn.out hg3
            have hsz1 : w.heap.size + 2 ≤ w3.heap.size := Nat.le_trans hsw hg3.size
            have b3' := Lib.hid (show ∀ u ∈ [Value.int .i64 (4 * x + p)], u.oneCell' = true by simp [Value.oneCell'])
            have b4' := Lib.hid (show acc.length + 1 ≤ maxLen by unfold maxLen; omega)
            clear hg3 hi2 a0 a1 a2 b0
            go_wp2_with (at_builtin; refine wpList_append_own _ rfl _ _ 26 rfl (w.heap.size + 2) 3 i0 (.int .i64 0) 1 8 Try.underlying26 hi hz0 hz1 hz2 rfl (by decide) _ acc.length _ rfl (hown1.alloc _) ⟨w3.heap.size, 0, none⟩ 1 1 [.int .i64 (4 * x + p)] rfl rfl (World.news_of_block (cs := #[.int .i64 (4 * x + p)]) (t := 3) (fr := (0, 0)) (heap_alloc_new w3 _)) b3'.out b4'.out (by omega) (by simp; omega) ?_; intro v' w4 hown4 hgrow4 _; obtain ⟨xa, xl, a0, a1⟩ := WalkAt.app (below_gb HBel.out (by rw [twoB_size]; exact Nat.le_refl _) G3.out) hown1 hown4 hgrow4; have HXA := Lib.hid xa; have HLV := Lib.hid xl; clear xa xl hown4 hgrow4)
            refine (HNN.out _).mono ?_
            rintro e w5 ⟨rfl, hg5⟩
            have G5 := Lib.hid hg5
            clear hg5 a0 a1
            go_wp2_with fail
            go_roundw
            case rel => exact ⟨acc ++ [4 * x + p], y, rfl, by simp; omega, HNX.out, by rw [HF2.out]; congr 1; have := HF.out; simp; omega, own_none HXA.out.1 G5.out, below_gb HXA.out.2 (by rw [twoB_size]; exact Nat.le_refl _) G5.out⟩
            case measure => rw [HLV.out]; simp [lenV]; omega
        · have HIN := Lib.hid (fun w => specInV p 0 3 false (decide_eq_false h03) w)
          have HF2 := Lib.hid (HRE2.out.trans (rest_bad HT.out H4.out (by simp [stepsG]; intro u v; exact absurd ⟨u, v⟩ h03)))
          clear h03
          go_wp2_with fail
          refine (HIN.out _).mono ?_
          rintro e w2 ⟨rfl, rfl⟩
          go_wp2_with fail
          go_ret
          obtain ⟨o, b⟩ := new_nil HBO.out
          refine ⟨_, rfl, ?_, b⟩
          rw [HF2.out]
          exact o
    · have hf : k.toNat + 1 - acc.length = 0 := by omega
      have hre := HRE.out
      rw [hf, rest_zero] at hre
      have HF2 := Lib.hid hre
      have HBO := Lib.hid hbo
      clear hf hre hbo
      go_wp2_with fail
      go_ret
      obtain ⟨o, b⟩ := new_nil HBO.out
      refine ⟨_, rfl, ?_, b⟩
      rw [HF2.out]
      exact o
end Go.Proofs.Ytnpjadofhpaapaa
end

section
namespace Go.Proofs.Ytnpjadofhpaapaa
open Go.ChangeShapes Go.WideShapes Go.ChangeAt Go.RowKit
set_option linter.unusedVariables false
set_option maxRecDepth 20000

theorem IntAt.two {w : World} {A A2 B : Option Addr} {n cap n2 c2 m : Nat} {W H : Int} {L : List Int} (h : IntAt w w.heap.size B m L) : IntAt (twoB W H A A2 n cap n2 c2 w) (twoB W H A A2 n cap n2 c2 w).heap.size B m L :=
  (h.below twoB_below).more (by rw [twoB_size]; omega)
theorem IntAt.old {w wr : World} {A A2 B : Option Addr} {n cap n2 c2 m : Nat} {W H : Int} {L : List Int} (h : IntAt w w.heap.size B m L) (hb : Below (w.heap.size + 2) (twoB W H A A2 n cap n2 c2 w) wr) : IntAt wr wr.heap.size B m L :=
  (h.below (twoB_old hb)).more (by have := twoB_le hb; omega)
theorem NewI.old {w wr w' : World} {A A2 : Option Addr} {n cap n2 c2 : Nat} {W H : Int} {L : List Int} {v : Value} (hb : Below (w.heap.size + 2) (twoB W H A A2 n cap n2 c2 w) wr) (ho : w'.ownsRow wr.heap.size 3 1 v L.length (intsV L)) (hw : Below wr.heap.size wr w') : NewI L w (.returned v) w' :=
  ⟨v, rfl, own_less ho (by have := twoB_le hb; omega), (twoB_old hb).trans (hw.mono (by have := twoB_le hb; omega))⟩
theorem below_two {w w1 : World} {A A2 : Option Addr} {n cap n2 c2 : Nat} {W H : Int} (h : (twoB W H A A2 n cap n2 c2 w).grownBy w1 none) : Below (w.heap.size + 2) (twoB W H A A2 n cap n2 c2 w) w1 := gb_below_none h (by rw [twoB_size]; exact Nat.le_refl _)
theorem below_then {w wr w1 : World} {A A2 : Option Addr} {n cap n2 c2 : Nat} {W H : Int} (hb : Below (w.heap.size + 2) (twoB W H A A2 n cap n2 c2 w) wr) (h : wr.grownBy w1 none) : Below (w.heap.size + 2) (twoB W H A A2 n cap n2 c2 w) w1 := below_gb hb (by rw [twoB_size]; exact Nat.le_refl _) h
end Go.Proofs.Ytnpjadofhpaapaa
end

section
namespace Go.Proofs.Ytnpjadofhpaapaa
open Go.ChangeShapes Go.WideShapes Go.ChangeAt Go.RowKit
set_option linter.unusedVariables false
set_option maxRecDepth 20000

def TabAt (W H : Int) (A A2 : Option Addr) (n cap n2 c2 : Nat) (L P : List Int) (w : World) (a b : Nat) (wr : World) : Prop :=
  pairsTo W H L P a b ∧ Below (w.heap.size + 2) (twoB W H A A2 n cap n2 c2 w) wr
theorem specTableOk (W H : Int) (A A2 : Option Addr) (n cap n2 c2 : Nat) (L P : List Int) (w : World) (h : IntAt w w.heap.size A n L) (h2 : IntAt w w.heap.size A2 n2 P) (hn : n ≤ 1000000000) (hn2 : n2 ≤ 1000000000) :
    Calls Try.prog 53 #[.agg #[.int .i64 W, .int .i64 H, .slice A n cap], .agg #[.slice A2 n2 c2]] w (RetB (tableG W H L P) w) := by
  have hp := h2.1
  have HI := Lib.hid h
  have HP := Lib.hid h2
  have HT := Lib.hid (show IntAt (twoB W H A A2 n cap n2 c2 w) (twoB W H A A2 n cap n2 c2 w).heap.size A n L from h.two)
  clear h h2
  cases hs : sizedG W H L P with
  | false =>
    have HS := Lib.hid (fun w h => specSized W H A A2 n cap n2 c2 L P false hs w h hn hp hn2)
    have HF := Lib.hid (tableG_unsized hs)
    clear hs
    go_enter Try.func53, Try.ntmps53
    go_wp2_with fail
    refine (HS.out _ HT.out).mono ?_
    rintro e w1 ⟨rfl, hg⟩
    have G1 := Lib.hid (box2 hg).2.2
    clear hg
    go_wp2_with fail
    go_ret
    exact ⟨ret_bool HF.out.symm, G1.out⟩
  | true =>
    have HS := Lib.hid (fun w h => specSized W H A A2 n cap n2 c2 L P true hs w h hn hp hn2)
    obtain ⟨k, hk⟩ : ∃ k, countG W H = k := ⟨_, rfl⟩
    obtain ⟨hk0, hk1⟩ := countG_le W H
    rw [hk] at hk0 hk1
    have hsq := (sizedG_mesh hs).2
    rw [hp, hk] at hsq
    have HSQ := Lib.hid hsq
    have HN := Lib.hid (fun w => specNodeCountV W H k hk w)
    have HK := Lib.hid hk
    have HSZ := Lib.hid hs
    clear hk hs hsq hp
    go_enter Try.func53, Try.ntmps53
    go_wp2_with fail
    refine (HS.out _ HT.out).mono ?_
    rintro e w1 ⟨rfl, hg⟩
    have B1 := Lib.hid (below_two hg)
    clear hg
    have a0 : w1.cell? ⟨w.heap.size, 0, none⟩ = some (.int .i64 W) := (twoB_mesh B1.out).cell 0
    have a1 : w1.cell? ⟨w.heap.size, 1, none⟩ = some (.int .i64 H) := (twoB_mesh B1.out).cell 1
    go_wp2_with fail
    refine (HN.out _).mono ?_
    rintro e w2 ⟨rfl, hg⟩
    have X2 := Lib.hid (show TabAt W H A A2 n cap n2 c2 L P w 0 0 w2 from ⟨pairs_zero, below_then B1.out hg⟩)
    clear hg a0 a1
    go_wp2_with fail
    go_loopw [6] (fun i wr => ∃ x : Nat, i = .int .i64 (x : Int) ∧ (x : Int) ≤ k ∧ TabAt W H A A2 n cap n2 c2 L P w x 0 wr) (fun i _ => 17 - (intOf i).toNat)
    case atStart => exact ⟨0, rfl, by omega, X2.out⟩
    case round =>
      obtain ⟨x, rfl, hx, hpr, hbel⟩ := hrel
      have HX := Lib.hid (show TabAt W H A A2 n cap n2 c2 L P w x 0 wr from ⟨hpr, hbel⟩)
      have BX := Lib.hid hbel
      clear hpr hbel
      by_cases hlt : (x : Int) < k
      · go_wp2_with fail
        go_loopw [7] (fun i ws => ∃ y : Nat, i = .int .i64 (y : Int) ∧ (y : Int) ≤ k ∧ TabAt W H A A2 n cap n2 c2 L P w x y ws) (fun i _ => 17 - (intOf i).toNat)
        case atStart => exact ⟨0, rfl, by omega, HX.out⟩
        case round =>
          obtain ⟨y, rfl, hy, hpr, hbel⟩ := hrel
          have HPR := Lib.hid hpr
          have BY := Lib.hid hbel
          clear hpr hbel
          by_cases hly : (y : Int) < k
          · by_cases hxy : x = y
            · subst hxy
              obtain ⟨t0, t1⟩ := tab_at HSQ.out (Int.natCast_nonneg x) hlt (Int.natCast_nonneg x) hlt
              obtain ⟨j, hj⟩ : ∃ j : Nat, (x : Int) * k + x = (j : Int) := ⟨((x : Int) * k + x).toNat, (Int.toNat_of_nonneg t0).symm⟩
              have hjn : j < n2 := by omega
              have hak := Int.mul_nonneg (Int.natCast_nonneg x) hk0
              have e1 : wrap64 ((x : Int) * k) = (x : Int) * k := IntWalk.wrap64_in _ (by omega)
              have e2 : wrap64 ((x : Int) * k + x) = (j : Int) := by rw [hj]; exact IntWalk.wrap64_in _ (by omega)
              have hold := twoB_old BY.out
              obtain ⟨b, off, rfl, hbB, hcell⟩ := (HP.out.below hold).at j hjn
              obtain ⟨p, hpp⟩ : ∃ p, P.getD j 0 = p := ⟨_, rfl⟩
              rw [hpp] at hcell
              have htab : tabG (countG W H) P x x = p := by unfold tabG; rw [HK.out, hj, Int.toNat_natCast]; exact hpp
              have hen := entry_same (W := W) (H := H) (L := L) (P := P) (a := (x : Int))
              rw [htab] at hen
              have j0 : (0 : Int) ≤ (j : Int) := by omega
              have j1 : (j : Int) < (n2 : Int) := by omega
              have b0 : wr.cell? ⟨w.heap.size + 1, 0, none⟩ = some (.slice (some ⟨b, off, none⟩) n2 c2) := (twoB_table BY.out).cell 0
              by_cases h4 : p = 4
              · have hb4 : (p != 4) = false := by simpa using h4
                have HE := Lib.hid (pairs_next HPR.out (hen.trans (decide_eq_true h4)))
                clear hj hpp htab hen h4 t0 t1 hak hold
                go_wp2_with fail
                go_roundw
                case rel => exact ⟨x + 1, by go_num, by omega, HE.out, BY.out⟩
                case measure => simp [intOf]; omega
              · have hb4 : (p != 4) = true := by simpa using h4
                have HE := Lib.hid (tableG_no (W := W) (H := H) (L := L) (P := P) (a := x) (b := x) (by rw [HK.out]; exact hlt) (by rw [HK.out]; exact hlt) (hen.trans (decide_eq_false h4)))
                clear hj hpp htab hen h4 t0 t1 hak hold
                go_wp2_with fail
                go_ret
                exact ⟨ret_bool HE.out.symm, gb_of_below (twoB_old BY.out) none⟩
            · have hb1 : ((x : Int) == (y : Int)) = false := by simp; omega
              have hb2 : ((x : Int) != (y : Int)) = true := by simp; omega
              have hax : hasG W H (x : Int) = true := hasG_iff.2 ⟨by omega, by rw [HK.out]; exact hlt⟩
              have hay : hasG W H (y : Int) = true := hasG_iff.2 ⟨by omega, by rw [HK.out]; exact hly⟩
              have HWK := Lib.hid (fun w h h2 => specWalk W H A A2 n cap n2 c2 L P x y w h h2 hn hn2 HSZ.out hax hay)
              have hen := entry_two (W := W) (H := H) (L := L) (P := P) (a := (x : Int)) (b := (y : Int)) (by omega)
              have HEN := Lib.hid hen
              have a0 : wr.cell? ⟨w.heap.size, 0, none⟩ = some (.int .i64 W) := (twoB_mesh BY.out).cell 0
              have a1 : wr.cell? ⟨w.heap.size, 1, none⟩ = some (.int .i64 H) := (twoB_mesh BY.out).cell 1
              have a2 : wr.cell? ⟨w.heap.size, 2, none⟩ = some (.slice A n cap) := (twoB_mesh BY.out).cell 2
              have b0 : wr.cell? ⟨w.heap.size + 1, 0, none⟩ = some (.slice A2 n2 c2) := (twoB_table BY.out).cell 0
              have hi2 := HI.out.old BY.out
              have hp2 := HP.out.old BY.out
              clear hen hax hay
              go_wp2_with fail
              refine (HWK.out _ hi2 hp2).mono ?_
              rintro e w4 ⟨v, rfl, o4, b4⟩
              obtain ⟨A4, c4, rfl, _⟩ := own_form o4
              have B4 := Lib.hid (below_then BY.out (gb_of_below b4 none))
              obtain ⟨wl, hwl⟩ : ∃ q, walkOf W H L P x y = q := ⟨_, rfl⟩
              rw [hwl] at HEN
              have hlen : wl.length ≤ 16 := by rw [← hwl]; exact walkOf_len _ _
              clear o4 b4 hi2 hp2 a0 a1 a2 b0
              rw [hwl]
              clear hwl
              cases wl with
              | nil =>
                have HE := Lib.hid (tableG_no (W := W) (H := H) (L := L) (P := P) (a := x) (b := y) (by rw [HK.out]; exact hlt) (by rw [HK.out]; exact hly) (HEN.out.trans rfl))
                simp only [List.length_nil]
                go_wp2_with fail
                go_ret
                exact ⟨ret_bool HE.out.symm, gb_of_below (twoB_old B4.out) none⟩
              | cons c cs =>
                have HE := Lib.hid (pairs_next HPR.out (HEN.out.trans rfl))
                obtain ⟨q, hq⟩ : ∃ q, (c :: cs).length = q := ⟨_, rfl⟩
                have hq0 : ((q : Int) == 0) = false := by rw [← hq]; simp; omega
                rw [hq] at hlen ⊢
                clear hq
                go_wp2_with fail
                go_roundw
                case rel => exact ⟨y + 1, by go_num, by omega, HE.out, B4.out⟩
                case measure => simp [intOf]; omega
          · obtain ⟨e1, e2⟩ : (y : Int) = k ∧ True := ⟨by omega, trivial⟩
            have HE := Lib.hid (pairs_row HPR.out (by rw [HK.out]; exact e1))
            clear e1 e2
            go_wp2_with fail
            go_roundw
            case rel => exact ⟨x + 1, by go_num, by omega, HE.out, BY.out⟩
            case measure => simp [intOf]; omega
      · have hxk : (x : Int) = k := by omega
        have HE := Lib.hid (tableG_yes HSZ.out HX.out.1 (by rw [HK.out]; exact hxk))
        clear hxk
        go_wp2_with fail
        go_ret
        exact ⟨ret_bool HE.out.symm, gb_of_below (twoB_old BX.out) none⟩
end Go.Proofs.Ytnpjadofhpaapaa
end

section
namespace Go.Proofs.Ytnpjadofhpaapaa
open Go.ChangeShapes Go.WideShapes Go.ChangeAt Go.RowKit
set_option linter.unusedVariables false

theorem specTableOkV (W H : Int) (A A2 : Option Addr) (n cap n2 c2 : Nat) (L P : List Int) (b : Bool) (hb : tableG W H L P = b) (w : World) (h : IntAt w w.heap.size A n L) (h2 : IntAt w w.heap.size A2 n2 P) (hn : n ≤ 1000000000) (hn2 : n2 ≤ 1000000000) :
    Calls Try.prog 53 #[.agg #[.int .i64 W, .int .i64 H, .slice A n cap], .agg #[.slice A2 n2 c2]] w (RetB b w) := hb ▸ specTableOk W H A A2 n cap n2 c2 L P w h h2 hn hn2
theorem below_undrew3 {B : Nat} {a b : World} (h : Below B a.drew b) : Below B a b := ⟨h.os, h.tape, h.output, h.size, h.block⟩
end Go.Proofs.Ytnpjadofhpaapaa
end

section
namespace Go.Proofs.Ytnpjadofhpaapaa
open Go.ChangeShapes Go.WideShapes Go.ChangeAt Go.RowKit
set_option linter.unusedVariables false
set_option maxRecDepth 20000

/-- The list so far, above the boxes of the mesh and the table. -/
def DsS (W H : Int) (A A2 : Option Addr) (n cap n2 c2 : Nat) (w : World) (D : List Dep) (v : Value) (wr : World) : Prop := DvAt (w.heap.size + 2) (twoB W H A A2 n cap n2 c2 w) D v wr
section
variable {W H : Int} {A A2 : Option Addr} {n cap n2 c2 : Nat} {w wr w' : World} {D D' : List Dep} {v v' : Value}
theorem DsS.gb (h : DsS W H A A2 n cap n2 c2 w D v wr) (hg : wr.grownBy w' none) : DsS W H A A2 n cap n2 c2 w D v w' := DvAt.gb h hg
theorem DsS.cells (h : DsS W H A A2 n cap n2 c2 w D v wr) : wr.cell? ⟨w.heap.size, 0, none⟩ = some (.int .i64 W) ∧ wr.cell? ⟨w.heap.size, 1, none⟩ = some (.int .i64 H) ∧ wr.cell? ⟨w.heap.size, 2, none⟩ = some (.slice A n cap) ∧ wr.cell? ⟨w.heap.size + 1, 0, none⟩ = some (.slice A2 n2 c2) :=
  ⟨(twoB_mesh h.2.2.2).cell 0, (twoB_mesh h.2.2.2).cell 1, (twoB_mesh h.2.2.2).cell 2, (twoB_table h.2.2.2).cell 0⟩
theorem DsS.new (h : DsS W H A A2 n cap n2 c2 w D v wr) {E : List Dep} (hE : D = E) : NewD E w (.returned v) wr := by
  subst hE
  exact ⟨v, rfl, own_less h.2.1 (by omega), twoB_old h.2.2.2⟩
end

set_option maxHeartbeats 1600000 in
theorem specDependsOf (W H : Int) (A A2 : Option Addr) (n cap n2 c2 : Nat) (L P : List Int) (w : World) (h : IntAt w w.heap.size A n L) (h2 : IntAt w w.heap.size A2 n2 P) (hn : n ≤ 1000000000) (hn2 : n2 ≤ 1000000000) :
    Calls Try.prog 22 #[.agg #[.int .i64 W, .int .i64 H, .slice A n cap], .agg #[.slice A2 n2 c2]] w (NewD (depG W H L P) w) := by
  have X0 := Lib.hid (show DsS W H A A2 n cap n2 c2 w [] _ _ from DvAt.start (B := w.heap.size + 2) (twoB W H A A2 n cap n2 c2 w) (by rw [twoB_size]; exact Nat.le_refl _))
  rw [twoB_size] at X0
  have HI := Lib.hid h
  have HP := Lib.hid h2
  have HT := Lib.hid (h.old X0.out.2.2.2)
  have HT2 := Lib.hid (h2.old X0.out.2.2.2)
  clear h h2
  cases ht : tableG W H L P with
  | false =>
    have HS := Lib.hid (fun w h h2 => specTableOkV W H A A2 n cap n2 c2 L P false ht w h h2 hn hn2)
    have HF := Lib.hid (depG_no ht)
    clear ht
    go_enter Try.func22, Try.ntmps22
    go_wp2_with fail
    refine (HS.out _ HT.out HT2.out).mono ?_
    rintro e w1 ⟨rfl, hg⟩
    have X1 := Lib.hid (X0.out.gb hg)
    clear hg
    go_wp2_with fail
    go_ret
    exact X1.out.new HF.out.symm
  | true =>
    have HS := Lib.hid (fun w h h2 => specTableOkV W H A A2 n cap n2 c2 L P true ht w h h2 hn hn2)
    have HF := Lib.hid (depG_yes ht)
    obtain ⟨k, hk⟩ : ∃ k, countG W H = k := ⟨_, rfl⟩
    obtain ⟨hk0, hk1⟩ := countG_le W H
    have hsq := sq_int W H
    have hsq2 := sqG_le (W := W) (H := H)
    rw [hk] at hk0 hk1 hsq
    obtain ⟨m0, m1⟩ := sq_bounds hk0 hk1
    have HSQ := Lib.hid hsq
    have hw : wrap64 (k * k) = k * k := IntWalk.wrap64_in _ (by omega)
    have HN := Lib.hid (fun w => specNodeCountV W H k hk w)
    have HK := Lib.hid hk
    have HSZ := Lib.hid (tableG_sized ht)
    clear hk ht hsq
    go_enter Try.func22, Try.ntmps22
    go_wp2_with fail
    refine (HS.out _ HT.out HT2.out).mono ?_
    rintro e w1 ⟨rfl, hg⟩
    have X1 := Lib.hid (X0.out.gb hg)
    obtain ⟨a0, a1, a2, a3⟩ := X1.out.cells
    clear hg
    go_wp2_with fail
    refine (HN.out _).mono ?_
    rintro e w2 ⟨rfl, hg⟩
    have X2 := Lib.hid (show DsS W H A A2 n cap n2 c2 w (allD W H L P 0) _ w2 from X1.out.gb hg)
    clear hg a0 a1 a2 a3
    go_wp2_with fail
    go_loopw [5, 7] (fun v i wr => ∃ x : Nat, i = .int .i64 (x : Int) ∧ (x : Int) ≤ k * k ∧ DsS W H A A2 n cap n2 c2 w (allD W H L P x) v wr) (fun _ i _ => 257 - (intOf i).toNat)
    case atStart => exact ⟨0, rfl, by omega, X2.out⟩
    case round =>
      obtain ⟨x, rfl, hx, hxx⟩ := hrel
      have X3 := Lib.hid hxx
      obtain ⟨gv0, cv0, rfl⟩ := hxx.1
      clear hxx
      by_cases hlt : (x : Int) < k * k
      · obtain ⟨hax, hay⟩ := pair_at (W := W) (H := H) (i := x) (by have := HSQ.out; omega)
        have hk1' : 1 ≤ k := by
          rcases Int.lt_or_le k 1 with h | h
          · have : k = 0 := by omega
            subst this; omega
          · exact h
        obtain ⟨u, hu⟩ : ∃ u, (x : Int) / countG W H = u := ⟨_, rfl⟩
        obtain ⟨y, hy⟩ : ∃ y, (x : Int) % countG W H = y := ⟨_, rfl⟩
        obtain ⟨R, hR⟩ : ∃ R, pairW W H L P x = R := ⟨_, rfl⟩
        have hRN := pairW_len (W := W) (H := H) (L := L) (P := P) x
        have HAN := Lib.hid (allD_next hR)
        have HASC := Lib.hid (fun j => insAll_asc (allD_asc (W := W) (H := H) (L := L) (P := P) x) (wayD R j))
        have HLEN := Lib.hid (fun j hj => ins_len (W := W) (H := H) (L := L) (P := P) (k := x) (j := j) (R := R) (by have := HSQ.out; omega) hj)
        rw [hR] at hRN
        have hRw : walkOf W H L P u y = R := by rw [← hR, pairW, hu, hy]
        rw [hu] at hax
        rw [hy] at hay
        have hu15 := hasG_le hax
        have hy15 := hasG_le hay
        rw [HK.out] at hu hy
        have q1 : (x : Int).tdiv k = u := by rw [Int.tdiv_eq_ediv_of_nonneg (by omega)]; exact hu
        have q2 : (x : Int).tmod k = y := by rw [Int.tmod_eq_emod_of_nonneg (by omega)]; exact hy
        have q3 : IntKind.i64.wrap u = u := IntWalk.i64_in _ (by omega)
        have q4 : IntKind.i64.wrap y = y := IntWalk.i64_in _ (by omega)
        have q5 : (k == 0) = false := by simp; omega
        have q6 : k ≠ 0 := by omega
        have HWK := Lib.hid (fun w h h2 => hRw ▸ specWalk W H A A2 n cap n2 c2 L P u y w h h2 hn hn2 HSZ.out hax hay)
        obtain ⟨a0, a1, a2, a3⟩ := X3.out.cells
        have HI2 : Hid (IntAt wr.drew wr.drew.heap.size A n L) := (HI.out.old X3.out.2.2.2 : IntAt wr wr.heap.size A n L)
        have HP2 : Hid (IntAt wr.drew wr.drew.heap.size A2 n2 P) := (HP.out.old X3.out.2.2.2 : IntAt wr wr.heap.size A2 n2 P)
        obtain ⟨N, hN⟩ : ∃ N, R.length = N := ⟨_, rfl⟩
        have HN2 := Lib.hid hN
        obtain ⟨D, hD⟩ : ∃ D, allD W H L P x = D := ⟨_, rfl⟩
        rw [hD] at X3 HAN HASC HLEN
        rw [hD]
        have HLE := Lib.hid (show w.heap.size + 2 ≤ wr.heap.size from X3.out.le)
        clear hax hay hu hy hR hRw hD
        go_wp2_with fail
        go_region_held3 (fun w' => w'.cell? ⟨w.heap.size, 0, none⟩ = some (.int .i64 W) ∧ w'.cell? ⟨w.heap.size, 1, none⟩ = some (.int .i64 H) ∧ w'.cell? ⟨w.heap.size, 2, none⟩ = some (.slice A n cap) ∧ w'.cell? ⟨w.heap.size + 1, 0, none⟩ = some (.slice A2 n2 c2))
          (first | exact ⟨a0, a1, a2, a3⟩ | exact ⟨d0, d1, d2, d3⟩)
          (first
            | (go_at_call 55; (with_reducible refine (HWK.out _ HI2.out HP2.out).mono ?_); rintro e w4 ⟨v, rfl, o4, b4⟩; have X4 := Lib.hid (X3.out.gb (gb_of_below (below_undrew3 b4) none)); obtain ⟨d0, d1, d2, d3⟩ := X4.out.cells; have O4 := Lib.hid (own_less o4 HLE.out); obtain ⟨AR, capR, rfl, har⟩ := own_form o4; have HAR := Lib.hid har; clear o4 b4 har; rw [hN])
            | fail)
        all_goals
          have X6 := Lib.hid (show DsS W H A A2 n cap n2 c2 w (insAll D (wayD R 0)) _ w4 from X4.out)
          rw [hN] at O4 HAR hRN
          clear d0 d1 d2 d3 hN X4 q1 q2 q3 q4 q5 q6 a0 a1 a2 a3
          go_wp2_with fail
          go_loopw [5, 9] (fun v i ws => ∃ j : Nat, i = .int .i64 ((j : Int) + 1) ∧ j ≤ N - 1 ∧ DsS W H A A2 n cap n2 c2 w (insAll D (wayD R j)) v ws ∧ ws.ownsRow (w.heap.size + 2) 3 1 (.slice AR N capR) N (intsV R)) (fun _ i _ => 17 - (intOf i).toNat)
          case atStart => exact ⟨0, rfl, Nat.zero_le _, X6.out, O4.out⟩
          case round =>
            obtain ⟨j, rfl, hj, hx, ho⟩ := hrel
            have X7 := Lib.hid hx
            have O7 := Lib.hid ho
            obtain ⟨gv, cv, rfl⟩ := hx.1
            clear hx ho
            by_cases hlt3 : j + 1 < N
            · have hl3 : (j : Int) + 1 < (N : Int) := by omega
              obtain ⟨gr, hgr⟩ := HAR.out (by omega)
              subst hgr
              obtain ⟨x1, hx1⟩ : ∃ z, R.getD j 0 = z := ⟨_, rfl⟩
              obtain ⟨x2, hx2⟩ : ∃ z, R.getD (j + 1) 0 = z := ⟨_, rfl⟩
              have c1 := ints_cell O7.out j x1 (by rw [← hx1, List.getD, List.getElem?_eq_getElem (by rw [HN2.out]; omega)]; rfl) HN2.out
              have c2' := ints_cell O7.out (j + 1) x2 (by rw [← hx2, List.getD, List.getElem?_eq_getElem (by rw [HN2.out]; omega)]; rfl) HN2.out
              have hwn := Lib.hid (ins_way (D := D) hx1 hx2)
              obtain ⟨E, hE⟩ : ∃ E, insAll D (wayD R j) = E := ⟨_, rfl⟩
              have hEA := HASC.out j
              have hEL := HLEN.out j (by omega)
              rw [hE] at X7 hwn hEA hEL
              rw [hE]
              have HA := Lib.hid (fun (w' : World) (h : w'.ownsRow (w.heap.size + 2) 36 2 (.slice (some ⟨gv, 0, none⟩) E.length cv) E.length (depV E)) (hb : w.heap.size + 2 ≤ w'.heap.size) => specPut (w.heap.size + 2) E.length gv cv E (x1, x2) hEA w' h hb (by omega))
              obtain ⟨m, hm⟩ : ∃ m : Nat, j + 1 = m := ⟨_, rfl⟩
              have hmi : (j : Int) + 1 = (m : Int) := by omega
              rw [hm] at c2'
              have j0 : (0 : Int) ≤ (j : Int) := by omega
              have j1 : (j : Int) < (N : Int) := by omega
              have j2 : (0 : Int) ≤ (m : Int) := by omega
              have j3 : (m : Int) < (N : Int) := by omega
              have e2 : IntKind.i64.wrap ((m : Int) - 1) = (j : Int) := by rw [IntWalk.i64_in _ (by omega)]; omega
              have HMM := Lib.hid (And.intro hm hlt3)
              rw [hmi]
              clear hx1 hx2 hl3 hlt3 hmi hm hE hEA hEL
              go_wp2_with fail
              go_region_held3 (fun w' => w'.cell? ⟨gr, j, none⟩ = some (.int .i64 x1) ∧ w'.cell? ⟨gr, m, none⟩ = some (.int .i64 x2))
                (first | exact ⟨c1, c2'⟩ | exact ⟨d1, d2⟩ | fail)
                (first
                  | (go_at_call 56; (with_reducible refine (HA.out _ ?_ ?_).mono ?_); exact own_none X7.out.2.1 (gb_drew (gb_refl _ _)); exact X7.out.le; rintro e w7 ⟨g7, q7, rfl, ho7, hg7⟩; have d1 := (gb_drP hg7).cell c1 (by simp); have d2 := (gb_drP hg7).cell c2' (by simp))
                  | fail)
              all_goals
                have X8 := Lib.hid (show DsS W H A A2 n cap n2 c2 w (insAll D (wayD R (j + 1))) _ w7 from ⟨⟨g7, q7, by rw [← hwn.out]⟩, by rw [← hwn.out]; exact ho7, X7.out.2.2.1, below_gb X7.out.2.2.2 X7.out.2.2.1 (gb_drP hg7)⟩)
                have O8 := Lib.hid (own_none O7.out (gb_drP hg7))
                clear ho7 hg7 d1 d2 c1 c2'
                go_wp2_with fail
                go_roundw
                case rel => exact ⟨j + 1, by have hm := HMM.out.1; go_num, by have := HMM.out.2; omega, X8.out, O8.out⟩
                case measure => have hm := HMM.out; simp [intOf]; omega
            · obtain rfl : j = N - 1 := by omega
              have hl3 : ¬ ((N - 1 : Nat) : Int) + 1 < (N : Int) := by omega
              have X8 := Lib.hid (show DsS W H A A2 n cap n2 c2 w (allD W H L P (x + 1)) _ _ from by
                rw [← HAN.out, HN2.out]
                exact X7.out)
              clear X7 O7
              go_wp2_with fail
              go_roundw
              case rel => exact ⟨x + 1, by go_num, by omega, X8.out⟩
              case measure => simp [intOf]; omega
      · have hxk : x = sqG W H := by have := HSQ.out; omega
        have HR := Lib.hid (show allD W H L P x = depG W H L P by rw [HF.out, hxk])
        clear hxk
        go_wp2_with fail
        go_ret
        exact X3.out.new HR.out
end Go.Proofs.Ytnpjadofhpaapaa
end

section
namespace Go.Proofs.Ytnpjadofhpaapaa
open Go.ChangeShapes Go.WideShapes Go.ChangeAt Go.RowKit
set_option linter.unusedVariables false

theorem boxi_blk {w w1 : World} {T : TypeId} {cs : Array Value} (h : (w.alloc (.cells cs T)).grownBy w1 none) : Blk w1 w.heap.size T cs := (Blk.new w T cs).grown h (by simp)
theorem boxi_gb {w w1 : World} {o : Obj} (h : (w.alloc o).grownBy w1 none) : w.grownBy w1 none := gb_trans (gb_alloc (gb_refl _ _) _) h

theorem implGridOk (W H : Int) (w : World) :
    Calls Try.prog 83 #[.agg #[.int .i64 W, .int .i64 H]] w (RetB (okG W H) w) := by
  by_cases h1 : W ≥ 1 <;> by_cases h2 : W ≤ 4 <;> by_cases h3 : H ≥ 1 <;> by_cases h4 : H ≤ 4
  all_goals first | (exfalso; omega) | skip
  all_goals
    go_enter Try.func83, Try.ntmps83
    go_wp2_with fail
    go_ret
    exact ⟨ret_bool (by simp [okG] <;> omega), gb_alloc (gb_refl _ _) _⟩

theorem implNodeCount (W H : Int) (w : World) :
    Calls Try.prog 68 #[.agg #[.int .i64 W, .int .i64 H]] w (RetI (countG W H) none w) := by
  cases hok : okG W H with
  | true =>
    obtain ⟨hW, hH⟩ := okG_cases hok
    have hm : wrap64 (W * H) = countG W H := by
      simp only [countG, hok, if_true]
      rcases hW with rfl | rfl | rfl | rfl <;> rcases hH with rfl | rfl | rfl | rfl <;> exact IntWalk.wrap64_in _ (by omega)
    have Hm := Lib.hid hm
    clear hW hH hm
    go_enter Try.func68, Try.ntmps68
    go_wp2_with fail
    refine (implGridOk W H _).mono ?_
    rintro e w1 ⟨rfl, hg⟩
    have hb := boxi_blk hg
    have c0 : w1.cell? ⟨w.heap.size, 0, none⟩ = some (.int .i64 W) := hb.cell 0
    have c1 : w1.cell? ⟨w.heap.size, 1, none⟩ = some (.int .i64 H) := hb.cell 1
    have Hg := Lib.hid hg
    clear hg hb
    rw [hok]
    go_wp2_with fail
    go_ret
    exact ⟨ret_int64 (by rw [← Hm.out]), boxi_gb Hg.out⟩
  | false =>
    go_enter Try.func68, Try.ntmps68
    go_wp2_with fail
    refine (implGridOk W H _).mono ?_
    rintro e w1 ⟨rfl, hg⟩
    rw [hok]
    go_wp2_with fail
    go_ret
    exact ⟨ret_int64 (by simp [countG, hok]), boxi_gb hg⟩

theorem implHasNode (W H n : Int) (w : World) :
    Calls Try.prog 46 #[.agg #[.int .i64 W, .int .i64 H], .int .i64 n] w (RetB (hasG W H n) w) := by
  obtain ⟨k, hk⟩ : ∃ k, countG W H = k := ⟨_, rfl⟩
  by_cases h0 : n ≥ 0
  · by_cases h1 : n < k
    all_goals
      go_enter Try.func46, Try.ntmps46
      go_wp2_with fail
      refine (implNodeCount W H _).mono ?_
      rintro e w1 ⟨rfl, hg⟩
      rw [hk]
      go_wp2_with fail
      go_ret
      exact ⟨ret_bool (by simp [hasG, hk]; omega), boxi_gb hg⟩
  · go_enter Try.func46, Try.ntmps46
    go_wp2_with fail
    go_ret
    exact ⟨ret_bool (by simp [hasG, hk]; omega), gb_alloc (gb_refl _ _) _⟩

def hasPlaceG (W H x y : Int) : Bool := decide (okG W H = true ∧ 0 ≤ x ∧ x < W ∧ 0 ≤ y ∧ y < H)

theorem implHasPlace (W H x y : Int) (w : World) :
    Calls Try.prog 74 #[.agg #[.int .i64 W, .int .i64 H], .int .i64 x, .int .i64 y] w (RetB (hasPlaceG W H x y) w) := by
  cases hok : okG W H with
  | true =>
    obtain ⟨p1, p2, p3, p4⟩ := okG_iff.1 hok
    by_cases h1 : x ≥ 0 <;> by_cases h2 : x < W <;> by_cases h3 : y ≥ 0 <;> by_cases h4 : y < H
    all_goals first | (exfalso; omega) | skip
    all_goals
      go_enter Try.func74, Try.ntmps74
      go_wp2_with fail
      refine (implGridOk W H _).mono ?_
      rintro e w1 ⟨rfl, hg⟩
      have hb := boxi_blk hg
      have c0 := hb.cell 0
      have c1 := hb.cell 1
      have Hg := Lib.hid hg
      clear hg hb
      simp at c0 c1
      rw [hok]
      go_wp2_with fail
      go_ret
      exact ⟨ret_bool (by
        unfold hasPlaceG
        first
        | exact (decide_eq_true ⟨hok, by omega⟩).symm
        | exact (decide_eq_false (fun h => by have := h.2; omega)).symm
        | exact decide_eq_decide.2 ⟨fun h => by omega, fun h => h.2.2.2.2⟩), boxi_gb Hg.out⟩
  | false =>
    go_enter Try.func74, Try.ntmps74
    go_wp2_with fail
    refine (implGridOk W H _).mono ?_
    rintro e w1 ⟨rfl, hg⟩
    rw [hok]
    go_wp2_with fail
    go_ret
    exact ⟨ret_bool (by simp [hasPlaceG, hok]), boxi_gb hg⟩

theorem implNodeAt (W H x y : Int) (w : World) :
    Calls Try.prog 48 #[.agg #[.int .i64 W, .int .i64 H], .int .i64 x, .int .i64 y] w (RetI (atG W H x y) none w) := by
  cases hp : hasPlaceG W H x y with
  | true =>
    obtain ⟨hok, hx0, hx1, hy0, hy1⟩ : okG W H = true ∧ 0 ≤ x ∧ x < W ∧ 0 ≤ y ∧ y < H := by simpa [hasPlaceG] using hp
    obtain ⟨hW, hH⟩ := okG_cases hok
    rcases hW with rfl | rfl | rfl | rfl
    all_goals
      go_enter Try.func48, Try.ntmps48
      go_wp2_with fail
      refine (implHasPlace _ H x y _).mono ?_
      rintro e w1 ⟨rfl, hg⟩
      have hb := boxi_blk hg
      have c0 := hb.cell 0
      have Hg := Lib.hid hg
      clear hg hb
      simp at c0
      rw [hp]
      go_wp2_with fail
      go_ret
      exact ⟨ret_int64 (by unfold atG; rw [if_pos ⟨hok, by omega⟩] <;> omega), boxi_gb Hg.out⟩
  | false =>
    go_enter Try.func48, Try.ntmps48
    go_wp2_with fail
    refine (implHasPlace W H x y _).mono ?_
    rintro e w1 ⟨rfl, hg⟩
    rw [hp]
    go_wp2_with fail
    go_ret
    exact ⟨ret_int64 (by unfold atG; rw [if_neg (by simpa [hasPlaceG] using hp)]), boxi_gb hg⟩
end Go.Proofs.Ytnpjadofhpaapaa
end

section
namespace Go.Proofs.Ytnpjadofhpaapaa
open Go.ChangeShapes Go.WideShapes Go.ChangeAt Go.RowKit
set_option linter.unusedVariables false

/-- Numbers as the cells of a block. -/
def cellsX (X : List Int) : Array Value := (intsV X).toArray
theorem cellsX_size (X : List Int) : (cellsX X).size = X.length := by simp [cellsX, intsV_length]
theorem cellsX_at {X : List Int} {i : Nat} {x : Int} (hi : i < X.length) (h : X.getD i 0 = x) : (cellsX X)[i]? = some (.int .i64 x) := by
  rw [List.getD_eq_getElem?_getD, List.getElem?_eq_getElem hi] at h
  simp only [Option.getD_some] at h
  simp [cellsX, intsV, List.getElem?_eq_getElem hi, h]
theorem cellsX_set (X : List Int) (i : Nat) (x : Int) : (cellsX X).setIfInBounds i (.int .i64 x) = cellsX (X.set i x) := by
  simp [cellsX, intsV_set]
theorem cellsX_one (X : List Int) : (cellsX X).all (·.oneCell') = true := by
  rw [Array.all_eq_true_iff_forall_mem]
  intro v hv
  simp only [cellsX, intsV, List.mem_toArray, List.mem_map] at hv
  obtain ⟨x, _, rfl⟩ := hv
  rfl
theorem zero_cells : Try.zeroCells99 = cellsX zerosX := by kernel_rfl
theorem square_info : (Try.prog.info? 99).map (·.size) = some 256 := by kernel_rfl

section
variable {w : World} {g : Nat} {X Y : List Int}
theorem gb_setRow {w : World} {g : Nat} {old cs : Array Value} {t : TypeId} (h : Blk w g t old) : Blk (w.setRow g cs) g t cs ∧ w.grownBy (w.setRow g cs) (some g) := by
  refine ⟨setRow_heap w g old cs t (0, 0) h, rfl, rfl, rfl, ?_, fun i hi hne => ?_⟩
  · simp [World.setRow]
  · have hne' : g ≠ i := fun e => hne (by rw [e])
    simp [World.setRow, Array.getElem?_modify, hne']
theorem load_square (hb : Blk w g 99 (cellsX X)) (hl : X.length = 256) : (loadVar 99 ⟨g, 0, none⟩).run Try.prog w = .ok (.agg (cellsX X)) w :=
  run_loadVar_row w g _ _ (cellsX X) (0, 0) _ hb Try.underlying99 rfl (by rw [cellsX_size, hl]; exact square_info)
theorem store_square (hb : Blk w g 99 (cellsX X)) (hl : X.length = 256) (hm : Y.length = 256) : (storeVar 99 ⟨g, 0, none⟩ (.agg (cellsX Y))).run Try.prog w = .ok () (w.setRow g (cellsX Y)) :=
  run_storeVar_row w g _ _ (cellsX X) (cellsX Y) hb (by rw [cellsX_size, hm]; exact square_info) (by rw [cellsX_size, cellsX_size, hl, hm]) (cellsX_one Y)
end

theorem wpList_loadX {ops : Array Oper} {rest : List Oper} {op : Oper} {a : Act} {w : World} {Q : Exit → Act → World → Prop} (hgd : op.guard = none) (x : Operand) (ho : op.op = .load 99 x)
    (g : Nat) (hx : a.eval x = .pointer (some ⟨g, 0, none⟩)) (X : List Int) (hb : Blk w g 99 (cellsX X)) (hl : X.length = 256)
    (h : wpList Try.prog ops Q rest (a.put op.dst (.agg (cellsX X))) w) : wpList Try.prog ops Q (op :: rest) a w :=
  wpList_plain hgd fun _ hK => by
    unfold Oper.wp execOp
    simp only [ho, hx, Instr.loadAt, Instr.sureAddr, Sem.run_bind, Sem.run_pure, Result.andThen_ok, load_square hb hl]
    exact hK _ _ h
theorem wpList_storeX {ops : Array Oper} {rest : List Oper} {op : Oper} {a : Act} {w : World} {Q : Exit → Act → World → Prop} (hgd : op.guard = none) (x y : Operand) (ho : op.op = .store 99 x y)
    (g : Nat) (X Y : List Int) (hx : a.eval x = .pointer (some ⟨g, 0, none⟩)) (hy : a.eval y = .agg (cellsX Y)) (hb : Blk w g 99 (cellsX X)) (hl : X.length = 256) (hm : Y.length = 256)
    (h : ∀ w', Blk w' g 99 (cellsX Y) → w.grownBy w' (some g) → wpList Try.prog ops Q rest (a.put op.dst undef) w') : wpList Try.prog ops Q (op :: rest) a w :=
  wpList_plain hgd fun _ hK => by
    unfold Oper.wp execOp
    simp only [ho, hx, hy, Instr.storeAt, Instr.sureAddr, Sem.run_bind, Sem.run_pure, Result.andThen_ok, store_square hb hl hm]
    exact hK _ _ (h _ (gb_setRow hb).1 (gb_setRow hb).2)

/-- What is written lies in a block of the call's own. -/
theorem gb_new {a b c : World} {g : Nat} (h : a.grownBy b none) (k : b.grownBy c (some g)) (hg : a.heap.size ≤ g) : a.grownBy c none :=
  ⟨k.os.trans h.os, k.tape.trans h.tape, k.output.trans h.output, Nat.le_trans h.size k.size, fun i hi hne => (k.block i (Nat.lt_of_lt_of_le hi h.size) (fun e => by cases e; omega)).trans (h.block i hi hne)⟩

/-- A square and whether there is one. -/
def RetX (X : List Int) (b : Bool) (w : World) (e : Ending) (w' : World) : Prop := e = .returned (.tuple #[.agg (cellsX X), .bool b]) ∧ w.grownBy w' none
end Go.Proofs.Ytnpjadofhpaapaa
end

section
namespace Go.Proofs.Ytnpjadofhpaapaa
open Go.ChangeShapes Go.WideShapes Go.ChangeAt Go.RowKit
set_option linter.unusedVariables false

/-- A node's column and row. -/
theorem implPlace (W H n x y : Int) (hh : hasG W H n = true) (hx : n % W = x) (hy : n / W = y) (w : World) :
    Calls Try.prog 47 #[.agg #[.int .i64 W, .int .i64 H], .int .i64 n] w fun e w' => e = .returned (.tuple #[.int .i64 x, .int .i64 y]) ∧ w.grownBy w' none := by
  obtain ⟨hW, hH⟩ := okG_cases (hasG_ok hh).1
  obtain ⟨h0, h1⟩ := hasG_le hh
  have hq := row_wrap h0 h1 hW
  have da : n.tdiv W = y := by rw [Int.tdiv_eq_ediv_of_nonneg h0]; exact hy
  have ta : n.tmod W = x := by rw [Int.tmod_eq_emod_of_nonneg h0]; exact hx
  obtain ⟨a0, a1, a2, a3, a4⟩ := place_of hh
  rw [hx] at a0 a1
  rw [hy] at a2 a3
  have hWn : W ≠ 0 := by omega
  have hW1 : 1 ≤ W := by omega
  have hW2 : W ≤ 4 := by omega
  have hH2 : H ≤ 4 := by omega
  clear hW hH hx hy hq a4 h0
  go_enter Try.func47, Try.ntmps47
  go_wp2_with fail
  go_quiet (fail)
  go_wp2_with fail
  go_ret2
  exact ⟨rfl, gb_drewN (gb_alloc (gb_refl _ _) _) _⟩

theorem gb_undrew {a b : World} {row : Option Nat} (h : a.drew.grownBy b row) : a.grownBy b row := ⟨h.os, h.tape, h.output, h.size, h.block⟩
end Go.Proofs.Ytnpjadofhpaapaa
end

section
namespace Go.Proofs.Ytnpjadofhpaapaa
open Go.ChangeShapes Go.WideShapes Go.ChangeAt Go.RowKit
set_option linter.unusedVariables false

theorem implNodeAtV (W H x y n : Int) (h : atG W H x y = n) (w : World) :
    Calls Try.prog 48 #[.agg #[.int .i64 W, .int .i64 H], .int .i64 x, .int .i64 y] w (RetI n none w) := h ▸ implNodeAt W H x y w

theorem implNextNode (W H n p : Int) (w : World) :
    Calls Try.prog 13 #[.agg #[.int .i64 W, .int .i64 H], .int .i64 n, .int .i64 p] w (RetI (nextG W H n p) none w) := by
  cases hh : hasG W H n with
  | true =>
    obtain ⟨hW, hH⟩ := okG_cases (hasG_ok hh).1
    obtain ⟨a0, a1, a2, a3, a4⟩ := place_of hh
    have hN : nextG W H n p = (if p = 0 then atG W H (n % W) (n / W - 1) else if p = 1 then atG W H (n % W + 1) (n / W) else if p = 2 then atG W H (n % W) (n / W + 1) else if p = 3 then atG W H (n % W - 1) (n / W) else if p = 4 then n else -1) := by simp [nextG, hh]
    obtain ⟨x, hx⟩ : ∃ x, n % W = x := ⟨_, rfl⟩
    obtain ⟨y, hy⟩ : ∃ y, n / W = y := ⟨_, rfl⟩
    rw [hx, hy] at hN
    rw [hx] at a0 a1
    rw [hy] at a2 a3
    have x1 : x ≤ 4 := by omega
    have y1 : y ≤ 4 := by omega
    obtain ⟨r, hr⟩ : ∃ r, nextG W H n p = r := ⟨_, rfl⟩
    rw [hr] at hN ⊢
    have HP := Lib.hid (fun w => implPlace W H n x y hh hx hy w)
    clear a1 a3 a4 hW hH hr hx hy
    by_cases p0 : p = 0
    · subst p0
      simp at hN
      go_enter Try.func13, Try.ntmps13
      go_wp2_with fail
      refine (implHasNode W H n _).mono ?_
      rintro e w1 ⟨rfl, hg⟩
      have hb := boxi_blk hg
      have c0 := hb.cell 0
      have c1 := hb.cell 1
      have Hg := Lib.hid (boxi_gb hg)
      clear hg hb
      simp at c0 c1
      rw [hh]
      go_wp2_with fail
      refine (HP.out _).mono ?_
      rintro e w2 ⟨rfl, hg2⟩
      have d0 := hg2.cell c0 (by simp)
      have d1 := hg2.cell c1 (by simp)
      have Hg2 := Lib.hid (gb_trans Hg.out hg2)
      clear hg2 c0 c1
      go_wp2_with fail
      refine (implNodeAtV W H x (y - 1) r hN.symm _).mono ?_
      rintro e w3 ⟨rfl, hg3⟩
      have Hg3 := Lib.hid (gb_trans Hg2.out hg3)
      clear hg3
      go_wp2_with fail
      go_ret
      exact ⟨ret_int64 hN.symm, Hg3.out⟩
    by_cases p1 : p = 1
    · subst p1
      simp at hN
      go_enter Try.func13, Try.ntmps13
      go_wp2_with fail
      refine (implHasNode W H n _).mono ?_
      rintro e w1 ⟨rfl, hg⟩
      have hb := boxi_blk hg
      have c0 := hb.cell 0
      have c1 := hb.cell 1
      have Hg := Lib.hid (boxi_gb hg)
      clear hg hb
      simp at c0 c1
      rw [hh]
      go_wp2_with fail
      refine (HP.out _).mono ?_
      rintro e w2 ⟨rfl, hg2⟩
      have d0 := hg2.cell c0 (by simp)
      have d1 := hg2.cell c1 (by simp)
      have Hg2 := Lib.hid (gb_trans Hg.out hg2)
      clear hg2 c0 c1
      go_wp2_with fail
      refine (implNodeAtV W H (x + 1) y r hN.symm _).mono ?_
      rintro e w3 ⟨rfl, hg3⟩
      have Hg3 := Lib.hid (gb_trans Hg2.out hg3)
      clear hg3
      go_wp2_with fail
      go_ret
      exact ⟨ret_int64 hN.symm, Hg3.out⟩
    by_cases p2 : p = 2
    · subst p2
      simp at hN
      go_enter Try.func13, Try.ntmps13
      go_wp2_with fail
      refine (implHasNode W H n _).mono ?_
      rintro e w1 ⟨rfl, hg⟩
      have hb := boxi_blk hg
      have c0 := hb.cell 0
      have c1 := hb.cell 1
      have Hg := Lib.hid (boxi_gb hg)
      clear hg hb
      simp at c0 c1
      rw [hh]
      go_wp2_with fail
      refine (HP.out _).mono ?_
      rintro e w2 ⟨rfl, hg2⟩
      have d0 := hg2.cell c0 (by simp)
      have d1 := hg2.cell c1 (by simp)
      have Hg2 := Lib.hid (gb_trans Hg.out hg2)
      clear hg2 c0 c1
      go_wp2_with fail
      refine (implNodeAtV W H x (y + 1) r hN.symm _).mono ?_
      rintro e w3 ⟨rfl, hg3⟩
      have Hg3 := Lib.hid (gb_trans Hg2.out hg3)
      clear hg3
      go_wp2_with fail
      go_ret
      exact ⟨ret_int64 hN.symm, Hg3.out⟩
    by_cases p3 : p = 3
    · subst p3
      simp at hN
      go_enter Try.func13, Try.ntmps13
      go_wp2_with fail
      refine (implHasNode W H n _).mono ?_
      rintro e w1 ⟨rfl, hg⟩
      have hb := boxi_blk hg
      have c0 := hb.cell 0
      have c1 := hb.cell 1
      have Hg := Lib.hid (boxi_gb hg)
      clear hg hb
      simp at c0 c1
      rw [hh]
      go_wp2_with fail
      refine (HP.out _).mono ?_
      rintro e w2 ⟨rfl, hg2⟩
      have d0 := hg2.cell c0 (by simp)
      have d1 := hg2.cell c1 (by simp)
      have Hg2 := Lib.hid (gb_trans Hg.out hg2)
      clear hg2 c0 c1
      go_wp2_with fail
      refine (implNodeAtV W H (x - 1) y r hN.symm _).mono ?_
      rintro e w3 ⟨rfl, hg3⟩
      have Hg3 := Lib.hid (gb_trans Hg2.out hg3)
      clear hg3
      go_wp2_with fail
      go_ret
      exact ⟨ret_int64 hN.symm, Hg3.out⟩
    by_cases p4 : p = 4
    · subst p4
      simp at hN
      go_enter Try.func13, Try.ntmps13
      go_wp2_with fail
      refine (implHasNode W H n _).mono ?_
      rintro e w1 ⟨rfl, hg⟩
      have hb := boxi_blk hg
      have c0 := hb.cell 0
      have c1 := hb.cell 1
      have Hg := Lib.hid (boxi_gb hg)
      clear hg hb
      simp at c0 c1
      rw [hh]
      go_wp2_with fail
      refine (HP.out _).mono ?_
      rintro e w2 ⟨rfl, hg2⟩
      have d0 := hg2.cell c0 (by simp)
      have d1 := hg2.cell c1 (by simp)
      have Hg2 := Lib.hid (gb_trans Hg.out hg2)
      clear hg2 c0 c1
      go_wp2_with fail
      go_ret
      exact ⟨ret_int64 hN.symm, Hg2.out⟩
    simp [p0, p1, p2, p3, p4] at hN
    have q0 : (p == 0) = false := by simpa using p0
    have q1 : (p == 1) = false := by simpa using p1
    have q2 : (p == 2) = false := by simpa using p2
    have q3 : (p == 3) = false := by simpa using p3
    have q4 : (p == 4) = false := by simpa using p4
    clear p0 p1 p2 p3 p4
    go_enter Try.func13, Try.ntmps13
    go_wp2_with fail
    refine (implHasNode W H n _).mono ?_
    rintro e w1 ⟨rfl, hg⟩
    have hb := boxi_blk hg
    have c0 := hb.cell 0
    have c1 := hb.cell 1
    have Hg := Lib.hid (boxi_gb hg)
    clear hg hb
    simp at c0 c1
    rw [hh]
    go_wp2_with fail
    refine (HP.out _).mono ?_
    rintro e w2 ⟨rfl, hg2⟩
    have d0 := hg2.cell c0 (by simp)
    have d1 := hg2.cell c1 (by simp)
    have Hg2 := Lib.hid (gb_trans Hg.out hg2)
    clear hg2 c0 c1
    go_wp2_with fail
    go_ret
    exact ⟨ret_int64 hN.symm, Hg2.out⟩
  | false =>
    go_enter Try.func13, Try.ntmps13
    go_wp2_with fail
    refine (implHasNode W H n _).mono ?_
    rintro e w1 ⟨rfl, hg⟩
    rw [hh]
    go_wp2_with fail
    go_ret
    exact ⟨ret_int64 (by simp [nextG, hh]), boxi_gb hg⟩

theorem implNextNodeV (W H n p r : Int) (h : nextG W H n p = r) (w : World) :
    Calls Try.prog 13 #[.agg #[.int .i64 W, .int .i64 H], .int .i64 n, .int .i64 p] w (RetI r none w) := h ▸ implNextNode W H n p w

/-- Where a channel leads, by the rounding of the language. -/
def endG (W H c : Int) : Int := nextG W H (c.tdiv 4) (c.tmod 4)
theorem leads_end (W H c : Int) : leadsG W H c = decide (0 ≤ endG W H c) := by
  unfold leadsG endG
  by_cases h0 : 0 ≤ c
  · rw [Int.tdiv_eq_ediv_of_nonneg h0, Int.tmod_eq_emod_of_nonneg h0]
    refine decide_eq_decide.2 ⟨fun h => h.2.2, fun h => ⟨h0, ?_, h⟩⟩
    cases hh : hasG W H (c / 4) with
    | true => have := (hasG_iff.1 hh).2; omega
    | false => simp [nextG, hh] at h
  · refine decide_eq_decide.2 ⟨fun h => absurd h.1 h0, fun h => ?_⟩
    exfalso
    cases hh : hasG W H (c.tdiv 4) with
    | true =>
      have h1 := (hasG_iff.1 hh).1
      have h2 : c.tmod 4 < 0 := by
        have e := Int.mul_tdiv_add_tmod c 4
        omega
      rw [nextG_has (by omega)] at h
      omega
    | false => simp [nextG, hh] at h
theorem implEnd (W H c r : Int) (hc : (Lit.int .i64 c).wf = true) (hr : endG W H c = r) (w : World) :
    Calls Try.prog 85 #[.agg #[.int .i64 W, .int .i64 H], .int .i64 c] w (RetI r none w) := by
  have hb := bounds_i64 hc
  have hm : c.tmod 4 < 4 ∧ -4 < c.tmod 4 := ⟨Int.tmod_lt_of_pos _ (by omega), by have := Int.lt_tmod_of_pos c (b := 4) (by omega); omega⟩
  have hq : wrap64 (c.tdiv 4) = c.tdiv 4 := IntWalk.wrap64_in _ (by have := Int.mul_tdiv_add_tmod c 4; omega)
  clear hm
  have HC := Lib.hid (fun w => implNextNodeV W H (c.tdiv 4) (c.tmod 4) r hr w)
  clear hc hr hb
  go_enter Try.func85, Try.ntmps85
  go_wp2_with fail
  simp only [hq]
  refine (HC.out _).mono ?_
  rintro e w1 ⟨rfl, hg⟩
  have Hg := Lib.hid (boxi_gb hg)
  clear hg
  go_wp2_with fail
  go_ret
  exact ⟨rfl, Hg.out⟩
end Go.Proofs.Ytnpjadofhpaapaa
end

section
namespace Go.Proofs.Ytnpjadofhpaapaa
open Go.ChangeShapes Go.WideShapes Go.ChangeAt Go.RowKit
set_option linter.unusedVariables false

theorem implMeshOk (W H : Int) (A : Option Addr) (n cap : Nat) (L : List Int) (hL : WfL L) (w : World) (h : IntAt w w.heap.size A n L) (hn : n ≤ 1000000000) :
    Calls Try.prog 82 #[.agg #[.int .i64 W, .int .i64 H, .slice A n cap]] w (RetB (meshG W H L) w) := by
  have hl := h.1
  have HI := Lib.hid h
  have HW := Lib.hid hL
  clear h hL
  cases hok : okG W H with
  | false =>
    go_enter Try.func82, Try.ntmps82
    go_wp2_with fail
    refine (implGridOk W H _).mono ?_
    rintro e w1 ⟨rfl, hg⟩
    rw [hok]
    go_wp2_with fail
    go_ret
    exact ⟨ret_bool (meshG_bad hok).symm, boxi_gb hg⟩
  | true =>
    go_enter Try.func82, Try.ntmps82
    go_wp2_with fail
    refine (implGridOk W H _).mono ?_
    rintro e w1 ⟨rfl, hg⟩
    have HM := Lib.hid (show MeshAt W H L A n cap w 0 w1 from ⟨goodTo_zero W H L, hg⟩)
    have hbk := boxi_blk hg
    have a2 : w1.cell? ⟨w.heap.size, 2, none⟩ = some (.slice A n cap) := hbk.cell 2
    clear hg hbk
    rw [hok]
    go_wp2_with fail
    clear a2
    go_loopw [12] (fun i wr => ∃ k : Nat, i = .int .i64 (k : Int) ∧ k ≤ n ∧ MeshAt W H L A n cap w k wr) (fun i _ => n - (intOf i).toNat)
    case atStart => exact ⟨0, rfl, Nat.zero_le _, HM.out⟩
    case round =>
      obtain ⟨k, rfl, hk, hgood, hg⟩ := hrel
      have HGo := Lib.hid hgood
      have HG := Lib.hid hg
      have hbk := boxi_blk hg
      have HBK := Lib.hid hbk
      have a0 : wr.cell? ⟨w.heap.size, 0, none⟩ = some (.int .i64 W) := hbk.cell 0
      have a1 : wr.cell? ⟨w.heap.size, 1, none⟩ = some (.int .i64 H) := hbk.cell 1
      have a2 : wr.cell? ⟨w.heap.size, 2, none⟩ = some (.slice A n cap) := hbk.cell 2
      have hia := HI.out.none (Nat.le_refl _) (boxi_gb hg)
      have HIA := Lib.hid hia
      clear hg hgood hbk
      by_cases hlt : k < n
      · obtain ⟨b, off, rfl, hb, hc⟩ := hia.at k hlt
        obtain ⟨x, hx⟩ : ∃ x, L.getD k 0 = x := ⟨_, rfl⟩
        rw [hx] at hc
        obtain ⟨r, hr⟩ : ∃ r, endG W H x = r := ⟨_, rfl⟩
        have HE := Lib.hid (fun w => implEnd W H x r (HW.out.get (by omega) hx) hr w)
        have hld := leads_end W H x
        rw [hr] at hld
        clear hia hr
        by_cases h0 : r < 0
        · have hbad := meshG_no (L := L) (i := k) (by omega) (goodAt_lead hx (by rw [hld]; exact decide_eq_false (by omega)))
          have HBad := Lib.hid hbad
          clear hx hld hbad
          go_wp2_with fail
          refine (HE.out _).mono ?_
          rintro e w2 ⟨rfl, hg2⟩
          have HG2 := Lib.hid (gb_trans (boxi_gb HG.out) hg2)
          clear hg2
          go_wp2_with fail
          go_ret
          exact ⟨ret_bool HBad.out.symm, HG2.out⟩
        · have hldt : leadsG W H x = true := by rw [hld]; exact decide_eq_true (by omega)
          clear hld
          cases k with
          | zero =>
            have HNx := Lib.hid (goodTo_succ HGo.out (goodAt_first hx hldt))
            have hc' : wr.cell? ⟨b, off, none⟩ = some (.int .i64 x) := hc
            clear hx hldt hc
            go_wp2_with fail
            refine (HE.out _).mono ?_
            rintro e w2 ⟨rfl, hg2⟩
            have HG2 := Lib.hid (gb_trans HG.out hg2)
            clear hg2
            go_wp2_with fail
            go_roundw
            case rel => exact ⟨1, by go_num, by omega, HNx.out, HG2.out⟩
            case measure => simp [intOf] <;> omega
          | succ j =>
            obtain ⟨b', off', hbe, _, hc2⟩ := HIA.out.at j (by omega)
            obtain ⟨rfl, rfl⟩ : b = b' ∧ off = off' := by injection hbe with h1; injection h1 with h2 h3; exact ⟨h2, h3⟩
            obtain ⟨y, hy⟩ : ∃ y, L.getD j 0 = y := ⟨_, rfl⟩
            rw [hy] at hc2
            have hga := goodAt_next hx hy hldt
            have HGA := Lib.hid hga
            clear hx hy hldt hga hbe
            go_wp2_with fail
            refine (HE.out _).mono ?_
            rintro e w2 ⟨rfl, hg2⟩
            have dc := hg2.cell hc (by simp)
            have dc2 := hg2.cell hc2 (by simp)
            have d2 := hg2.cell a2 (by simp)
            have HG2 := Lib.hid (gb_trans HG.out hg2)
            clear hg2 hc hc2 a0 a1 a2
            by_cases hyx : y < x
            · have hge : decide (y ≥ x) = false := decide_eq_false (by omega)
              have HNx := Lib.hid (goodTo_succ HGo.out (HGA.out.trans (decide_eq_true hyx)))
              clear hyx
              go_wp2_with fail
              go_roundw
              case rel => exact ⟨j + 2, by go_num, by omega, HNx.out, HG2.out⟩
              case measure => simp [intOf] <;> omega
            · have hge : decide (y ≥ x) = true := decide_eq_true (by omega)
              have HBad := Lib.hid (meshG_no (i := j + 1) (by omega) (HGA.out.trans (decide_eq_false hyx)))
              clear hyx
              go_wp2_with fail
              go_ret
              exact ⟨ret_bool HBad.out.symm, boxi_gb HG2.out⟩
      · obtain rfl : k = n := by omega
        clear hia
        go_wp2_with fail
        go_ret
        exact ⟨ret_bool (meshG_yes hok (by rw [hl]; exact HGo.out)).symm, boxi_gb HG.out⟩

theorem implMeshOkV (W H : Int) (A : Option Addr) (n cap : Nat) (L : List Int) (b : Bool) (hb : meshG W H L = b) (hL : WfL L) (w : World) (h : IntAt w w.heap.size A n L) (hn : n ≤ 1000000000) :
    Calls Try.prog 82 #[.agg #[.int .i64 W, .int .i64 H, .slice A n cap]] w (RetB b w) := hb ▸ implMeshOk W H A n cap L hL w h hn
end Go.Proofs.Ytnpjadofhpaapaa
end

section
namespace Go.Proofs.Ytnpjadofhpaapaa
open Go.ChangeShapes Go.WideShapes Go.ChangeAt Go.RowKit
set_option linter.unusedVariables false

/-- A mesh, a table and a square as blocks. -/
def thrB (W H : Int) (A A2 : Option Addr) (n cap n2 c2 : Nat) (w : World) : World :=
  ((w.alloc (.cells (meshC W H A n cap) 28)).alloc (.cells #[.slice A2 n2 c2] 30)).alloc (.cells (cellsX zerosX) 99)
section
variable {W H : Int} {A A2 : Option Addr} {n cap n2 c2 : Nat} {w wr : World}
theorem thrB_size : (thrB W H A A2 n cap n2 c2 w).heap.size = w.heap.size + 3 := by unfold thrB; rw [alloc_size, alloc_size, alloc_size]
theorem thrB_gb : w.grownBy (thrB W H A A2 n cap n2 c2 w) none := gb_alloc (gb_alloc (gb_alloc (gb_refl _ _) _) _) _
theorem thrB_mesh : Blk (thrB W H A A2 n cap n2 c2 w) w.heap.size 28 (meshC W H A n cap) := ((Blk.new w 28 (meshC W H A n cap)).alloc _).alloc _
theorem thrB_table : Blk (thrB W H A A2 n cap n2 c2 w) (w.heap.size + 1) 30 #[.slice A2 n2 c2] := by
  have := Blk.new (w.alloc (.cells (meshC W H A n cap) 28)) 30 #[.slice A2 n2 c2]
  rw [alloc_size] at this
  exact this.alloc _
theorem thrB_square : Blk (thrB W H A A2 n cap n2 c2 w) (w.heap.size + 2) 99 (cellsX (zerosX)) := by
  have := Blk.new ((w.alloc (.cells (meshC W H A n cap) 28)).alloc (.cells #[.slice A2 n2 c2] 30)) 99 (cellsX zerosX)
  rw [alloc_size, alloc_size] at this
  exact this
end

theorem implPortsNo (W H : Int) (A A2 : Option Addr) (n cap n2 c2 : Nat) (L P : List Int) (hL : WfL L) (w : World) (h : IntAt w w.heap.size A n L) (h2 : IntAt w w.heap.size A2 n2 P) (hn : n ≤ 1000000000) (hn2 : n2 ≤ 1000000000)
    (hs : sizedG W H L P = false) :
    Calls Try.prog 67 #[.agg #[.int .i64 W, .int .i64 H, .slice A n cap], .agg #[.slice A2 n2 c2]] w (RetX (zerosX) false w) := by
  have hp := h2.1
  have HI := Lib.hid (h.none (Nat.le_refl _) (thrB_gb (W := W) (H := H) (A := A) (A2 := A2) (n := n) (cap := cap) (n2 := n2) (c2 := c2)))
  clear h h2
  obtain ⟨k, hk⟩ : ∃ k, countG W H = k := ⟨_, rfl⟩
  obtain ⟨hk0, hk1⟩ := countG_le W H
  rw [hk] at hk0 hk1
  have HN := Lib.hid (fun w => show Calls Try.prog 68 #[.agg #[.int .i64 W, .int .i64 H]] w (RetI k none w) from hk ▸ implNodeCount W H w)
  have TM := Lib.hid (thrB_mesh (W := W) (H := H) (A := A) (A2 := A2) (n := n) (cap := cap) (n2 := n2) (c2 := c2) (w := w))
  have TT := Lib.hid (thrB_table (W := W) (H := H) (A := A) (A2 := A2) (n := n) (cap := cap) (n2 := n2) (c2 := c2) (w := w))
  have TS := Lib.hid (thrB_square (W := W) (H := H) (A := A) (A2 := A2) (n := n) (cap := cap) (n2 := n2) (c2 := c2) (w := w))
  have TG := Lib.hid (thrB_gb (W := W) (H := H) (A := A) (A2 := A2) (n := n) (cap := cap) (n2 := n2) (c2 := c2) (w := w))
  have TZ := Lib.hid (thrB_size (W := W) (H := H) (A := A) (A2 := A2) (n := n) (cap := cap) (n2 := n2) (c2 := c2) (w := w))
  cases hm : meshG W H L with
  | false =>
    have HK := Lib.hid (fun w h => implMeshOkV W H A n cap L false hm hL w h hn)
    clear hm hL hs hk
    go_enter Try.func67, Try.ntmps67
    go_wp2_with fail
    refine (HN.out _).mono ?_
    rintro e w1 ⟨rfl, hg⟩
    rw [zero_cells] at hg
    have hg1 : (thrB W H A A2 n cap n2 c2 w).grownBy w1 none := hg
    have hbk := TM.out.grown hg1 (by simp)
    have a0 : w1.cell? ⟨w.heap.size, 0, none⟩ = some (.int .i64 W) := hbk.cell 0
    have a1 : w1.cell? ⟨w.heap.size, 1, none⟩ = some (.int .i64 H) := hbk.cell 1
    have a2 : w1.cell? ⟨w.heap.size, 2, none⟩ = some (.slice A n cap) := hbk.cell 2
    have hi := (HI.out.none (by rw [TZ.out]; omega) hg1).more (B' := w1.heap.size) (gb_trans TG.out hg1).size
    have HG := Lib.hid hg1
    clear hg hg1 hbk
    go_wp2_with fail
    refine (HK.out _ hi).mono ?_
    rintro e w2 ⟨rfl, hg2⟩
    have HG2 := Lib.hid (gb_trans HG.out hg2)
    have HSq := Lib.hid (TS.out.grown HG2.out (by simp))
    clear hg2 hi a0 a1 a2
    go_wp2_with (refine wpList_storeX rfl _ _ rfl (w.heap.size + 1 + 1) zerosX zerosX rfl (congrArg Value.agg zero_cells) HSq.out zerosX_length zerosX_length ?_; intro w3 hb3 hg3; have HB3 := Lib.hid hb3; have HG3 := Lib.hid hg3; clear hb3 hg3)
    refine bodyPost_ret (v := .tuple #[.agg (cellsX zerosX), .bool false]) ?_ rfl ⟨rfl, gb_new (gb_trans TG.out HG2.out) HG3.out (by omega)⟩
    rw [results_cell_tmp rfl]
    simp [asAddr, Result.andThen, load_square HB3.out zerosX_length]
  | true =>
    have hsq : ¬ (n2 : Int) = k * k := fun e => by
      have : sizedG W H L P = true := by simp [sizedG, hm, hk, hp, e]
      rw [hs] at this; cases this
    have hkk0 : 0 ≤ k * k := Int.mul_nonneg hk0 hk0
    have hkk1 : k * k ≤ 256 := Int.le_trans (Int.mul_le_mul hk1 hk1 hk0 (by omega)) (by omega)
    obtain ⟨q, hq⟩ : ∃ q, k * k = q := ⟨_, rfl⟩
    rw [hq] at hkk0 hkk1 hsq
    have e1 : wrap64 (k * k) = q := by rw [hq]; exact IntWalk.wrap64_in _ (by omega)
    have hb : ((n2 : Int) != q) = true := by simpa using hsq
    have HK := Lib.hid (fun w h => implMeshOkV W H A n cap L true hm hL w h hn)
    clear hm hL hs hk hq
    go_enter Try.func67, Try.ntmps67
    go_wp2_with fail
    refine (HN.out _).mono ?_
    rintro e w1 ⟨rfl, hg⟩
    rw [zero_cells] at hg
    have hg1 : (thrB W H A A2 n cap n2 c2 w).grownBy w1 none := hg
    have hbk := TM.out.grown hg1 (by simp)
    have a0 : w1.cell? ⟨w.heap.size, 0, none⟩ = some (.int .i64 W) := hbk.cell 0
    have a1 : w1.cell? ⟨w.heap.size, 1, none⟩ = some (.int .i64 H) := hbk.cell 1
    have a2 : w1.cell? ⟨w.heap.size, 2, none⟩ = some (.slice A n cap) := hbk.cell 2
    have hi := (HI.out.none (by rw [TZ.out]; omega) hg1).more (B' := w1.heap.size) (gb_trans TG.out hg1).size
    have HG := Lib.hid hg1
    clear hg hg1 hbk
    go_wp2_with fail
    refine (HK.out _ hi).mono ?_
    rintro e w2 ⟨rfl, hg2⟩
    have HG2 := Lib.hid (gb_trans HG.out hg2)
    have HSq := Lib.hid (TS.out.grown HG2.out (by simp))
    have b0 : w2.cell? ⟨w.heap.size + 1, 0, none⟩ = some (.slice A2 n2 c2) := (TT.out.grown HG2.out (by simp)).cell 0
    clear hg2 hi a0 a1 a2
    go_wp2_with (refine wpList_storeX rfl _ _ rfl (w.heap.size + 1 + 1) zerosX zerosX rfl (congrArg Value.agg zero_cells) HSq.out zerosX_length zerosX_length ?_; intro w3 hb3 hg3; have HB3 := Lib.hid hb3; have HG3 := Lib.hid hg3; clear hb3 hg3)
    refine bodyPost_ret (v := .tuple #[.agg (cellsX zerosX), .bool false]) ?_ rfl ⟨rfl, gb_new (gb_trans TG.out HG2.out) HG3.out (by omega)⟩
    rw [results_cell_tmp rfl]
    simp [asAddr, Result.andThen, load_square HB3.out zerosX_length]

/-- The square after j entries, in a block of the call's own. -/
def PortsAt (W H : Int) (A A2 : Option Addr) (n cap n2 c2 : Nat) (P : List Int) (w : World) (g j : Nat) (wr : World) : Prop :=
  Blk wr g 99 (cellsX (portsX W H P j)) ∧ (thrB W H A A2 n cap n2 c2 w).grownBy wr none

theorem implPortsYes (W H : Int) (A A2 : Option Addr) (n cap n2 c2 : Nat) (L P : List Int) (hL : WfL L) (w : World) (h : IntAt w w.heap.size A n L) (h2 : IntAt w w.heap.size A2 n2 P) (hn : n ≤ 1000000000) (hn2 : n2 ≤ 1000000000)
    (hs : sizedG W H L P = true) :
    Calls Try.prog 67 #[.agg #[.int .i64 W, .int .i64 H, .slice A n cap], .agg #[.slice A2 n2 c2]] w (RetX (portsX W H P P.length) true w) := by
  have hp := h2.1
  have HI := Lib.hid (h.none (Nat.le_refl _) (thrB_gb (W := W) (H := H) (A := A) (A2 := A2) (n := n) (cap := cap) (n2 := n2) (c2 := c2)))
  have HP := Lib.hid (h2.none (Nat.le_refl _) (thrB_gb (W := W) (H := H) (A := A) (A2 := A2) (n := n) (cap := cap) (n2 := n2) (c2 := c2)))
  clear h h2
  obtain ⟨k, hk⟩ : ∃ k, cntN W H = k := ⟨_, rfl⟩
  have hki := cntN_int W H
  have hk1 := cntN_le W H
  rw [hk] at hki hk1
  have hsz := (sizedG_mesh hs).2
  have hm := (sizedG_mesh hs).1
  rw [hp, ← hki] at hsz
  have HN := Lib.hid (fun w => show Calls Try.prog 68 #[.agg #[.int .i64 W, .int .i64 H]] w (RetI (k : Int) none w) from hki ▸ implNodeCount W H w)
  have HK := Lib.hid (fun w h => implMeshOkV W H A n cap L true hm hL w h hn)
  have TM := Lib.hid (thrB_mesh (W := W) (H := H) (A := A) (A2 := A2) (n := n) (cap := cap) (n2 := n2) (c2 := c2) (w := w))
  have TT := Lib.hid (thrB_table (W := W) (H := H) (A := A) (A2 := A2) (n := n) (cap := cap) (n2 := n2) (c2 := c2) (w := w))
  have TS := Lib.hid (thrB_square (W := W) (H := H) (A := A) (A2 := A2) (n := n) (cap := cap) (n2 := n2) (c2 := c2) (w := w))
  have TG := Lib.hid (thrB_gb (W := W) (H := H) (A := A) (A2 := A2) (n := n) (cap := cap) (n2 := n2) (c2 := c2) (w := w))
  have TZ := Lib.hid (thrB_size (W := W) (H := H) (A := A) (A2 := A2) (n := n) (cap := cap) (n2 := n2) (c2 := c2) (w := w))
  have hkk1 : (k : Int) * k ≤ 256 := Int.le_trans (Int.mul_le_mul (Int.ofNat_le.2 hk1) (Int.ofNat_le.2 hk1) (by omega) (by omega)) (by omega)
  have hn256 : n2 ≤ 256 := by omega
  have e1 : wrap64 ((k : Int) * k) = (n2 : Int) := by rw [← hsz]; exact IntWalk.wrap64_in _ (by omega)
  have hb : ((n2 : Int) != (n2 : Int)) = false := by simp
  have HSZ := Lib.hid (show n2 = k * k by exact_mod_cast hsz)
  have HKK := Lib.hid hk
  have HPL := Lib.hid hp
  clear hm hL hs hk hki hsz hkk1 hp
  go_enter Try.func67, Try.ntmps67
  go_wp2_with fail
  refine (HN.out _).mono ?_
  rintro e w1 ⟨rfl, hg⟩
  rw [zero_cells] at hg
  have hg1 : (thrB W H A A2 n cap n2 c2 w).grownBy w1 none := hg
  have hbk := TM.out.grown hg1 (by simp)
  have a0 : w1.cell? ⟨w.heap.size, 0, none⟩ = some (.int .i64 W) := hbk.cell 0
  have a1 : w1.cell? ⟨w.heap.size, 1, none⟩ = some (.int .i64 H) := hbk.cell 1
  have a2 : w1.cell? ⟨w.heap.size, 2, none⟩ = some (.slice A n cap) := hbk.cell 2
  have hi := (HI.out.none (by rw [TZ.out]; omega) hg1).more (B' := w1.heap.size) (gb_trans TG.out hg1).size
  have HG := Lib.hid hg1
  clear hg hg1 hbk
  go_wp2_with fail
  refine (HK.out _ hi).mono ?_
  rintro e w2 ⟨rfl, hg2⟩
  have HG2 := Lib.hid (gb_trans HG.out hg2)
  have HSq := Lib.hid (TS.out.grown HG2.out (by simp))
  have b0 : w2.cell? ⟨w.heap.size + 1, 0, none⟩ = some (.slice A2 n2 c2) := (TT.out.grown HG2.out (by simp)).cell 0
  have b1 : (w2.alloc (.cells Try.zeroCells99 99)).cell? ⟨w.heap.size + 1, 0, none⟩ = some (.slice A2 n2 c2) := ((TT.out.grown HG2.out (by simp)).alloc _).cell 0
  have HB2 := Lib.hid (show w.heap.size + 3 ≤ w2.heap.size by have := HG2.out.size; rw [TZ.out] at this; exact this)
  clear hg2 hi a0 a1 a2
  go_wp2_with fail
  obtain ⟨g, hg⟩ : ∃ g, w2.heap.size = g := ⟨_, rfl⟩
  rw [zero_cells]
  have HX := Lib.hid (show PortsAt W H A A2 n cap n2 c2 P w g 0 (w2.alloc (.cells (cellsX zerosX) 99)) from ⟨hg ▸ Blk.new w2 99 (cellsX zerosX), gb_alloc HG2.out _⟩)
  rw [hg, e1]
  have HGE := Lib.hid (show w.heap.size + 3 ≤ g by rw [← hg]; exact HB2.out)
  clear hg b0 b1 e1 hb
  go_loopw [29] (fun i wr => ∃ j : Nat, i = .int .i64 (j : Int) ∧ j ≤ n2 ∧ PortsAt W H A A2 n cap n2 c2 P w g j wr) (fun i _ => n2 - (intOf i).toNat)
  case atStart => exact ⟨0, rfl, Nat.zero_le _, HX.out⟩
  case round =>
    obtain ⟨j, rfl, hj, hblk, hgr⟩ := hrel
    have HBk := Lib.hid hblk
    have HGr := Lib.hid hgr
    clear hgr hblk
    by_cases hlt : j < n2
    · have hsz := HSZ.out
      have hk0 : 0 < k := Nat.pos_of_ne_zero fun e => by rw [e] at hsz; omega
      obtain ⟨b, off, rfl, hbB, hcell⟩ := (HP.out.none (by rw [TZ.out]; omega) HGr.out).at j hlt
      obtain ⟨p, hpp⟩ : ∃ p, P.getD j 0 = p := ⟨_, rfl⟩
      rw [hpp] at hcell
      obtain ⟨x, hx⟩ : ∃ x, j / k = x := ⟨_, rfl⟩
      obtain ⟨y, hy⟩ : ∃ y, j % k = y := ⟨_, rfl⟩
      have hx1 : x < k := by rw [← hx]; exact Nat.div_lt_of_lt_mul (by rw [← hsz]; exact hlt)
      have hy1 : y < k := by rw [← hy]; exact Nat.mod_lt _ hk0
      have d1 : Int.tdiv (j : Int) (k : Int) = (x : Int) := by rw [← hx]; rfl
      have d2 : Int.tmod (j : Int) (k : Int) = (y : Int) := by rw [← hy]; rfl
      have hx16 : (x : Int) < 16 := by omega
      have hy16 : (y : Int) < 16 := by omega
      obtain ⟨o, ho⟩ : ∃ o, (portsX W H P j).getD (16 * x + y) 0 = o := ⟨_, rfl⟩
      have c1 : wr.cell? ⟨g, x * 16 + y, none⟩ = some (.int .i64 o) := by rw [Nat.mul_comm x 16]; exact (HBk.out.cell (16 * x + y)).trans (cellsX_at (by rw [portsX, sqTo_length]; omega) ho)
      have f1 := HBk.out.frozen (x * 16 + y)
      have hb2 := HBk.out.set_ (x * 16 + y) (.int .i64 (portP p))
      rw [cellsX_set, show (portsX W H P j).set (x * 16 + y) (portP p) = portsX W H P (j + 1) by rw [portsX, portsX, sqTo, HKK.out, hx, hy, hpp, Nat.mul_comm x 16]] at hb2
      have HB2x := Lib.hid hb2
      have HG2x := Lib.hid (gb_setCell HGr.out (p := ⟨g, x * 16 + y, none⟩) (.inr (by rw [TZ.out]; exact HGE.out)) (.int .i64 (portP p)))
      clear hb2 hx hy hpp ho hsz
      by_cases hp0 : p < 0
      · rw [portP_out (.inl hp0)] at HB2x HG2x
        go_wp2_with fail
        go_region
        go_wp2_with fail
        go_roundw
        case rel => exact ⟨j + 1, by go_num, by omega, HB2x.out.drewN 1, gb_drew HG2x.out⟩
        case measure => simp [intOf]; omega
      · by_cases hp4 : 4 < p
        · rw [portP_out (.inr hp4)] at HB2x HG2x
          go_wp2_with fail
          go_region
          go_wp2_with fail
          go_roundw
          case rel => exact ⟨j + 1, by go_num, by omega, HB2x.out.drewN 1, gb_drew HG2x.out⟩
          case measure => simp [intOf]; omega
        · rw [portP_in (by omega) (by omega)] at HB2x HG2x
          go_wp2_with fail
          go_region
          go_wp2_with fail
          go_roundw
          case rel => exact ⟨j + 1, by go_num, by omega, HB2x.out.drewN 1, gb_drew HG2x.out⟩
          case measure => simp [intOf]; omega
    · obtain rfl : j = n2 := by omega
      go_wp2_with (first | (refine wpList_loadX rfl _ rfl g rfl (portsX W H P j) HBk.out (sqTo_length _ _ _) ?_) | (refine wpList_storeX rfl _ _ rfl (w.heap.size + 1 + 1) zerosX (portsX W H P j) rfl rfl ((TS.out.grown HGr.out (by simp))) zerosX_length (sqTo_length _ _ _) ?_; intro w3 hb3 hg3; have HB3 := Lib.hid hb3; have HG3 := Lib.hid hg3; clear hb3 hg3))
      refine bodyPost_ret (v := .tuple #[.agg (cellsX (portsX W H P j)), .bool true]) ?_ rfl ⟨by rw [HPL.out], gb_new (gb_trans TG.out HGr.out) HG3.out (by omega)⟩
      rw [results_cell_tmp rfl]
      simp [asAddr, Result.andThen, load_square HB3.out (sqTo_length _ _ _)]
end Go.Proofs.Ytnpjadofhpaapaa
end

section
namespace Go.Proofs.Ytnpjadofhpaapaa
open Go.ChangeShapes Go.WideShapes Go.ChangeAt Go.RowKit
set_option linter.unusedVariables false

/-- A mesh and a table as blocks. -/
def twoI (W H : Int) (A A2 : Option Addr) (n cap n2 c2 : Nat) (w : World) : World := (w.alloc (.cells (meshC W H A n cap) 28)).alloc (.cells #[.slice A2 n2 c2] 30)
section
variable {W H : Int} {A A2 : Option Addr} {n cap n2 c2 : Nat} {w wr : World}
theorem twoI_size : (twoI W H A A2 n cap n2 c2 w).heap.size = w.heap.size + 2 := by unfold twoI; rw [alloc_size, alloc_size]
theorem twoI_gb : w.grownBy (twoI W H A A2 n cap n2 c2 w) none := gb_alloc (gb_alloc (gb_refl _ _) _) _
theorem twoI_mesh (h : (twoI W H A A2 n cap n2 c2 w).grownBy wr none) : Blk wr w.heap.size 28 (meshC W H A n cap) := ((Blk.new w 28 (meshC W H A n cap)).alloc _).grown h (by simp)
theorem twoI_table (h : (twoI W H A A2 n cap n2 c2 w).grownBy wr none) : Blk wr (w.heap.size + 1) 30 #[.slice A2 n2 c2] := by
  have := Blk.new (w.alloc (.cells (meshC W H A n cap) 28)) 30 #[.slice A2 n2 c2]
  rw [alloc_size] at this
  exact this.grown h (by simp)
theorem twoI_le (h : (twoI W H A A2 n cap n2 c2 w).grownBy wr none) : w.heap.size + 2 ≤ wr.heap.size := by have := h.size; rw [twoI_size] at this; exact this
theorem twoI_old (h : (twoI W H A A2 n cap n2 c2 w).grownBy wr none) : w.grownBy wr none := gb_trans twoI_gb h
theorem IntAt.twoI {B : Option Addr} {m : Nat} {M : List Int} (h : IntAt w w.heap.size B m M) : IntAt (twoI W H A A2 n cap n2 c2 w) (twoI W H A A2 n cap n2 c2 w).heap.size B m M :=
  (h.none (Nat.le_refl _) twoI_gb).more (by rw [twoI_size]; omega)
theorem IntAt.oldI {B : Option Addr} {m : Nat} {M : List Int} (h : IntAt w w.heap.size B m M) (hg : w.grownBy wr Option.none) : IntAt wr wr.heap.size B m M :=
  (h.none (Nat.le_refl _) hg).more hg.size
end
/-- The new block of a square. -/
theorem new_square (w : World) : Blk (w.alloc (.cells Try.zeroCells99 99)) w.heap.size 99 (cellsX zerosX) := by
  rw [← zero_cells]; exact Blk.new w _ _
theorem gb_square {a b c : World} (h : a.grownBy b none) (k : (b.alloc (.cells Try.zeroCells99 99)).grownBy c (some b.heap.size)) : a.grownBy c none :=
  gb_new (gb_alloc h _) k h.size
end Go.Proofs.Ytnpjadofhpaapaa
end

section
namespace Go.Proofs.Ytnpjadofhpaapaa
open Go.ChangeShapes Go.WideShapes Go.ChangeAt Go.RowKit
set_option linter.unusedVariables false

/-- An index, or -1. -/
def Idx (L : List Int) (c : Int) (w : World) (e : Ending) (w' : World) : Prop := ∃ k : Int, e = .returned (.int .i64 k) ∧ decide (0 ≤ k) = inG L c ∧ w = w'
theorem implIndex (A : Option Addr) (n cap B : Nat) (L : List Int) (c : Int) (w : World) (h : IntAt w B A n L) (hn : n ≤ 1000000000) :
    Calls Try.prog 98 #[.slice A n cap, .int .i64 c] w (Idx L c w) := by
  have hl := h.1
  have HI := Lib.hid h
  clear h
  go_enter Try.func98, Try.ntmps98
  go_wp2_with fail
  go_loop [8] (fun i => ∃ k : Nat, i = .int .i64 (k : Int) ∧ k ≤ n ∧ ∀ j, j < k → L.getD j 0 ≠ c) (fun i => n - (intOf i).toNat)
  case atStart => exact ⟨0, rfl, Nat.zero_le _, fun j h => by omega⟩
  case round =>
    obtain ⟨k, rfl, hk, hne⟩ := hrel
    have HNE := Lib.hid hne
    clear hne
    by_cases hlt : k < n
    · obtain ⟨b, off, rfl, hb, hc⟩ := HI.out.at k hlt
      obtain ⟨x, hx⟩ : ∃ x, L.getD k 0 = x := ⟨_, rfl⟩
      rw [hx] at hc
      have HX := Lib.hid hx
      clear hx
      by_cases hxc : x = c
      · subst hxc
        go_wp2_with fail
        go_ret
        exact ⟨_, rfl, by rw [inG_yes (by omega) HX.out]; exact decide_eq_true (by omega), rfl⟩
      · have hxb : (c == x) = false := by simpa using fun e => hxc e.symm
        have HXC := Lib.hid hxc
        clear hxc
        go_wp2_with fail
        go_round
        case rel => exact ⟨k + 1, by go_num, by omega, fun j hj => by
          rcases Nat.lt_succ_iff_lt_or_eq.1 hj with h1 | rfl
          · exact HNE.out j h1
          · rw [HX.out]; exact HXC.out⟩
        case measure => simp [intOf]; omega
    · obtain rfl : k = n := by omega
      go_wp2_with fail
      go_ret
      exact ⟨-1, rfl, by rw [inG_no (fun j hj => HNE.out j (by omega))]; rfl, rfl⟩

theorem implContains (A : Option Addr) (n cap B : Nat) (L : List Int) (c : Int) (b : Bool) (hb : inG L c = b) (w : World) (h : IntAt w B A n L) (hn : n ≤ 1000000000) :
    Calls Try.prog 96 #[.slice A n cap, .int .i64 c] w fun e w' => e = .returned (.bool b) ∧ w = w' := by
  have HC := Lib.hid (fun w h => implIndex A n cap B L c w h hn)
  have HI := Lib.hid h
  clear h
  go_enter Try.func96, Try.ntmps96
  go_wp2_with fail
  refine (HC.out _ HI.out).mono ?_
  rintro e w1 ⟨k, rfl, hk, rfl⟩
  rw [hb] at hk
  have HK := Lib.hid hk
  clear hk hb
  go_wp2_with fail
  go_ret
  exact ⟨ret_bool (by rw [← HK.out]), rfl⟩

theorem implConnects (W H : Int) (A : Option Addr) (n cap : Nat) (L : List Int) (c : Int) (b : Bool) (hcw : (Lit.int .i64 c).wf = true) (hb : hasChG W H L c = b) (w : World) (h : IntAt w w.heap.size A n L) (hn : n ≤ 1000000000) :
    Calls Try.prog 84 #[.agg #[.int .i64 W, .int .i64 H, .slice A n cap], .int .i64 c] w (RetB b w) := by
  obtain ⟨r, hr⟩ : ∃ r, endG W H c = r := ⟨_, rfl⟩
  have HE := Lib.hid (fun w => implEnd W H c r hcw hr w)
  have HI := Lib.hid h
  have hld := leads_end W H c
  rw [hr] at hld
  clear h hcw hr
  by_cases h0 : 0 ≤ r
  · obtain ⟨q, hq⟩ : ∃ q, inG L c = q := ⟨_, rfl⟩
    have hv : b = !q := by rw [← hb, hasChG, hld, decide_eq_true h0, hq]; rfl
    have HV := Lib.hid hv
    have hd : decide (r ≥ 0) = true := decide_eq_true h0
    have HF := Lib.hid (fun w h => implContains A n cap (w.heap.size) L c q hq w h hn)
    clear hv hld hb hq
    go_enter Try.func84, Try.ntmps84
    go_wp2_with fail
    refine (HE.out _).mono ?_
    rintro e w1 ⟨rfl, hg⟩
    have hbk := boxi_blk hg
    have a2 : w1.cell? ⟨w.heap.size, 2, none⟩ = some (.slice A n cap) := hbk.cell 2
    have hi := (HI.out.none (Nat.le_refl _) (boxi_gb hg)).more (B' := w1.heap.size) (boxi_gb hg).size
    have Hg := Lib.hid (boxi_gb hg)
    clear hg hbk
    go_wp2_with fail
    refine (HF.out _ hi).mono ?_
    rintro e w2 ⟨rfl, rfl⟩
    clear hi
    go_wp2_with fail
    go_ret
    exact ⟨ret_bool (by rw [HV.out]), Hg.out⟩
  · have hv : b = false := by rw [← hb, hasChG, hld, decide_eq_false h0]; rfl
    have hd : decide (r ≥ 0) = false := decide_eq_false h0
    have HV := Lib.hid hv
    clear hv hld hb
    go_enter Try.func84, Try.ntmps84
    go_wp2_with fail
    refine (HE.out _).mono ?_
    rintro e w1 ⟨rfl, hg⟩
    have Hg := Lib.hid (boxi_gb hg)
    clear hg
    go_wp2_with fail
    go_ret
    exact ⟨ret_bool (by rw [HV.out]), Hg.out⟩
end Go.Proofs.Ytnpjadofhpaapaa
end

section
namespace Go.Proofs.Ytnpjadofhpaapaa
open Go.ChangeShapes Go.WideShapes Go.ChangeAt Go.RowKit
set_option linter.unusedVariables false
set_option maxRecDepth 20000

theorem end_step {W H p : Int} {x : Nat} (h0 : 0 ≤ p) (h3 : p ≤ 3) : endG W H (4 * (x : Int) + p) = nextG W H x p := by
  unfold endG
  rw [Int.tdiv_eq_ediv_of_nonneg (by omega), Int.tmod_eq_emod_of_nonneg (by omega)]
  rw [show (4 * (x : Int) + p) / 4 = x by omega, show (4 * (x : Int) + p) % 4 = p by omega]

theorem ret_two {v : Value} {a b : Bool} (h : a = b) : Ending.returned (.tuple #[v, .bool a]) = Ending.returned (.tuple #[v, .bool b]) := by rw [h]
/-- A new list of numbers, and whether there is one. -/
def NewW (L : List Int) (b : Bool) (w : World) (e : Ending) (w' : World) : Prop :=
  ∃ v, e = .returned (.tuple #[v, .bool b]) ∧ w'.ownsRow w.heap.size 3 1 v L.length (intsV L) ∧ Below w.heap.size w w'
def lenW : Value → Nat | .slice _ n _ => n | _ => 0
/-- The walk has come to x. -/
def WalkTo (W H : Int) (A : Option Addr) (n cap : Nat) (L P : List Int) (z : Nat) (res : List Int) (rb : Bool) (w : World) (acc : List Int) (x : Nat) (v : Value) (wr : World) : Prop :=
  (x : Int) < countG W H ∧ acc.length ≤ cntN W H ∧ res = restG W H L P z acc (cntN W H + 1 - acc.length) x ∧ rb = restE W H L P z (cntN W H + 1 - acc.length) x ∧
  wr.ownsRow (w.heap.size + 1) 3 1 v acc.length (intsV acc) ∧ Below (w.heap.size + 1) (w.alloc (.cells (meshC W H A n cap) 28)) wr

theorem app_to {W H : Int} {A : Option Addr} {n cap : Nat} {w w4 w5 : World} {acc : List Int} {c : Int} {v v' : Value} {o : Obj} (hb : Below (w.heap.size + 1) (w.alloc (.cells (meshC W H A n cap) 28)) w4) (ho : w4.ownsRow (w.heap.size + 1) 3 1 v acc.length (intsV acc))
    (hown5 : w5.ownsRow (w.heap.size + 1) 3 1 v' (acc.length + 1) (intsV acc ++ [.int .i64 c])) (hg : (w4.alloc o).grownBy w5 v.ownBlock) :
    w5.ownsRow (w.heap.size + 1) 3 1 v' (acc ++ [c]).length (intsV (acc ++ [c])) ∧ Below (w.heap.size + 1) (w.alloc (.cells (meshC W H A n cap) 28)) w5 ∧ lenW v' = acc.length + 1 ∧
    w5.cell? ⟨w.heap.size, 0, none⟩ = some (.int .i64 W) ∧ w5.cell? ⟨w.heap.size, 1, none⟩ = some (.int .i64 H) := by
  have hsz : w.heap.size + 1 ≤ w4.heap.size := by have h1 := hb.size; simp at h1; exact h1
  have h1 : w5.ownsRow (w.heap.size + 1) 3 1 v' (acc ++ [c]).length (intsV (acc ++ [c])) := by rw [List.length_append, intsV_append]; exact hown5
  have h2 : Below (w.heap.size + 1) (w.alloc (.cells (meshC W H A n cap) 28)) w5 := (hb.alloc hsz _).grown hg (by simp; omega) (fun j hj => (ho.lt j hj).1)
  have tm := (Blk.new w 28 (meshC W H A n cap)).below h2 (by omega)
  refine ⟨h1, h2, ?_, tm.cell 0, tm.cell 1⟩
  obtain ⟨A', c', rfl, _⟩ := own_form h1
  simp [lenW]

set_option maxHeartbeats 1600000 in
theorem implWalk (W H : Int) (A : Option Addr) (n cap : Nat) (L P X : List Int) (g a z : Nat) (hL : WfL L) (w : World) (h : IntAt w w.heap.size A n L) (hn : n ≤ 1000000000)
    (hX : isPorts W H P X) (hb : Blk w g 99 (cellsX X)) (ha : (a : Int) < countG W H) (hz : (z : Int) < countG W H) :
    Calls Try.prog 69 #[.pointer (some ⟨g, 0, none⟩), .agg #[.int .i64 W, .int .i64 H, .slice A n cap], .int .i64 a, .int .i64 z] w (NewW (walkOf W H L P a z) (endsG W H L P a z) w) := by
  obtain ⟨i0, hi, hz0, hz1, hz2⟩ := info_parts info_int
  have HI := Lib.hid h
  have hg := hb.lt
  have HSQ := Lib.hid (fun (wr : World) (h : Below w.heap.size w wr) (x y : Nat) (hx : (x : Int) < countG W H) (hy : (y : Int) < countG W H) => show wr.cell? ⟨g, x * 16 + y, none⟩ = some (.int .i64 (portP (tabG (countG W H) P x y))) by
    have hc := countG_le W H
    rw [Nat.mul_comm x 16]
    exact ((hb.below h hg).cell (16 * x + y)).trans (cellsX_at (by rw [hX.1]; omega) (hX.2 x y hx hy)))
  obtain ⟨res, hres⟩ : ∃ res, walkOf W H L P a z = res := ⟨_, rfl⟩
  obtain ⟨rb, hrb⟩ : ∃ rb, endsG W H L P a z = rb := ⟨_, rfl⟩
  rw [hres, hrb]
  have hsz1 : (w.alloc (.cells (meshC W H A n cap) 28)).heap.size = w.heap.size + 1 := by simp
  have HX := Lib.hid (show WalkTo W H A n cap L P z res rb w [] a (.slice none 0 0) (w.alloc (.cells (meshC W H A n cap) 28)) from
    ⟨ha, Nat.zero_le _, by rw [← hres]; exact (rest_start a z).symm, by rw [← hrb]; rfl, World.ownsRow_nil _ _ _ _, Below.refl _ _⟩)
  have HS1 := Lib.hid hsz1
  have hki := cntN_int W H
  obtain ⟨k, hk⟩ : ∃ k, cntN W H = k := ⟨_, rfl⟩
  have hk1 := cntN_le W H
  rw [hk] at hki hk1
  have HN := Lib.hid (fun w => show Calls Try.prog 68 #[.agg #[.int .i64 W, .int .i64 H]] w (RetI (k : Int) none w) from hki ▸ implNodeCount W H w)
  have HKI := Lib.hid hki
  have HKK := Lib.hid hk
  have HZ := Lib.hid hz
  have ha16 : (a : Int) < 16 := by omega
  have hz16 : (z : Int) < 16 := by omega
  have hgne : ¬ g = w.heap.size := by omega
  have c0 := HSQ.out (w.alloc (.cells (meshC W H A n cap) 28)) (((Below.refl _ _)).alloc (Nat.le_refl _) _) a z ha hz
  obtain ⟨q, hq⟩ : ∃ q, portP (tabG (countG W H) P a z) = q := ⟨_, rfl⟩
  rw [hq] at c0
  have HQ := Lib.hid hq
  clear h hX hb hres hrb hsz1 hki hk ha hz hq
  unfold meshC at c0
  go_enter Try.func69, Try.ntmps69
  go_wp2_with fail
  clear c0
  go_loopw [10, 11, 12] (fun v s11 s12 wr => ∃ (acc : List Int) (x : Nat), s11 = .int .i64 (x : Int) ∧ s12 = .int .i64 (portP (tabG (countG W H) P x z)) ∧ WalkTo W H A n cap L P z res rb w acc x v wr) (fun v _ _ _ => 17 - lenW v)
  case atStart => exact ⟨[], a, rfl, by rw [HQ.out], HX.out⟩
  case round =>
    obtain ⟨acc, x, rfl, rfl, hx, hl, hre, hrb, hown, hbel⟩ := hrel
    rw [HKK.out] at hl hre hrb
    obtain ⟨Aq, capq, rfl, hAq⟩ := own_form hown
    have HOwn := Lib.hid hown
    have HBel := Lib.hid hbel
    have HBo := Lib.hid (below_box hbel)
    obtain ⟨f, hf⟩ : ∃ f, k + 1 - acc.length = f + 1 := ⟨k - acc.length, by omega⟩
    rw [hf] at hre hrb
    have HF := Lib.hid hf
    have HRE := Lib.hid hre
    have HRB := Lib.hid hrb
    have HXC := Lib.hid hx
    have hx16 : (x : Int) < 16 := by have := HKI.out; omega
    obtain ⟨t, ht⟩ : ∃ t, tabG (countG W H) P x z = t := ⟨_, rfl⟩
    rw [ht]
    have HT := Lib.hid ht
    have tm := (Blk.new w 28 (meshC W H A n cap)).below hbel (by omega)
    have a0 : wr.cell? ⟨w.heap.size, 0, none⟩ = some (.int .i64 W) := tm.cell 0
    have a1 : wr.cell? ⟨w.heap.size, 1, none⟩ = some (.int .i64 H) := tm.cell 1
    have a2 : wr.cell? ⟨w.heap.size, 2, none⟩ = some (.slice A n cap) := tm.cell 2
    have hsw : w.heap.size + 1 ≤ wr.heap.size := by have h1 := hbel.size; rw [HS1.out] at h1; exact h1
    clear hown hbel hre hrb hx hf ht tm hAq
    by_cases h4 : t = 4
    · subst h4
      have hp4 : portP 4 = 4 := rfl
      rw [hp4]
      clear a0 a1 a2
      by_cases hxz : x = z
      · subst hxz
        have hxb : ((x : Int) != (x : Int)) = false := by simp
        have HF2 := Lib.hid (HRE.out.trans (rest_end HT.out rfl))
        have HF3 := Lib.hid (HRB.out.trans (restE_end HT.out rfl))
        go_wp2_with fail
        go_ret2
        refine ⟨_, ret_two HF3.out.symm, ?_, HBo.out⟩
        rw [HF2.out]
        exact own_less HOwn.out (by omega)
      · have hne : (x : Int) ≠ (z : Int) := fun e => hxz (by exact_mod_cast e)
        have hxb : ((x : Int) != (z : Int)) = true := bne_iff_ne.2 hne
        have HF2 := Lib.hid (HRE.out.trans (rest_lost HT.out hne))
        have HF3 := Lib.hid (HRB.out.trans (restE_lost HT.out hne))
        clear hxz hne
        go_wp2_with fail
        go_ret2
        refine ⟨_, ret_two HF3.out.symm, ?_, HBo.out⟩
        rw [HF2.out]
        exact World.ownsRow_nil _ _ _ _
    · have H4 := Lib.hid h4
      have h4b : (portP t != 4) = true := bne_iff_ne.2 fun e => h4 (portP_four.1 e)
      obtain ⟨q, hq⟩ : ∃ q, portP t = q := ⟨_, rfl⟩
      have hqb := portP_bounds t
      rw [hq] at h4b hqb ⊢
      by_cases h0 : q < 0
      · have hst : stepsG W H L x t = false := by
          have hs : ¬ (0 ≤ t ∧ t ≤ 3) := fun e => by rw [portP_in e.1 (by omega)] at hq; omega
          simp only [stepsG, Bool.and_eq_false_iff, decide_eq_false_iff_not]; exact .inl hs
        have HF2 := Lib.hid (HRE.out.trans (rest_bad HT.out H4.out hst))
        have HF3 := Lib.hid (HRB.out.trans (restE_bad HT.out H4.out hst))
        have e1 : wrap64 (4 * (x : Int)) = 4 * (x : Int) := IntWalk.wrap64_in _ (by omega)
        have e2 : wrap64 (4 * (x : Int) + q) = 4 * (x : Int) + q := IntWalk.wrap64_in _ (by omega)
        clear hst hq h4 a0 a1 a2
        go_wp2_with fail
        go_ret2
        refine ⟨_, ret_two HF3.out.symm, ?_, HBo.out⟩
        rw [HF2.out]
        exact World.ownsRow_nil _ _ _ _
      · have hqt : t = q := portP_in_of hq (by omega)
        subst hqt
        have ht3 : t ≤ 3 := by omega
        have e1 : wrap64 (4 * (x : Int)) = 4 * (x : Int) := IntWalk.wrap64_in _ (by omega)
        have e2 : wrap64 (4 * (x : Int) + t) = 4 * (x : Int) + t := IntWalk.wrap64_in _ (by omega)
        have hcw : (Lit.int .i64 (4 * (x : Int) + t)).wf = true := WalkArith.wf_i64 (by omega)
        have hi2 := (HI.out.below HBo.out).more (B' := wr.heap.size) (by omega)
        have TM := Lib.hid ((Blk.new w 28 (meshC W H A n cap)).below HBel.out (by omega))
        cases hc : hasChG W H L (4 * (x : Int) + t) with
        | false =>
          have hst : stepsG W H L x t = false := by simp [stepsG, hc]
          have HF2 := Lib.hid (HRE.out.trans (rest_bad HT.out H4.out hst))
          have HF3 := Lib.hid (HRB.out.trans (restE_bad HT.out H4.out hst))
          have HC := Lib.hid (fun w h => implConnects W H A n cap L (4 * (x : Int) + t) false hcw hc w h hn)
          clear hst hq h4 hc hcw
          go_wp2_with fail
          refine (HC.out _ hi2).mono ?_
          rintro e w3 ⟨rfl, hg3⟩
          have G3 := Lib.hid (below_gb HBo.out (Nat.le_refl _) hg3)
          clear hg3 hi2 a0 a1 a2
          go_wp2_with fail
          go_ret2
          refine ⟨_, ret_two HF3.out.symm, ?_, G3.out⟩
          rw [HF2.out]
          exact World.ownsRow_nil _ _ _ _
        | true =>
          have hst : stepsG W H L x t = true := by simp only [stepsG, hc, Bool.and_true, decide_eq_true_eq]; omega
          have HF2 := Lib.hid (HRE.out.trans (rest_go HT.out H4.out hst))
          have HF3 := Lib.hid (HRB.out.trans (restE_go HT.out H4.out hst))
          have HC := Lib.hid (fun w h => implConnects W H A n cap L (4 * (x : Int) + t) true hcw hc w h hn)
          obtain ⟨y, hy⟩ : ∃ y : Nat, nextG W H x t = (y : Int) := ⟨(nextG W H x t).toNat, (Int.toNat_of_nonneg (hasG_iff.1 (step_has hst)).1).symm⟩
          have hyk := (hasG_iff.1 (step_has hst)).2
          rw [hy] at hyk
          have HE := Lib.hid (fun w => implEnd W H (4 * (x : Int) + t) y hcw (by rw [end_step (by omega) ht3, hy]) w)
          have HY := Lib.hid hy
          have HYK := Lib.hid hyk
          clear hst hq h4 hc hcw hy hyk
          go_wp2_with fail
          refine (HC.out _ hi2).mono ?_
          rintro e w3 ⟨rfl, hg3⟩
          have G3 := Lib.hid hg3
          have tm3 := TM.out.grown hg3 (by simp)
          have d0 : w3.cell? ⟨w.heap.size, 0, none⟩ = some (.int .i64 W) := tm3.cell 0
          have d1 : w3.cell? ⟨w.heap.size, 1, none⟩ = some (.int .i64 H) := tm3.cell 1
          clear hg3 hi2 a0 a1 a2 tm3
          go_wp2_with fail
          refine (HN.out _).mono ?_
          rintro e w4 ⟨rfl, hg4⟩
          have G4 := Lib.hid (gb_trans G3.out hg4)
          have TM4 := Lib.hid (TM.out.grown G4.out (by simp))
          clear hg4 d0 d1
          by_cases hlk : acc.length = k
          · have hf0 : f = 0 := by have := HF.out; omega
            have hlb : ((acc.length : Int) == (k : Int)) = true := beq_iff_eq.2 (by omega)
            have G5 := Lib.hid (below_gb HBo.out (Nat.le_refl _) G4.out)
            have HG2 := Lib.hid (show res = [] by rw [HF2.out, hf0]; rfl)
            have HG3 := Lib.hid (show rb = false by rw [HF3.out, hf0]; rfl)
            clear hlk hf0
            go_wp2_with fail
            go_ret2
            refine ⟨_, ret_two HG3.out.symm, ?_, G5.out⟩
            rw [HG2.out]
            exact World.ownsRow_nil _ _ _ _
          · have hlb : ((acc.length : Int) == (k : Int)) = false := beq_false_of_ne (by omega)
            have hown1 := own_none HOwn.out G4.out
            have hsz4 : w.heap.size + 1 ≤ w4.heap.size := Nat.le_trans hsw G4.out.size
            have b3' := Lib.hid (show ∀ u ∈ [Value.int .i64 (4 * (x : Int) + t)], u.oneCell' = true by simp [Value.oneCell'])
            have b4' := Lib.hid (show acc.length + 1 ≤ maxLen by unfold maxLen; omega)
            have HLK := Lib.hid (show acc.length < k by omega)
            have HB4 := Lib.hid (below_gb HBel.out (by rw [HS1.out]; exact Nat.le_refl _) G4.out)
            clear hlk
            go_wp2_with (at_builtin; refine wpList_append_own _ rfl _ _ 26 rfl (w.heap.size + 1) 3 i0 (.int .i64 0) 1 8 Try.underlying26 hi hz0 hz1 hz2 rfl (by decide) _ acc.length _ rfl (hown1.alloc _) ⟨w4.heap.size, 0, none⟩ 1 1 [.int .i64 (4 * (x : Int) + t)] rfl rfl (World.news_of_block (cs := #[.int .i64 (4 * (x : Int) + t)]) (t := 3) (fr := (0, 0)) (heap_alloc_new w4 _)) b3'.out b4'.out (by omega) (by simp; omega) ?_; intro v' w5 hown5 hgrow5 _; obtain ⟨ho5, hb5, hlv, a0, a1⟩ := app_to HB4.out hown1 hown5 hgrow5; have HO5 := Lib.hid ho5; have HB5 := Lib.hid hb5; have HLV := Lib.hid hlv; clear ho5 hb5 hlv hown5 hgrow5 hown1)
            refine (HE.out _).mono ?_
            rintro e w6 ⟨rfl, hg6⟩
            have G6 := Lib.hid hg6
            have HB6 := Lib.hid (below_gb HB5.out (by rw [HS1.out]; exact Nat.le_refl _) hg6)
            have c6 := HSQ.out w6 (below_box HB6.out) y z HYK.out HZ.out
            have y16 : (y : Int) < 16 := by have := HYK.out; have := HKI.out; omega
            obtain ⟨q6, hq6⟩ : ∃ q, portP (tabG (countG W H) P y z) = q := ⟨_, rfl⟩
            rw [hq6] at c6
            have HQ6 := Lib.hid hq6
            clear hg6 a0 a1 hq6
            go_wp2_with fail
            go_roundw
            case rel => exact ⟨acc ++ [4 * (x : Int) + t], y, rfl, by rw [HQ6.out], HYK.out, by rw [HKK.out, List.length_append]; exact HLK.out, by rw [HF2.out, HY.out, HKK.out]; congr 1; have := HF.out; simp; omega, by rw [HF3.out, HY.out, HKK.out]; congr 1; have := HF.out; simp; omega, own_none HO5.out G6.out, HB6.out⟩
            case measure => rw [HLV.out]; simp [lenW]; omega
end Go.Proofs.Ytnpjadofhpaapaa
end

section
namespace Go.Proofs.Ytnpjadofhpaapaa
open Go.ChangeShapes Go.WideShapes Go.ChangeAt Go.RowKit
set_option linter.unusedVariables false
variable {W H : Int} {L P : List Int}

theorem pairW_at {k x y : Nat} (hk : cntN W H = k) (hy : y < k) : pairW W H L P (x * k + y) = walkOf W H L P x y := by
  have hki := cntN_int W H
  subst hk
  have e1 : ((x * cntN W H + y : Nat) : Int) / countG W H = x := by rw [← hki, ← Int.natCast_ediv, pair_div hy]
  have e2 : ((x * cntN W H + y : Nat) : Int) % countG W H = y := by rw [← hki, ← Int.natCast_emod, pair_mod hy]
  rw [pairW, e1, e2]
theorem walkG_valid {a b : Int} (h : tableG W H L P = true) (ha : hasG W H a = true) (hb : hasG W H b = true) : walkG W H L P a b = walkOf W H L P a b := by
  have hs := tableG_sized h
  unfold walkG
  by_cases e : a = b
  · subst e
    have he := tableG_entry h ha ha
    rw [entry_same, decide_eq_true_eq] at he
    rw [if_neg (by simp), walkOf, walkF_end he rfl]
    rfl
  · rw [if_pos ⟨by simp [askG, hs, ha, hb], e⟩]
theorem sqG_cnt {k : Nat} (hk : cntN W H = k) : sqG W H = k * k := by subst hk; rfl
end Go.Proofs.Ytnpjadofhpaapaa
end

section
namespace Go.Proofs.Ytnpjadofhpaapaa
open Go.ChangeShapes Go.WideShapes Go.ChangeAt Go.RowKit
set_option linter.unusedVariables false
set_option maxRecDepth 20000

theorem info_lists : (Try.prog.info? 26).map (fun i => (i.zero, i.size, i.bytes)) = some (some (.slice none 0 0), 1, 24) := by kernel_rfl
/-- A row of lists: element k is a row of the caller's own that holds the numbers of F k. -/
def ListsAt (w : World) (base : Nat) (v : Value) (N : Nat) (F : Nat → List Int) : Prop :=
  ∃ vs : List Value, w.ownsRow base 26 1 v N vs ∧ ∀ k, k < N → ∃ A c, vs[k]? = some (.slice A (F k).length c) ∧ w.ownsRow base 3 1 (.slice A (F k).length c) (F k).length (intsV (F k))
section
variable {w w' : World} {base : Nat} {v v' : Value} {N : Nat} {F : Nat → List Int}
theorem ListsAt.nil (w : World) (base : Nat) (F : Nat → List Int) : ListsAt w base (.slice none 0 0) 0 F := ⟨[], World.ownsRow_nil _ _ _ _, fun k h => by omega⟩
theorem ListsAt.gb (h : ListsAt w base v N F) (hg : w.grownBy w' none) : ListsAt w' base v N F := by
  obtain ⟨vs, ho, hi⟩ := h
  refine ⟨vs, own_none ho hg, fun k hk => ?_⟩
  obtain ⟨A, c, h1, h2⟩ := hi k hk
  exact ⟨A, c, h1, own_none h2 hg⟩
theorem ListsAt.below (h : ListsAt w base v N F) (hb : Below w.heap.size w w') : ListsAt w' base v N F := h.gb (gb_of_below hb none)
theorem ListsAt.less {b : Nat} (h : ListsAt w base v N F) (hb : b ≤ base) : ListsAt w b v N F := by
  obtain ⟨vs, ho, hi⟩ := h
  refine ⟨vs, own_less ho hb, fun k hk => ?_⟩
  obtain ⟨A, c, h1, h2⟩ := hi k hk
  exact ⟨A, c, h1, own_less h2 hb⟩
theorem ListsAt.form (h : ListsAt w base v N F) : ∃ A c, v = .slice A N c ∧ (0 < N → ∃ g, A = some ⟨g, 0, none⟩) := by obtain ⟨vs, ho, _⟩ := h; exact own_form ho
/-- A row of numbers does not lie where the row of lists lies. -/
theorem own_two {A : Option Addr} {n c k : Nat} {L : List Int} {vs : List Value} (h : w.ownsRow base 26 1 v N vs) (h2 : w.ownsRow base 3 1 (.slice A n c) k (intsV L)) : (Value.slice A n c).ownBlock = none ∨ (Value.slice A n c).ownBlock ≠ v.ownBlock := by
  rcases h2.2 with ⟨h3, _⟩ | ⟨g2, c2, cur2, h3, _, hg2, _⟩
  · rw [h3]; exact .inl rfl
  · right
    rw [h3]
    rcases h.2 with ⟨h4, _⟩ | ⟨g, c4, cur, h4, _, hg, _⟩
    · rw [h4]; intro e; cases e
    · rw [h4]
      intro e
      have e2 : g2 = g := Option.some.inj e
      subst e2
      rw [hg] at hg2
      have e3 := Option.some.inj hg2
      injection e3 with _ e4 _
      exact absurd e4 (by decide)
/-- One list more. -/
theorem ListsAt.app {A : Option Addr} {c : Nat} {o : Obj} {vs : List Value} {w4 : World} (ho : w.ownsRow base 26 1 v N vs) (hi : ∀ k, k < N → ∃ A c, vs[k]? = some (.slice A (F k).length c) ∧ w.ownsRow base 3 1 (.slice A (F k).length c) (F k).length (intsV (F k)))
    (h2 : w.ownsRow base 3 1 (.slice A (F N).length c) (F N).length (intsV (F N))) (ho4 : w4.ownsRow base 26 1 v' (N + 1) (vs ++ [.slice A (F N).length c])) (hg : (w.alloc o).grownBy w4 v.ownBlock) : ListsAt w4 base v' (N + 1) F := by
  have hvs : vs.length = N := by have := ho.1; omega
  have key : ∀ {A : Option Addr} {n c k : Nat} {L : List Int}, w.ownsRow base 3 1 (.slice A n c) k (intsV L) → w4.ownsRow base 3 1 (.slice A n c) k (intsV L) := fun h => (h.alloc o).kept hg (own_two ho h)
  refine ⟨_, ho4, fun k hk => ?_⟩
  rcases Nat.lt_succ_iff_lt_or_eq.1 hk with h | rfl
  · obtain ⟨A, c, h3, h4⟩ := hi k h
    exact ⟨A, c, by rw [List.getElem?_append_left (by omega)]; exact h3, key h4⟩
  · exact ⟨A, c, by rw [List.getElem?_append_right (by omega), hvs, Nat.sub_self]; rfl, key h2⟩
/-- One list of a row. -/
theorem ListsAt.at {A : Option Addr} {n c : Nat} (h : ListsAt w base (.slice A n c) N F) (k : Nat) (hk : k < N) : ∃ g B d, A = some ⟨g, 0, none⟩ ∧ w.cell? ⟨g, k, none⟩ = some (.slice B (F k).length d) ∧ w.ownsRow base 3 1 (.slice B (F k).length d) (F k).length (intsV (F k)) := by
  obtain ⟨vs, ho, hi⟩ := h
  obtain ⟨B, d, h1, h2⟩ := hi k hk
  obtain ⟨A', c', e, hA⟩ := own_form ho
  obtain ⟨g, hg⟩ := hA (by omega)
  simp only [Value.slice.injEq] at e
  obtain ⟨rfl, rfl, rfl⟩ := e
  subst hg
  exact ⟨g, B, d, rfl, by rw [ho.cellAt k (by omega)]; exact h1, h2⟩
theorem one_slice (A : Option Addr) (n c : Nat) : ∀ u ∈ [Value.slice A n c], u.oneCell' = true := by simp [Value.oneCell']
end
/-- A new row of lists. -/
def NewL (N : Nat) (F : Nat → List Int) (w : World) (e : Ending) (w' : World) : Prop :=
  ∃ v, e = .returned v ∧ ListsAt w' w.heap.size v N F ∧ Below w.heap.size w w'
/-- How many walks there are. -/
def wlkN (W H : Int) (L P : List Int) : Nat := if tableG W H L P then sqG W H else 0
theorem wlkN_no {W H : Int} {L P : List Int} (h : tableG W H L P = false) : wlkN W H L P = 0 := if_neg (by simp [h])
theorem wlkN_yes {W H : Int} {L P : List Int} (h : tableG W H L P = true) : wlkN W H L P = sqG W H := if_pos h
/-- The square of ports in its block, and the row of walks so far. -/
def WksAt (W H : Int) (A A2 : Option Addr) (n cap n2 c2 : Nat) (L P : List Int) (w : World) (g1 j : Nat) (v : Value) (wr : World) : Prop :=
  Blk wr g1 99 (cellsX (portsX W H P P.length)) ∧ ListsAt wr (w.heap.size + 2) v j (pairW W H L P) ∧ w.heap.size + 2 ≤ g1 ∧ Below (w.heap.size + 2) (twoI W H A A2 n cap n2 c2 w) wr
section
variable {W H : Int} {A A2 : Option Addr} {n cap n2 c2 : Nat} {L P : List Int} {w wr w' : World} {g1 j : Nat} {v : Value}
theorem WksAt.gb (h : WksAt W H A A2 n cap n2 c2 L P w g1 j v wr) (hg : wr.grownBy w' none) : WksAt W H A A2 n cap n2 c2 L P w g1 j v w' :=
  ⟨h.1.grown hg (by simp), h.2.1.gb hg, h.2.2.1, below_gb h.2.2.2 (by rw [twoI_size]; exact Nat.le_refl _) hg⟩
theorem twoI_bm (h : Below (w.heap.size + 2) (twoI W H A A2 n cap n2 c2 w) wr) : Blk wr w.heap.size 28 (meshC W H A n cap) :=
  ((Blk.new w 28 (meshC W H A n cap)).alloc _).below h (by omega)
theorem twoI_bo (h : Below (w.heap.size + 2) (twoI W H A A2 n cap n2 c2 w) wr) : Below w.heap.size w wr :=
  (gb_below_none twoI_gb (Nat.le_refl _)).trans (h.mono (by omega))
theorem twoI_bs (h : Below (w.heap.size + 2) (twoI W H A A2 n cap n2 c2 w) wr) : w.heap.size + 2 ≤ wr.heap.size := by have := h.size; rw [twoI_size] at this; exact this
theorem WksAt.cells (h : WksAt W H A A2 n cap n2 c2 L P w g1 j v wr) : wr.cell? ⟨w.heap.size, 0, none⟩ = some (.int .i64 W) ∧ wr.cell? ⟨w.heap.size, 1, none⟩ = some (.int .i64 H) ∧ wr.cell? ⟨w.heap.size, 2, none⟩ = some (.slice A n cap) :=
  ⟨(twoI_bm h.2.2.2).cell 0, (twoI_bm h.2.2.2).cell 1, (twoI_bm h.2.2.2).cell 2⟩
end
set_option maxHeartbeats 1600000 in
theorem implWalksOf (W H : Int) (A A2 : Option Addr) (n cap n2 c2 : Nat) (L P : List Int) (hL : WfL L) (w : World) (h : IntAt w w.heap.size A n L) (h2 : IntAt w w.heap.size A2 n2 P) (hn : n ≤ 1000000000) (hn2 : n2 ≤ 1000000000) :
    Calls Try.prog 43 #[.agg #[.int .i64 W, .int .i64 H, .slice A n cap], .agg #[.slice A2 n2 c2]] w (NewL (wlkN W H L P) (pairW W H L P) w) := by
  obtain ⟨i0, hi, hz0, hz1, hz2⟩ := info_parts info_lists
  have HI := Lib.hid h
  have HT1 := Lib.hid (h.twoI (W := W) (H := H) (A := A) (A2 := A2) (n := n) (cap := cap) (n2 := n2) (c2 := c2))
  have HT2 := Lib.hid (h2.twoI (W := W) (H := H) (A := A) (A2 := A2) (n := n) (cap := cap) (n2 := n2) (c2 := c2))
  have TZ := Lib.hid (twoI_size (W := W) (H := H) (A := A) (A2 := A2) (n := n) (cap := cap) (n2 := n2) (c2 := c2) (w := w))
  clear h h2
  obtain ⟨N, hN⟩ : ∃ N, wlkN W H L P = N := ⟨_, rfl⟩
  rw [hN]
  have HNN := Lib.hid hN
  clear hN
  cases hs : sizedG W H L P with
  | false =>
    have HPO := Lib.hid (fun w h h2 => implPortsNo W H A A2 n cap n2 c2 L P hL w h h2 hn hn2 hs)
    have HR := Lib.hid (HNN.out.symm.trans (wlkN_no (tableG_unsized hs)))
    clear hs hL
    go_enter Try.func43, Try.ntmps43
    go_wp2_with fail
    refine (HPO.out _ HT1.out HT2.out).mono ?_
    rintro e w1 ⟨rfl, hg⟩
    have HG1 := Lib.hid (show (twoI W H A A2 n cap n2 c2 w).grownBy w1 none from hg)
    clear hg
    go_wp2_with (refine wpList_storeX rfl (.tmp 5) _ rfl w1.heap.size zerosX zerosX rfl rfl (new_square w1) zerosX_length zerosX_length ?_; intro w2 hb2 hg2; have HG2 := Lib.hid (gb_square HG1.out hg2); clear hb2 hg2)
    go_ret
    exact ⟨_, rfl, by rw [HR.out]; exact ListsAt.nil _ _ _, gb_below_none (twoI_old HG2.out) (Nat.le_refl _)⟩
  | true =>
    have HPO := Lib.hid (fun w h h2 => implPortsYes W H A A2 n cap n2 c2 L P hL w h h2 hn hn2 hs)
    have HPX := Lib.hid (portsX_is hs)
    have hki := cntN_int W H
    obtain ⟨k, hk⟩ : ∃ k, cntN W H = k := ⟨_, rfl⟩
    have hk1 := cntN_le W H
    rw [hk] at hki hk1
    have HN := Lib.hid (fun w => show Calls Try.prog 68 #[.agg #[.int .i64 W, .int .i64 H]] w (RetI (k : Int) none w) from hki ▸ implNodeCount W H w)
    have HW := Lib.hid (fun (x y : Nat) (hx : x < k) (hy : y < k) w g h hb => implWalk W H A n cap L P (portsX W H P P.length) g x y hL w h hn HPX.out hb (by omega) (by omega))
    have HAT := Lib.hid (fun (x y : Nat) (hy : y < k) => pairW_at (L := L) (P := P) hk (x := x) hy)
    have HS := Lib.hid hs
    have HKI := Lib.hid hki
    have HKK := Lib.hid hk
    have HSQ := Lib.hid (sqG_cnt hk)
    clear hs hL hki hk
    go_enter Try.func43, Try.ntmps43
    go_wp2_with fail
    refine (HPO.out _ HT1.out HT2.out).mono ?_
    rintro e w1 ⟨rfl, hg⟩
    have HG1 := Lib.hid (show (twoI W H A A2 n cap n2 c2 w).grownBy w1 none from hg)
    clear hg
    go_wp2_with (refine wpList_storeX rfl (.tmp 5) _ rfl w1.heap.size zerosX (portsX W H P P.length) rfl rfl (new_square w1) zerosX_length (sqTo_length _ _ _) ?_; intro w2 hb2 hg2; have HX2 := Lib.hid (show WksAt W H A A2 n cap n2 c2 L P w w1.heap.size 0 (.slice none 0 0) w2 from ⟨hb2, ListsAt.nil _ _ _, twoI_le HG1.out, gb_below_none (gb_square HG1.out hg2) (by rw [TZ.out]; exact Nat.le_refl _)⟩); obtain ⟨a0, a1, _⟩ := HX2.out.cells; clear hb2 hg2)
    refine (HN.out _).mono ?_
    rintro e w3 ⟨rfl, hg3⟩
    have HX3 := Lib.hid (HX2.out.gb hg3)
    obtain ⟨g1, hg1⟩ : ∃ g, w1.heap.size = g := ⟨_, rfl⟩
    rw [hg1] at HX3
    clear a0 a1 hg3
    go_wp2_with fail
    (try rw [hg1])
    clear hg1
    go_loopw [7, 23] (fun v i wr => ∃ x : Nat, i = .int .i64 (x : Int) ∧ x ≤ k ∧ pairsTo W H L P x 0 ∧ WksAt W H A A2 n cap n2 c2 L P w g1 (x * k) v wr) (fun _ i _ => 17 - (intOf i).toNat)
    case atStart => exact ⟨0, rfl, Nat.zero_le _, pairs_zero, by rw [Nat.zero_mul]; exact HX3.out⟩
    case round =>
      obtain ⟨x, rfl, hxk, hpairs, hx⟩ := hrel
      have HP0 := Lib.hid hpairs
      have HX4 := Lib.hid hx
      obtain ⟨a0, a1, _⟩ := hx.cells
      clear hpairs hx
      by_cases hlt : x < k
      · have HXK := Lib.hid hlt
        have hx16 : (x : Int) < 16 := by omega
        go_wp2_with fail
        refine (HN.out _).mono ?_
        rintro e w4 ⟨rfl, hg4⟩
        have HX5 := Lib.hid (HX4.out.gb hg4)
        clear hg4 a0 a1
        go_wp2_with fail
        go_loopw [7, 29] (fun v i wr => ∃ y : Nat, i = .int .i64 (y : Int) ∧ y ≤ k ∧ pairsTo W H L P x y ∧ WksAt W H A A2 n cap n2 c2 L P w g1 (x * k + y) v wr) (fun _ i _ => 17 - (intOf i).toNat)
        case atStart => exact ⟨0, rfl, Nat.zero_le _, HP0.out, HX5.out⟩
        case round =>
          obtain ⟨y, rfl, hyk, hpairs, hy⟩ := hrel
          have HP1 := Lib.hid hpairs
          have HX6 := Lib.hid hy
          clear hpairs hy
          by_cases hlt2 : y < k
          · have hy16 : (y : Int) < 16 := by omega
            obtain ⟨a0, a1, a2⟩ := HX6.out.cells
            have hi2 := (HI.out.below (twoI_bo HX6.out.2.2.2)).more (B' := wr.heap.size) (twoI_bo HX6.out.2.2.2).size
            have HE := Lib.hid (ends_entry (W := W) (H := H) (L := L) (P := P) x y)
            obtain ⟨j, hj⟩ : ∃ j, x * k + y = j := ⟨_, rfl⟩
            have hj9 : j ≤ 256 := by
              have h1 : x * k ≤ 15 * 16 := Nat.mul_le_mul (by omega) (by omega)
              omega
            obtain ⟨R, hR⟩ : ∃ R, walkOf W H L P x y = R := ⟨_, rfl⟩
            have HF := Lib.hid (show pairW W H L P j = R by rw [← hj, ← hR]; exact HAT.out x y hlt2)
            have HW6 := Lib.hid (HW.out x y HXK.out hlt2 _ _ hi2 HX6.out.1)
            rw [hR] at HW6
            have HJ := Lib.hid hj
            rw [hj] at HX6
            clear hi2 hj hR
            go_wp2_with fail
            refine HW6.out.mono ?_
            rintro e w6 ⟨vq, rfl, ho6, hb6⟩
            have HX7 := Lib.hid (HX6.out.gb (gb_of_below hb6 none))
            obtain ⟨Aq, capq, rfl, _⟩ := own_form ho6
            have HO6 := Lib.hid (own_less ho6 (twoI_bs HX6.out.2.2.2))
            rw [HE.out]
            clear a0 a1 a2 ho6 hb6
            cases he : entryG W H L P x y with
            | false =>
              have hf := tableG_no (W := W) (H := H) (L := L) (P := P) (a := x) (b := y) (by rw [← HKI.out]; omega) (by rw [← HKI.out]; omega) he
              have HR := Lib.hid (HNN.out.symm.trans (wlkN_no hf))
              clear hf he
              go_wp2_with fail
              go_ret
              exact ⟨_, rfl, by rw [HR.out]; exact ListsAt.nil _ _ _, twoI_bo HX7.out.2.2.2⟩
            | true =>
              have HPn := Lib.hid (pairs_next HP1.out he)
              clear he
              obtain ⟨vs, hvo, hvi⟩ := HX7.out.2.1
              obtain ⟨Av, cv, rfl, _⟩ := own_form hvo
              have HVO := Lib.hid hvo
              have HVI := Lib.hid hvi
              have b3 := Lib.hid (one_slice Aq R.length capq)
              have b4 := Lib.hid (show j + 1 ≤ maxLen by unfold maxLen; omega)
              have b5 := Lib.hid (twoI_bs HX7.out.2.2.2)
              clear hvo hvi
              go_wp2_with (at_builtin; refine wpList_append_own _ rfl _ _ 70 rfl (w.heap.size + 2) 26 i0 (.slice none 0 0) 1 24 Try.underlying70 hi hz0 hz1 hz2 rfl (by decide) _ j _ rfl (HVO.out.alloc _) ⟨w6.heap.size, 0, none⟩ 1 1 [.slice Aq R.length capq] rfl rfl (World.news_of_block (cs := #[.slice Aq R.length capq]) (t := 26) (fr := (0, 0)) (heap_alloc_new w6 _)) b3.out b4.out (by omega) (by have := b5.out; simp; omega) ?_; intro v' w7 hown7 hgrow7 _)
              have HX8 := Lib.hid (show WksAt W H A A2 n cap n2 c2 L P w g1 (x * k + (y + 1)) v' w7 from by
                have h5 := HX7.out
                rw [← Nat.add_assoc, HJ.out]
                have hF := HF.out
                refine ⟨(h5.1.alloc _).grown hgrow7 (fun e => own_ne HVO.out h5.1 (by decide) e.symm), ?_, h5.2.2.1, (h5.2.2.2.alloc b5.out _).grown hgrow7 (by have := b5.out; simp; omega) (fun q hq => (HVO.out.lt q hq).1)⟩
                exact ListsAt.app (F := pairW W H L P) HVO.out HVI.out (by rw [hF]; exact HO6.out) (by rw [hF]; exact hown7) hgrow7)
              clear hown7 hgrow7
              go_wp2_with fail
              go_roundw
              case rel => exact ⟨y + 1, by go_num, by omega, HPn.out, HX8.out⟩
              case measure => simp [intOf]; omega
          · obtain rfl : y = k := by omega
            have HPr := Lib.hid (pairs_row HP1.out HKI.out)
            go_wp2_with fail
            go_roundw
            case rel => exact ⟨x + 1, by go_num, by omega, HPr.out, by rw [Nat.add_mul, Nat.one_mul]; exact HX6.out⟩
            case measure => simp [intOf]; omega
      · obtain rfl : x = k := by omega
        have hf := tableG_yes HS.out HP0.out HKI.out
        have HR := Lib.hid (show N = x * x by rw [← HNN.out, wlkN_yes hf, HSQ.out])
        clear a0 a1 hf
        go_wp2_with fail
        go_ret
        exact ⟨_, rfl, by rw [HR.out]; exact HX4.out.2.1.less (by omega), twoI_bo HX4.out.2.2.2⟩
end Go.Proofs.Ytnpjadofhpaapaa
end

section
namespace Go.Proofs.Ytnpjadofhpaapaa
open Go.ChangeShapes Go.WideShapes Go.ChangeAt Go.RowKit
set_option linter.unusedVariables false
set_option maxRecDepth 20000

theorem gb_dr {a b : World} {row : Option Nat} (h : a.drew.grownBy b row) : a.grownBy b row := ⟨h.os, h.tape, h.output, h.size, h.block⟩
theorem cell_more {w : World} {p : Addr} {v : Value} (h : w.cell? p = some v) (o : Obj) : (w.alloc o).cell? p = some v := (gb_alloc (gb_refl w none) o).cell h (by simp)
theorem libNaN (x : Int) (w : World) : Calls Try.prog 88 #[.int .i64 x] w (RetB false w) := by
  go_enter Try.func88, Try.ntmps88
  go_wp2_with fail
  go_ret
  exact ⟨by simp, gb_refl _ _⟩
theorem libCompare (x y : Int) (w : World) : Calls Try.prog 73 #[.int .i64 x, .int .i64 y] w (RetI (cmpI x y) none w) := by
  have N1 := Lib.hid (fun w => libNaN x w)
  have N2 := Lib.hid (fun w => libNaN y w)
  rcases Int.lt_trichotomy x y with h | h | h
  · have hr : cmpI x y = -1 := if_pos h
    have HR := Lib.hid hr
    clear hr
    go_enter Try.func73, Try.ntmps73
    go_wp2_with fail
    refine (N1.out _).mono ?_
    rintro e w1 ⟨rfl, hg1⟩
    have G1 := Lib.hid hg1
    clear hg1
    go_wp2_with fail
    refine (N2.out _).mono ?_
    rintro e w2 ⟨rfl, hg2⟩
    have G2 := Lib.hid (gb_trans G1.out hg2)
    clear hg2
    go_wp2_with fail
    go_ret
    exact ⟨by rw [HR.out]; rfl, G2.out⟩
  · have hr : cmpI x y = 0 := cmpI_zero.2 h
    have HR := Lib.hid hr
    subst h
    clear hr
    go_enter Try.func73, Try.ntmps73
    go_wp2_with fail
    refine (N1.out _).mono ?_
    rintro e w1 ⟨rfl, hg1⟩
    have G1 := Lib.hid hg1
    clear hg1
    go_wp2_with fail
    refine (N2.out _).mono ?_
    rintro e w2 ⟨rfl, hg2⟩
    have G2 := Lib.hid (gb_trans G1.out hg2)
    clear hg2
    go_wp2_with fail
    go_ret
    exact ⟨by rw [HR.out]; rfl, G2.out⟩
  · have hr : cmpI x y = 1 := by unfold cmpI; rw [if_neg (by omega), if_pos h]
    have HR := Lib.hid hr
    have hn : ¬ x < y := by omega
    clear hr
    go_enter Try.func73, Try.ntmps73
    go_wp2_with fail
    refine (N1.out _).mono ?_
    rintro e w1 ⟨rfl, hg1⟩
    have G1 := Lib.hid hg1
    clear hg1
    go_wp2_with fail
    refine (N2.out _).mono ?_
    rintro e w2 ⟨rfl, hg2⟩
    have G2 := Lib.hid (gb_trans G1.out hg2)
    clear hg2
    go_wp2_with fail
    go_ret
    exact ⟨by rw [HR.out]; rfl, G2.out⟩

/-- cmp.Or of two numbers. -/
theorem libOr (g : Nat) (x y : Int) (w : World) (h0 : w.cell? ⟨g, 0, none⟩ = some (.int .i64 x)) (h1 : w.cell? ⟨g, 1, none⟩ = some (.int .i64 y)) :
    Calls Try.prog 72 #[.slice (some ⟨g, 0, none⟩) 2 2] w (RetI (if x ≠ 0 then x else y) none w) := by
  by_cases hx : x = 0
  · subst hx
    by_cases hy : y = 0
    · subst hy
      have H0 := Lib.hid h0
      have H1 := Lib.hid h1
      clear h0 h1
      go_enter Try.func72, Try.ntmps72
      go_wp2_with fail
      go_loopw [8] (fun i wr => ∃ k m : Nat, i = .int .i64 (k : Int) ∧ k ≤ 2 ∧ wr = w.drewN m) (fun i _ => 2 - (intOf i).toNat)
      case atStart => exact ⟨0, 0, rfl, by omega, rfl⟩
      case round =>
        obtain ⟨k, m, rfl, hk, rfl⟩ := hrel
        have e0 : (w.drewN m).cell? ⟨g, 0, none⟩ = some (.int .i64 0) := H0.out
        have e1 : (w.drewN m).cell? ⟨g, 1, none⟩ = some (.int .i64 0) := H1.out
        rcases (show k = 0 ∨ k = 1 ∨ k = 2 by omega) with rfl | rfl | rfl
        · go_wp2_with fail
          go_roundw
          case rel => exact ⟨1, _, rfl, by omega, rfl⟩
          case measure => simp [intOf]
        · go_wp2_with fail
          go_roundw
          case rel => exact ⟨2, _, rfl, by omega, rfl⟩
          case measure => simp [intOf]
        · go_wp2_with fail
          go_ret
          exact ⟨by simp, gb_drewN (gb_refl _ _) _⟩
    · have H0 := Lib.hid h0
      have H1 := Lib.hid h1
      clear h0 h1
      go_enter Try.func72, Try.ntmps72
      go_wp2_with fail
      go_loopw [8] (fun i wr => ∃ k m : Nat, i = .int .i64 (k : Int) ∧ k ≤ 1 ∧ wr = w.drewN m) (fun i _ => 2 - (intOf i).toNat)
      case atStart => exact ⟨0, 0, rfl, by omega, rfl⟩
      case round =>
        obtain ⟨k, m, rfl, hk, rfl⟩ := hrel
        have e0 : (w.drewN m).cell? ⟨g, 0, none⟩ = some (.int .i64 0) := H0.out
        have e1 : (w.drewN m).cell? ⟨g, 1, none⟩ = some (.int .i64 y) := H1.out
        rcases (show k = 0 ∨ k = 1 by omega) with rfl | rfl
        · go_wp2_with fail
          go_roundw
          case rel => exact ⟨1, _, rfl, by omega, rfl⟩
          case measure => simp [intOf]
        · go_wp2_with fail
          go_ret
          exact ⟨by simp, gb_drewN (gb_refl _ _) _⟩
  · have H0 := Lib.hid h0
    have H1 := Lib.hid h1
    clear h0 h1
    go_enter Try.func72, Try.ntmps72
    go_wp2_with fail
    go_loopw [8] (fun i wr => ∃ m : Nat, i = .int .i64 0 ∧ wr = w.drewN m) (fun i _ => 2 - (intOf i).toNat)
    case atStart => exact ⟨0, rfl, rfl⟩
    case round =>
      obtain ⟨m, rfl, rfl⟩ := hrel
      have e0 : (w.drewN m).cell? ⟨g, 0, none⟩ = some (.int .i64 x) := H0.out
      go_wp2_with fail
      go_ret
      exact ⟨by simp, gb_drewN (gb_refl _ _) _⟩

abbrev twoD (a b : Dep) (w : World) : World := (w.alloc (.cells #[.int .i64 a.1, .int .i64 a.2] 36)).alloc (.cells #[.int .i64 b.1, .int .i64 b.2] 36)
theorem twoD_a (a b : Dep) (w : World) : Blk (twoD a b w) w.heap.size 36 #[.int .i64 a.1, .int .i64 a.2] := (Blk.new w 36 #[.int .i64 a.1, .int .i64 a.2]).alloc _
theorem twoD_b (a b : Dep) (w : World) : Blk (twoD a b w) (w.heap.size + 1) 36 #[.int .i64 b.1, .int .i64 b.2] := by
  have h := Blk.new (w.alloc (.cells #[.int .i64 a.1, .int .i64 a.2] 36)) 36 #[.int .i64 b.1, .int .i64 b.2]
  rw [alloc_size] at h
  exact h
theorem twoD_gb (a b : Dep) (w : World) : w.grownBy (twoD a b w) none := gb_alloc (gb_alloc (gb_refl _ _) _) _

theorem or_c0 (w : World) (x y : Value) (t : TypeId) : (w.alloc (.cells #[x, y] t)).cell? ⟨w.heap.size, 0, none⟩ = some x := by rw [World.cell?_alloc_at (w := w) #[x, y] t w.heap.size 0 rfl]; rfl
theorem or_c1 (w : World) (x y : Value) (t : TypeId) : (w.alloc (.cells #[x, y] t)).cell? ⟨w.heap.size, 1, none⟩ = some y := by rw [World.cell?_alloc_at (w := w) #[x, y] t w.heap.size 1 rfl]; rfl
theorem libOrD (a b : Dep) (r : Int) (hr : cmpD a b = r) (w : World) :
    Calls Try.prog 72 #[.slice (some ⟨w.heap.size, 0, none⟩) 2 2] (w.alloc (.cells #[.int .i64 (cmpI a.1 b.1), .int .i64 (cmpI a.2 b.2)] 3)) (RetI r none (w.alloc (.cells #[.int .i64 (cmpI a.1 b.1), .int .i64 (cmpI a.2 b.2)] 3))) := by
  subst hr
  exact libOr w.heap.size (cmpI a.1 b.1) (cmpI a.2 b.2) _ (or_c0 w _ _ _) (or_c1 w _ _ _)
theorem implCompare (a b : Dep) (w : World) : Calls Try.prog 45 #[.agg #[.int .i64 a.1, .int .i64 a.2], .agg #[.int .i64 b.1, .int .i64 b.2]] w (RetI (cmpD a b) none w) := by
  have C1 := Lib.hid (fun w => libCompare a.1 b.1 w)
  have C2 := Lib.hid (fun w => libCompare a.2 b.2 w)
  obtain ⟨r, hr⟩ : ∃ r, cmpD a b = r := ⟨_, rfl⟩
  have CO := Lib.hid (fun (w : World) => libOrD a b r hr w)
  rw [hr]
  clear hr
  have TA := Lib.hid (twoD_a a b w)
  have TB := Lib.hid (twoD_b a b w)
  have TG := Lib.hid (twoD_gb a b w)
  obtain ⟨a1, a2⟩ := a
  obtain ⟨b1, b2⟩ := b
  have a0 : (twoD (a1, a2) (b1, b2) w).cell? ⟨w.heap.size, 0, none⟩ = some (.int .i64 a1) := TA.out.cell 0
  have a3 : (twoD (a1, a2) (b1, b2) w).cell? ⟨w.heap.size, 1, none⟩ = some (.int .i64 a2) := TA.out.cell 1
  have b0 : (twoD (a1, a2) (b1, b2) w).cell? ⟨w.heap.size + 1, 0, none⟩ = some (.int .i64 b1) := TB.out.cell 0
  have b3 : (twoD (a1, a2) (b1, b2) w).cell? ⟨w.heap.size + 1, 1, none⟩ = some (.int .i64 b2) := TB.out.cell 1
  have G0 := Lib.hid (gb_refl (twoD (a1, a2) (b1, b2) w) none)
  obtain ⟨B, hB⟩ : ∃ B, w.heap.size = B := ⟨_, rfl⟩
  rw [hB] at a0 a3 b0 b3
  go_enter Try.func45, Try.ntmps45
  go_wp2_with fail
  go_region_held3 (fun w' => w'.cell? ⟨B, 0, none⟩ = some (.int .i64 a1) ∧ w'.cell? ⟨B, 1, none⟩ = some (.int .i64 a2) ∧ w'.cell? ⟨B + 1, 0, none⟩ = some (.int .i64 b1) ∧ w'.cell? ⟨B + 1, 1, none⟩ = some (.int .i64 b2))
    (first | exact ⟨a0, a3, b0, b3⟩ | exact ⟨d0, d1, d2, d3⟩ | exact ⟨k0, k1, k2, k3⟩ | exact ⟨f0, f1, f2, f3⟩ | exact ⟨cell_more f0 _, cell_more f1 _, cell_more f2 _, cell_more f3 _⟩ | fail)
    (first
      | (go_at_call 73; (with_reducible refine (C1.out _).mono ?_); rintro e w4 ⟨rfl, hg4⟩; have h4 := gb_dr hg4; have d0 := h4.cell a0 (by simp); have d1 := h4.cell a3 (by simp); have d2 := h4.cell b0 (by simp); have d3 := h4.cell b3 (by simp); have G4 := Lib.hid h4; clear h4 hg4)
      | (go_at_call 73; (with_reducible refine (C2.out _).mono ?_); rintro e w5 ⟨rfl, hg5⟩; have h5 := hg5; have f0 := h5.cell d0 (by simp); have f1 := h5.cell d1 (by simp); have f2 := h5.cell d2 (by simp); have f3 := h5.cell d3 (by simp); have G5 := Lib.hid h5; clear h5 hg5)
      | (go_at_call 72; (with_reducible refine (CO.out _).mono ?_); rintro e w6 ⟨rfl, hg6⟩; have k0 := hg6.cell (cell_more f0 _) (by simp); have k1 := hg6.cell (cell_more f1 _) (by simp); have k2 := hg6.cell (cell_more f2 _) (by simp); have k3 := hg6.cell (cell_more f3 _) (by simp); have G6 := Lib.hid hg6; clear hg6)
      | fail)
  all_goals
    have G7 := Lib.hid (gb_trans TG.out (gb_trans G4.out (gb_trans G5.out (gb_trans (gb_alloc (gb_refl _ _) _) G6.out))))
    clear k0 k1 k2 k3 f0 f1 f2 f3 d0 d1 d2 d3 a0 a3 b0 b3 G4 G5 G6
    go_wp2_with fail
    go_ret
    exact ⟨rfl, G7.out⟩
end Go.Proofs.Ytnpjadofhpaapaa
end

section
namespace Go.Proofs.Ytnpjadofhpaapaa
open Go.ChangeShapes Go.WideShapes Go.ChangeAt Go.RowKit
set_option linter.unusedVariables false
set_option maxRecDepth 20000

/-- Where d belongs, and whether it is there. -/
def RetBs (D : List Dep) (d : Dep) (w : World) (e : Ending) (w' : World) : Prop :=
  e = .returned (.tuple #[.int .i64 (lowN D d : Nat), .bool (decide (d ∈ D))]) ∧ w.grownBy w' none
/-- The search has come to lo and hi. -/
def srchD (D : List Dep) (d : Dep) (lo hi : Nat) : Prop := lo ≤ hi ∧ hi ≤ D.length ∧ (∀ t, t < lo → ltD (atD D t) d = true) ∧ (∀ t, hi ≤ t → t < D.length → ltD (atD D t) d = false)
theorem srch_up {D : List Dep} (hD : ascD D) {d : Dep} {lo hi i : Nat} (h : srchD D d lo hi) (hi1 : i < hi) (hlt : ltD (atD D i) d = true) : srchD D d (i + 1) hi :=
  ⟨hi1, h.2.1, fun t ht => by
    rcases Nat.lt_or_eq_of_le (Nat.le_of_lt_succ ht) with h1 | h1
    · exact ltD_trans (asc_at hD h1 (by have := h.2.1; omega)) hlt
    · rw [h1]; exact hlt, h.2.2.2⟩
theorem srch_down {D : List Dep} (hD : ascD D) {d : Dep} {lo hi i : Nat} (h : srchD D d lo hi) (h1 : lo ≤ i) (h2 : i < hi) (hlt : ltD (atD D i) d = false) : srchD D d lo i :=
  ⟨h1, by have := h.2.1; omega, h.2.2.1, fun t ht htn => by
    rcases Nat.lt_or_eq_of_le ht with h3 | h3
    · cases h4 : ltD (atD D t) d with
      | false => rfl
      | true => rw [ltD_trans (asc_at hD h3 htn) h4] at hlt; cases hlt
    · rw [← h3]; exact hlt⟩
theorem srch_end {D : List Dep} {d : Dep} {lo : Nat} (h : srchD D d lo lo) : lowN D d = lo := lowN_of h.2.1 h.2.2.1 (fun hlt => h.2.2.2 lo (Nat.le_refl _) hlt)

theorem ret_bs {D : List Dep} {d : Dep} {k : Nat} {b : Bool} (h : lowN D d = k) (hb : b = decide (d ∈ D)) : Ending.returned (.tuple #[.int .i64 (k : Int), .bool b]) = .returned (.tuple #[.int .i64 (lowN D d : Nat), .bool (decide (d ∈ D))]) := by rw [h, hb]
theorem libSearch (A : Option Addr) (n cap : Nat) (D : List Dep) (d : Dep) (hD : ascD D) (w : World) (h : DepAt w w.heap.size A n D) (hn : n ≤ 4000000000) :
    Calls Try.prog 70 #[.slice A n cap, .agg #[.int .i64 d.1, .int .i64 d.2], .func (.func 45) #[] #[]] w (RetBs D d w) := by
  have HI := Lib.hid h
  have hl := h.1
  have HC := Lib.hid (fun (a : Dep) w => implCompare a d w)
  have BG := Lib.hid (boxD_gb d w)
  have BB := Lib.hid (boxD_blk d w)
  have HASC := Lib.hid hD
  have HTI := Lib.hid (there_iff hD (d := d))
  have eg : ∀ args w, (callFunc 45 args).run Try.prog w = .ok (.enter 45 args) w := fun args w => Try.call45 args w
  clear h hD
  go_enter Try.func70, Try.ntmps70
  go_wp2_with fail
  go_loopw [9, 10] (fun i j wr => ∃ lo hi : Nat, i = .int .i64 (lo : Int) ∧ j = .int .i64 (hi : Int) ∧ srchD D d lo hi ∧ (boxD d w).grownBy wr none) (fun i j _ => (intOf j).toNat - (intOf i).toNat)
  case atStart => exact ⟨0, n, rfl, rfl, ⟨Nat.zero_le _, by omega, fun t ht => by omega, fun t h1 h2 => by omega⟩, gb_refl _ _⟩
  case round =>
    obtain ⟨lo, hi, rfl, rfl, hs, hg⟩ := hrel
    have HS := Lib.hid hs
    have HG := Lib.hid hg
    have bb := BB.out.grown hg (by simp)
    have t0 : wr.cell? ⟨w.heap.size, 0, none⟩ = some (.int .i64 d.1) := bb.cell 0
    have t1 : wr.cell? ⟨w.heap.size, 1, none⟩ = some (.int .i64 d.2) := bb.cell 1
    have hlh := hs.1
    have hhn := hs.2.1
    have hai := HI.out.none (Nat.le_refl _) (gb_trans BG.out hg)
    clear bb hs hg
    by_cases hlt : lo < hi
    · obtain ⟨m, hm⟩ : ∃ m, (lo + hi) / 2 = m := ⟨_, rfl⟩
      have hmi : ((lo : Int) + (hi : Int)) / 2 = (m : Int) := by omega
      obtain ⟨b, off, rfl, hb, c0, c1⟩ := hai.at m (by omega)
      obtain ⟨x, hx⟩ : ∃ x, atD D m = x := ⟨_, rfl⟩
      rw [hx] at c0 c1
      have m0 : (0 : Int) ≤ (m : Int) := by omega
      have m1 : (m : Int) < (n : Int) := by omega
      have HX := Lib.hid hx
      have HM := Lib.hid (show lo ≤ m ∧ m < hi by omega)
      clear hx hm hai
      obtain ⟨r, hr⟩ : ∃ r, cmpD x d = r := ⟨_, rfl⟩
      have HX2 := Lib.hid (fun w => show Calls _ _ _ w (RetI r none w) from hr ▸ HC.out x w)
      by_cases hc : r < 0
      · have HL := Lib.hid (cmpD_neg.1 (show cmpD x d < 0 by omega))
        clear hr
        go_wp2_with fail
        go_region_held3 (fun w' => w'.cell? ⟨w.heap.size, 0, none⟩ = some (.int .i64 d.1) ∧ w'.cell? ⟨w.heap.size, 1, none⟩ = some (.int .i64 d.2) ∧ w'.cell? ⟨b, off + m * 2, none⟩ = some (.int .i64 x.1) ∧ w'.cell? ⟨b, off + m * 2 + 1, none⟩ = some (.int .i64 x.2))
          (first | exact ⟨t0, t1, c0, c1⟩ | exact ⟨d0, d1, d2, d3⟩ | fail)
          (first
            | (go_at_fn 45; (with_reducible refine (HX2.out _).mono ?_); rintro e w4 ⟨rfl, hg4⟩; have h4 := gb_dr hg4; have d0 := h4.cell t0 (by simp); have d1 := h4.cell t1 (by simp); have d2 := h4.cell c0 (by simp); have d3 := h4.cell c1 (by simp); have G4 := Lib.hid (gb_trans HG.out h4); clear h4 hg4)
            | fail)
        all_goals
          clear d0 d1 d2 d3 t0 t1 c0 c1
          go_wp2_with fail
          go_roundw
          case rel => exact ⟨m + 1, hi, by go_num, rfl, srch_up HASC.out HS.out HM.out.2 (by rw [HX.out]; exact HL.out), G4.out⟩
          case measure => have := HM.out; simp [intOf]; omega
      · have HL := Lib.hid (show ltD x d = false by
          cases h : ltD x d with
          | false => rfl
          | true => have := cmpD_neg.2 h; omega)
        clear hr
        go_wp2_with fail
        go_region_held3 (fun w' => w'.cell? ⟨w.heap.size, 0, none⟩ = some (.int .i64 d.1) ∧ w'.cell? ⟨w.heap.size, 1, none⟩ = some (.int .i64 d.2) ∧ w'.cell? ⟨b, off + m * 2, none⟩ = some (.int .i64 x.1) ∧ w'.cell? ⟨b, off + m * 2 + 1, none⟩ = some (.int .i64 x.2))
          (first | exact ⟨t0, t1, c0, c1⟩ | exact ⟨d0, d1, d2, d3⟩ | fail)
          (first
            | (go_at_fn 45; (with_reducible refine (HX2.out _).mono ?_); rintro e w4 ⟨rfl, hg4⟩; have h4 := gb_dr hg4; have d0 := h4.cell t0 (by simp); have d1 := h4.cell t1 (by simp); have d2 := h4.cell c0 (by simp); have d3 := h4.cell c1 (by simp); have G4 := Lib.hid (gb_trans HG.out h4); clear h4 hg4)
            | fail)
        all_goals
          clear d0 d1 d2 d3 t0 t1 c0 c1
          go_wp2_with fail
          go_roundw
          case rel => exact ⟨lo, m, rfl, rfl, srch_down HASC.out HS.out HM.out.1 HM.out.2 (by rw [HX.out]; exact HL.out), G4.out⟩
          case measure => have := HM.out; simp [intOf]; omega
    · obtain rfl : hi = lo := by omega
      have hlow := srch_end HS.out
      by_cases hin : hi < n
      · obtain ⟨b, off, rfl, hb, c0, c1⟩ := hai.at hi hin
        obtain ⟨x, hx⟩ : ∃ x, atD D hi = x := ⟨_, rfl⟩
        rw [hx] at c0 c1
        obtain ⟨r, hr⟩ : ∃ r, cmpD x d = r := ⟨_, rfl⟩
        have HX2 := Lib.hid (fun w => show Calls _ _ _ w (RetI r none w) from hr ▸ HC.out x w)
        have hrd : decide (r = 0) = decide (d ∈ D) := decide_eq_decide.2 (by
          rw [← hr, cmpD_zero, HTI.out, hlow, hx]
          exact ⟨fun e => ⟨by omega, e⟩, fun e => e.2⟩)
        have HRD := Lib.hid hrd
        have HLOW := Lib.hid hlow
        have m0 : (0 : Int) ≤ (hi : Int) := by omega
        have m1 : (hi : Int) < (n : Int) := by omega
        have hd : decide ((hi : Int) < (n : Int)) = true := decide_eq_true m1
        clear hx hr hlow hrd hai hlt hin
        go_wp2_with fail
        go_region_held3 (fun w' => w'.cell? ⟨w.heap.size, 0, none⟩ = some (.int .i64 d.1) ∧ w'.cell? ⟨w.heap.size, 1, none⟩ = some (.int .i64 d.2) ∧ w'.cell? ⟨b, off + hi * 2, none⟩ = some (.int .i64 x.1) ∧ w'.cell? ⟨b, off + hi * 2 + 1, none⟩ = some (.int .i64 x.2))
          (first | exact ⟨t0, t1, c0, c1⟩ | exact ⟨d0, d1, d2, d3⟩ | fail)
          (first
            | (go_at_fn 45; (with_reducible refine (HX2.out _).mono ?_); rintro e w4 ⟨rfl, hg4⟩; have h4 := gb_dr hg4; have d0 := h4.cell t0 (by simp); have d1 := h4.cell t1 (by simp); have d2 := h4.cell c0 (by simp); have d3 := h4.cell c1 (by simp); have G4 := Lib.hid (gb_trans HG.out h4); clear h4 hg4)
            | fail)
        all_goals
          clear d0 d1 d2 d3 t0 t1 c0 c1
          go_wp2_with fail
          go_ret2
          exact ⟨ret_bs HLOW.out HRD.out, gb_trans BG.out G4.out⟩
      · have hd : decide ((hi : Int) < (n : Int)) = false := decide_eq_false (by omega)
        have hno : ¬ d ∈ D := fun h => by have := (HTI.out.1 h).1; omega
        have HN := Lib.hid hno
        have HLOW := Lib.hid hlow
        clear hno hlow hai
        go_wp2_with fail
        go_quiet (fail)
        all_goals
          go_wp2_with fail
          go_ret2
          exact ⟨ret_bs HLOW.out (decide_eq_false HN.out).symm, gb_trans BG.out (gb_drewN HG.out _)⟩
end Go.Proofs.Ytnpjadofhpaapaa
end

section
namespace Go.Proofs.Ytnpjadofhpaapaa
open Go.ChangeShapes Go.WideShapes Go.ChangeAt Go.RowKit
set_option linter.unusedVariables false
set_option maxRecDepth 100000

/-- copy, where an element has two cells. -/
theorem run_copy_row2 {P : Program} (w : World) (dT sT ty elem : TypeId) (g o dLen dCap : Nat) (a : Addr) (sLen sCap : Nat) (cur : Array Value) (t : TypeId) (cs : List Value)
    (hu : P.underlying dT = some (.slice elem)) (hs : (P.info? elem).map (·.size) = some 2)
    (hg : w.heap[g]? = some (.cells cur t (0, 0))) (hn : cs.length = Nat.min sLen dLen * 2)
    (hsrc : ∀ j v, cs[j]? = some v → w.cell? (a.add j) = some v) (hfit : o + cs.length ≤ cur.size) (h1 : ∀ v ∈ cs, v.oneCell' = true) :
    (Builtin.copy_ #[dT, sT] ty #[.slice (some ⟨g, o, none⟩) dLen dCap, .slice (some a) sLen sCap]).run P w =
      .ok (goInt (Nat.min sLen dLen)) (w.setRow g (cur.toList.take o ++ cs ++ cur.toList.drop (o + cs.length)).toArray) := by
  have hl := run_loadCells_list (P := P) w a cs hsrc
  have hst := run_storeCells_at P g o t cs 0 cur w hg (by simpa using hfit) h1
  cases hq : P.info? elem with
  | none => simp [hq] at hs
  | some i =>
    have hi : i.size = 2 := by simpa [hq] using hs
    simp [Builtin.copy_, run_underlying hu, Builtin.lenOf, Builtin.firstCells, sizeOf, typeInfo, hq, hi, ← hn, hl, hst]

theorem shift_list {α : Type} {c V X : List α} {p n : Nat} (hV : c.take n = V) (hp : p ≤ n) (hc : n + X.length ≤ c.length) :
    let c1 := c.take (p + X.length) ++ V.drop p ++ c.drop (p + X.length + (V.drop p).length)
    ((c1.take p ++ X ++ c1.drop (p + X.length)).take (n + X.length) = V.take p ++ X ++ V.drop p) ∧ (c1.take p ++ X ++ c1.drop (p + X.length)).length = c.length ∧ c1.length = c.length := by
  intro c1
  have hVl : V.length = n := by rw [← hV, List.length_take]; omega
  have hd : (V.drop p).length = n - p := by rw [List.length_drop, hVl]
  have e1 : c1.take p = V.take p := by
    show (c.take (p + X.length) ++ V.drop p ++ c.drop (p + X.length + (V.drop p).length)).take p = V.take p
    rw [List.append_assoc, List.take_append_of_le_length (by rw [List.length_take]; omega), List.take_take, ← hV, List.take_take]
    congr 1
    omega
  have hl1 : (c.take (p + X.length)).length = p + X.length := by rw [List.length_take]; omega
  have e2 : c1.drop (p + X.length) = V.drop p ++ c.drop (p + X.length + (V.drop p).length) := by
    show (c.take (p + X.length) ++ V.drop p ++ c.drop (p + X.length + (V.drop p).length)).drop (p + X.length) = _
    rw [List.append_assoc, List.drop_left' hl1]
  rw [e1, e2]
  have hl2 : (V.take p).length = p := by rw [List.length_take]; omega
  refine ⟨?_, ?_, ?_⟩
  · rw [← List.append_assoc, List.take_append_of_le_length (by simp only [List.length_append, hl2, hd]; omega), List.take_of_length_le (by simp only [List.length_append, hl2, hd]; omega)]
  · simp only [List.length_append, hl2, hd, List.length_drop]; omega
  · show (c.take (p + X.length) ++ V.drop p ++ c.drop (p + X.length + (V.drop p).length)).length = c.length
    simp only [List.length_append, hl1, hd, List.length_drop]; omega

theorem put_cells (D : List Dep) (x : Dep) (i : Nat) : depV (D.take i ++ x :: D.drop i) = (depV D).take (i * 2) ++ [.int .i64 x.1, .int .i64 x.2] ++ (depV D).drop (i * 2) := by
  have e : D.take i ++ x :: D.drop i = D.take i ++ [x] ++ D.drop i := by simp
  rw [e, depV_append, depV_append, depV_take, depV_drop]
  rfl
theorem fn_overlaps : Try.prog.funcs[86]? = some Try.f86 := by kernel_rfl

def PutAt (base : Nat) (v : Value) (D : List Dep) (w : World) (e : Ending) (w' : World) : Prop :=
  ∃ v', e = .returned v' ∧ w'.ownsRow base 36 2 v' D.length (depV D) ∧ w.grownBy w' v.ownBlock
theorem put_own {w : World} {base : Nat} {v : Value} {D : List Dep} {k : Nat} {xs : List Value} (h : w.ownsRow base 36 2 v k xs) (hk : k = D.length) (hx : xs = depV D) : w.ownsRow base 36 2 v D.length (depV D) := by subst hk; subst hx; exact h

/-- At the end. -/
theorem libInsEnd (base n vb : Nat) (v : Value) (D : List Dep) (x : Dep) (w : World) (h : w.ownsRow base 36 2 v n (depV D)) (hb : Blk w vb 36 #[.int .i64 x.1, .int .i64 x.2]) (hbase : base ≤ w.heap.size) (hn : n ≤ 4000000000) :
    Calls Try.prog 71 #[v, .int .i64 n, .slice (some ⟨vb, 0, none⟩) 1 1] w (PutAt base v (D ++ [x]) w) := by
  obtain ⟨i0, hi, hz0, hz1, hz2⟩ := info_parts info_dep
  have hl := own_dep_length h
  have e1 := Lib.hid (show n + 1 = (D ++ [x]).length by simp [hl])
  have e2 := Lib.hid (show depV D ++ [.int .i64 x.1, .int .i64 x.2] = depV (D ++ [x]) by rw [depV_append]; rfl)
  have b2 := Lib.hid (show ∀ u ∈ [Value.int .i64 x.1, .int .i64 x.2], u.oneCell' = true by simp [Value.oneCell'])
  have b3 := Lib.hid (show n + 1 ≤ maxLen by unfold maxLen; omega)
  have b4 := Lib.hid (show (n + 1) * 16 ≤ 140737488355328 by omega)
  have HO := Lib.hid h
  have HB := Lib.hid hb
  have HBA := Lib.hid hbase
  rcases h.2 with ⟨rfl, rfl⟩ | ⟨g, cap, cur, rfl, _⟩
  · clear h hb hbase hl
    go_enter Try.func71, Try.ntmps71
    go_wp2_with (at_builtin; refine wpList_append_own _ rfl _ _ 33 rfl base 36 i0 (.agg #[.int .i64 0, .int .i64 0]) 2 16 Try.underlying33 hi hz0 hz1 hz2 rfl (by decide) _ _ _ rfl HO.out ⟨vb, 0, none⟩ 1 1 [.int .i64 x.1, .int .i64 x.2] rfl rfl (World.news_of_block HB.out) b2.out b3.out b4.out HBA.out ?_; intro v' w' hown' hgrow' _)
    go_ret
    exact ⟨v', rfl, put_own hown' e1.out e2.out, hgrow'⟩
  · clear h hb hbase hl
    go_enter Try.func71, Try.ntmps71
    go_wp2_with (at_builtin; refine wpList_append_own _ rfl _ _ 33 rfl base 36 i0 (.agg #[.int .i64 0, .int .i64 0]) 2 16 Try.underlying33 hi hz0 hz1 hz2 rfl (by decide) _ _ _ rfl HO.out ⟨vb, 0, none⟩ 1 1 [.int .i64 x.1, .int .i64 x.2] rfl rfl (World.news_of_block HB.out) b2.out b3.out b4.out HBA.out ?_; intro v' w' hown' hgrow' _)
    all_goals (go_ret; exact ⟨v', rfl, put_own hown' e1.out e2.out, hgrow'⟩)

/-- Ahead of the end, where there is room: in place. -/
theorem libInsShift (base n vb g cap i : Nat) (D : List Dep) (x : Dep) (w : World) (h : w.ownsRow base 36 2 (.slice (some ⟨g, 0, none⟩) n cap) n (depV D)) (hb : Blk w vb 36 #[.int .i64 x.1, .int .i64 x.2]) (hbase : base ≤ w.heap.size) (hn : n ≤ 4000000000) (hi : i < n) (hroom : n + 1 ≤ cap) (hne : vb ≠ g) :
    Calls Try.prog 71 #[.slice (some ⟨g, 0, none⟩) n cap, .int .i64 i, .slice (some ⟨vb, 0, none⟩) 1 1] w (PutAt base (.slice (some ⟨g, 0, none⟩) n cap) (D.take i ++ x :: D.drop i) w) := by
  obtain ⟨i0, hi0, hz0, hz1, hz2⟩ := info_parts info_dep
  have hl := own_dep_length h
  obtain ⟨cur, hgc, hcm, hcs, htk⟩ : ∃ cur, w.heap[g]? = some (.cells cur 36 (0, 0)) ∧ cap ≤ maxLen ∧ cur.size = cap * 2 ∧ cur.toList.take (n * 2) = depV D := by
    rcases h.2 with ⟨h1, _⟩ | ⟨g', cap', cur, h1, _, h2, _, h3, h4, h5⟩
    · cases h1
    · obtain ⟨rfl, rfl⟩ : g = g' ∧ cap = cap' := by
        injection h1 with e1 e2 e3
        injection e1 with e1
        injection e1 with e1
        exact ⟨e1, e3⟩
      exact ⟨cur, h2, h3, h4, h5⟩
  have hsz : (Try.prog.info? 36).map (·.size) = some 2 := by rw [hi0]; simp [hz1]
  have hst := Try.underlying33
  have hzd : ∀ w, (Go.sizeOf 36).run Try.prog w = .ok 2 w := fun w => by simp [Go.sizeOf, typeInfo, hi0, hz1]
  have hsa : w.shape? vb = some (36, 2) := by
    have hb' : w.heap[vb]? = some (.cells #[.int .i64 x.1, .int .i64 x.2] 36 (0, 0)) := hb
    simp [World.shape?, hb']
  have hsb : w.shape? g = some (36, cap * 2) := by simp [World.shape?, hgc, hcs]
  have hfa : w.frozen? ⟨vb, 0, none⟩ = false := by
    have hb' : w.heap[vb]? = some (.cells #[.int .i64 x.1, .int .i64 x.2] 36 (0, 0)) := hb
    simp [World.frozen?, hb']
  have hfe : w.frozen? ⟨vb, 2, none⟩ = false := by
    have hb' : w.heap[vb]? = some (.cells #[.int .i64 x.1, .int .i64 x.2] 36 (0, 0)) := hb
    simp [World.frozen?, hb']
  have hov : ∀ o lb cb, (callFunc 86 #[.slice (some ⟨vb, 0, none⟩) 1 1, .slice (some ⟨g, o, none⟩) lb cb]).run Try.prog w = .ok (.value (.bool false)) w := fun o lb cb => by
    rw [run_callFunc_extern fn_overlaps (by kernel_rfl) (by kernel_rfl) (by kernel_rfl) (e := Extern.SlicesOverlaps.overlaps #[33, 33] #[4]) (by kernel_rfl),
      Lib.run_overlaps_apart w 33 4 36 hst 2 hzd ⟨vb, 0, none⟩ ⟨g, o, none⟩ 1 1 lb cb hne 36 36 2 (cap * 2) hsa hsb (by omega) hfa hfe]
    rfl
  have hVl : (depV D).length = n * 2 := by rw [depV_length, hl]
  have hdl : ((depV D).drop (i * 2)).length = (n - i) * 2 := by rw [List.length_drop, hVl]; omega
  have e2 : (i + 1) * 2 = i * 2 + 2 := by omega
  have hcl : cur.toList.length = cap * 2 := by rw [Array.length_toList]; exact hcs
  obtain ⟨hs1, hs2, hs3⟩ := shift_list (X := [Value.int .i64 x.1, Value.int .i64 x.2]) (p := i * 2) htk (by omega) (by rw [hcl]; simp; omega)
  obtain ⟨c1, hc1⟩ : ∃ c1 : Array Value, c1 = (cur.toList.take ((i + 1) * 2) ++ (depV D).drop (i * 2) ++ cur.toList.drop ((i + 1) * 2 + ((depV D).drop (i * 2)).length)).toArray := ⟨_, rfl⟩
  have hc1l : c1.toList = cur.toList.take (i * 2 + 2) ++ (depV D).drop (i * 2) ++ cur.toList.drop (i * 2 + 2 + ((depV D).drop (i * 2)).length) := by rw [hc1, e2]
  have hs4 : c1.toList.length = cap * 2 := by rw [hc1l, ← hcl]; exact hs3
  obtain ⟨c2, hc2⟩ : ∃ c2 : Array Value, c2 = (c1.toList.take (i * 2) ++ [Value.int .i64 x.1, Value.int .i64 x.2] ++ c1.toList.drop (i * 2 + [Value.int .i64 x.1, Value.int .i64 x.2].length)).toArray := ⟨_, rfl⟩
  have hown2 : c2.toList.take ((n + 1) * 2) = depV (D.take i ++ x :: D.drop i) ∧ c2.size = cap * 2 := by
    have hc2l : c2.toList = c1.toList.take (i * 2) ++ [Value.int .i64 x.1, Value.int .i64 x.2] ++ c1.toList.drop (i * 2 + [Value.int .i64 x.1, Value.int .i64 x.2].length) := by rw [hc2]
    rw [hc1l] at hc2l
    refine ⟨?_, ?_⟩
    · rw [put_cells, ← hs1, hc2l, show (n + 1) * 2 = n * 2 + [Value.int IntKind.i64 x.1, Value.int IntKind.i64 x.2].length by simp; omega]
      rfl
    · rw [← Array.length_toList, hc2l, ← hcl]; exact hs2
  have hcp1 : ∀ ty dc sc, (Builtin.copy_ #[33, 33] ty #[.slice (some ⟨g, (i + 1) * 2, none⟩) (n - i) dc, .slice (some ⟨g, i * 2, none⟩) (n + 1 - i) sc]).run Try.prog w.drew = .ok (goInt ((n - i : Nat) : Int)) (w.drew.setRow g c1) := fun ty dc sc => by
    have h := run_copy_row2 (P := Try.prog) w.drew 33 33 ty 36 g ((i + 1) * 2) (n - i) dc ⟨g, i * 2, none⟩ (n + 1 - i) sc cur 36 ((depV D).drop (i * 2)) hst hsz hgc (by rw [hdl, show Nat.min (n + 1 - i) (n - i) = n - i from by show min (n + 1 - i) (n - i) = n - i; omega])
      (fun j v hj => by
        have hj2 := (List.getElem?_eq_some_iff.1 hj).1
        rw [Addr.add_lit]
        rw [List.getElem?_drop] at hj
        exact (h.cellAt (i * 2 + j) (by omega)).trans hj)
      (by rw [hdl]; omega) (fun v hv => depV_one1 D v (List.mem_of_mem_drop hv))
    rw [show Nat.min (n + 1 - i) (n - i) = n - i from by show min (n + 1 - i) (n - i) = n - i; omega, ← hc1] at h
    exact h
  have hW1 : (w.drew.setRow g c1).heap[g]? = some (.cells c1 36 (0, 0)) := setRow_heap w.drew g cur c1 36 (0, 0) hgc
  have hcp2 : ∀ (W : World), W.heap = (w.drew.setRow g c1).heap → ∀ ty dc, (Builtin.copy_ #[33, 33] ty #[.slice (some ⟨g, i * 2, none⟩) (n + 1 - i) dc, .slice (some ⟨vb, 0, none⟩) 1 1]).run Try.prog W = .ok (goInt 1) (W.setRow g c2) := fun W hW ty dc => by
    have h := run_copy_row2 (P := Try.prog) W 33 33 ty 36 g (i * 2) (n + 1 - i) dc ⟨vb, 0, none⟩ 1 1 c1 36 [Value.int .i64 x.1, Value.int .i64 x.2] hst hsz (by rw [hW]; exact hW1) (by rw [show Nat.min 1 (n + 1 - i) = 1 from by show min 1 (n + 1 - i) = 1; omega]; rfl)
      (World.news_of_block (cs := #[.int .i64 x.1, .int .i64 x.2]) (t := 36) (fr := (0, 0)) (by rw [hW]; exact (setRow_other w.drew g vb c1 hne).trans hb)) (by rw [← Array.length_toList, hs4]; simp; omega) (by simp [Value.oneCell'])
    rw [show Nat.min 1 (n + 1 - i) = 1 from by show min 1 (n + 1 - i) = 1; omega, ← hc2] at h
    exact h
  have hfin : PutAt base (.slice (some ⟨g, 0, none⟩) n cap) (D.take i ++ x :: D.drop i) w (.returned (.slice (some ⟨g, 0, none⟩) (n + 1) cap)) ((w.drew.setRow g c1).setRow g c2) := by
    have hlen : (D.take i ++ x :: D.drop i).length = n + 1 := by simp [hl]; omega
    refine ⟨_, rfl, ?_, ?_⟩
    · rw [hlen]
      exact ⟨by rw [depV_length, hlen], .inr ⟨g, cap, c2, rfl, (h.lt g rfl).1, setRow_heap _ g c1 c2 _ _ hW1, by omega, hcm, hown2.2, hown2.1⟩⟩
    · exact ⟨rfl, rfl, rfl, by simp [World.setRow], fun k _ hk => by
        have hk' : k ≠ g := fun e => hk (by rw [e]; rfl)
        rw [setRow_other _ g k c2 hk', setRow_other _ g k c1 hk']; rfl⟩
  have HF := Lib.hid hfin
  have c63 : cap ≤ 9223372036854775807 := by unfold maxLen at hcm; omega
  have f2 : ¬ ((i : Int) = (n : Int)) := by omega
  have f1 : (0 : Int) ≤ (i : Int) + 1 := by omega
  have mixed : Try.prog.follows .mixedOrders = true := by kernel_rfl
  have f0 : IntKind.i64.wrap ((i : Int) + 1) = (i : Int) + 1 := by rw [IntKind.wrap_i64]; omega
  have f5 : i ≤ n := by omega
  have f6 : ((i : Int) + 1).toNat = i + 1 := by omega
  have f7 : (i : Int) ≤ (n : Int) + 1 := by omega
  have f10 : ¬ cap = i := by omega
  have f11 : ¬ cap = i + 1 := by omega
  clear h hb hgc hcs htk hst hzd hsa hsb hfa hfe hVl hdl e2 hcl hs1 hs2 hs3 hc1 hc1l hs4 hc2 hown2 hW1 hfin
  go_enter Try.func71, Try.ntmps71
  go_wp2_with (simp only [hov])
  go_region_law_o (refine step_copy_runI rfl _ _ 33 33 rfl _ _ (by simp [Act.eval, Act.put]) (by simp [Act.eval, Act.put]) (hcp1 _ _ _) ?_)
  go_wp2_with (at_builtin; refine wpList_copy_runI _ rfl _ _ 33 33 rfl _ _ rfl rfl (hcp2 _ rfl _ _) ?_)
  go_ret
  exact HF.out

theorem grow_list {α : Type} {R V X : List α} {p : Nat} (hR : R.take p = V.take p) (hp : p ≤ V.length) (hc : V.length + X.length ≤ R.length) :
    let c1 := R.take p ++ X ++ R.drop (p + X.length)
    ((c1.take (p + X.length) ++ V.drop p ++ c1.drop (p + X.length + (V.drop p).length)).take (V.length + X.length) = V.take p ++ X ++ V.drop p) ∧ (c1.take (p + X.length) ++ V.drop p ++ c1.drop (p + X.length + (V.drop p).length)).length = R.length ∧ c1.length = R.length := by
  intro c1
  have hl : (R.take p).length = p := by rw [List.length_take]; omega
  have hd : (V.drop p).length = V.length - p := by rw [List.length_drop]
  have e1 : c1.take (p + X.length) = R.take p ++ X := by
    show (R.take p ++ X ++ R.drop (p + X.length)).take (p + X.length) = _
    rw [List.take_left' (by rw [List.length_append, hl])]
  have h1 : c1.length = R.length := by
    show (R.take p ++ X ++ R.drop (p + X.length)).length = R.length
    simp only [List.length_append, hl, List.length_drop]; omega
  have hl2 : (V.take p).length = p := by rw [List.length_take]; omega
  rw [e1, hR]
  refine ⟨?_, ?_, h1⟩
  · rw [List.take_append_of_le_length (by simp only [List.length_append, hl2, hd]; omega), List.take_of_length_le (by simp only [List.length_append, hl2, hd]; omega)]
  · simp only [List.length_append, hl2, hd, List.length_drop, h1]; omega

/-- Ahead of the end, where there is no room: in a new block. -/
theorem libInsGrow (base n vb g cap i : Nat) (D : List Dep) (x : Dep) (w : World) (h : w.ownsRow base 36 2 (.slice (some ⟨g, 0, none⟩) n cap) n (depV D)) (hb : Blk w vb 36 #[.int .i64 x.1, .int .i64 x.2]) (hbase : base ≤ w.heap.size) (hn : n ≤ 4000000000) (hi : i < n) (hroom : cap < n + 1) :
    Calls Try.prog 71 #[.slice (some ⟨g, 0, none⟩) n cap, .int .i64 i, .slice (some ⟨vb, 0, none⟩) 1 1] w (PutAt base (.slice (some ⟨g, 0, none⟩) n cap) (D.take i ++ x :: D.drop i) w) := by
  obtain ⟨i0, hi0, hz0, hz1, hz2⟩ := info_parts info_dep
  have hl := own_dep_length h
  have hnc : n ≤ cap := by
    rcases h.2 with ⟨h1, _⟩ | ⟨g', cap', cur, h1, _, h2, h3, _⟩
    · cases h1
    · injection h1 with e1 e2 e3
      omega
  have hgw := (h.lt g rfl).2
  have hvw := hb.lt
  have hsz : (Try.prog.info? 36).map (·.size) = some 2 := by rw [hi0]; simp [hz1]
  have hst := Try.underlying33
  have hVl : (depV D).length = n * 2 := by rw [depV_length, hl]
  have hdl : ((depV D).drop (i * 2)).length = (n - i) * 2 := by rw [List.length_drop, hVl]; omega
  have hkk : (n : Int) + 1 - (i : Int) = ((n + 1 - i : Nat) : Int) := by omega
  have hik : i + (n + 1 - i) = n + 1 := by omega
  have hold : (Builtin.firstCells i0.size i (.slice (some ⟨g, 0, none⟩) i cap)).run Try.prog w.drew = .ok ((depV D).take (i * 2)).toArray w.drew := by
    rw [hz1]
    exact run_firstCells_some w.drew 2 i ⟨g, 0, none⟩ i cap ((depV D).take (i * 2)) (by rw [List.length_take, hVl]; omega) (fun j v hj => by
      rw [Addr.add_lit]
      rw [List.getElem?_take] at hj
      split at hj
      · rw [Nat.zero_add]; exact (h.cellAt j (by omega)).trans hj
      · cases hj)
  obtain ⟨G, hG⟩ : ∃ G, G = grownCap w (n + 1) cap 36 := ⟨_, rfl⟩
  obtain ⟨ROW, hROW⟩ : ∃ ROW : Array Value, ROW = ((depV D).take (i * 2)).toArray ++ Builtin.zeroCells (Value.agg #[.int .i64 0, .int .i64 0]).cells (n + 1 - i) ++ Builtin.zeroCells (Value.agg #[.int .i64 0, .int .i64 0]).cells (G - (n + 1)) := ⟨_, rfl⟩
  have hrz : ∀ ty, (Builtin.append_ #[33, 3] ty #[.slice (some ⟨g, 0, none⟩) i cap, .int .i64 ((n : Int) + 1 - (i : Int))]).run Try.prog w =
      .ok (.slice (some ⟨w.heap.size, 0, none⟩) (n + 1) G) (w.drew.alloc (.cells ROW 36)) := fun ty => by
    have h := Lib.run_append_grow_zeros w 33 3 ty 36 i0 _ .i64 .i64 hst Try.underlying3 hi0 hz0 (some ⟨g, 0, none⟩) i cap ((depV D).take (i * 2)) hold (n + 1 - i) (by omega) (by omega) (by omega) (by omega) (by rw [hz2]; omega) (by rw [hz2, hik]; exact growslice_fits (by omega) (by omega))
    rw [hik] at h
    rw [hkk, hROW, hG]
    exact h
  have hGn : n + 1 ≤ G := by rw [hG]; exact grownCap_ge w _ _ _
  have hGm : G ≤ maxLen := by rw [hG]; exact grownCap_le_maxLen w (n + 1) cap _ (by unfold maxLen; omega)
  have hRs : ROW.size = G * 2 := by
    rw [hROW]
    simp only [Array.size_append, List.size_toArray, size_zeroCells, List.length_take, hVl]
    simp [Value.cells]
    omega
  have hRt : ROW.toList.take (i * 2) = (depV D).take (i * 2) := by
    rw [hROW]
    simp only [Array.toList_append, List.append_assoc]
    exact List.take_left' (by rw [List.length_take, hVl]; omega)
  obtain ⟨N, hN⟩ : ∃ N, w.heap.size = N := ⟨_, rfl⟩
  rw [hN] at hrz hgw hvw
  have hRl : ROW.toList.length = G * 2 := by rw [Array.length_toList]; exact hRs
  obtain ⟨W1, hW1⟩ : ∃ W1, W1 = w.drew.alloc (.cells ROW 36) := ⟨_, rfl⟩
  have hW1N : W1.heap[N]? = some (.cells ROW 36 (0, 0)) := by rw [hW1, ← hN]; exact heap_alloc_new w.drew _
  have hW1o : ∀ k, k < N → W1.heap[k]? = w.heap[k]? := fun k hk => by rw [hW1]; exact heap_alloc_old w.drew _ (by rw [← hN] at hk; exact hk)
  obtain ⟨hs1, hs2, hs3⟩ := grow_list (X := [Value.int .i64 x.1, Value.int .i64 x.2]) (p := i * 2) hRt (by rw [hVl]; omega) (by rw [hRl, hVl]; simp; omega)
  have e2 : (i + 1) * 2 = i * 2 + 2 := by omega
  obtain ⟨c1, hc1⟩ : ∃ c1 : Array Value, c1 = (ROW.toList.take (i * 2) ++ [Value.int .i64 x.1, Value.int .i64 x.2] ++ ROW.toList.drop (i * 2 + [Value.int .i64 x.1, Value.int .i64 x.2].length)).toArray := ⟨_, rfl⟩
  have hc1l : c1.toList = ROW.toList.take (i * 2) ++ [Value.int .i64 x.1, Value.int .i64 x.2] ++ ROW.toList.drop (i * 2 + [Value.int .i64 x.1, Value.int .i64 x.2].length) := by rw [hc1]
  have hs4 : c1.toList.length = G * 2 := by rw [hc1l, ← hRl]; exact hs3
  obtain ⟨c2, hc2⟩ : ∃ c2 : Array Value, c2 = (c1.toList.take ((i + 1) * 2) ++ (depV D).drop (i * 2) ++ c1.toList.drop ((i + 1) * 2 + ((depV D).drop (i * 2)).length)).toArray := ⟨_, rfl⟩
  have hown2 : c2.toList.take ((n + 1) * 2) = depV (D.take i ++ x :: D.drop i) ∧ c2.size = G * 2 := by
    have hc2l : c2.toList = c1.toList.take (i * 2 + 2) ++ (depV D).drop (i * 2) ++ c1.toList.drop (i * 2 + 2 + ((depV D).drop (i * 2)).length) := by rw [hc2, e2]
    rw [hc1l] at hc2l
    refine ⟨?_, ?_⟩
    · rw [put_cells, ← hs1, hc2l, show (n + 1) * 2 = (depV D).length + [Value.int IntKind.i64 x.1, Value.int IntKind.i64 x.2].length by rw [hVl]; simp; omega]
      rfl
    · rw [← Array.length_toList, hc2l, ← hRl]; exact hs2
  have hcpA : ∀ (W : World), W.heap = W1.heap → ∀ ty dc, (Builtin.copy_ #[33, 33] ty #[.slice (some ⟨N, i * 2, none⟩) (n + 1 - i) dc, .slice (some ⟨vb, 0, none⟩) 1 1]).run Try.prog W = .ok (goInt 1) (W.setRow N c1) := fun W hW ty dc => by
    have h := run_copy_row2 (P := Try.prog) W 33 33 ty 36 N (i * 2) (n + 1 - i) dc ⟨vb, 0, none⟩ 1 1 ROW 36 [Value.int .i64 x.1, Value.int .i64 x.2] hst hsz (by rw [hW]; exact hW1N) (by rw [show Nat.min 1 (n + 1 - i) = 1 from by show min 1 (n + 1 - i) = 1; omega]; rfl)
      (World.news_of_block (cs := #[.int .i64 x.1, .int .i64 x.2]) (t := 36) (fr := (0, 0)) (by rw [hW]; exact (hW1o vb hvw).trans hb)) (by rw [hRs]; simp; omega) (by simp [Value.oneCell'])
    rw [show Nat.min 1 (n + 1 - i) = 1 from by show min 1 (n + 1 - i) = 1; omega, ← hc1] at h
    exact h
  have hNg : g ≠ N := by omega
  have hcpB : ∀ (W : World), W.heap = (W1.setRow N c1).heap → ∀ ty dc sc, (Builtin.copy_ #[33, 33] ty #[.slice (some ⟨N, (i + 1) * 2, none⟩) (n - i) dc, .slice (some ⟨g, i * 2, none⟩) (n - i) sc]).run Try.prog W = .ok (goInt ((n - i : Nat) : Int)) (W.setRow N c2) := fun W hW ty dc sc => by
    have hWg : W.heap[g]? = w.heap[g]? := by rw [hW, setRow_other W1 N g c1 hNg]; exact hW1o g hgw
    have h := run_copy_row2 (P := Try.prog) W 33 33 ty 36 N ((i + 1) * 2) (n - i) dc ⟨g, i * 2, none⟩ (n - i) sc c1 36 ((depV D).drop (i * 2)) hst hsz (by rw [hW]; exact setRow_heap W1 N ROW c1 _ _ hW1N) (by rw [hdl, show Nat.min (n - i) (n - i) = n - i from by show min (n - i) (n - i) = n - i; omega])
      (fun j v hj => by
        have hj2 := (List.getElem?_eq_some_iff.1 hj).1
        rw [Addr.add_lit]
        rw [List.getElem?_drop] at hj
        exact (World.cell?_of_block hWg).trans ((h.cellAt (i * 2 + j) (by omega)).trans hj))
      (by rw [hdl, ← Array.length_toList, hs4]; omega) (fun v hv => depV_one1 D v (List.mem_of_mem_drop hv))
    rw [show Nat.min (n - i) (n - i) = n - i from by show min (n - i) (n - i) = n - i; omega, ← hc2] at h
    exact h
  have hfin : ∀ (W : World), W.heap = ((W1.setRow N c1).setRow N c2).heap → W.os = w.os → W.tape = w.tape → W.output = w.output → PutAt base (.slice (some ⟨g, 0, none⟩) n cap) (D.take i ++ x :: D.drop i) w (.returned (.slice (some ⟨N, 0, none⟩) (n + 1) G)) W := fun W hW h1 h2 h3 => by
    have hlen : (D.take i ++ x :: D.drop i).length = n + 1 := by simp [hl]; omega
    refine ⟨_, rfl, ?_, ?_⟩
    · rw [hlen]
      exact ⟨by rw [depV_length, hlen], .inr ⟨N, G, c2, rfl, by omega, by rw [hW]; exact setRow_heap _ N c1 c2 _ _ (setRow_heap W1 N ROW c1 _ _ hW1N), by omega, hGm, hown2.2, hown2.1⟩⟩
    · exact ⟨h1, h2, h3, by rw [hW]; simp [World.setRow, hW1], fun k hk _ => by
        have hk' : k ≠ N := by omega
        rw [hW, setRow_other _ N k c2 hk', setRow_other _ N k c1 hk']; exact hW1o k (by omega)⟩
  have HF := Lib.hid hfin
  have c63 : cap ≤ 9223372036854775807 := by omega
  have G63 : G ≤ 9223372036854775807 := by unfold maxLen at hGm; omega
  have f2 : ¬ ((i : Int) = (n : Int)) := by omega
  have f1 : (0 : Int) ≤ (i : Int) + 1 := by omega
  have mixed : Try.prog.follows .mixedOrders = true := by kernel_rfl
  have f0 : IntKind.i64.wrap ((i : Int) + 1) = (i : Int) + 1 := by rw [IntKind.wrap_i64]; omega
  have f5 : i ≤ n := by omega
  have f6 : ((i : Int) + 1).toNat = i + 1 := by omega
  have f7 : (i : Int) ≤ (n : Int) := by omega
  have f8 : (cap : Int) < (n : Int) + 1 := by omega
  have f10 : ¬ cap = i := by omega
  have f11 : ¬ G = i := by omega
  have f12 : ¬ G = i + 1 := by omega
  have f13 : i ≤ cap := by omega
  have HN := Lib.hid hN
  have HW1 := Lib.hid hW1
  clear h hb hst hVl hdl hkk hik hold hG hROW hRs hRt hRl hW1N hW1o hs1 hs2 hs3 e2 hc1 hc1l hs4 hc2 hown2 hfin hN hsz hnc hGm
  rw [← hW1] at hrz
  clear hW1
  go_enter Try.func71, Try.ntmps71
  go_wp2_with (first
    | (at_builtin; refine Lib.wpList_append_run _ rfl _ _ _ _ rfl _ _ rfl rfl _ _ (hrz _) ?_)
    | (at_builtin; refine wpList_copy_runI _ rfl _ _ 33 33 rfl _ _ rfl rfl (hcpA _ rfl _ _) ?_))
  go_region_law_o (refine step_copy_runI rfl _ _ 33 33 rfl (.slice (some ⟨N, (i + 1) * 2, none⟩) (n - i) (G - (i + 1))) (.slice (some ⟨g, i * 2, none⟩) (n - i) (cap - i)) (by simp [Act.eval, Act.put]) (by simp [Act.eval, Act.put]) (hcpB (W1.setRow N c1).drew rfl 3 (G - (i + 1)) (cap - i)) ?_)
  go_wp2
  go_ret
  exact HF.out _ rfl (by rw [HW1.out]; rfl) (by rw [HW1.out]; rfl) (by rw [HW1.out]; rfl)
end Go.Proofs.Ytnpjadofhpaapaa
end

section
namespace Go.Proofs.Ytnpjadofhpaapaa
open Go.ChangeShapes Go.WideShapes Go.ChangeAt Go.RowKit
set_option linter.unusedVariables false
set_option maxRecDepth 20000

theorem libInsert (base n vb i : Nat) (v : Value) (D : List Dep) (x : Dep) (w : World) (h : w.ownsRow base 36 2 v n (depV D)) (hb : Blk w vb 36 #[.int .i64 x.1, .int .i64 x.2]) (hbase : base ≤ w.heap.size) (hn : n ≤ 4000000000) (hi : i ≤ n) (hne : v.ownBlock ≠ some vb) :
    Calls Try.prog 71 #[v, .int .i64 i, .slice (some ⟨vb, 0, none⟩) 1 1] w (PutAt base v (D.take i ++ x :: D.drop i) w) := by
  have hl := own_dep_length h
  rcases Nat.lt_or_eq_of_le hi with h1 | h1
  · obtain ⟨A, cap, rfl, ha⟩ := own_form h
    obtain ⟨g, rfl⟩ := ha (by omega)
    have hne' : vb ≠ g := fun e => hne (by rw [e]; rfl)
    by_cases hr : n + 1 ≤ cap
    · exact libInsShift base n vb g cap i D x w h hb hbase hn h1 hr hne'
    · exact libInsGrow base n vb g cap i D x w h hb hbase hn h1 (by omega)
  · subst h1
    have e : D.take i ++ x :: D.drop i = D ++ [x] := by rw [← hl, List.take_length, List.drop_length]
    rw [e]
    exact libInsEnd base i vb v D x w h hb hbase hn

theorem implInsert (base n : Nat) (v : Value) (D : List Dep) (d : Dep) (hD : ascD D) (w : World) (h : w.ownsRow base 36 2 v n (depV D)) (hbase : base ≤ w.heap.size) (hn : n ≤ 4000000000) :
    Calls Try.prog 44 #[v, .agg #[.int .i64 d.1, .int .i64 d.2], .func (.func 45) #[] #[]] w (PutAt base v (insD D d) w) := by
  have hl := own_dep_length h
  have hlow := lowN_le D d
  obtain ⟨A, cap, rfl, ha⟩ := own_form h
  have HO := Lib.hid h
  have BG := Lib.hid (boxD_gb d w)
  have BB := Lib.hid (boxD_blk d w)
  have h1 : (boxD d w).ownsRow base 36 2 (.slice A n cap) n (depV D) := own_none h (boxD_gb d w)
  have H1 := Lib.hid h1
  have HBS := Lib.hid (libSearch A n cap D d hD (boxD d w) (depAt_own h1 (Nat.le_refl _)) hn)
  have HIN := Lib.hid (fun (vb : Nat) (w' : World) (h' : w'.ownsRow base 36 2 (.slice A n cap) n (depV D)) (hb : Blk w' vb 36 #[.int .i64 d.1, .int .i64 d.2]) (hbase' : base ≤ w'.heap.size) (hne : (Value.slice A n cap).ownBlock ≠ some vb) =>
    libInsert base n vb (lowN D d) (.slice A n cap) D d w' h' hb hbase' hn (by omega) hne)
  clear h h1 ha
  by_cases hd : d ∈ D
  · have hr := ins_there hd
    rw [hr]
    have HD := Lib.hid (decide_eq_true hd)
    clear hd hr
    have HBS2 := Lib.hid (show Calls _ _ _ (boxD d w) fun e w' => e = .returned (.tuple #[.int .i64 (lowN D d : Nat), .bool true]) ∧ (boxD d w).grownBy w' none from (HBS.out.mono fun e w' h => ⟨by rw [h.1, HD.out], h.2⟩))
    clear HBS
    go_enter Try.func44, Try.ntmps44
    go_wp2_with fail
    refine HBS2.out.mono ?_
    rintro e w2 ⟨rfl, hg2⟩
    have G2 := Lib.hid (gb_trans BG.out hg2)
    clear hg2
    go_wp2_with fail
    go_ret
    exact ⟨_, rfl, put_own (own_none HO.out G2.out) hl.symm rfl, gb_of_none G2.out _⟩
  · have hr : insD D d = D.take (lowN D d) ++ d :: D.drop (lowN D d) := ins_new hd
    rw [hr]
    have HD := Lib.hid (decide_eq_false hd)
    clear hd hr
    have HBS2 := Lib.hid (show Calls _ _ _ (boxD d w) fun e w' => e = .returned (.tuple #[.int .i64 (lowN D d : Nat), .bool false]) ∧ (boxD d w).grownBy w' none from (HBS.out.mono fun e w' h => ⟨by rw [h.1, HD.out], h.2⟩))
    clear HBS
    obtain ⟨k, hk⟩ : ∃ k, lowN D d = k := ⟨_, rfl⟩
    rw [hk] at HBS2 HIN hlow
    rw [hk]
    obtain ⟨R, hR⟩ : ∃ R, D.take k ++ d :: D.drop k = R := ⟨_, rfl⟩
    rw [hR] at HIN
    rw [hR]
    clear hk hR
    go_enter Try.func44, Try.ntmps44
    go_wp2_with fail
    refine HBS2.out.mono ?_
    rintro e w2 ⟨rfl, hg2⟩
    have bb := BB.out.grown hg2 (by simp)
    have t0 : w2.cell? ⟨w.heap.size, 0, none⟩ = some (.int .i64 d.1) := bb.cell 0
    have t1 : w2.cell? ⟨w.heap.size, 1, none⟩ = some (.int .i64 d.2) := bb.cell 1
    have O2 := Lib.hid (own_none H1.out hg2)
    have G2 := Lib.hid (gb_trans BG.out hg2)
    clear hg2 bb
    go_wp2_with fail
    refine (HIN.out w2.heap.size _ (O2.out.alloc _) (Blk.new w2 _ _) (by have := G2.out.size; rw [alloc_size]; omega) (fun e => by have := (O2.out.lt _ e).2; omega)).mono ?_
    rintro e w3 ⟨v', rfl, ho3, hg3⟩
    have X3 := Lib.hid (show PutAt base (.slice A n cap) R w (.returned v') w3 from ⟨v', rfl, ho3, gb_trans (gb_of_none (gb_trans G2.out (gb_alloc (gb_refl _ _) _)) _) hg3⟩)
    clear t0 t1 ho3 hg3
    go_wp2_with fail
    go_ret
    exact X3.out
end Go.Proofs.Ytnpjadofhpaapaa
end

section
namespace Go.Proofs.Ytnpjadofhpaapaa
open Go.ChangeShapes Go.WideShapes Go.ChangeAt Go.RowKit
set_option linter.unusedVariables false
set_option maxRecDepth 20000

/-- Rows of different types lie in different blocks. -/
theorem own_types {w : World} {b1 b2 s1 s2 n1 n2 : Nat} {e1 e2 : TypeId} {v1 v2 : Value} {x1 x2 : List Value} (h1 : w.ownsRow b1 e1 s1 v1 n1 x1) (h2 : w.ownsRow b2 e2 s2 v2 n2 x2) (hne : e1 ≠ e2) : v1.ownBlock = none ∨ v1.ownBlock ≠ v2.ownBlock := by
  rcases h1.2 with ⟨h3, _⟩ | ⟨g1, c1, cur1, h3, _, hg1, _⟩
  · rw [h3]; exact .inl rfl
  · right
    rw [h3]
    rcases h2.2 with ⟨h4, _⟩ | ⟨g, c4, cur, h4, _, hg, _⟩
    · rw [h4]; intro e; cases e
    · rw [h4]
      intro e
      have e2 : g1 = g := Option.some.inj e
      subst e2
      rw [hg] at hg1
      have e3 := Option.some.inj hg1
      injection e3 with _ e4 _
      exact hne e4.symm
theorem ListsAt.kept {w w' : World} {base b2 n : Nat} {v v2 : Value} {N : Nat} {F : Nat → List Int} {xs : List Value} (h : ListsAt w base v N F) (h2 : w.ownsRow b2 36 2 v2 n xs) (hg : w.grownBy w' v2.ownBlock) : ListsAt w' base v N F := by
  obtain ⟨vs, ho, hi⟩ := h
  refine ⟨vs, ho.kept hg (own_types ho h2 (by decide)), fun k hk => ?_⟩
  obtain ⟨A, c, h3, h4⟩ := hi k hk
  exact ⟨A, c, h3, h4.kept hg (own_types h4 h2 (by decide))⟩

/-- The row of walks and the list of dependencies so far. -/
def DsAt (W H : Int) (A A2 : Option Addr) (n cap n2 c2 : Nat) (L P : List Int) (w : World) (Aw : Option Addr) (N cw : Nat) (D : List Dep) (v : Value) (wr : World) : Prop :=
  ListsAt wr (w.heap.size + 2) (.slice Aw N cw) N (pairW W H L P) ∧ wr.ownsRow (w.heap.size + 2) 36 2 v D.length (depV D) ∧ Below (w.heap.size + 2) (twoI W H A A2 n cap n2 c2 w) wr
section
variable {W H : Int} {A A2 : Option Addr} {n cap n2 c2 : Nat} {L P : List Int} {w wr w' : World} {Aw : Option Addr} {N cw : Nat} {D D' : List Dep} {v v' : Value}
theorem DsAt.put (h : DsAt W H A A2 n cap n2 c2 L P w Aw N cw D v wr) (ho : w'.ownsRow (w.heap.size + 2) 36 2 v' D'.length (depV D')) (hg : wr.grownBy w' v.ownBlock) : DsAt W H A A2 n cap n2 c2 L P w Aw N cw D' v' w' :=
  ⟨h.1.kept h.2.1 hg, ho, h.2.2.grown hg (by have := twoI_bs h.2.2; omega) (fun q hq => (h.2.1.lt q hq).1)⟩
theorem DsAt.len (h : DsAt W H A A2 n cap n2 c2 L P w Aw N cw D v wr) : w.heap.size + 2 ≤ wr.heap.size := twoI_bs h.2.2
end
theorem wlkN_le {W H : Int} {L P : List Int} : wlkN W H L P ≤ 256 := by
  unfold wlkN
  split
  · exact sqG_le
  · exact Nat.zero_le _
theorem allD_wlk {W H : Int} {L P : List Int} : allD W H L P (wlkN W H L P) = depG W H L P := by
  cases h : tableG W H L P with
  | false => rw [wlkN_no h, depG_no h]; rfl
  | true => rw [wlkN_yes h, depG_yes h]

set_option maxHeartbeats 1600000 in
theorem implDependsOf (W H : Int) (A A2 : Option Addr) (n cap n2 c2 : Nat) (L P : List Int) (hL : WfL L) (w : World) (h : IntAt w w.heap.size A n L) (h2 : IntAt w w.heap.size A2 n2 P) (hn : n ≤ 1000000000) (hn2 : n2 ≤ 1000000000) :
    Calls Try.prog 12 #[.agg #[.int .i64 W, .int .i64 H, .slice A n cap], .agg #[.slice A2 n2 c2]] w (NewD (depG W H L P) w) := by
  have HT1 := Lib.hid (h.twoI (W := W) (H := H) (A := A) (A2 := A2) (n := n) (cap := cap) (n2 := n2) (c2 := c2))
  have HT2 := Lib.hid (h2.twoI (W := W) (H := H) (A := A) (A2 := A2) (n := n) (cap := cap) (n2 := n2) (c2 := c2))
  have TZ := Lib.hid (twoI_size (W := W) (H := H) (A := A) (A2 := A2) (n := n) (cap := cap) (n2 := n2) (c2 := c2) (w := w))
  have HWK := Lib.hid (fun w h h2 => implWalksOf W H A A2 n cap n2 c2 L P hL w h h2 hn hn2)
  have HRES := Lib.hid (allD_wlk (W := W) (H := H) (L := L) (P := P))
  have hN256 := wlkN_le (W := W) (H := H) (L := L) (P := P)
  obtain ⟨N, hN⟩ : ∃ N, wlkN W H L P = N := ⟨_, rfl⟩
  rw [hN] at HWK HRES hN256
  clear h h2 hL hN
  go_enter Try.func12, Try.ntmps12
  go_wp2_with fail
  refine (HWK.out _ HT1.out HT2.out).mono ?_
  rintro e w1 ⟨va, rfl, hl1, hb1⟩
  rw [TZ.out] at hl1 hb1
  obtain ⟨Aw, cw, rfl, _⟩ := hl1.form
  have X1 := Lib.hid (show DsAt W H A A2 n cap n2 c2 L P w Aw N cw [] (.slice none 0 0) w1 from ⟨hl1, World.ownsRow_nil _ _ _ _, hb1⟩)
  clear hl1 hb1
  go_wp2_with fail
  go_loopw [5, 13] (fun v i wr => ∃ k : Nat, i = .int .i64 (k : Int) ∧ k ≤ N ∧ DsAt W H A A2 n cap n2 c2 L P w Aw N cw (allD W H L P k) v wr) (fun _ i _ => 257 - (intOf i).toNat)
  case atStart => exact ⟨0, rfl, Nat.zero_le _, X1.out⟩
  case round =>
    obtain ⟨k, rfl, hk, hx⟩ := hrel
    have X2 := Lib.hid hx
    by_cases hlt : k < N
    · obtain ⟨gw, B, d, hA, hc, ho⟩ := hx.1.at k hlt
      subst hA
      have hRN := pairW_len (W := W) (H := H) (L := L) (P := P) k
      obtain ⟨R, hR⟩ : ∃ R, pairW W H L P k = R := ⟨_, rfl⟩
      rw [hR] at hc ho hRN
      obtain ⟨M, hM⟩ : ∃ M, R.length = M := ⟨_, rfl⟩
      have HAN := Lib.hid (allD_next hR)
      have HASC := Lib.hid (fun j => insAll_asc (allD_asc (W := W) (H := H) (L := L) (P := P) k) (wayD R j))
      have HLEN := Lib.hid (fun j hj => ins_len (W := W) (H := H) (L := L) (P := P) (k := k) (j := j) (R := R) (by omega) hj)
      have HM := Lib.hid hM
      rw [hM] at hc ho hRN
      obtain ⟨D, hD⟩ : ∃ D, allD W H L P k = D := ⟨_, rfl⟩
      rw [hD] at X2 HAN HASC HLEN
      obtain ⟨_, _, e1, hgv⟩ := own_form ho
      simp only [Value.slice.injEq] at e1
      obtain ⟨rfl, _, rfl⟩ := e1
      have HGV := Lib.hid hgv
      have O2 := Lib.hid ho
      have X3 := Lib.hid (show DsAt W H A A2 n cap n2 c2 L P w (some ⟨gw, 0, none⟩) N cw (insAll D (wayD R 0)) _ wr from X2.out)
      have k0 : (0 : Int) ≤ (k : Int) := by omega
      have k1 : (k : Int) < (N : Int) := by omega
      clear hx hR hM ho hgv X2 hD
      go_wp2_with fail
      clear hc
      go_loopw [5, 8] (fun v i ws => ∃ j : Nat, i = .int .i64 ((j : Int) + 1) ∧ j ≤ M - 1 ∧ DsAt W H A A2 n cap n2 c2 L P w (some ⟨gw, 0, none⟩) N cw (insAll D (wayD R j)) v ws ∧ ws.ownsRow (w.heap.size + 2) 3 1 (.slice B M d) M (intsV R)) (fun _ i _ => 17 - (intOf i).toNat)
      case atStart => exact ⟨0, rfl, Nat.zero_le _, X3.out, O2.out⟩
      case round =>
        obtain ⟨j, rfl, hj, hx, ho⟩ := hrel
        have X7 := Lib.hid hx
        have O7 := Lib.hid ho
        obtain ⟨Av, cv, rfl, _⟩ := own_form hx.2.1
        clear hx ho
        by_cases hlt3 : j + 1 < M
        · have hl3 : (j : Int) + 1 < (M : Int) := by omega
          obtain ⟨gv, hgv⟩ := HGV.out (by omega)
          subst hgv
          obtain ⟨x1, hx1⟩ : ∃ z, R.getD j 0 = z := ⟨_, rfl⟩
          obtain ⟨x2, hx2⟩ : ∃ z, R.getD (j + 1) 0 = z := ⟨_, rfl⟩
          have c1 := ints_cell O7.out j x1 (by rw [← hx1, List.getD, List.getElem?_eq_getElem (by rw [HM.out]; omega)]; rfl) HM.out
          have c2' := ints_cell O7.out (j + 1) x2 (by rw [← hx2, List.getD, List.getElem?_eq_getElem (by rw [HM.out]; omega)]; rfl) HM.out
          have hwn := Lib.hid (ins_way (D := D) hx1 hx2)
          obtain ⟨E, hE⟩ : ∃ E, insAll D (wayD R j) = E := ⟨_, rfl⟩
          have hEA := HASC.out j
          have hEL := HLEN.out j (by omega)
          rw [hE] at X7 hwn hEA hEL
          rw [hE]
          have HA := Lib.hid (fun (w' : World) (h : w'.ownsRow (w.heap.size + 2) 36 2 (.slice Av E.length cv) E.length (depV E)) (hb : w.heap.size + 2 ≤ w'.heap.size) => implInsert (w.heap.size + 2) E.length (.slice Av E.length cv) E (x1, x2) hEA w' h hb (by omega))
          have hgvn := own_types O7.out X7.out.2.1 (by decide)
          have hgv : some gv ≠ (Value.slice Av E.length cv).ownBlock := by rcases hgvn with h | h; cases h; exact h
          have HNE := Lib.hid hgv
          obtain ⟨m, hm⟩ : ∃ m : Nat, j + 1 = m := ⟨_, rfl⟩
          have hmi : (j : Int) + 1 = (m : Int) := by omega
          rw [hm] at c2'
          have j0 : (0 : Int) ≤ (j : Int) := by omega
          have j1 : (j : Int) < (M : Int) := by omega
          have j2 : (0 : Int) ≤ (m : Int) := by omega
          have j3 : (m : Int) < (M : Int) := by omega
          have e2 : IntKind.i64.wrap ((m : Int) - 1) = (j : Int) := by rw [IntWalk.i64_in _ (by omega)]; omega
          have HMM := Lib.hid (And.intro hm hlt3)
          rw [hmi]
          clear hx1 hx2 hl3 hlt3 hmi hm hgvn hgv hE hEA hEL
          go_wp2_with fail
          go_region_held3 (fun w' => w'.cell? ⟨gv, j, none⟩ = some (.int .i64 x1) ∧ w'.cell? ⟨gv, m, none⟩ = some (.int .i64 x2))
            (first | exact ⟨c1, c2'⟩ | exact ⟨d1, d2⟩ | fail)
            (first
              | (go_at_call 44; (with_reducible refine (HA.out _ ?_ ?_).mono ?_); exact own_none X7.out.2.1 (gb_drew (gb_refl _ _)); exact X7.out.len; rintro e w7 ⟨v7, rfl, ho7, hg7⟩; have d1 := (gb_dr hg7).cell c1 HNE.out; have d2 := (gb_dr hg7).cell c2' HNE.out)
              | fail)
          all_goals
            rw [hwn.out] at ho7
            have X8 := Lib.hid (X7.out.put ho7 (gb_dr hg7))
            have O8 := Lib.hid (O7.out.kept (gb_dr hg7) (.inr HNE.out))
            clear ho7 hg7 d1 d2 c1 c2'
            go_wp2_with fail
            go_roundw
            case rel => exact ⟨j + 1, by have hm := HMM.out.1; go_num, by have := HMM.out.2; omega, X8.out, O8.out⟩
            case measure => have hm := HMM.out; simp [intOf]; omega
        · obtain rfl : j = M - 1 := by omega
          have hl3 : ¬ ((M - 1 : Nat) : Int) + 1 < (M : Int) := by omega
          have X8 := Lib.hid (show DsAt W H A A2 n cap n2 c2 L P w (some ⟨gw, 0, none⟩) N cw (allD W H L P (k + 1)) _ _ from by
            rw [← HAN.out, HM.out]
            exact X7.out)
          clear X7 O7
          go_wp2_with fail
          go_roundw
          case rel => exact ⟨k + 1, by go_num, by omega, X8.out⟩
          case measure => simp [intOf]; omega
    · obtain rfl : k = N := by omega
      clear hx
      go_wp2_with fail
      go_ret
      have h3 := X2.out.2.1
      rw [HRES.out] at h3
      exact ⟨_, rfl, own_less h3 (by omega), twoI_bo X2.out.2.2⟩
end Go.Proofs.Ytnpjadofhpaapaa
end

section
namespace Go.Proofs.Ytnpjadofhpaapaa
open Go.ChangeShapes Go.WideShapes Go.ChangeAt Go.RowKit
set_option linter.unusedVariables false
set_option maxRecDepth 20000

theorem gb_drD {a b : World} {row : Option Nat} (h : a.drew.grownBy b row) : a.grownBy b row := ⟨h.os, h.tape, h.output, h.size, h.block⟩
theorem depV_cons (d : Dep) (D : List Dep) : depV (d :: D) = .int .i64 d.1 :: .int .i64 d.2 :: depV D := rfl
theorem depV_set : ∀ (D : List Dep) (k : Nat) (x y : Int), ((depV D).set (k * 2) (.int .i64 x)).set (k * 2 + 1) (.int .i64 y) = depV (D.set k (x, y))
  | [], k, x, y => by simp [depV, depC_nil, intsV]
  | d :: D, 0, x, y => rfl
  | d :: D, k + 1, x, y => by
    have e1 : (k + 1) * 2 = k * 2 + 1 + 1 := by omega
    have e2 : (k + 1) * 2 + 1 = k * 2 + 1 + 1 + 1 := by omega
    rw [e2, e1, depV_cons, List.set_cons_succ, List.set_cons_succ, List.set_cons_succ, List.set_cons_succ, depV_set D k x y, List.set_cons_succ, depV_cons]
theorem madeDeps (n : Nat) : (madeCells (Value.agg #[.int .i64 0, .int .i64 0]).cells (n * 2)).toList = depV (List.replicate n (0, 0)) := by
  have e : ∀ n, depV (List.replicate n (0, 0)) = List.replicate (n * 2) (.int .i64 0) := fun n => by
    induction n with
    | zero => rfl
    | succ n ih => rw [List.replicate_succ, depV_cons, ih, show (n + 1) * 2 = n * 2 + 1 + 1 by omega, List.replicate_succ, List.replicate_succ]
  rw [e]
  apply List.ext_getElem?
  intro j
  by_cases hj : j < n * 2
  · have : j % 2 = 0 ∨ j % 2 = 1 := by omega
    rcases this with h | h <;> simp [madeCells, Value.cells, hj, h]
  · simp [madeCells, Value.cells, hj]

/-- The first k elements of D, then zeros. -/
def fillD (D : List Dep) (n k : Nat) : List Dep := (List.range n).map fun t => if t < k then atD D t else (0, 0)
theorem fillD_zero (D : List Dep) (n : Nat) : fillD D n 0 = List.replicate n (0, 0) := by
  refine List.ext_getElem (by simp [fillD]) fun i h1 h2 => ?_
  simp [fillD]
theorem fillD_succ (D : List Dep) (n k : Nat) : (fillD D n k).set k (atD D k) = fillD D n (k + 1) := by
  refine List.ext_getElem (by simp [fillD]) fun i h1 h2 => ?_
  rw [List.getElem_set]
  by_cases e : k = i
  · subst e; simp [fillD]
  · simp only [e, if_false, fillD, List.getElem_map, List.getElem_range]
    by_cases hi : i < k
    · rw [if_pos hi, if_pos (by omega)]
    · rw [if_neg hi, if_neg (by omega)]
theorem fillD_next (D : List Dep) (n k : Nat) (x : Dep) (h : atD D k = x) : (fillD D n k).set k (x.1, x.2) = fillD D n (k + 1) := by rw [← h]; exact fillD_succ D n k
theorem fillD_all (D : List Dep) (n : Nat) (h : D.length = n) : fillD D n n = D := by
  refine List.ext_getElem (by simp [fillD, h]) fun i h1 h2 => ?_
  have : i < n := by omega
  simp only [fillD, List.getElem_map, List.getElem_range, this, if_true]
  exact atD_get h2
theorem fillD_length (D : List Dep) (n k : Nat) : (fillD D n k).length = n := by simp [fillD]

/-- A new row that holds the elements of D. -/
def NewDep (D : List Dep) (w : World) (e : Ending) (w' : World) : Prop :=
  ∃ g, e = .returned (.slice (some ⟨g, 0, none⟩) D.length D.length) ∧ w'.ownsRow w.heap.size 36 2 (.slice (some ⟨g, 0, none⟩) D.length D.length) D.length (depV D) ∧ Below w.heap.size w w'
def FillAt (w : World) (n : Nat) (D : List Dep) (k : Nat) (v : Value) (wr : World) : Prop := wr.ownsRow w.heap.size 36 2 v n (depV (fillD D n k)) ∧ Below w.heap.size w wr

def markD (k0 n j : Nat) (l : List Dep) : List Dep := (List.range n).map fun t => if t < j then (((k0 + t * 2 : Nat) : Int), ((k0 + t * 2 + 1 : Nat) : Int)) else atD l t
theorem markD_zero (k0 n : Nat) (l : List Dep) (h : l.length = n) : markD k0 n 0 l = l := by
  refine List.ext_getElem (by simp [markD, h]) fun i h1 h2 => ?_
  simp only [markD, List.getElem_map, List.getElem_range, Nat.not_lt_zero, if_false]
  exact atD_get h2
theorem markD_succ (k0 n j : Nat) (l : List Dep) : (markD k0 n j l).set j (((k0 + j * 2 : Nat) : Int), ((k0 + j * 2 + 1 : Nat) : Int)) = markD k0 n (j + 1) l := by
  refine List.ext_getElem (by simp [markD]) fun i h1 h2 => ?_
  rw [List.getElem_set]
  by_cases e : j = i
  · subst e; simp [markD]
  · simp only [e, if_false, markD, List.getElem_map, List.getElem_range]
    by_cases hi : i < j
    · rw [if_pos hi, if_pos (by omega)]
    · rw [if_neg hi, if_neg (by omega)]
theorem markD_length (k0 n j : Nat) (l : List Dep) : (markD k0 n j l).length = n := by simp [markD]
def marksD (k0 n : Nat) : List Dep := markD k0 n n []
theorem markD_all (k0 n : Nat) (l : List Dep) : markD k0 n n l = marksD k0 n := by
  refine List.ext_getElem (by simp [markD, marksD]) fun i h1 h2 => ?_
  have : i < n := by simpa [markD] using h1
  simp [markD, marksD, this]
theorem marksD_length (k0 n : Nat) : (marksD k0 n).length = n := markD_length k0 n n []
theorem marksD_get (k0 n j : Nat) (h : j < n) : atD (marksD k0 n) j = (((k0 + j * 2 : Nat) : Int), ((k0 + j * 2 + 1 : Nat) : Int)) := by
  rw [atD_get (by rw [marksD_length]; exact h)]
  simp [marksD, markD, h]
theorem there_own {w : World} {base g n cap : Nat} {D : List Dep} (h : w.ownsRow base 36 2 (.slice (some ⟨g, 0, none⟩) n cap) n (depV D)) {k : Nat} (hk : k < n) : w.there g (k * 2) 2 := fun j hj => by
  have hl := h.1
  refine ⟨?_, h.frozenAt _⟩
  rw [h.cellAt (k * 2 + j) (by omega), List.getElem?_eq_getElem (by omega)]
  rfl
theorem stored_own {w : World} {base g n cap : Nat} {D : List Dep} (h : w.ownsRow base 36 2 (.slice (some ⟨g, 0, none⟩) n cap) n (depV D)) (k : Nat) (x y : Int) :
    (w.setCells g (k * 2) [.int .i64 x, .int .i64 y]).ownsRow base 36 2 (.slice (some ⟨g, 0, none⟩) n cap) n (depV (D.set k (x, y))) ∧ w.grownBy (w.setCells g (k * 2) [.int .i64 x, .int .i64 y]) (some g) := by
  obtain ⟨h1, g1⟩ := h.stored (k * 2) (.int .i64 x)
  obtain ⟨h2, g2⟩ := h1.stored (k * 2 + 1) (.int .i64 y)
  rw [depV_set] at h2
  exact ⟨h2, gb_trans g1 g2⟩

theorem lawsToDepend (x y : Int) (w : World) :
    Calls Try.prog 63 #[.agg #[.int .i64 x, .int .i64 y]] w fun e w' => e = .returned (.agg #[.int .i64 x, .int .i64 y]) ∧ w.grownBy w' none := by
  go_enter Try.func63, Try.ntmps63
  go_wp2_with fail
  refine bodyPost_ret (v := .agg #[.int .i64 x, .int .i64 y]) (by simp [results, Try.results63, go_sem]) rfl ⟨rfl, ?_⟩
  exact gb_alloc (gb_alloc (gb_alloc (gb_refl _ _) _) _) _

theorem lawsToDepS (A : Option Addr) (n cap : Nat) (D : List Dep) (w : World) (h : DepAt w w.heap.size A n D) (hn : n ≤ 1048576) :
    Calls Try.prog 34 #[.slice A n cap] w (NewDep D w) := by
  obtain ⟨i0, hi, hz0, hz1, hz2⟩ := info_parts info_dep
  have hl := h.1
  have HI := Lib.hid h
  have HT := Lib.hid (fun x y w => lawsToDepend x y w)
  clear h
  go_enter Try.func34, Try.ntmps34
  go_wp2_with (at_make; refine wpList_make_full _ rfl _ _ 33 rfl w.heap.size 36 i0 (.agg #[.int .i64 0, .int .i64 0]) 2 Try.underlying33 hi hz0 hz1 .i64 .i64 _ _ n rfl rfl (by omega) (by omega) (by rw [hz2]; omega) (by unfold maxLen; omega) (Nat.le_refl _) ?_; intro w0 hown0 hgrow0)
  have hz : (madeCells (Value.agg #[.int .i64 0, .int .i64 0]).cells (n * 2)).toList = depV (fillD D n 0) := by rw [fillD_zero]; exact madeDeps n
  have X : FillAt w n D 0 (.slice (some ⟨w.heap.size, 0, none⟩) n n) w0 := ⟨by rw [← hz]; exact hown0, gb_below_none hgrow0 (Nat.le_refl _)⟩
  have HX := Lib.hid X
  clear X hz hown0 hgrow0
  go_loopw [4] (fun i wr => ∃ k : Nat, k ≤ n ∧ i = .int .i64 (k : Int) ∧ FillAt w n D k (.slice (some ⟨w.heap.size, 0, none⟩) n n) wr) (fun i _ => n - (intOf i).toNat)
  case atStart => exact ⟨0, Nat.zero_le _, rfl, HX.out⟩
  case round =>
    obtain ⟨k, hk, rfl, hown, hbel⟩ := hrel
    have HB := Lib.hid hbel
    have HO := Lib.hid hown
    by_cases hlt : k < n
    · obtain ⟨b, off, rfl, hbB, c0, c1⟩ := (HI.out.below hbel).at k hlt
      obtain ⟨x, hx⟩ : ∃ x, atD D k = x := ⟨_, rfl⟩
      rw [hx] at c0 c1
      have k0 : (0 : Int) ≤ (k : Int) := by omega
      have k1 : (k : Int) < (n : Int) := by omega
      have HF := Lib.hid (fillD_next D n k x hx)
      clear hown hbel hx
      go_wp2_with fail
      refine (HT.out x.1 x.2 _).mono ?_
      rintro e w4 ⟨rfl, hg4⟩
      have O4 := Lib.hid (own_none HO.out hg4)
      have B4 := Lib.hid (below_gb HB.out (Nat.le_refl _) hg4)
      clear hg4 c0 c1
      go_wp2_with (refine wpList_store_mid rfl 36 (.tmp 21) (.tmp 20) rfl w.heap.size (k * 2) #[.int .i64 x.1, .int .i64 x.2] rfl rfl (there_own O4.out hlt) (by rw [hi]; simp [hz1]) (by simp [Value.oneCell']) ?_)
      have X5 := Lib.hid (show FillAt w n D (k + 1) (.slice (some ⟨w.heap.size, 0, none⟩) n n) (w4.setCells w.heap.size (k * 2) [.int .i64 x.1, .int .i64 x.2]) from by
        obtain ⟨h1, h2⟩ := stored_own O4.out k x.1 x.2
        rw [HF.out] at h1
        exact ⟨h1, B4.out.grown h2 B4.out.size (fun j e => by cases e; exact Nat.le_refl _)⟩)
      go_roundw
      case rel => exact ⟨k + 1, by omega, by go_num, X5.out⟩
      case measure => simp [intOf]; omega
    · obtain rfl : k = n := by omega
      have HO := Lib.hid hown
      clear hown hbel
      go_wp2_with fail
      go_ret
      refine ⟨w.heap.size, by rw [hl]; rfl, ?_, HB.out⟩
      have h3 := HO.out
      rw [fillD_all D k hl] at h3
      rw [hl]
      exact h3
end Go.Proofs.Ytnpjadofhpaapaa
end

section
namespace Go.Proofs.Ytnpjadofhpaapaa
open Go.ChangeShapes Go.WideShapes Go.ChangeAt Go.RowKit
set_option linter.unusedVariables false
set_option maxRecDepth 20000

theorem lawsEqDepend (x y : Int) (w : World) :
    Calls Try.prog 59 #[.agg #[.int .i64 x, .int .i64 y], .agg #[.int .i64 x, .int .i64 y]] w (RetB true w) := by
  go_enter Try.func59, Try.ntmps59
  go_wp2_with fail
  go_ret
  exact ⟨rfl, gb_alloc (gb_alloc (gb_refl _ _) _) _⟩
theorem lawsEqD (A1 A2 : Option Addr) (n c1 c2 : Nat) (D : List Dep) (w : World) (h1 : DepAt w w.heap.size A1 n D) (h2 : DepAt w w.heap.size A2 n D) (hn : n ≤ 1000000000) :
    Calls Try.prog 25 #[.slice A1 n c1, .slice A2 n c2] w (RetB true w) := by
  have H1 := Lib.hid h1
  have H2 := Lib.hid h2
  have HE := Lib.hid (fun x y w => lawsEqDepend x y w)
  clear h1 h2
  go_enter Try.func25, Try.ntmps25
  go_wp2_with fail
  go_loopw [5] (fun i wr => ∃ k : Nat, i = .int .i64 (k : Int) ∧ k ≤ n ∧ w.grownBy wr none) (fun i _ => n - (intOf i).toNat)
  case atStart => exact ⟨0, rfl, Nat.zero_le _, gb_refl _ _⟩
  case round =>
    obtain ⟨k, rfl, hk, hg⟩ := hrel
    have HG := Lib.hid hg
    by_cases hlt : k < n
    · obtain ⟨g1, o1, rfl, _, a0, a1⟩ := (H1.out.none (Nat.le_refl _) hg).at k hlt
      obtain ⟨g2, o2, rfl, _, b0, b1⟩ := (H2.out.none (Nat.le_refl _) hg).at k hlt
      obtain ⟨x, hx⟩ : ∃ x, atD D k = x := ⟨_, rfl⟩
      rw [hx] at a0 a1 b0 b1
      have k0 : (0 : Int) ≤ (k : Int) := by omega
      have k1 : (k : Int) < (n : Int) := by omega
      clear hx hg
      go_wp2_with fail
      go_region_held3 (fun w' => w'.cell? ⟨g1, o1 + k * 2, none⟩ = some (.int .i64 x.1) ∧ w'.cell? ⟨g1, o1 + k * 2 + 1, none⟩ = some (.int .i64 x.2) ∧ w'.cell? ⟨g2, o2 + k * 2, none⟩ = some (.int .i64 x.1) ∧ w'.cell? ⟨g2, o2 + k * 2 + 1, none⟩ = some (.int .i64 x.2))
        (first | exact ⟨a0, a1, b0, b1⟩ | exact ⟨d0, d1, d2, d3⟩ | fail)
        (first
          | (go_at_call 59; (with_reducible refine (HE.out x.1 x.2 _).mono ?_); rintro e w4 ⟨rfl, hg4⟩; have h4 := gb_drD hg4; have d0 := h4.cell a0 (by simp); have d1 := h4.cell a1 (by simp); have d2 := h4.cell b0 (by simp); have d3 := h4.cell b1 (by simp); have G4 := Lib.hid (gb_trans HG.out h4); clear h4 hg4)
          | fail)
      all_goals
        clear d0 d1 d2 d3 a0 a1 b0 b1
        go_wp2_with fail
        go_roundw
        case rel => exact ⟨k + 1, by go_num, by omega, G4.out⟩
        case measure => simp [intOf]; omega
    · obtain rfl : k = n := by omega
      clear hg
      go_wp2_with fail
      go_ret
      exact ⟨rfl, HG.out⟩

theorem lawsMarkD (v : Value) (base n k0 : Nat) (l : List Dep) (w : World) (h : w.ownsRow base 36 2 v n (depV l)) (hk : k0 + n * 2 ≤ 1000000000) :
    Calls Try.prog 30 #[v, .int .i64 (k0 : Int)] w fun e w' => e = .returned (.int .i64 ((k0 + n * 2 : Nat) : Int)) ∧ w'.ownsRow base 36 2 v n (depV (marksD k0 n)) ∧ w.grownBy w' v.ownBlock := by
  have hxl := own_dep_length h
  obtain ⟨A, cap, rfl, ha⟩ := own_form h
  have h' := h
  rw [← markD_zero k0 n l hxl] at h'
  clear h hxl
  have H0 := Lib.hid h'
  clear h'
  go_enter Try.func30, Try.ntmps30
  go_wp2_with fail
  go_loopw [1, 5] (fun q i wr => ∃ j : Nat, j ≤ n ∧ q = .int .i64 ((k0 + j * 2 : Nat) : Int) ∧ i = .int .i64 (j : Int) ∧ wr.ownsRow base 36 2 (.slice A n cap) n (depV (markD k0 n j l)) ∧ w.grownBy wr (Value.slice A n cap).ownBlock) (fun _ i _ => n - (intOf i).toNat)
  case atStart => exact ⟨0, Nat.zero_le _, rfl, rfl, H0.out, gb_refl _ _⟩
  case round =>
    obtain ⟨j, hj, rfl, rfl, hown, hgr⟩ := hrel
    have HG := Lib.hid hgr
    clear hgr
    by_cases hlt : j < n
    · obtain ⟨g, rfl⟩ := ha (by omega)
      clear ha
      obtain ⟨y, hy⟩ : ∃ y : Nat, k0 + j * 2 = y := ⟨_, rfl⟩
      have hc0 := hown.cellAt (j * 2) (by omega)
      rw [List.getElem?_eq_getElem (by rw [depV_length, markD_length]; omega)] at hc0
      have hc1 := hown.cellAt (j * 2 + 1) (by omega)
      rw [List.getElem?_eq_getElem (by rw [depV_length, markD_length]; omega)] at hc1
      have hf0 := hown.frozenAt (j * 2)
      have hf1 := hown.frozenAt (j * 2 + 1)
      obtain ⟨hown1, hg1⟩ := hown.stored (j * 2) (.int .i64 (y : Int))
      have hd1 := hown1.cellAt (j * 2 + 1) (by omega)
      rw [List.getElem?_eq_getElem (by rw [List.length_set, depV_length, markD_length]; omega)] at hd1
      have hf2 := hown1.frozenAt (j * 2 + 1)
      obtain ⟨hown2, hg2⟩ := hown1.stored (j * 2 + 1) (.int .i64 ((y + 1 : Nat) : Int))
      have hms := markD_succ k0 n j l
      rw [hy] at hms
      rw [depV_set, hms] at hown2
      have HOWN := Lib.hid hown2
      have HGG := Lib.hid (gb_trans HG.out (gb_trans hg1 hg2))
      have HY := Lib.hid hy
      have j0 : (0 : Int) ≤ (j : Int) := by omega
      have j1 : (j : Int) < (n : Int) := by omega
      rw [hy]
      have hy9 : y + 2 ≤ 1000000002 := by omega
      clear hown hown1 hown2 hg1 hg2 hms hy
      go_wp2_with fail
      go_roundw
      case rel => exact ⟨j + 1, by omega, by have := HY.out; go_num, by go_num, HOWN.out, HGG.out⟩
      case measure => simp [intOf]; omega
    · obtain rfl : j = n := by omega
      rw [markD_all] at hown
      have HOWN := Lib.hid hown
      clear hown
      go_wp2_with fail
      go_ret
      exact ⟨rfl, HOWN.out, HG.out⟩

theorem lawsHeldD (A : Option Addr) (n cap B k0 : Nat) (w : World) (h : DepAt w B A n (marksD k0 n)) (hk : k0 + n * 2 ≤ 1000000000) :
    Calls Try.prog 31 #[.slice A n cap, .int .i64 (k0 : Int)] w fun e w' => e = .returned (.int .i64 ((k0 + n * 2 : Nat) : Int)) ∧ w.grownBy w' none := by
  have H0 := Lib.hid h
  clear h
  go_enter Try.func31, Try.ntmps31
  go_wp2_with fail
  go_loopw [1, 5] (fun q i wr => ∃ j m : Nat, j ≤ n ∧ q = .int .i64 ((k0 + j * 2 : Nat) : Int) ∧ i = .int .i64 (j : Int) ∧ wr = w.drewN m) (fun _ i _ => n - (intOf i).toNat)
  case atStart => exact ⟨0, 0, Nat.zero_le _, rfl, rfl, rfl⟩
  case round =>
    obtain ⟨j, m, hj, rfl, rfl, rfl⟩ := hrel
    by_cases hlt : j < n
    · obtain ⟨g, off, rfl, _, hc0, hc1⟩ := H0.out.at j hlt
      rw [marksD_get k0 n j hlt] at hc0 hc1
      obtain ⟨y, hy⟩ : ∃ y : Nat, k0 + j * 2 = y := ⟨_, rfl⟩
      rw [hy] at hc0 hc1
      have HY := Lib.hid hy
      have j0 : (0 : Int) ≤ (j : Int) := by omega
      have j1 : (j : Int) < (n : Int) := by omega
      have hy9 : y + 2 ≤ 1000000002 := by omega
      rw [hy]
      clear hy
      have d0 : (w.drewN m).cell? ⟨g, off + j * 2, none⟩ = some (.int .i64 (y : Int)) := hc0
      have d1 : (w.drewN m).cell? ⟨g, off + j * 2 + 1, none⟩ = some (.int .i64 ((y : Int) + 1)) := hc1
      clear hc0 hc1
      go_wp2_with fail
      go_roundw
      case rel => exact ⟨j + 1, _, by omega, by have := HY.out; go_num, by go_num, rfl⟩
      case measure => simp [intOf]; omega
    · obtain rfl : j = n := by omega
      go_wp2_with fail
      go_ret
      exact ⟨rfl, gb_drewN (gb_refl _ _) _⟩

theorem lawsSzD (A : Option Addr) (n cap : Nat) (m : Int) (w : World) (hn : n ≤ 9223372036854775807) (hm0 : 0 ≤ m) (hm1 : m ≤ 1048576) :
    Calls Try.prog 32 #[.slice A n cap, .int .i64 m] w fun e w' => e = .returned (.int .i64 (if m < (n : Int) then -1 else m - n)) ∧ w = w' := by
  by_cases hlt : m < (n : Int)
  · go_enter Try.func32, Try.ntmps32
    go_wp2_with fail
    go_ret
    exact ⟨ret_int64 (by (repeat' split) <;> first | rfl | omega), rfl⟩
  · go_enter Try.func32, Try.ntmps32
    go_wp2_with fail
    go_ret
    exact ⟨ret_int64 (by (repeat' split) <;> first | rfl | omega), rfl⟩
/-- The same for rows of the call's own. -/
theorem lawsEqOwnD (v1 v2 : Value) (b1 b2 : Nat) (D : List Dep) (w : World) (h1 : w.ownsRow b1 36 2 v1 D.length (depV D)) (h2 : w.ownsRow b2 36 2 v2 D.length (depV D)) (hn : D.length ≤ 1000000000) :
    Calls Try.prog 25 #[v1, v2] w (RetB true w) := by
  obtain ⟨A1, c1, rfl, _⟩ := own_form h1
  obtain ⟨A2, c2, rfl, _⟩ := own_form h2
  exact lawsEqD A1 A2 D.length c1 c2 D w (depAt_own h1 (Nat.le_refl _)) (depAt_own h2 (Nat.le_refl _)) hn
theorem lawsHeldOwnD (v : Value) (base n k0 : Nat) (w : World) (h : w.ownsRow base 36 2 v n (depV (marksD k0 n))) (hk : k0 + n * 2 ≤ 1000000000) :
    Calls Try.prog 31 #[v, .int .i64 (k0 : Int)] w fun e w' => e = .returned (.int .i64 ((k0 + n * 2 : Nat) : Int)) ∧ w.grownBy w' none := by
  obtain ⟨A, c, rfl, _⟩ := own_form h
  exact lawsHeldD A n c _ k0 w (depAt_own h (Nat.le_refl _)) hk
end Go.Proofs.Ytnpjadofhpaapaa
end
