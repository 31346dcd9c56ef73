/- What is proved here: small facts on slices of integers that can be read, and on the laws' helpers for them (copy, compare, mark, look for the marks); only the marked row and new blocks are written. -/
import Derived.Test.YtgjidlhnfbdfpaaInts
namespace Go.Proofs.Ytgjidlhnfbdfpaa
open Go.ChangeShapes Go.WideShapes Go.ChangeAt Go.RowKit
set_option linter.unusedVariables false

/-- The slice's n elements are the numbers of L, in a block below B. -/
def IntAt (w : World) (B : Nat) (A : Option Addr) (n : Nat) (L : List Int) : Prop :=
  L.length = n ∧ (0 < n → ∃ b off, A = some ⟨b, off, none⟩ ∧ b < B ∧ ∀ (k : Nat) (x : Int), L[k]? = some x → w.cell? ⟨b, off + k, none⟩ = some (.int .i64 x))
section
variable {w w' : World} {B B' n : Nat} {A : Option Addr} {L : List Int}
theorem IntAt.keep (h : IntAt w B A n L) (hk : ∀ p : Addr, p.block < B → w'.cell? p = w.cell? p) : IntAt w' B A n L := ⟨h.1, fun hn => by
  obtain ⟨b, off, hA, hb, hc⟩ := h.2 hn
  exact ⟨b, off, hA, hb, fun k x hx => (hk _ hb).trans (hc k x hx)⟩⟩
theorem IntAt.more (h : IntAt w B A n L) (hB : B ≤ B') : IntAt w B' A n L := ⟨h.1, fun hn => by
  obtain ⟨b, off, hA, hb, hc⟩ := h.2 hn
  exact ⟨b, off, hA, by omega, hc⟩⟩
theorem IntAt.grown {row : Option Nat} (h : IntAt w B A n L) (hB : B ≤ w.heap.size) (hg : w.grownBy w' row) (hr : ∀ k, row = some k → B ≤ k) : IntAt w' B A n L :=
  h.keep fun p hp => World.cell?_of_block (hg.block p.block (by omega) (fun e => by have := hr _ e.symm; omega))
theorem IntAt.none (h : IntAt w B A n L) (hB : B ≤ w.heap.size) (hg : w.grownBy w' none) : IntAt w' B A n L := h.grown hB hg (fun k e => by cases e)
theorem IntAt.below (h : IntAt w B A n L) (hb : Below B w w') : IntAt w' B A n L := h.keep fun p hp => World.cell?_of_block (hb.block p.block hp)
theorem IntAt.nil (w : World) (B : Nat) (A : Option Addr) : IntAt w B A 0 [] := ⟨rfl, fun h => by omega⟩
/-- One element. -/
theorem IntAt.at (h : IntAt w B A n L) (k : Nat) (hk : k < n) : ∃ b off, A = some ⟨b, off, Option.none⟩ ∧ b < B ∧ w.cell? ⟨b, off + k, Option.none⟩ = some (.int .i64 (L.getD k 0)) := by
  obtain ⟨b, off, hA, hb, hc⟩ := h.2 (by omega)
  have hl := h.1
  exact ⟨b, off, hA, hb, hc k _ (by rw [List.getD_eq_getElem?_getD, List.getElem?_eq_getElem (by omega)]; rfl)⟩
end
theorem alloc_size (w : World) (o : Obj) : (w.alloc o).heap.size = w.heap.size + 1 := by simp
theorem own_less {w : World} {b1 b2 : Nat} {e : TypeId} {size n : Nat} {v : Value} {xs : List Value} (h : w.ownsRow b2 e size v n xs) (hb : b1 ≤ b2) : w.ownsRow b1 e size v n xs :=
  ⟨h.1, h.2.imp id fun ⟨g, cap, cur, e1, e2, rest⟩ => ⟨g, cap, cur, e1, Nat.le_trans hb e2, rest⟩⟩

/-- A row of the call's own, read. -/
theorem intAt_own {w : World} {base n B cap : Nat} {A : Option Addr} {L : List Int} (h : w.ownsRow base 3 1 (.slice A n cap) n (intsV L)) (hl : L.length = n) (hB : w.heap.size ≤ B) : IntAt w B A n L :=
  ⟨hl, fun hn => by
    obtain ⟨A', cap', hv, ha⟩ := own_form h
    obtain ⟨g, hg⟩ := ha hn
    obtain ⟨rfl, rfl⟩ : A = A' ∧ cap = cap' := by injection hv with h1 h2 h3; exact ⟨h1, h3⟩
    subst hg
    exact ⟨g, 0, rfl, by have := (h.lt g rfl).2; omega, fun k x hx => by rw [Nat.zero_add]; exact ints_cell h k x hx hl⟩⟩
theorem own_ints_length {w : World} {base n : Nat} {v : Value} {L : List Int} (h : w.ownsRow base 3 1 v n (intsV L)) : L.length = n := by
  have := h.1
  rw [intsV_length] at this
  omega
theorem intsV_set (l : List Int) (j : Nat) (x : Int) : (intsV l).set j (.int .i64 x) = intsV (l.set j x) := by simp [intsV, List.map_set]
theorem madeInts (n : Nat) : (madeCells (Value.int .i64 0).cells n).toList = intsV (List.replicate n 0) := by
  show (madeCells #[Value.int .i64 0] n).toList = _
  rw [toList_madeCells_one]
  simp [intsV]

/-- The first k numbers of L, then zeros. -/
def copied (L : List Int) (n k : Nat) : List Int := (List.range n).map fun t => if t < k then L.getD t 0 else 0
theorem copied_zero (L : List Int) (n : Nat) : copied L n 0 = List.replicate n 0 := by
  refine List.ext_getElem (by simp [copied]) fun i h1 h2 => ?_
  simp [copied]
theorem copied_succ (L : List Int) (n k : Nat) : (copied L n k).set k (L.getD k 0) = copied L n (k + 1) := by
  refine List.ext_getElem (by simp [copied]) fun i h1 h2 => ?_
  rw [List.getElem_set]
  by_cases e : k = i
  · subst e; simp [copied]
  · simp only [e, if_false, copied, List.getElem_map, List.getElem_range]
    by_cases hi : i < k
    · rw [if_pos hi, if_pos (by omega)]
    · rw [if_neg hi, if_neg (by omega)]
theorem copied_next (L : List Int) (n k : Nat) (x : Int) (h : L.getD k 0 = x) : (copied L n k).set k x = copied L n (k + 1) := by rw [← h]; exact copied_succ L n k
theorem copied_all (L : List Int) (n : Nat) (h : L.length = n) : copied L n n = L := by
  refine List.ext_getElem (by simp [copied, h]) fun i h1 h2 => ?_
  have : i < n := by omega
  simp [copied, this, List.getElem?_eq_getElem h2]
theorem copied_length (L : List Int) (n k : Nat) : (copied L n k).length = n := by simp [copied]

/-- A new row that holds the numbers of L. -/
def NewInts (L : List Int) (w : World) (e : Ending) (w' : World) : Prop :=
  ∃ g, e = .returned (.slice (some ⟨g, 0, none⟩) L.length L.length) ∧ w'.ownsRow w.heap.size 3 1 (.slice (some ⟨g, 0, none⟩) L.length L.length) L.length (intsV L) ∧ Below w.heap.size w w'
def CopyAt (w : World) (n : Nat) (L : List Int) (k : Nat) (v : Value) (wr : World) : Prop := wr.ownsRow w.heap.size 3 1 v n (intsV (copied L n k)) ∧ Below w.heap.size w wr

theorem lawsToIntS (A : Option Addr) (n cap : Nat) (L : List Int) (w : World) (h : IntAt w w.heap.size A n L) (hn : n ≤ 1048576) :
    Calls Try.prog 20 #[.slice A n cap] w (NewInts L w) := by
  obtain ⟨i0, hi, hz0, hz1, hz2⟩ := info_parts info_int
  have hl := h.1
  have HI := Lib.hid h
  clear h
  go_enter Try.func20, Try.ntmps20
  go_wp2_with (at_make; refine wpList_make_full _ rfl _ _ 26 rfl w.heap.size 3 i0 (.int .i64 0) 1 Try.underlying26 hi hz0 hz1 .i64 .i64 _ _ n rfl rfl (by omega) (by omega) (by rw [hz2]; omega) (by unfold maxLen; omega) (Nat.le_refl _) ?_; intro w0 hown0 hgrow0)
  have hz : (madeCells (Value.int .i64 0).cells (n * 1)).toList = intsV (copied L n 0) := by rw [Nat.mul_one, copied_zero]; exact madeInts n
  have X : CopyAt w n L 0 (.slice (some ⟨w.heap.size, 0, none⟩) n n) w0 := ⟨by rw [← hz]; exact hown0, gb_below_none hgrow0 (Nat.le_refl _)⟩
  have HX := Lib.hid X
  clear X hz hown0 hgrow0
  go_loopw [4] (fun i wr => ∃ k : Nat, k ≤ n ∧ i = .int .i64 (k : Int) ∧ CopyAt w n L k (.slice (some ⟨w.heap.size, 0, none⟩) n n) wr) (fun i _ => n - (intOf i).toNat)
  case atStart => exact ⟨0, Nat.zero_le _, rfl, HX.out⟩
  case round =>
    obtain ⟨k, hk, rfl, hown, hbel⟩ := hrel
    have HB := Lib.hid hbel
    by_cases hlt : k < n
    · have hc := hown.cellAt k (by omega)
      obtain ⟨u0, hu0⟩ : ∃ u, (intsV (copied L n k))[k]? = some u := ⟨_, List.getElem?_eq_getElem (by rw [intsV_length, copied_length]; exact hlt)⟩
      rw [hu0] at hc
      obtain ⟨b, off, rfl, hbB, hcell⟩ := (HI.out.below hbel).at k hlt
      obtain ⟨x, hx⟩ : ∃ x, L.getD k 0 = x := ⟨_, rfl⟩
      rw [hx] at hcell
      have hf := hown.frozenAt k
      obtain ⟨hown2, hg2⟩ := hown.stored k (.int .i64 x)
      rw [intsV_set, copied_next L n k x hx] at hown2
      have hne : ¬ w.heap.size = b := by omega
      have HO := Lib.hid hown2
      have HG := Lib.hid hg2
      clear hown hown2 hg2 hbel hu0 hx
      go_wp2_with fail
      go_roundw
      case rel => exact ⟨k + 1, by omega, by go_num, HO.out, HB.out.grown HG.out HB.out.size (fun j e => by cases e; exact Nat.le_refl _)⟩
      case measure => simp [intOf]; omega
    · obtain rfl : k = n := by omega
      have HO := Lib.hid hown
      clear hown hbel
      go_wp2_with fail
      go_ret
      refine ⟨w.heap.size, by rw [hl]; rfl, ?_, HB.out⟩
      have h3 := HO.out
      rw [copied_all L k hl] at h3
      rw [hl]
      exact h3

/-- eqIntS of two rows that hold the same numbers. -/
theorem lawsEqI (A1 A2 : Option Addr) (n c1 c2 B1 B2 : Nat) (L : List Int) (w : World) (h1 : IntAt w B1 A1 n L) (h2 : IntAt w B2 A2 n L) (hn : n ≤ 1000000000) :
    Calls Try.prog 22 #[.slice A1 n c1, .slice A2 n c2] w (RetB true w) := by
  have H1 := Lib.hid h1
  have H2 := Lib.hid h2
  clear h1 h2
  go_enter Try.func22, Try.ntmps22
  go_wp2_with fail
  go_loopw [5] (fun i wr => ∃ k m : Nat, i = .int .i64 k ∧ k ≤ n ∧ wr = w.drewN m) (fun i _ => n - (intOf i).toNat)
  case atStart => exact ⟨0, 0, rfl, Nat.zero_le _, rfl⟩
  case round =>
    obtain ⟨k, m, rfl, hk, rfl⟩ := hrel
    by_cases hlt : k < n
    · obtain ⟨g1, o1, rfl, _, e1⟩ := H1.out.at k hlt
      obtain ⟨g2, o2, rfl, _, e2⟩ := H2.out.at k hlt
      go_wp2_with fail
      go_quiet (fail)
      go_wp2_with fail
      go_roundw
      case rel => exact ⟨k + 1, _, by go_num, by omega, rfl⟩
      case measure => simp [intOf]; omega
    · go_wp2_with fail
      go_ret
      exact ⟨rfl, gb_drewN (gb_refl _ _) _⟩

def markI (k0 n j : Nat) (l : List Int) : List Int := (List.range n).map fun t => if t < j then ((k0 + t : Nat) : Int) else l.getD t 0
theorem markI_zero (k0 n : Nat) (l : List Int) (h : l.length = n) : markI k0 n 0 l = l := by
  refine List.ext_getElem (by simp [markI, h]) fun i h1 h2 => ?_
  simp [markI, List.getElem?_eq_getElem h2]
theorem markI_succ (k0 n j : Nat) (l : List Int) : (markI k0 n j l).set j ((k0 + j : Nat) : Int) = markI k0 n (j + 1) l := by
  refine List.ext_getElem (by simp [markI]) fun i h1 h2 => ?_
  rw [List.getElem_set]
  by_cases e : j = i
  · subst e; simp [markI]
  · simp only [e, if_false, markI, List.getElem_map, List.getElem_range]
    by_cases hi : i < j
    · rw [if_pos hi, if_pos (by omega)]
    · rw [if_neg hi, if_neg (by omega)]
theorem markI_length (k0 n j : Nat) (l : List Int) : (markI k0 n j l).length = n := by simp [markI]
def marksI (k0 n : Nat) : List Int := markI k0 n n []
theorem markI_all (k0 n : Nat) (l : List Int) : markI k0 n n l = marksI k0 n := by
  refine List.ext_getElem (by simp [markI, marksI]) fun i h1 h2 => ?_
  have : i < n := by simpa [markI] using h1
  simp [markI, marksI, this]
theorem marksI_get (k0 n j : Nat) (h : j < n) : (marksI k0 n).getD j 0 = ((k0 + j : Nat) : Int) := by
  rw [List.getD_eq_getElem?_getD, List.getElem?_eq_getElem (by simp [marksI, markI]; exact h)]
  simp [marksI, markI, h]
theorem marksI_length (k0 n : Nat) : (marksI k0 n).length = n := markI_length k0 n n []

theorem lawsMarkI (v : Value) (base n k0 : Nat) (l : List Int) (w : World) (h : w.ownsRow base 3 1 v n (intsV l)) (hk : k0 + n ≤ 1000000000) :
    Calls Try.prog 25 #[v, .int .i64 (k0 : Int)] w fun e w' => e = .returned (.int .i64 ((k0 + n : Nat) : Int)) ∧ w'.ownsRow base 3 1 v n (intsV (marksI k0 n)) ∧ w.grownBy w' v.ownBlock := by
  have hxl := own_ints_length h
  obtain ⟨A, cap, rfl, ha⟩ := own_form h
  have h' := h
  rw [← markI_zero k0 n l hxl] at h'
  clear h hxl
  have H0 := Lib.hid h'
  clear h'
  go_enter Try.func25, Try.ntmps25
  go_wp2_with fail
  go_loopw [1, 5] (fun q i wr => ∃ j : Nat, j ≤ n ∧ q = .int .i64 ((k0 + j : Nat) : Int) ∧ i = .int .i64 (j : Int) ∧ wr.ownsRow base 3 1 (.slice A n cap) n (intsV (markI k0 n j l)) ∧ w.grownBy wr (Value.slice A n cap).ownBlock) (fun _ i _ => n - (intOf i).toNat)
  case atStart => exact ⟨0, Nat.zero_le _, rfl, rfl, H0.out, gb_refl _ _⟩
  case round =>
    obtain ⟨j, hj, rfl, rfl, hown, hgr⟩ := hrel
    have HG := Lib.hid hgr
    clear hgr
    by_cases hlt : j < n
    · obtain ⟨g, rfl⟩ := ha (by omega)
      clear ha
      have hc := hown.cellAt j (by omega)
      rw [List.getElem?_eq_getElem (by rw [intsV_length, markI_length]; omega)] at hc
      have hf := hown.frozenAt j
      obtain ⟨hown2, hg2⟩ := hown.stored j (.int .i64 ((k0 + j : Nat) : Int))
      rw [intsV_set, markI_succ] at hown2
      have HOWN := Lib.hid hown2
      have HGG := Lib.hid (gb_trans HG.out hg2)
      clear hown hown2 hg2
      go_wp2_with fail
      go_roundw
      case rel => exact ⟨j + 1, by omega, by go_num, by go_num, HOWN.out, HGG.out⟩
      case measure => simp [intOf]; omega
    · obtain rfl : j = n := by omega
      rw [markI_all] at hown
      have HOWN := Lib.hid hown
      clear hown
      go_wp2_with fail
      go_ret
      exact ⟨rfl, HOWN.out, HG.out⟩

theorem lawsHeldI (A : Option Addr) (n cap B k0 : Nat) (w : World) (h : IntAt w B A n (marksI k0 n)) (hk : k0 + n ≤ 1000000000) :
    Calls Try.prog 26 #[.slice A n cap, .int .i64 (k0 : Int)] w fun e w' => e = .returned (.int .i64 ((k0 + n : Nat) : Int)) ∧ w.grownBy w' none := by
  have H0 := Lib.hid h
  clear h
  go_enter Try.func26, Try.ntmps26
  go_wp2_with fail
  go_loopw [1, 5] (fun q i wr => ∃ j m : Nat, j ≤ n ∧ q = .int .i64 ((k0 + j : Nat) : Int) ∧ i = .int .i64 (j : Int) ∧ wr = w.drewN m) (fun _ i _ => n - (intOf i).toNat)
  case atStart => exact ⟨0, 0, Nat.zero_le _, rfl, rfl, rfl⟩
  case round =>
    obtain ⟨j, m, hj, rfl, rfl, rfl⟩ := hrel
    by_cases hlt : j < n
    · obtain ⟨g, off, rfl, _, hc⟩ := H0.out.at j hlt
      rw [marksI_get k0 n j hlt] at hc
      go_wp2_with fail
      go_roundw
      case rel => exact ⟨j + 1, _, by omega, by go_num, by go_num, rfl⟩
      case measure => simp [intOf]; omega
    · obtain rfl : j = n := by omega
      go_wp2_with fail
      go_ret
      exact ⟨rfl, gb_drewN (gb_refl _ _) _⟩

/-- The same two for rows of the call's own. -/
theorem lawsEqOwn (v1 v2 : Value) (b1 b2 : Nat) (L : List Int) (w : World) (h1 : w.ownsRow b1 3 1 v1 L.length (intsV L)) (h2 : w.ownsRow b2 3 1 v2 L.length (intsV L)) (hn : L.length ≤ 1000000000) :
    Calls Try.prog 22 #[v1, v2] w (RetB true w) := by
  obtain ⟨A1, c1, rfl, _⟩ := own_form h1
  obtain ⟨A2, c2, rfl, _⟩ := own_form h2
  exact lawsEqI A1 A2 L.length c1 c2 _ _ L w (intAt_own h1 rfl (Nat.le_refl _)) (intAt_own h2 rfl (Nat.le_refl _)) hn
theorem lawsHeldOwn (v : Value) (base n k0 : Nat) (w : World) (h : w.ownsRow base 3 1 v n (intsV (marksI k0 n))) (hk : k0 + n ≤ 1000000000) :
    Calls Try.prog 26 #[v, .int .i64 (k0 : Int)] w fun e w' => e = .returned (.int .i64 ((k0 + n : Nat) : Int)) ∧ w.grownBy w' none := by
  obtain ⟨A, c, rfl, _⟩ := own_form h
  exact lawsHeldI A n c _ k0 w (intAt_own h (marksI_length k0 n) (Nat.le_refl _)) hk
end Go.Proofs.Ytgjidlhnfbdfpaa
