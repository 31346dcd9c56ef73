/- What is proved here: small facts on the laws' helpers for lists of dependencies (copy, compare, mark, look for the marks); only the marked row and new blocks are written. -/
import Derived.Test.YtgjidlhnfbdfpaaDepI
import Derived.Deep.RegionHeld3
import Derived.Deep.MidRow
namespace Go.Proofs.Ytgjidlhnfbdfpaa
open Go.ChangeShapes Go.WideShapes Go.ChangeAt Go.RowKit
set_option linter.unusedVariables false
set_option maxRecDepth 20000

theorem gb_drD {a b : World} {row : Option Nat} (h : a.drew.grownBy b row) : a.grownBy b row := ⟨h.os, h.tape, h.output, h.size, h.block⟩
theorem depV_cons (d : Dep) (D : List Dep) : depV (d :: D) = .int .i64 d.1 :: .int .i64 d.2 :: depV D := rfl
theorem depV_set : ∀ (D : List Dep) (k : Nat) (x y : Int), ((depV D).set (k * 2) (.int .i64 x)).set (k * 2 + 1) (.int .i64 y) = depV (D.set k (x, y))
  | [], k, x, y => by simp [depV, depC_nil, intsV]
  | d :: D, 0, x, y => rfl
  | d :: D, k + 1, x, y => by
    have e1 : (k + 1) * 2 = k * 2 + 1 + 1 := by omega
    have e2 : (k + 1) * 2 + 1 = k * 2 + 1 + 1 + 1 := by omega
    rw [e2, e1, depV_cons, List.set_cons_succ, List.set_cons_succ, List.set_cons_succ, List.set_cons_succ, depV_set D k x y, List.set_cons_succ, depV_cons]
theorem madeDeps (n : Nat) : (madeCells (Value.agg #[.int .i64 0, .int .i64 0]).cells (n * 2)).toList = depV (List.replicate n (0, 0)) := by
  have e : ∀ n, depV (List.replicate n (0, 0)) = List.replicate (n * 2) (.int .i64 0) := fun n => by
    induction n with
    | zero => rfl
    | succ n ih => rw [List.replicate_succ, depV_cons, ih, show (n + 1) * 2 = n * 2 + 1 + 1 by omega, List.replicate_succ, List.replicate_succ]
  rw [e]
  apply List.ext_getElem?
  intro j
  by_cases hj : j < n * 2
  · have : j % 2 = 0 ∨ j % 2 = 1 := by omega
    rcases this with h | h <;> simp [madeCells, Value.cells, hj, h]
  · simp [madeCells, Value.cells, hj]

/-- The first k elements of D, then zeros. -/
def fillD (D : List Dep) (n k : Nat) : List Dep := (List.range n).map fun t => if t < k then atD D t else (0, 0)
theorem fillD_zero (D : List Dep) (n : Nat) : fillD D n 0 = List.replicate n (0, 0) := by
  refine List.ext_getElem (by simp [fillD]) fun i h1 h2 => ?_
  simp [fillD]
theorem fillD_succ (D : List Dep) (n k : Nat) : (fillD D n k).set k (atD D k) = fillD D n (k + 1) := by
  refine List.ext_getElem (by simp [fillD]) fun i h1 h2 => ?_
  rw [List.getElem_set]
  by_cases e : k = i
  · subst e; simp [fillD]
  · simp only [e, if_false, fillD, List.getElem_map, List.getElem_range]
    by_cases hi : i < k
    · rw [if_pos hi, if_pos (by omega)]
    · rw [if_neg hi, if_neg (by omega)]
theorem fillD_next (D : List Dep) (n k : Nat) (x : Dep) (h : atD D k = x) : (fillD D n k).set k (x.1, x.2) = fillD D n (k + 1) := by rw [← h]; exact fillD_succ D n k
theorem fillD_all (D : List Dep) (n : Nat) (h : D.length = n) : fillD D n n = D := by
  refine List.ext_getElem (by simp [fillD, h]) fun i h1 h2 => ?_
  have : i < n := by omega
  simp only [fillD, List.getElem_map, List.getElem_range, this, if_true]
  exact atD_get h2
theorem fillD_length (D : List Dep) (n k : Nat) : (fillD D n k).length = n := by simp [fillD]

/-- A new row that holds the elements of D. -/
def NewDep (D : List Dep) (w : World) (e : Ending) (w' : World) : Prop :=
  ∃ g, e = .returned (.slice (some ⟨g, 0, none⟩) D.length D.length) ∧ w'.ownsRow w.heap.size 55 2 (.slice (some ⟨g, 0, none⟩) D.length D.length) D.length (depV D) ∧ Below w.heap.size w w'
def FillAt (w : World) (n : Nat) (D : List Dep) (k : Nat) (v : Value) (wr : World) : Prop := wr.ownsRow w.heap.size 55 2 v n (depV (fillD D n k)) ∧ Below w.heap.size w wr

def markD (k0 n j : Nat) (l : List Dep) : List Dep := (List.range n).map fun t => if t < j then (((k0 + t * 2 : Nat) : Int), ((k0 + t * 2 + 1 : Nat) : Int)) else atD l t
theorem markD_zero (k0 n : Nat) (l : List Dep) (h : l.length = n) : markD k0 n 0 l = l := by
  refine List.ext_getElem (by simp [markD, h]) fun i h1 h2 => ?_
  simp only [markD, List.getElem_map, List.getElem_range, Nat.not_lt_zero, if_false]
  exact atD_get h2
theorem markD_succ (k0 n j : Nat) (l : List Dep) : (markD k0 n j l).set j (((k0 + j * 2 : Nat) : Int), ((k0 + j * 2 + 1 : Nat) : Int)) = markD k0 n (j + 1) l := by
  refine List.ext_getElem (by simp [markD]) fun i h1 h2 => ?_
  rw [List.getElem_set]
  by_cases e : j = i
  · subst e; simp [markD]
  · simp only [e, if_false, markD, List.getElem_map, List.getElem_range]
    by_cases hi : i < j
    · rw [if_pos hi, if_pos (by omega)]
    · rw [if_neg hi, if_neg (by omega)]
theorem markD_length (k0 n j : Nat) (l : List Dep) : (markD k0 n j l).length = n := by simp [markD]
def marksD (k0 n : Nat) : List Dep := markD k0 n n []
theorem markD_all (k0 n : Nat) (l : List Dep) : markD k0 n n l = marksD k0 n := by
  refine List.ext_getElem (by simp [markD, marksD]) fun i h1 h2 => ?_
  have : i < n := by simpa [markD] using h1
  simp [markD, marksD, this]
theorem marksD_length (k0 n : Nat) : (marksD k0 n).length = n := markD_length k0 n n []
theorem marksD_get (k0 n j : Nat) (h : j < n) : atD (marksD k0 n) j = (((k0 + j * 2 : Nat) : Int), ((k0 + j * 2 + 1 : Nat) : Int)) := by
  rw [atD_get (by rw [marksD_length]; exact h)]
  simp [marksD, markD, h]
theorem there_own {w : World} {base g n cap : Nat} {D : List Dep} (h : w.ownsRow base 55 2 (.slice (some ⟨g, 0, none⟩) n cap) n (depV D)) {k : Nat} (hk : k < n) : w.there g (k * 2) 2 := fun j hj => by
  have hl := h.1
  refine ⟨?_, h.frozenAt _⟩
  rw [h.cellAt (k * 2 + j) (by omega), List.getElem?_eq_getElem (by omega)]
  rfl
theorem stored_own {w : World} {base g n cap : Nat} {D : List Dep} (h : w.ownsRow base 55 2 (.slice (some ⟨g, 0, none⟩) n cap) n (depV D)) (k : Nat) (x y : Int) :
    (w.setCells g (k * 2) [.int .i64 x, .int .i64 y]).ownsRow base 55 2 (.slice (some ⟨g, 0, none⟩) n cap) n (depV (D.set k (x, y))) ∧ w.grownBy (w.setCells g (k * 2) [.int .i64 x, .int .i64 y]) (some g) := by
  obtain ⟨h1, g1⟩ := h.stored (k * 2) (.int .i64 x)
  obtain ⟨h2, g2⟩ := h1.stored (k * 2 + 1) (.int .i64 y)
  rw [depV_set] at h2
  exact ⟨h2, gb_trans g1 g2⟩

theorem lawsToDepend (x y : Int) (w : World) :
    Calls Try.prog 45 #[.agg #[.int .i64 x, .int .i64 y]] w fun e w' => e = .returned (.agg #[.int .i64 x, .int .i64 y]) ∧ w.grownBy w' none := by
  go_enter Try.func45, Try.ntmps45
  go_wp2_with fail
  refine bodyPost_ret (v := .agg #[.int .i64 x, .int .i64 y]) (by simp [results, Try.results45, go_sem]) rfl ⟨rfl, ?_⟩
  exact gb_alloc (gb_alloc (gb_alloc (gb_refl _ _) _) _) _

theorem lawsToDepS (A : Option Addr) (n cap : Nat) (D : List Dep) (w : World) (h : DepAt w w.heap.size A n D) (hn : n ≤ 1048576) :
    Calls Try.prog 19 #[.slice A n cap] w (NewDep D w) := by
  obtain ⟨i0, hi, hz0, hz1, hz2⟩ := info_parts info_dep
  have hl := h.1
  have HI := Lib.hid h
  have HT := Lib.hid (fun x y w => lawsToDepend x y w)
  clear h
  go_enter Try.func19, Try.ntmps19
  go_wp2_with (at_make; refine wpList_make_full _ rfl _ _ 24 rfl w.heap.size 55 i0 (.agg #[.int .i64 0, .int .i64 0]) 2 Try.underlying24 hi hz0 hz1 .i64 .i64 _ _ n rfl rfl (by omega) (by omega) (by rw [hz2]; omega) (by unfold maxLen; omega) (Nat.le_refl _) ?_; intro w0 hown0 hgrow0)
  have hz : (madeCells (Value.agg #[.int .i64 0, .int .i64 0]).cells (n * 2)).toList = depV (fillD D n 0) := by rw [fillD_zero]; exact madeDeps n
  have X : FillAt w n D 0 (.slice (some ⟨w.heap.size, 0, none⟩) n n) w0 := ⟨by rw [← hz]; exact hown0, gb_below_none hgrow0 (Nat.le_refl _)⟩
  have HX := Lib.hid X
  clear X hz hown0 hgrow0
  go_loopw [4] (fun i wr => ∃ k : Nat, k ≤ n ∧ i = .int .i64 (k : Int) ∧ FillAt w n D k (.slice (some ⟨w.heap.size, 0, none⟩) n n) wr) (fun i _ => n - (intOf i).toNat)
  case atStart => exact ⟨0, Nat.zero_le _, rfl, HX.out⟩
  case round =>
    obtain ⟨k, hk, rfl, hown, hbel⟩ := hrel
    have HB := Lib.hid hbel
    have HO := Lib.hid hown
    by_cases hlt : k < n
    · obtain ⟨b, off, rfl, hbB, c0, c1⟩ := (HI.out.below hbel).at k hlt
      obtain ⟨x, hx⟩ : ∃ x, atD D k = x := ⟨_, rfl⟩
      rw [hx] at c0 c1
      have k0 : (0 : Int) ≤ (k : Int) := by omega
      have k1 : (k : Int) < (n : Int) := by omega
      have HF := Lib.hid (fillD_next D n k x hx)
      clear hown hbel hx
      go_wp2_with fail
      refine (HT.out x.1 x.2 _).mono ?_
      rintro e w4 ⟨rfl, hg4⟩
      have O4 := Lib.hid (own_none HO.out hg4)
      have B4 := Lib.hid (below_gb HB.out (Nat.le_refl _) hg4)
      clear hg4 c0 c1
      go_wp2_with (refine wpList_store_mid rfl 55 (.tmp 21) (.tmp 20) rfl w.heap.size (k * 2) #[.int .i64 x.1, .int .i64 x.2] rfl rfl (there_own O4.out hlt) (by rw [hi]; simp [hz1]) (by simp [Value.oneCell']) ?_)
      have X5 := Lib.hid (show FillAt w n D (k + 1) (.slice (some ⟨w.heap.size, 0, none⟩) n n) (w4.setCells w.heap.size (k * 2) [.int .i64 x.1, .int .i64 x.2]) from by
        obtain ⟨h1, h2⟩ := stored_own O4.out k x.1 x.2
        rw [HF.out] at h1
        exact ⟨h1, B4.out.grown h2 B4.out.size (fun j e => by cases e; exact Nat.le_refl _)⟩)
      go_roundw
      case rel => exact ⟨k + 1, by omega, by go_num, X5.out⟩
      case measure => simp [intOf]; omega
    · obtain rfl : k = n := by omega
      have HO := Lib.hid hown
      clear hown hbel
      go_wp2_with fail
      go_ret
      refine ⟨w.heap.size, by rw [hl]; rfl, ?_, HB.out⟩
      have h3 := HO.out
      rw [fillD_all D k hl] at h3
      rw [hl]
      exact h3
end Go.Proofs.Ytgjidlhnfbdfpaa
