/- What is proved here: the laws' helpers for tables (size, copy, compare, mark); only the marked row and new blocks are written. -/
import Derived.Test.YtecaehkckamhkaaIntAt
namespace Go.Proofs.Ytecaehkckamhkaa
open Go.ChangeShapes Go.WideShapes Go.ChangeAt Go.RowKit
set_option linter.unusedVariables false

/-- A new table with the same ports. -/
def NewTab (P : List Int) (w : World) (e : Ending) (w' : World) : Prop :=
  ∃ g, e = .returned (.agg #[.slice (some ⟨g, 0, none⟩) P.length P.length]) ∧ w'.ownsRow w.heap.size 3 1 (.slice (some ⟨g, 0, none⟩) P.length P.length) P.length (intsV P) ∧ Below w.heap.size w w'

theorem lawsSzTable (A : Option Addr) (n cap : Nat) (m : Int) (w : World) (hn : n ≤ 9223372036854775807) (hm0 : 0 ≤ m) (hm1 : m ≤ 1048576) :
    Calls Try.prog 14 #[.agg #[.slice A n cap], .int .i64 m] w fun e w' => e = .returned (.int .i64 (if m < (n : Int) then -1 else m - n)) ∧ w.grownBy w' none := by
  by_cases hlt : m < (n : Int)
  · go_enter Try.func14, Try.ntmps14
    go_wp2_with fail
    refine (lawsSzI A n cap m _ hn hm0 hm1).mono ?_
    rintro e w1 ⟨rfl, rfl⟩
    rw [if_pos hlt]
    go_wp2_with fail
    go_ret
    exact ⟨rfl, gb_alloc (gb_refl _ _) _⟩
  · go_enter Try.func14, Try.ntmps14
    go_wp2_with fail
    refine (lawsSzI A n cap m _ hn hm0 hm1).mono ?_
    rintro e w1 ⟨rfl, rfl⟩
    rw [if_neg (by omega)]
    go_wp2_with fail
    go_ret
    exact ⟨rfl, gb_alloc (gb_refl _ _) _⟩

theorem lawsToTable (A : Option Addr) (n cap : Nat) (P : List Int) (w : World) (h : IntAt w w.heap.size A n P) (hn : n ≤ 1048576) :
    Calls Try.prog 17 #[.agg #[.slice A n cap]] w (NewTab P w) := by
  have hg := gb_alloc (gb_alloc (gb_alloc (gb_refl w none) (.cells #[.slice A n cap] 28)) (.cells #[.slice none 0 0] 36)) (.cells #[.slice none 0 0] 36)
  have H3 := Lib.hid ((h.none (Nat.le_refl _) hg).more hg.size)
  have HG := Lib.hid hg
  have k2 := ((Blk.new (w.alloc (.cells #[.slice A n cap] 28)) 36 #[.slice none 0 0]).alloc (.cells #[.slice none 0 0] 36))
  have k3 := Blk.new ((w.alloc (.cells #[.slice A n cap] 28)).alloc (.cells #[.slice none 0 0] 36)) 36 #[.slice none 0 0]
  simp only [alloc_size] at k2 k3
  have K2 := Lib.hid k2
  have K3 := Lib.hid k3
  have hs3 : (((w.alloc (.cells #[.slice A n cap] 28)).alloc (.cells #[.slice none 0 0] 36)).alloc (.cells #[.slice none 0 0] 36)).heap.size = w.heap.size + 3 := by simp only [alloc_size]
  have HS3 := Lib.hid hs3
  clear h hg k2 k3 hs3
  go_enter Try.func17, Try.ntmps17
  go_wp2_with fail
  refine (lawsToIntS A n cap P _ H3.out hn).mono ?_
  rintro e w2 ⟨g, rfl, o2, b2⟩
  have k3 := K3.out.below b2 (by rw [HS3.out]; omega)
  have k2 := K2.out.below b2 (by rw [HS3.out]; omega)
  have HK2 := Lib.hid k2
  have HB2 := Lib.hid ((gb_below_none HG.out (Nat.le_refl _)).trans (b2.mono HG.out.size))
  have HO := Lib.hid o2
  have a30 : w2.cell? ⟨w.heap.size + 1 + 1, 0, none⟩ = some (.slice none 0 0) := k3.cell 0
  have f30 := k3.frozen 0
  have a20 : w2.cell? ⟨w.heap.size + 1, 0, none⟩ = some (.slice none 0 0) := k2.cell 0
  have f20 := k2.frozen 0
  clear o2 b2 k2 k3
  go_wp2_with fail
  have kk := ((HK2.out.far (p := ⟨w.heap.size + 1 + 1, 0, none⟩) (by simp) (.slice (some ⟨g, 0, none⟩) P.length P.length)).set_ 0 (.slice (some ⟨g, 0, none⟩) P.length P.length))
  have d0 := kk.cell 0
  simp at d0
  have hgl := HO.out.lt g rfl
  rw [HS3.out] at hgl
  refine bodyPost_ret (v := .agg #[.slice (some ⟨g, 0, none⟩) P.length P.length]) (by simp [results, Try.results17, go_sem, d0]) rfl ⟨g, rfl, ?_, ?_⟩
  · exact own_less (ownsRow_setCell_below (ownsRow_setCell_below HO.out (by rw [HS3.out]; show w.heap.size + 1 + 1 < _; omega) _) (by rw [HS3.out]; show w.heap.size + 1 < _; omega) _) (by rw [HS3.out]; omega)
  · exact gb_below_none (gb_setCell (gb_setCell (gb_of_below HB2.out none) (.inr (by show w.heap.size ≤ w.heap.size + 1 + 1; omega)) _) (.inr (by show w.heap.size ≤ w.heap.size + 1; omega)) _) (Nat.le_refl _)

/-- eqTable of two tables with the same ports. -/
theorem lawsEqTable (A1 A2 : Option Addr) (n c1 c2 B1 B2 : Nat) (P : List Int) (w : World) (h1 : IntAt w B1 A1 n P) (h2 : IntAt w B2 A2 n P) (hB1 : B1 ≤ w.heap.size) (hB2 : B2 ≤ w.heap.size) (hn : n ≤ 1000000000) :
    Calls Try.prog 20 #[.agg #[.slice A1 n c1], .agg #[.slice A2 n c2]] w (RetB true w) := by
  have hg := gb_alloc (gb_alloc (gb_refl w none) (.cells #[.slice A1 n c1] 36)) (.cells #[.slice A2 n c2] 36)
  have H1 := Lib.hid (h1.none hB1 hg)
  have H2 := Lib.hid (h2.none hB2 hg)
  have HG := Lib.hid hg
  clear h1 h2 hg
  go_enter Try.func20, Try.ntmps20
  go_wp2_with fail
  refine (lawsEqI A1 A2 n c1 c2 B1 B2 P _ H1.out H2.out hn).mono ?_
  rintro e w2 ⟨rfl, hg2⟩
  have HG2 := Lib.hid (gb_trans HG.out hg2)
  clear hg2
  go_wp2_with fail
  go_ret
  exact ⟨rfl, HG2.out⟩

theorem lawsMarkTable (v : Value) (base n k0 : Nat) (l : List Int) (w : World) (h : w.ownsRow base 3 1 v n (intsV l)) (hk : k0 + n ≤ 1000000000) :
    Calls Try.prog 53 #[.agg #[v], .int .i64 (k0 : Int)] w fun e w' => e = .returned (.int .i64 ((k0 + n : Nat) : Int)) ∧ w'.ownsRow base 3 1 v n (intsV (marksI k0 n)) ∧ w.grownBy w' v.ownBlock := by
  obtain ⟨A, cap, rfl, ha⟩ := own_form h
  have h' := h.alloc (.cells #[.slice A n cap] 36)
  have HO := Lib.hid h'
  clear h h' ha
  go_enter Try.func53, Try.ntmps53
  go_wp2_with fail
  refine (lawsMarkI _ base n k0 l _ HO.out hk).mono ?_
  rintro e w1 ⟨rfl, o1, g1⟩
  have O1 := Lib.hid o1
  have G1 := Lib.hid (gb_trans (gb_alloc (gb_refl w _) _) g1)
  clear o1 g1
  go_wp2_with fail
  go_ret
  exact ⟨rfl, O1.out, G1.out⟩
end Go.Proofs.Ytecaehkckamhkaa
