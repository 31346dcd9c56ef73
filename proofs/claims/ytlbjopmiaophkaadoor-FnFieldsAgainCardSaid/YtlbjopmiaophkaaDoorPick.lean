/- What is proved here: a text picked from a list is one of the list; only the cursor's own block and new blocks are written. -/
import Derived.Test.YtlbjopmiaophkaaDoorText
namespace Go.Proofs.YtlbjopmiaophkaaDoor
open Go.ChangeShapes Go.WideShapes Go.ChangeAt Go.RowKit
set_option linter.unusedVariables false

theorem l01Pick (k : Nat) (b m cap : Nat) (g : Nat) (w : World) (hcur : Cur w g) (hm : 0 < m) (hb : b ≠ g)
    (hL : ∀ j, j < m → ∃ x : ByteArray, x.size ≤ k ∧ w.cell? ⟨b, j, none⟩ = some (.string x)) :
    Calls Tryd.prog 30 #[.pointer (some ⟨g, 0, none⟩), .slice (some ⟨b, 0, none⟩) m cap] w (DrawnS k g w) := by
  have HL := Lib.hid hL
  clear hL
  go_enter Tryd.func30, Tryd.ntmps30
  go_wp2_with fail
  refine (l01Below m g _ hcur).mono ?_
  rintro e w1 ⟨r, rfl, hr0, hr1, hr2, hcur1, hg1⟩
  obtain ⟨j, rfl⟩ : ∃ j : Nat, r = j := ⟨r.toNat, by omega⟩
  have hk : j < m := by omega
  obtain ⟨x, hx, hc⟩ := HL.out j hk
  have hc1 : w1.cell? ⟨b, j, none⟩ = some (.string x) := hg1.cell hc (fun e => hb (by cases e; rfl))
  clear hr2
  go_wp2_with fail
  go_ret
  exact ⟨x, rfl, hx, hcur1, hg1⟩

theorem pickText_new (k : Nat) (L : List ByteArray) (T : TypeId) (cs : Array Value) (m cap : Nat) (g : Nat) (w : World) (hcur : Cur w g) (hcs : cs = (L.map Value.string).toArray) (hm : m = L.length) (h0 : 0 < m) (hP : ∀ x ∈ L, x.size ≤ k) :
    Calls Tryd.prog 30 #[.pointer (some ⟨g, 0, none⟩), .slice (some ⟨w.heap.size, 0, none⟩) m cap] (w.alloc (.cells cs T)) (DrawnS k g w) := by
  have hlt := hcur.lt
  have hal : w.grownBy (w.alloc (.cells cs T)) none := gb_alloc (gb_refl _ _) _
  have hal2 : w.grownBy (w.alloc (.cells cs T)) (some g) := gb_alloc (gb_refl _ _) _
  refine (l01Pick k w.heap.size m cap g _ (hcur.grown hal (fun k e => by cases e)) h0 (by omega) ?_).mono ?_
  · intro j hj
    have hj' : j < L.length := by omega
    refine ⟨L[j], hP _ (List.getElem_mem hj'), ?_⟩
    rw [(Blk.new w T cs).cell j, hcs]
    simp [hj']
  · rintro e w' ⟨x, rfl, hx, hc, hg⟩
    exact ⟨x, rfl, hx, hc, gb_trans hal2 hg⟩
end Go.Proofs.YtlbjopmiaophkaaDoor
