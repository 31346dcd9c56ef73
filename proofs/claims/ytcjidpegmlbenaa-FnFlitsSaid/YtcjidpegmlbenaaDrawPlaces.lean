/- What is proved here: the drawn numbers of the laws are twelve numbers from 0 to 9,999; only new blocks are written. -/
import Derived.Test.YtcjidpegmlbenaaCur
import Derived.Test.YtcjidpegmlbenaaInts
namespace Go.Proofs.Ytcjidpegmlbenaa
open Go.ChangeShapes Go.WideShapes Go.ChangeAt Go.RowKit
set_option linter.unusedVariables false
set_option maxRecDepth 20000

def PlacesAt (g base : Nat) (w : World) (k : Nat) (v : Value) (wr : World) : Prop :=
  ∃ l : List Int, l.length = k ∧ (∀ x ∈ l, 0 ≤ x ∧ x < 10000) ∧ wr.ownsRow base 3 1 v k (intsV l) ∧ Cur wr g ∧ w.grownBy wr (some g)

/-- Twelve numbers are returned; only new blocks are written. -/
def Drawn12 (w : World) (e : Ending) (w' : World) : Prop := ∃ (b cap : Nat) (l : List Int), e = .returned (.slice (some ⟨b, 0, none⟩) 12 cap) ∧ l.length = 12 ∧ (∀ x ∈ l, 0 ≤ x ∧ x < 10000) ∧
  (∀ (k : Nat) (x : Int), l[k]? = some x → w'.cell? ⟨b, k, none⟩ = some (.int .i64 x)) ∧ Below w.heap.size w w'

theorem drawPlaces (A : Option Addr) (n cap : Nat) (w : World) (hr : ByteRow w w.heap.size A n) (hn : n ≤ 1048576) :
    Calls Try.prog 12 #[.slice A n cap] w (Drawn12 w) := by
  obtain ⟨i0, hi, hz0, hz1, hz2⟩ := info_parts info_int
  go_enter Try.func12, Try.ntmps12
  go_wp2_with fail
  refine (l01New _ _ _ _ hr hn).mono ?_
  rintro e wa ⟨g, rfl, hg, hc1, hbel⟩
  have HBel := Lib.hid hbel
  have HG0 := Lib.hid hg
  have hlt := hc1.lt
  have HC := Lib.hid hc1
  clear hr hbel hg hc1
  go_wp2_with fail
  go_loopw [4, 5] (fun v i wr => ∃ k : Nat, k ≤ 12 ∧ i = .int .i64 (k : Int) ∧ PlacesAt g wa.heap.size wa k v wr) (fun _ i _ => 12 - (intOf i).toNat)
  case atStart => exact ⟨0, by omega, rfl, [], rfl, (fun x h => by cases h), World.ownsRow_made _ _ _ (Nat.le_refl _) (by decide) rfl, HC.out.grown (gb_alloc (gb_refl _ none) _) (fun k e => by cases e), gb_alloc (gb_refl _ _) _⟩
  case round =>
    obtain ⟨k, hk, rfl, l, hl, hP, hown, hcur, hgr⟩ := hrel
    have HP := Lib.hid hP
    have HG := Lib.hid hgr
    have HL := Lib.hid hl
    by_cases hlt12 : k < 12
    · clear hP hl
      have hsz := hgr.size
      clear hgr
      go_wp2_with fail
      refine (l01Below 10000 g _ hcur).mono ?_
      rintro e w1 ⟨r, rfl, hr0, hr1, hr2, hcur1, hg1⟩
      have hr3 := hr1 (by omega)
      have hown1 := hown.kept hg1 (.inr (fun e => by have := (hown.lt g e).1; omega))
      have hsz1 := hg1.size
      have HR := Lib.hid (And.intro hr0 hr3)
      have b2 := Lib.hid (show ∀ u ∈ [Value.int .i64 r], u.oneCell' = true by simp [Value.oneCell'])
      have b3 := Lib.hid (show k + 1 ≤ maxLen by unfold maxLen; omega)
      have HC1 := Lib.hid hcur1
      have HG1 := Lib.hid hg1
      clear hcur hown hcur1 hg1 hr1 hr2
      go_wp2_with (at_builtin; refine wpList_append_own _ rfl _ _ 32 rfl wa.heap.size 3 i0 (.int .i64 0) 1 8 Try.underlying32 hi hz0 hz1 hz2 rfl (by decide) _ k _ rfl (hown1.alloc _) ⟨w1.heap.size, 0, none⟩ 1 1 [.int .i64 r] rfl rfl (World.news_of_block (cs := #[.int .i64 r]) (t := 3) (fr := (0, 0)) (heap_alloc_new w1 _)) b2.out b3.out (by omega) (by simp; omega) ?_; intro v' w2 hown2 hgrow2 _)
      have X : PlacesAt g wa.heap.size wa (k + 1) v' w2 := by
        have hal : w1.grownBy (w1.alloc (.cells #[.int .i64 r] 3)) none := gb_alloc (gb_refl _ _) _
        have hlt1 : ∀ j, u4.ownBlock = some j → g < j := fun j hj => by have := (hown1.lt j hj).1; omega
        refine ⟨l ++ [r], by simp [HL.out], ?_, by rw [intsV_append]; exact hown2, (HC1.out.grown hal (fun k e => by cases e)).grown hgrow2 hlt1, ?_⟩
        · intro x hx
          rcases List.mem_append.1 hx with h | h
          · exact HP.out x h
          · rw [List.mem_singleton.1 h]; exact HR.out
        have hb2 : Below wa.heap.size (w1.alloc (.cells #[.int .i64 r] 3)) w2 := (Below.refl _ _).grown hgrow2 (by simp; omega) (fun j hj => (hown1.lt j hj).1)
        have h3 : wa.grownBy (w1.alloc (.cells #[.int .i64 r] 3)) (some g) := gb_alloc (gb_trans HG.out HG1.out) _
        exact ⟨hb2.os.trans h3.os, hb2.tape.trans h3.tape, hb2.output.trans h3.output, Nat.le_trans h3.size hb2.size, fun i hi hne => (hb2.block i hi).trans (h3.block i hi hne)⟩
      have HX := Lib.hid X
      clear X hown2 hgrow2 hown1
      go_wp2_with fail
      go_roundw
      case rel => exact ⟨k + 1, by omega, by go_num, HX.out⟩
      case measure => simp [intOf]; omega
    · obtain rfl : k = 12 := by omega
      obtain ⟨A', cap', rfl, hA'⟩ := own_form hown
      obtain ⟨b, rfl⟩ := hA' (by omega)
      have HC3 := Lib.hid (fun (k : Nat) (x : Int) (h : l[k]? = some x) => ints_cell hown k x h HL.out)
      clear hown hcur hP hl hgr
      go_wp2_with fail
      go_ret
      exact ⟨b, cap', l, rfl, HL.out, HP.out, HC3.out, HBel.out.trans (gb_below HG.out HBel.out.size HG0.out)⟩
end Go.Proofs.Ytcjidpegmlbenaa
