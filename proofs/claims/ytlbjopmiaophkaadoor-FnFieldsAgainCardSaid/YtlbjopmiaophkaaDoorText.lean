/- What is proved here: the drawn texts of the given model are texts of at most 30,000 bytes; only the cursor's own block and new blocks are written. -/
import Derived.Test.YtlbjopmiaophkaaDoorCur
import Derived.Test.YtlbjopmiaophkaaDoorOwn
namespace Go.Proofs.YtlbjopmiaophkaaDoor
open Go.ChangeShapes Go.WideShapes Go.ChangeAt Go.RowKit
set_option linter.unusedVariables false

/-- A text of at most k bytes is returned. -/
def DrawnS (k : Nat) (g : Nat) (w : World) (e : Ending) (w' : World) : Prop := ∃ s : ByteArray, e = .returned (.string s) ∧ s.size ≤ k ∧ Cur w' g ∧ w.grownBy w' (some g)
def SomeS (k : Nat) (w : World) (e : Ending) (w' : World) : Prop := ∃ s : ByteArray, e = .returned (.string s) ∧ s.size ≤ k ∧ w.grownBy w' none

theorem u8_of (z : Int) : ∃ c : UInt8, (c.toNat : Int) = IntKind.u8.wrap z := by
  have h0 : 0 ≤ IntKind.u8.wrap z ∧ IntKind.u8.wrap z ≤ 255 := by simp [IntKind.wrap, IntKind.bits, IntKind.signed]; omega
  exact ⟨UInt8.ofNat (IntKind.u8.wrap z).toNat, by simp; omega⟩

/-- The loop of l01Text. -/
def TextAt (g : Nat) (w : World) (k : Nat) (v : Value) (wr : World) : Prop :=
  ∃ l : List UInt8, l.length = k ∧ wr.ownsRow w.heap.size 5 1 v k (bytesV l) ∧ Cur wr g ∧ w.grownBy wr (some g)

theorem l01TextOf (n : Nat) (g : Nat) (w : World) (hcur : Cur w g) (hn : n ≤ 5000) :
    Calls Tryd.prog 25 #[.pointer (some ⟨g, 0, none⟩), .int .i64 (n : Int)] w (DrawnS n g w) := by
  obtain ⟨i0, hi, hz0, hz1, hz2⟩ := info_parts info_u8
  have hglt := hcur.lt
  have HC := Lib.hid hcur
  clear hcur
  have hn5 : decide ((5000 : Int) < (n : Int)) = false := decide_eq_false (by omega)
  go_enter Tryd.func25, Tryd.ntmps25
  go_wp2_with fail
  go_loopw [5, 6] (fun v i wr => ∃ k : Nat, k ≤ n ∧ i = .int .i64 (k : Int) ∧ TextAt g w k v wr) (fun _ i _ => n - (intOf i).toNat)
  case atStart => exact ⟨0, Nat.zero_le _, rfl, [], rfl, World.ownsRow_made _ _ _ (Nat.le_refl _) (by decide) rfl, HC.out.grown (gb_alloc (gb_refl _ none) _) (fun k e => by cases e), gb_alloc (gb_refl _ _) _⟩
  case round =>
    obtain ⟨k, hk, rfl, l, hl, hown, hcur, hg⟩ := hrel
    have HG := Lib.hid hg
    have HL := Lib.hid hl
    by_cases hlt : k < n
    · clear hg hl
      have hsz := HG.out.size
      go_wp2_with fail
      refine (l01Byte g _ hcur).mono ?_
      rintro e w1 ⟨r, rfl, hr0, hr1, hcur1, hg1⟩
      have hown1 := hown.kept hg1 (.inr (fun e => by have := (hown.lt g e).1; omega))
      have hsz1 := hg1.size
      obtain ⟨c, hc⟩ : ∃ c : Nat, r = c := ⟨r.toNat, by omega⟩
      subst hc
      have hb : [Value.int .u8 (c : Int)] = bytesV [UInt8.ofNat c] := by simp [bytesV]; omega
      have HB := Lib.hid hb
      have b2 := Lib.hid (show ∀ u ∈ [Value.int .u8 (c : Int)], u.oneCell' = true by simp [Value.oneCell'])
      have b3 := Lib.hid (show k + 1 ≤ maxLen by unfold maxLen; omega)
      have HC1 := Lib.hid hcur1
      have HG1 := Lib.hid hg1
      clear hb hcur hown hcur1 hg1
      go_wp2_with (at_builtin; refine wpList_append_own _ rfl _ _ 22 rfl w.heap.size 5 i0 (.int .u8 0) 1 1 Tryd.underlying22 hi hz0 hz1 hz2 rfl (by decide) _ k _ rfl (hown1.alloc _) ⟨w1.heap.size, 0, none⟩ 1 1 [.int .u8 (c : Int)] rfl rfl (World.news_of_block (cs := #[.int .u8 (c : Int)]) (t := 5) (fr := (0, 0)) (heap_alloc_new w1 _)) b2.out b3.out (by omega) (by simp; omega) ?_; intro v' w2 hown2 hgrow2 _)
      have X : TextAt g w (k + 1) v' w2 := by
        have hal : w1.grownBy (w1.alloc (.cells #[.int .u8 (c : Int)] 5)) none := gb_alloc (gb_refl _ _) _
        have hlt1 : ∀ j, u5.ownBlock = some j → g < j := fun j hj => by have := (hown1.lt j hj).1; omega
        refine ⟨l ++ [UInt8.ofNat c], by simp [HL.out], by rw [bytesV_append, ← HB.out]; exact hown2, (HC1.out.grown hal (fun k e => by cases e)).grown hgrow2 hlt1, ?_⟩
        have hb2 : Below w.heap.size (w1.alloc (.cells #[.int .u8 (c : Int)] 5)) w2 := (Below.refl _ _).grown hgrow2 (by simp; omega) (fun j hj => (hown1.lt j hj).1)
        have h3 : w.grownBy (w1.alloc (.cells #[.int .u8 (c : Int)] 5)) (some g) := gb_alloc (gb_trans HG.out HG1.out) _
        exact ⟨hb2.os.trans h3.os, hb2.tape.trans h3.tape, hb2.output.trans h3.output, Nat.le_trans h3.size hb2.size, fun i hi hne => (hb2.block i hi).trans (h3.block i hi hne)⟩
      have HX := Lib.hid X
      clear X hown2 hgrow2 hown1
      go_wp2_with fail
      go_roundw
      case rel => exact ⟨k + 1, by omega, by go_num, HX.out⟩
      case measure => simp [intOf]; omega
    · obtain rfl : k = n := by omega
      have hcv := convert_owned (l := l) (by rw [hl]; exact hown)
      have HCC := Lib.hid hcur
      clear hg hl hown hcur
      go_wp2_with fail
      go_ret
      exact ⟨_, rfl, by show l.toArray.size ≤ _; simp [HL.out], HCC.out, HG.out⟩

theorem bytesV_set (l : List UInt8) (j : Nat) (c : UInt8) : (bytesV l).set j (.int .u8 (c.toNat : Int)) = bytesV (l.set j c) := by simp [bytesV, List.map_set]

theorem madeZeros (n : Nat) : (madeCells (Value.int .u8 0).cells n).toList = bytesV (List.replicate n 0) := by
  show (madeCells #[Value.int .u8 0] n).toList = _
  rw [toList_madeCells_one]
  simp [bytesV]
def LongAt (w : World) (n : Nat) (v : Value) (wr : World) : Prop := ∃ l : List UInt8, l.length = n ∧ wr.ownsRow w.heap.size 5 1 v n (bytesV l) ∧ Below w.heap.size w wr

theorem l01LongOf (n : Nat) (x : UInt8) (w : World) (hn : n ≤ 30000) :
    Calls Tryd.prog 23 #[.int .i64 (n : Int), .int .u8 (x.toNat : Int)] w (SomeS n w) := by
  obtain ⟨i0, hi, hz0, hz1, hz2⟩ := info_parts info_u8
  go_enter Tryd.func23, Tryd.ntmps23
  go_wp2_with (at_make; refine wpList_make_full _ rfl _ _ 22 rfl w.heap.size 5 i0 (.int .u8 0) 1 Tryd.underlying22 hi hz0 hz1 .i64 .i64 _ _ n rfl rfl (by omega) (by omega) (by rw [hz2]; omega) (by unfold maxLen; omega) (Nat.le_refl _) ?_; intro w0 hown0 hgrow0)
  have hz : (madeCells (Value.int .u8 0).cells (n * 1)).toList = bytesV (List.replicate n 0) := by rw [Nat.mul_one]; exact madeZeros n
  have X : LongAt w n (.slice (some ⟨w.heap.size, 0, none⟩) n n) w0 := ⟨List.replicate n 0, by simp, by rw [← hz]; exact hown0, gb_below_none hgrow0 (Nat.le_refl _)⟩
  have HX := Lib.hid X
  clear X hz hown0 hgrow0
  go_loopw [6] (fun i wr => ∃ k : Nat, k ≤ n ∧ i = .int .i64 (k : Int) ∧ LongAt w n (.slice (some ⟨w.heap.size, 0, none⟩) n n) wr) (fun i _ => n - (intOf i).toNat)
  case atStart => exact ⟨0, Nat.zero_le _, rfl, HX.out⟩
  case round =>
    obtain ⟨k, hk, rfl, l, hl, hown, hbel⟩ := hrel
    have HL := Lib.hid hl
    have HB := Lib.hid hbel
    by_cases hlt : k < n
    · have hc := hown.cellAt k (by omega)
      obtain ⟨u0, hu0⟩ : ∃ u, (bytesV l)[k]? = some u := ⟨_, List.getElem?_eq_getElem (by rw [bytesV_length, hl]; exact hlt)⟩
      rw [hu0] at hc
      have hf := hown.frozenAt k
      obtain ⟨hown2, hg2⟩ := hown.stored k (.int .u8 (x.toNat : Int))
      rw [bytesV_set] at hown2
      have HO := Lib.hid hown2
      have HG := Lib.hid hg2
      clear hown hown2 hg2 hl hbel hu0
      go_wp2_with fail
      go_roundw
      case rel => exact ⟨k + 1, by omega, by go_num, l.set k x, by simp [HL.out], HO.out, HB.out.grown HG.out HB.out.size (fun j e => by cases e; exact Nat.le_refl _)⟩
      case measure => simp [intOf]; omega
    · have hcv := convert_owned (l := l) (by rw [hl]; exact hown)
      clear hown hl hbel
      go_wp2_with fail
      go_ret
      exact ⟨_, rfl, by show l.toArray.size ≤ _; simp [HL.out], gb_of_below HB.out _⟩
end Go.Proofs.YtlbjopmiaophkaaDoor
