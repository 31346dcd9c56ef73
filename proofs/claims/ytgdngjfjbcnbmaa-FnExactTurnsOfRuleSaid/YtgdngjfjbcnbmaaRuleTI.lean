/- What is proved here: what the program's TurnsOfRule returns, for all arguments: a new slice with the rule's turns, ascending; only new blocks are written. -/
import Derived.Test.YtgdngjfjbcnbmaaAscI
namespace Go.Proofs.Ytgdngjfjbcnbmaa
open Go.ChangeShapes Go.WideShapes Go.ChangeAt Go.RowKit
set_option linter.unusedVariables false
set_option maxRecDepth 20000

theorem row_blk {w : World} {B : Nat} {t : TypeId} {T : List Int} (h : Blk w B t (intsV T).toArray) : RowAt w B T := fun j hj => by
  rw [h.cell j]
  simp [intsV, hj]
/-- The slices of the ports in a row and in a column, and the set of turns. -/
def RuAt (w : World) (f : Nat → Bool) (wr : World) : Prop :=
  RowAt wr w.heap.size [1, 3] ∧ RowAt wr (w.heap.size + 1) [0, 2] ∧ SetAt wr (w.heap.size + 1 + 1) f ∧ Below w.heap.size w wr
section
variable {w wr w' : World} {f f' : Nat → Bool}
theorem RuAt.lt (h : RuAt w f wr) : w.heap.size + 2 < wr.heap.size := h.2.2.1.lt
theorem RuAt.start (w : World) : RuAt w (fun _ => false) (((w.alloc (.cells #[.int .i64 1, .int .i64 3] 3)).alloc (.cells #[.int .i64 0, .int .i64 2] 3)).alloc (.map #[] 0)) := by
  refine ⟨row_blk (t := 3) (((Blk.new w 3 _).alloc _).alloc _), row_blk (t := 3) ?_, ?_, ?_⟩
  · have h := Blk.new (w.alloc (.cells #[.int .i64 1, .int .i64 3] 3)) 3 #[.int .i64 0, .int .i64 2]
    rw [alloc_size] at h
    exact h.alloc _
  · have h := SetAt.made ((w.alloc (.cells #[.int .i64 1, .int .i64 3] 3)).alloc (.cells #[.int .i64 0, .int .i64 2] 3))
    rw [alloc_size, alloc_size] at h
    exact h
  · exact gb_below_none (gb_alloc (gb_alloc (gb_alloc (gb_refl w none) _) _) _) (Nat.le_refl _)
theorem RuAt.alloc (h : RuAt w f wr) (o : Obj) : RuAt w f (wr.alloc o) := by
  have hl := h.lt
  have hg : wr.grownBy (wr.alloc o) none := gb_alloc (gb_refl wr none) o
  exact ⟨h.1.none (by omega) hg, h.2.1.none (by omega) hg, h.2.2.1.none hg, h.2.2.2.alloc (by omega) o⟩
theorem RuAt.put (h : RuAt w f wr) (hp : PutAt (w.heap.size + 1 + 1) f' wr w') : RuAt w f' w' := by
  have hl := h.lt
  exact ⟨h.1.kept (by omega) hp.2 (by omega), h.2.1.kept (by omega) hp.2 (by omega), hp.1, h.2.2.2.trans (gb_below hp.2 (by omega) (by omega))⟩
theorem ports_13 : Ports [1, 3] := ⟨by decide, fun j hj => by have : j = 0 ∨ j = 1 := by simp at hj; omega
                                                              rcases this with rfl | rfl <;> decide⟩
theorem ports_02 : Ports [0, 2] := ⟨by decide, fun j hj => by have : j = 0 ∨ j = 1 := by simp at hj; omega
                                                              rcases this with rfl | rfl <;> decide⟩
theorem ports_3 : Ports [3] := ⟨by decide, fun j hj => by have : j = 0 := by simp at hj; omega
                                                          subst this; decide⟩
theorem ports_1 : Ports [1] := ⟨by decide, fun j hj => by have : j = 0 := by simp at hj; omega
                                                          subst this; decide⟩
theorem ports_021 : Ports [0, 2, 1] := ⟨by decide, fun j hj => by have : j = 0 ∨ j = 1 ∨ j = 2 := by simp at hj; omega
                                                                  rcases this with rfl | rfl | rfl <;> decide⟩
def addT (f : Nat → Bool) (F T : List Int) : Nat → Bool := orT f (crossT F T F.length)
theorem RuAt.rc (h : RuAt w f wr) : Calls Try.prog 46 #[.map (some (w.heap.size + 1 + 1)), .slice (some ⟨w.heap.size, 0, none⟩) 2 2, .slice (some ⟨w.heap.size + 1, 0, none⟩) 2 2] wr fun e w' => e = .returned (.tuple #[]) ∧ RuAt w (addT f [1, 3] [0, 2]) w' :=
  (implAddAll (w.heap.size + 1 + 1) f [1, 3] [0, 2] w.heap.size (w.heap.size + 1) 2 2 ports_13 ports_02 wr h.2.2.1 h.1 h.2.1 (by have := h.lt; omega) (by have := h.lt; omega) (by omega) (by omega)).mono fun e w' ⟨he, hp⟩ => ⟨he, h.put hp⟩
theorem RuAt.cr (h : RuAt w f wr) : Calls Try.prog 46 #[.map (some (w.heap.size + 1 + 1)), .slice (some ⟨w.heap.size + 1, 0, none⟩) 2 2, .slice (some ⟨w.heap.size, 0, none⟩) 2 2] wr fun e w' => e = .returned (.tuple #[]) ∧ RuAt w (addT f [0, 2] [1, 3]) w' :=
  (implAddAll (w.heap.size + 1 + 1) f [0, 2] [1, 3] (w.heap.size + 1) w.heap.size 2 2 ports_02 ports_13 wr h.2.2.1 h.2.1 h.1 (by have := h.lt; omega) (by have := h.lt; omega) (by omega) (by omega)).mono fun e w' ⟨he, hp⟩ => ⟨he, h.put hp⟩
theorem RuAt.we {B : Nat} (h : RuAt w f wr) (hB : wr.heap.size = B) : Calls Try.prog 46 #[.map (some (w.heap.size + 1 + 1)), .slice (some ⟨B, 0, none⟩) 1 1, .slice (some ⟨B + 1, 0, none⟩) 3 3] ((wr.alloc (.cells #[.int .i64 3] 3)).alloc (.cells #[.int .i64 0, .int .i64 2, .int .i64 1] 3)) fun e w' => e = .returned (.tuple #[]) ∧ RuAt w (addT f [3] [0, 2, 1]) w' := by
  subst hB
  have hl := h.lt
  have h2 := (h.alloc (.cells #[.int .i64 3] 3)).alloc (.cells #[.int .i64 0, .int .i64 2, .int .i64 1] 3)
  have b1 := Blk.new (wr.alloc (.cells #[.int .i64 3] 3)) 3 #[.int .i64 0, .int .i64 2, .int .i64 1]
  rw [alloc_size] at b1
  exact (implAddAll (w.heap.size + 1 + 1) f [3] [0, 2, 1] wr.heap.size (wr.heap.size + 1) 1 3 ports_3 ports_021 _ h2.2.2.1 (row_blk (t := 3) ((Blk.new wr 3 #[.int .i64 3]).alloc _)) (row_blk (t := 3) b1) (by simp; omega) (by simp) (by omega) (by omega)).mono fun e w' ⟨he, hp⟩ => ⟨he, h2.put hp⟩
theorem RuAt.ce (h : RuAt w f wr) : Calls Try.prog 46 #[.map (some (w.heap.size + 1 + 1)), .slice (some ⟨w.heap.size + 1, 0, none⟩) 2 2, .slice (some ⟨wr.heap.size, 0, none⟩) 1 1] (wr.alloc (.cells #[.int .i64 1] 3)) fun e w' => e = .returned (.tuple #[]) ∧ RuAt w (addT f [0, 2] [1]) w' := by
  have hl := h.lt
  have h2 := h.alloc (.cells #[.int .i64 1] 3)
  exact (implAddAll (w.heap.size + 1 + 1) f [0, 2] [1] (w.heap.size + 1) wr.heap.size 2 1 ports_02 ports_1 _ h2.2.2.1 h2.2.1 (row_blk (t := 3) (Blk.new wr 3 #[.int .i64 1])) (by simp; omega) (by simp) (by omega) (by omega)).mono fun e w' ⟨he, hp⟩ => ⟨he, h2.put hp⟩
theorem RuAt.asc {L : List Int} (h : RuAt w f wr) (hL : setL f 16 = L) : Calls Try.prog 45 #[.map (some (w.heap.size + 1 + 1))] wr (NewI L w) :=
  (implAscending _ f wr h.2.2.1).mono fun e w' ⟨v, he, ho, hb⟩ => ⟨v, he, own_less (hL ▸ ho) (by have := h.lt; omega), h.2.2.2.trans (hb.mono (by have := h.lt; omega))⟩
end

theorem implTurnsOfRule (r : Int) (w : World) : Calls Try.prog 14 #[.int .i64 r] w (NewI (ruleL r) w) := by
  have X0 := Lib.hid (RuAt.start w)
  have hmm := @run_makeMap Try.prog
  by_cases h1 : r = 1
  · subst h1
    go_enter Try.func14, Try.ntmps14
    go_wp2_with fail
    refine X0.out.rc.mono ?_
    rintro e w1 ⟨rfl, hx1⟩
    have X1 := Lib.hid hx1
    clear hx1
    go_wp2_with fail
    refine (X1.out.asc (L := ruleL 1) (by decide)).mono ?_
    rintro e w2 hn
    have HN := Lib.hid hn
    clear hn
    obtain ⟨v, rfl, _⟩ := HN.out
    go_wp2_with fail
    go_ret
    exact HN.out
  by_cases h2 : r = 2
  · subst h2
    go_enter Try.func14, Try.ntmps14
    go_wp2_with fail
    refine X0.out.cr.mono ?_
    rintro e w1 ⟨rfl, hx1⟩
    have X1 := Lib.hid hx1
    clear hx1
    go_wp2_with fail
    refine (X1.out.asc (L := ruleL 2) (by decide)).mono ?_
    rintro e w2 hn
    have HN := Lib.hid hn
    clear hn
    obtain ⟨v, rfl, _⟩ := HN.out
    go_wp2_with fail
    go_ret
    exact HN.out
  by_cases h3 : r = 3
  · subst h3
    go_enter Try.func14, Try.ntmps14
    go_wp2_with fail
    refine (X0.out.we (B := w.heap.size + 1 + 1 + 1) (by simp only [alloc_size])).mono ?_
    rintro e w1 ⟨rfl, hx1⟩
    have X1 := Lib.hid hx1
    clear hx1
    go_wp2_with fail
    refine X1.out.ce.mono ?_
    rintro e w2 ⟨rfl, hx2⟩
    have X2 := Lib.hid hx2
    clear hx2
    go_wp2_with fail
    refine (X2.out.asc (L := ruleL 3) (by decide)).mono ?_
    rintro e w2 hn
    have HN := Lib.hid hn
    clear hn
    obtain ⟨v, rfl, _⟩ := HN.out
    go_wp2_with fail
    go_ret
    exact HN.out
  by_cases h4 : r = 4
  · subst h4
    go_enter Try.func14, Try.ntmps14
    go_wp2_with fail
    refine X0.out.rc.mono ?_
    rintro e w1 ⟨rfl, hx1⟩
    have X1 := Lib.hid hx1
    clear hx1
    go_wp2_with fail
    refine X1.out.cr.mono ?_
    rintro e w2 ⟨rfl, hx2⟩
    have X2 := Lib.hid hx2
    clear hx2
    go_wp2_with fail
    refine (X2.out.asc (L := ruleL 4) (by decide)).mono ?_
    rintro e w2 hn
    have HN := Lib.hid hn
    clear hn
    obtain ⟨v, rfl, _⟩ := HN.out
    go_wp2_with fail
    go_ret
    exact HN.out
  have HL := Lib.hid (show setL (fun _ => false) 16 = ruleL r by simp [ruleL, h1, h2, h3, h4]; rfl)
  have q1 : (r == 1) = false := by simpa using h1
  have q2 : (r == 2) = false := by simpa using h2
  have q3 : (r == 3) = false := by simpa using h3
  have q4 : (r == 4) = false := by simpa using h4
  clear h1 h2 h3 h4
  go_enter Try.func14, Try.ntmps14
  go_wp2_with fail
  refine (X0.out.asc HL.out).mono ?_
  rintro e w2 hn
  have HN := Lib.hid hn
  clear hn
  obtain ⟨v, rfl, _⟩ := HN.out
  go_wp2_with fail
  go_ret
  exact HN.out
end Go.Proofs.Ytgdngjfjbcnbmaa
