/- What is proved here: the program's FormatInt returns the decimal text of every 64-bit number, where the library's table of powers holds what its text lays; only new blocks are written. -/
import Derived.Test.YtlbjopmiaophkaaDoorFmtM
import Derived.Test.YtlbjopmiaophkaaDoorShelf
import Derived.Lib.AppendIntMem
import Derived.Sort.Grow
namespace Go.Proofs.YtlbjopmiaophkaaDoor
open Go.ChangeShapes Go.WideShapes Go.ChangeAt Go.RowKit Go.Sort
set_option linter.unusedVariables false

def Tab (w : World) : Prop := Lib.TabIs Tryd.prog w "internal/strconv.uint64pow10" .u64 Lib.pow10Tab
theorem Tab.below {w w' : World} (h : Tab w) (hb : Below w.heap.size w w') : Tab w' := Lib.tabBelow_of_tabIs h w' hb
theorem Tab.none {w w' : World} (h : Tab w) (hb : w.grownBy w' none) : Tab w' := h.below (gb_below_none hb (Nat.le_refl _))
theorem gb_grow (w : World) (k : Nat) (os : Array Obj) : w.grownBy (grow (w.drewN k) os) none :=
  ⟨rfl, rfl, rfl, by simp [grow], fun i hi _ => by
    show ((w.drewN k).heap ++ os)[i]? = w.heap[i]?
    rw [Array.getElem?_append_left (show i < (w.drewN k).heap.size from hi)]
    rfl⟩
def itoaI (n : Int) : ByteArray := ⟨(Lib.itoa n).toArray⟩

theorem implFmt (n : Int) (h0 : -9223372036854775808 ≤ n) (h1 : n ≤ 9223372036854775807) (w : World) (ht : Tab w) :
    Calls Tryd.prog 11 #[.int .i64 n] w (RetS (itoaI n) w) := by
  have HT := Lib.hid ht
  clear ht
  go_enter Tryd.func11, Tryd.ntmps11
  go_wp2_with fail
  refine (Tryd.strconv_Itoa n h0 h1 _ HT.out).mono ?_
  rintro e w1 ⟨rfl, k, os, rfl⟩
  go_wp2_with fail
  go_ret
  exact ⟨rfl, gb_grow w k os⟩
end Go.Proofs.YtlbjopmiaophkaaDoor
