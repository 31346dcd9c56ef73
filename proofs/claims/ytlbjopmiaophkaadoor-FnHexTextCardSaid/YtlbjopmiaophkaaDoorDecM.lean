/- What is proved here: the bytes of a hexadecimal text, as a function; nothing of the program. -/
import Derived.Test.YtlbjopmiaophkaaDoorOwn
import Derived.Lib.Bytealg
namespace Go.Proofs.YtlbjopmiaophkaaDoor
open Go.ChangeShapes Go.WideShapes Go.ChangeAt Go.RowKit
set_option linter.unusedVariables false

def hv (c : Nat) : Int := if 48 ≤ c ∧ c ≤ 57 then (c : Int) - 48 else if 97 ≤ c ∧ c ≤ 102 then (c : Int) - 87 else -1
theorem hv_lt (c : Nat) : -1 ≤ hv c ∧ hv c ≤ 15 := by unfold hv; (repeat' split) <;> omega
theorem index_all : ∀ n : Fin 256, Lib.indexByte [48, 49, 50, 51, 52, 53, 54, 55, 56, 57, 97, 98, 99, 100, 101, 102] (UInt8.ofNat n.val) = hv n.val := by decide +kernel
theorem or_all : ∀ a b : Fin 16, bits .or .i64 ((a.val : Int) * 16) (b.val : Int) = (a.val : Int) * 16 + (b.val : Int) := by decide +kernel

theorem or_xy (x y : Int) (hx0 : 0 ≤ x) (hx1 : x ≤ 15) (hy0 : 0 ≤ y) (hy1 : y ≤ 15) : bits .or .i64 (x * 16) y = x * 16 + y := by
  have h := or_all ⟨x.toNat, by omega⟩ ⟨y.toNat, by omega⟩
  have ex : ((x.toNat : Nat) : Int) = x := by omega
  have ey : ((y.toNat : Nat) : Int) = y := by omega
  simpa [ex, ey] using h

def byteAt (s : ByteArray) (i : Nat) : Nat := (s.data.toList.getD i 0).toNat
theorem byteAt_lt (s : ByteArray) (i : Nat) : byteAt s i < 256 := (s.data.toList.getD i 0).toNat_lt
theorem byteAt_get (s : ByteArray) (i : Nat) (h : i < s.size) : s[i].toNat = byteAt s i := by
  unfold byteAt
  rw [List.getD_eq_getElem?_getD, List.getElem?_eq_getElem (by simpa using h)]; rfl
def okAt (s : ByteArray) (j : Nat) : Prop := 0 ≤ hv (byteAt s (2 * j)) ∧ 0 ≤ hv (byteAt s (2 * j + 1))
instance (s : ByteArray) (j : Nat) : Decidable (okAt s j) := inferInstanceAs (Decidable (_ ∧ _))
def decAt (s : ByteArray) (j : Nat) : UInt8 := UInt8.ofNat (hv (byteAt s (2 * j)) * 16 + hv (byteAt s (2 * j + 1))).toNat
def decL (s : ByteArray) (k : Nat) : List UInt8 := (List.range k).map (decAt s)
theorem decL_succ (s : ByteArray) (k : Nat) : decL s (k + 1) = decL s k ++ [decAt s k] := by simp [decL, List.range_succ]
theorem decL_length (s : ByteArray) (k : Nat) : (decL s k).length = k := by simp [decL]
def decB (s : ByteArray) : Bool := decide (s.size % 2 = 0 ∧ s.size ≤ 40000 ∧ ∀ j, j < s.size / 2 → okAt s j)
def decS (s : ByteArray) : ByteArray := if decB s then ⟨(decL s (s.size / 2)).toArray⟩ else ⟨#[]⟩
theorem decAt_toNat (s : ByteArray) (j : Nat) (h : okAt s j) : ((decAt s j).toNat : Int) = hv (byteAt s (2 * j)) * 16 + hv (byteAt s (2 * j + 1)) := by
  have h1 := hv_lt (byteAt s (2 * j))
  have h2 := hv_lt (byteAt s (2 * j + 1))
  obtain ⟨h3, h4⟩ := h
  unfold decAt
  simp
  omega

def DecPost (s : ByteArray) (w : World) (e : Ending) (w' : World) : Prop := e = .returned (.tuple #[.string (decS s), .bool (decB s)]) ∧ Below w.heap.size w w'
theorem DecPost.no {s : ByteArray} {w w' : World} (h : decB s = false) (hb : Below w.heap.size w w') : DecPost s w (.returned (.tuple #[.string ⟨#[]⟩, .bool false])) w' :=
  ⟨by unfold decS; rw [h]; rfl, hb⟩
theorem DecPost.yes {s : ByteArray} {w w' : World} (h : decB s = true) (hb : Below w.heap.size w w') : DecPost s w (.returned (.tuple #[.string ⟨(decL s (s.size / 2)).toArray⟩, .bool true])) w' :=
  ⟨by unfold decS; rw [h]; rfl, hb⟩

end Go.Proofs.YtlbjopmiaophkaaDoor
