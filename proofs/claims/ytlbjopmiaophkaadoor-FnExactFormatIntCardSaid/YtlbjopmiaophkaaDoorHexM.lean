/- What is proved here: the hexadecimal text of bytes, as a function; nothing of the program. -/
import Derived.Test.YtlbjopmiaophkaaDoorOwn
namespace Go.Proofs.YtlbjopmiaophkaaDoor
open Go.ChangeShapes Go.WideShapes Go.ChangeAt Go.RowKit
set_option linter.unusedVariables false

def fig (x : Nat) : Nat := if x < 10 then 48 + x else 87 + x
def hexOf (c : UInt8) : List UInt8 := [UInt8.ofNat (fig (c.toNat / 16)), UInt8.ofNat (fig (c.toNat % 16))]
def hexL (l : List UInt8) : List UInt8 := l.flatMap hexOf
theorem hexL_snoc (l : List UInt8) (c : UInt8) : hexL (l ++ [c]) = hexL l ++ hexOf c := by simp [hexL]
theorem hexL_length (l : List UInt8) : (hexL l).length = 2 * l.length := by
  induction l with
  | nil => rfl
  | cons c l ih => simp only [hexL, List.flatMap_cons, List.length_append, List.length_cons] at ih ⊢; rw [ih]; simp [hexOf]; omega
theorem fig_u8 {x : Nat} (h : x < 16) : ((UInt8.ofNat (fig x)).toNat : Int) = (fig x : Int) := by
  have : fig x < 256 := by unfold fig; split <;> omega
  simp [Nat.mod_eq_of_lt this]

theorem and15_all : ∀ n : Fin 256, bits .and .u8 (n.val : Int) 15 = (n.val : Int) % 16 := by decide +kernel
theorem and15_u8 (c : Nat) (h : c < 256) : bits .and .u8 (c : Int) 15 = (c : Int) % 16 := and15_all ⟨c, h⟩
theorem hexDig_all : ∀ n : Fin 16, ((⟨#[48, 49, 50, 51, 52, 53, 54, 55, 56, 57, 97, 98, 99, 100, 101, 102]⟩ : ByteArray)[n.val]'n.isLt).toNat = fig n.val := by decide +kernel
theorem hexDigD (c : Nat) (h : c < 256) : ((⟨#[48, 49, 50, 51, 52, 53, 54, 55, 56, 57, 97, 98, 99, 100, 101, 102]⟩ : ByteArray)[((c : Int) / 16).toNat]'(by show ((c : Int) / 16).toNat < 16; omega)).toNat = fig (c / 16) := by
  have e : ((c : Int) / 16).toNat = c / 16 := by omega
  have := hexDig_all ⟨c / 16, by omega⟩
  simpa [e] using this
theorem hexDigM (c : Nat) : ((⟨#[48, 49, 50, 51, 52, 53, 54, 55, 56, 57, 97, 98, 99, 100, 101, 102]⟩ : ByteArray)[((c : Int) % 16).toNat]'(by show ((c : Int) % 16).toNat < 16; omega)).toNat = fig (c % 16) := by
  have e : ((c : Int) % 16).toNat = c % 16 := by omega
  have := hexDig_all ⟨c % 16, by omega⟩
  simpa [e] using this
theorem hexL_step (s : ByteArray) (k c : Nat) (h : k < s.size) (hc : s[k].toNat = c) :
    bytesV (hexL (s.data.toList.take (k + 1))) = bytesV (hexL (s.data.toList.take k)) ++ [.int .u8 (fig (c / 16) : Int), .int .u8 (fig (c % 16) : Int)] := by
  have hc8 : c < 256 := by rw [← hc]; exact s[k].toNat_lt
  rw [take_snoc s k h, hexL_snoc, bytesV_append]
  congr 1
  simp only [hexOf, bytesV, List.map_cons, List.map_nil, hc]
  rw [fig_u8 (by omega), fig_u8 (by omega)]

def EncPost (s : ByteArray) (w : World) (e : Ending) (w' : World) : Prop :=
  e = .returned (.tuple #[.string (if 20000 < s.size then ⟨#[]⟩ else ⟨(hexL s.data.toList).toArray⟩), .bool (!decide (20000 < s.size))]) ∧ Below w.heap.size w w'

end Go.Proofs.YtlbjopmiaophkaaDoor
